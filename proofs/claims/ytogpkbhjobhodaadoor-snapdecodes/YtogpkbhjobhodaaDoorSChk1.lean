/- The contracts of the small functions that store.Check calls. -/
import Derived.Test.YtogpkbhjobhodaaDoorSItems
import Derived.Test.YtogpkbhjobhodaaDoorFFind
import Derived.Test.YtogpkbhjobhodaaDoorSClass
import Derived.Test.YtogpkbhjobhodaaDoorKeys
namespace Go.Proofs.YtogpkbhjobhodaaDoor
open Go.ChangeShapes Go.WideShapes Go.ChangeAt Go.RowKit
set_option linter.unusedVariables false
set_option linter.unusedSimpArgs false

def countsB (s : StoreR) : Bool := inB s.clock 0 1099511627776 && (inB s.cas 0 1099511627776 && (inB s.uses 0 1099511627776 && inB s.most 0 40))
def heldB (s : StoreR) : Bool := inB s.h0 0 s.most && (inB s.h1 0 s.most && (inB s.h2 0 s.most && (inB s.h3 0 s.most && decide (s.h0 + s.h1 + s.h2 + s.h3 ≤ s.most))))
def fieldsB (s : StoreR) (it : ItemR) : Bool := keyB it.key && (inB it.flags 0 65535 && (inB it.until_ 0 1099511627776 && (inB it.cas 1 s.cas && inB it.used 1 s.uses)))
def valueB (ps : List PageR) (it : ItemR) : Bool :=
  if it.far = true then it.value.toList.isEmpty && (decide (findN ps it.page it.at_ = 0) && decide (24 ≤ (findS ps it.page it.at_).size)) else decide (it.value.size ≤ 200) && (decide (it.page = 0) && decide (it.at_ = 0))
def ItemOk (it : ItemR) : Prop := it.key.size ≤ maxLen ∧ it.value.size ≤ maxLen ∧ -9223372036854775808 ≤ it.at_ ∧ it.at_ ≤ 9223372036854775807

set_option maxHeartbeats 1000000 in
theorem counts_any (s : StoreR) (ia : Option Addr) (ic : Nat) (pa : Option Addr) (pc : Nat) (w : World) :
    Calls Tryd.prog 21 #[storeV s ia ic pa pc] w fun e w' => e = .returned (.bool (countsB s)) ∧ Below w.heap.size w w' := by
  have E : Hid (countsB s = (inB s.clock 0 1099511627776 && (inB s.cas 0 1099511627776 && (inB s.uses 0 1099511627776 && inB s.most 0 40)))) := rfl
  generalize countsB s = R at *
  obtain ⟨clock, scas, uses, most, h0, h1, h2, h3, items, fm, fx, pages⟩ := s
  unfold storeV
  simp only at *
  have hB0 : ∀ o, Below w.heap.size w (w.alloc o) := fun o => (Below.refl _ _).alloc (Nat.le_refl _) _
  have c1 := within_any clock 0 1099511627776
  have c2 := within_any scas 0 1099511627776
  have c3 := within_any uses 0 1099511627776
  have c4 := within_any most 0 40
  generalize inB clock 0 1099511627776 = b1 at *
  generalize inB scas 0 1099511627776 = b2 at *
  generalize inB uses 0 1099511627776 = b3 at *
  generalize inB most 0 40 = b4 at *
  cases b1
  · have E2 : Hid (R = false) := E.out
    go_enter Tryd.func21, Tryd.ntmps21
    go_wp2_with (go_at_call 37; refine (c1 _).mono ?_; rintro e w' ⟨rfl, hw⟩; obtain rfl := hw.symm)
    go_ret
    exact ⟨ret_bool E2.out.symm, hB0 _⟩
  cases b2
  · have E2 : Hid (R = false) := E.out
    go_enter Tryd.func21, Tryd.ntmps21
    go_wp2_with fail
    refine (c1 _).mono ?_
    rintro e w' ⟨rfl, hw⟩
    obtain rfl := hw.symm
    go_wp2_with (go_at_call 37; refine (c2 _).mono ?_; rintro e w' ⟨rfl, hw⟩; obtain rfl := hw.symm)
    go_ret
    exact ⟨ret_bool E2.out.symm, hB0 _⟩
  cases b3
  · have E2 : Hid (R = false) := E.out
    go_enter Tryd.func21, Tryd.ntmps21
    go_wp2_with fail
    refine (c1 _).mono ?_
    rintro e w' ⟨rfl, hw⟩
    obtain rfl := hw.symm
    go_wp2_with fail
    refine (c2 _).mono ?_
    rintro e w' ⟨rfl, hw⟩
    obtain rfl := hw.symm
    go_wp2_with (go_at_call 37; refine (c3 _).mono ?_; rintro e w' ⟨rfl, hw⟩; obtain rfl := hw.symm)
    go_ret
    exact ⟨ret_bool E2.out.symm, hB0 _⟩
  · have E2 : Hid (R = b4) := E.out
    go_enter Tryd.func21, Tryd.ntmps21
    go_wp2_with fail
    refine (c1 _).mono ?_
    rintro e w' ⟨rfl, hw⟩
    obtain rfl := hw.symm
    go_wp2_with fail
    refine (c2 _).mono ?_
    rintro e w' ⟨rfl, hw⟩
    obtain rfl := hw.symm
    go_wp2_with fail
    refine (c3 _).mono ?_
    rintro e w' ⟨rfl, hw⟩
    obtain rfl := hw.symm
    go_wp2_with (go_at_call 37; refine (c4 _).mono ?_; rintro e w' ⟨rfl, hw⟩; obtain rfl := hw.symm)
    go_ret
    exact ⟨ret_bool E2.out.symm, hB0 _⟩

theorem idx4 (a b c d : Int) (w : World) : (Instr.index 23 (.agg #[.int .i64 a, .int .i64 b, .int .i64 c, .int .i64 d]) (.int .i64 0)).run Tryd.prog w = .ok (.int .i64 a) w ∧ (Instr.index 23 (.agg #[.int .i64 a, .int .i64 b, .int .i64 c, .int .i64 d]) (.int .i64 1)).run Tryd.prog w = .ok (.int .i64 b) w ∧
    (Instr.index 23 (.agg #[.int .i64 a, .int .i64 b, .int .i64 c, .int .i64 d]) (.int .i64 2)).run Tryd.prog w = .ok (.int .i64 c) w ∧ (Instr.index 23 (.agg #[.int .i64 a, .int .i64 b, .int .i64 c, .int .i64 d]) (.int .i64 3)).run Tryd.prog w = .ok (.int .i64 d) w := ⟨by kernel_rfl, by kernel_rfl, by kernel_rfl, by kernel_rfl⟩

set_option maxHeartbeats 1000000 in
theorem heldAll_any (s : StoreR) (ia : Option Addr) (ic : Nat) (pa : Option Addr) (pc : Nat) (w : World) (r0 : 0 ≤ s.h0 ∧ s.h0 ≤ 40) (r1 : 0 ≤ s.h1 ∧ s.h1 ≤ 40) (r2 : 0 ≤ s.h2 ∧ s.h2 ≤ 40) (r3 : 0 ≤ s.h3 ∧ s.h3 ≤ 40) :
    Calls Tryd.prog 38 #[storeV s ia ic pa pc] w fun e w' => e = .returned (.int .i64 (s.h0 + s.h1 + s.h2 + s.h3)) ∧ Below w.heap.size w w' := by
  obtain ⟨clock, scas, uses, most, h0, h1, h2, h3, items, fm, fx, pages⟩ := s
  unfold storeV
  simp only at *
  have hB0 : ∀ o, Below w.heap.size w (w.alloc o) := fun o => (Below.refl _ _).alloc (Nat.le_refl _) _
  have i0 := fun w => (idx4 h0 h1 h2 h3 w).1
  have i1 := fun w => (idx4 h0 h1 h2 h3 w).2.1
  have i2 := fun w => (idx4 h0 h1 h2 h3 w).2.2.1
  have i3 := fun w => (idx4 h0 h1 h2 h3 w).2.2.2
  have E : Hid (h0 + h1 + h2 + h3 = h0 + h1 + h2 + h3) := rfl
  obtain ⟨R, hR⟩ : ∃ R, Hid (h0 + h1 + h2 + h3 = R) := ⟨_, rfl⟩
  rw [hR.out]
  go_enter Tryd.func38, Tryd.ntmps38
  go_wp2_with fail
  go_loop [3, 8] (fun x i => (i = .int .i64 0 ∧ x = .int .i64 0) ∨ (i = .int .i64 1 ∧ x = .int .i64 h0) ∨ (i = .int .i64 2 ∧ x = .int .i64 (h0 + h1)) ∨ (i = .int .i64 3 ∧ x = .int .i64 (h0 + h1 + h2)) ∨ (i = .int .i64 4 ∧ x = .int .i64 (h0 + h1 + h2 + h3))) (fun _ i => 4 - (intOf i).toNat)
  case atStart => exact Or.inl ⟨rfl, rfl⟩
  case round =>
    rcases hrel with ⟨rfl, rfl⟩ | ⟨rfl, rfl⟩ | ⟨rfl, rfl⟩ | ⟨rfl, rfl⟩ | ⟨rfl, rfl⟩
    · go_wp2
      go_round
      case rel => exact Or.inr (Or.inl ⟨by go_num, by simp⟩)
      case measure => simp [intOf]
    · go_wp2
      go_round
      case rel => exact Or.inr (Or.inr (Or.inl ⟨by go_num, by simp⟩))
      case measure => simp [intOf]
    · go_wp2
      go_round
      case rel => exact Or.inr (Or.inr (Or.inr (Or.inl ⟨by go_num, by simp⟩)))
      case measure => simp [intOf]
    · go_wp2
      go_round
      case rel => exact Or.inr (Or.inr (Or.inr (Or.inr ⟨by go_num, by simp⟩)))
      case measure => simp [intOf]
    · go_wp2
      go_ret
      exact ⟨ret_i64 hR.out, hB0 _⟩
end Go.Proofs.YtogpkbhjobhodaaDoor
