/- The contracts of store.fieldsFit and store.valueFits. -/
import Derived.Test.YtogpkbhjobhodaaDoorSChk2
namespace Go.Proofs.YtogpkbhjobhodaaDoor
open Go.ChangeShapes Go.WideShapes Go.ChangeAt Go.RowKit
set_option linter.unusedVariables false
set_option linter.unusedSimpArgs false

set_option maxHeartbeats 2000000 in
set_option maxRecDepth 100000 in
theorem fields_any (s : StoreR) (it : ItemR) (ia : Option Addr) (ic : Nat) (pa : Option Addr) (pc : Nat) (w : World) (ok : ItemOk it) :
    Calls Tryd.prog 41 #[storeV s ia ic pa pc, .agg #[.string it.key, .int .i64 it.flags, .int .i64 it.until_, .int .i64 it.cas, .int .i64 it.used, .string it.value, .bool it.far, .int .i64 it.page, .int .i64 it.at_]] w fun e w' => e = .returned (.bool (fieldsB s it)) ∧ Below w.heap.size w w' := by
  have E : Hid (fieldsB s it = (keyB it.key && (inB it.flags 0 65535 && (inB it.until_ 0 1099511627776 && (inB it.cas 1 s.cas && inB it.used 1 s.uses))))) := rfl
  generalize fieldsB s it = R at *
  obtain ⟨z1, _, _, _⟩ := ok
  obtain ⟨clock, scas, uses, most, h0, h1, h2, h3, items, fm, fx, pages⟩ := s
  obtain ⟨key, flags, until_, cas, used, value, far, page, at_⟩ := it
  unfold storeV at *
  simp only at *
  have hB0 : ∀ o1 o2, Below w.heap.size w ((w.alloc o1).alloc o2) := fun o1 o2 => ((Below.refl _ _).alloc (Nat.le_refl _) _).alloc (by simp) _
  have ck := fun w1 => key_any key w1 z1
  have c1 := within_any flags 0 65535
  have c2 := within_any until_ 0 1099511627776
  have c3 := within_any cas 1 scas
  have c4 := within_any used 1 uses
  generalize keyB key = b0 at *
  generalize inB flags 0 65535 = b1 at *
  generalize inB until_ 0 1099511627776 = b2 at *
  generalize inB cas 1 scas = b3 at *
  generalize inB used 1 uses = b4 at *
  go_enter Tryd.func41, Tryd.ntmps41
  go_wp2_with fail
  refine (ck _).mono ?_
  rintro e w1 ⟨rfl, hb1⟩
  have bs : ∀ j, w1.cell? ⟨w.heap.size, j, none⟩ = (#[.int .i64 clock, .int .i64 scas, .int .i64 uses, .int .i64 most, .int .i64 h0, .int .i64 h1, .int .i64 h2, .int .i64 h3, .slice ia items.length ic, .int .i64 fm, .int .i64 fx, .slice pa pages.length pc] : Array Value)[j]? := fun j => by rw [hb1.cell (p := ⟨w.heap.size, j, none⟩) (by simp; omega)]; simp [go_sem]
  have bi : ∀ j, w1.cell? ⟨w.heap.size + 1, j, none⟩ = (#[.string key, .int .i64 flags, .int .i64 until_, .int .i64 cas, .int .i64 used, .string value, .bool far, .int .i64 page, .int .i64 at_] : Array Value)[j]? := fun j => by rw [hb1.cell (p := ⟨w.heap.size + 1, j, none⟩) (by simp)]; simp [go_sem]
  have hB1 : Below w.heap.size w w1 := (hB0 _ _).trans (hb1.mono (hB0 _ _).size)
  clear hb1 ck
  cases b0
  · have E2 : Hid (R = false) := E.out
    go_wp2
    go_ret
    exact ⟨ret_bool E2.out.symm, hB1⟩
  go_wp2_with fail
  refine (c1 _).mono ?_
  rintro e w' ⟨rfl, hw⟩
  obtain rfl := hw.symm
  cases b1
  · have E2 : Hid (R = false) := E.out
    go_wp2
    go_ret
    exact ⟨ret_bool E2.out.symm, hB1⟩
  go_wp2_with fail
  refine (c2 _).mono ?_
  rintro e w' ⟨rfl, hw⟩
  obtain rfl := hw.symm
  cases b2
  · have E2 : Hid (R = false) := E.out
    go_wp2
    go_ret
    exact ⟨ret_bool E2.out.symm, hB1⟩
  go_wp2_with fail
  refine (c3 _).mono ?_
  rintro e w' ⟨rfl, hw⟩
  obtain rfl := hw.symm
  cases b3
  · have E2 : Hid (R = false) := E.out
    go_wp2
    go_ret
    exact ⟨ret_bool E2.out.symm, hB1⟩
  have E2 : Hid (R = b4) := E.out
  go_wp2_with fail
  refine (c4 _).mono ?_
  rintro e w' ⟨rfl, hw⟩
  obtain rfl := hw.symm
  go_wp2
  go_ret
  exact ⟨ret_bool E2.out.symm, hB1⟩

theorem eqPlace0 (a b : Int) (w : World) : (Op.equalIn 10000 47 (.agg #[.int .i64 a, .int .i64 b]) (.agg #[.int .i64 0, .int .i64 0])).run Tryd.prog w = .ok (decide (a = 0) && decide (b = 0)) w := by
  have u3 := Tryd.underlying3
  have a3 := Tryd.isAgg3
  have z3 := Tryd.sizeOf3
  have hS : Tryd.prog.underlying 47 = some (.struct (Tryd.prog.fieldsOf 47)) := by kernel_rfl
  rw [show (10000 : Nat) = 9999 + 1 from rfl, run_equalIn_agg w 9999 47 _ _ hS (by kernel_rfl)]
  simp only [Program.fieldsOf, Tryd.underlying47]
  go_simp
  by_cases h1 : a = 0 <;> by_cases h2 : b = 0 <;> simp [h1, h2]

set_option maxHeartbeats 2000000 in
set_option maxRecDepth 100000 in
theorem value_any (fm fx : Int) (pages : List PageR) (pa : Option Addr) (pc : Nat) (it : ItemR) (w : World) (hP : PagesAt w pa pages) (h1 : ∀ j, j < pages.length → 1 ≤ (pages.getD j default).bs.length) (ok : ItemOk it) :
    Calls Tryd.prog 42 #[.agg #[.int .i64 fm, .int .i64 fx, .slice pa pages.length pc], .agg #[.string it.key, .int .i64 it.flags, .int .i64 it.until_, .int .i64 it.cas, .int .i64 it.used, .string it.value, .bool it.far, .int .i64 it.page, .int .i64 it.at_]] w fun e w' => e = .returned (.bool (valueB pages it)) ∧ Below w.heap.size w w' := by
  have E : Hid (valueB pages it = if it.far = true then it.value.toList.isEmpty && (decide (findN pages it.page it.at_ = 0) && decide (24 ≤ (findS pages it.page it.at_).size)) else decide (it.value.size ≤ 200) && (decide (it.page = 0) && decide (it.at_ = 0))) := rfl
  generalize valueB pages it = R at *
  obtain ⟨_, z2, z3, z4⟩ := ok
  obtain ⟨key, flags, until_, cas, used, value, far, page, at_⟩ := it
  simp only at *
  unfold maxLen at z2
  have hB0 : ∀ o1 o2, Below w.heap.size w ((w.alloc o1).alloc o2) := fun o1 o2 => ((Below.refl _ _).alloc (Nat.le_refl _) _).alloc (by simp) _
  have hf := fun w1 hb => farValue_any fm fx pages pa pc page at_ w1 (hP.later hb) h1 z3 z4
  have ep := eqPlace0 page at_
  cases far
  · have E2 : Hid (R = (decide (value.size ≤ 200) && (decide (page = 0) && decide (at_ = 0)))) := E.out
    clear E hf
    generalize (decide (page = 0) && decide (at_ = 0)) = P at *
    by_cases hz : value.size ≤ 200
    · have hz' : (value.size : Int) ≤ 200 := by omega
      have E3 : Hid (R = P) := by unfold Hid; rw [E2.out, decide_eq_true hz]; rfl
      clear E2 hz
      go_enter Tryd.func42, Tryd.ntmps42
      go_wp2
      go_ret
      exact ⟨ret_bool E3.out.symm, hB0 _ _⟩
    · have hz' : ¬ (value.size : Int) ≤ 200 := by omega
      have E3 : Hid (R = false) := by unfold Hid; rw [E2.out, decide_eq_false hz]; rfl
      clear E2 hz
      go_enter Tryd.func42, Tryd.ntmps42
      go_wp2
      go_ret
      exact ⟨ret_bool E3.out.symm, hB0 _ _⟩
  · have E2 : Hid (R = (value.toList.isEmpty && (decide (findN pages page at_ = 0) && decide (24 ≤ (findS pages page at_).size)))) := E.out
    clear E ep
    have hN : (findN pages page at_ == 0) = decide (findN pages page at_ = 0) := by rw [Bool.eq_iff_iff, beq_iff_eq, decide_eq_true_iff]
    rw [hN] at hf
    generalize decide (findN pages page at_ = 0) = bN at *
    generalize findS pages page at_ = S at *
    have hS24 : decide ((24 : Int) ≤ (S.size : Int)) = decide (24 ≤ S.size) := by rw [Bool.eq_iff_iff, decide_eq_true_iff, decide_eq_true_iff]; omega
    go_enter Tryd.func42, Tryd.ntmps42
    go_wp2_with fail
    refine (hf _ (hB0 _ _)).mono ?_
    rintro e w1 ⟨rfl, hb1⟩
    have bi : ∀ j, w1.cell? ⟨w.heap.size + 1, j, none⟩ = (#[.string key, .int .i64 flags, .int .i64 until_, .int .i64 cas, .int .i64 used, .string value, .bool true, .int .i64 page, .int .i64 at_] : Array Value)[j]? := fun j => by rw [hb1.cell (p := ⟨w.heap.size + 1, j, none⟩) (by simp)]; simp [go_sem]
    have hB1 : Below w.heap.size w w1 := (hB0 _ _).trans (hb1.mono (hB0 _ _).size)
    clear hb1 hf
    cases he : value.toList.isEmpty
    · have E3 : Hid (R = false) := by unfold Hid; rw [E2.out, he]; rfl
      clear E2
      go_wp2
      go_ret
      exact ⟨ret_bool E3.out.symm, hB1⟩
    · cases bN
      · have E3 : Hid (R = false) := by unfold Hid; rw [E2.out, he]; rfl
        clear E2
        go_wp2
        go_ret
        exact ⟨ret_bool E3.out.symm, hB1⟩
      · have E3 : Hid (R = decide (24 ≤ S.size)) := by unfold Hid; rw [E2.out, he]; rfl
        clear E2
        go_wp2
        go_ret
        exact ⟨ret_bool (by rw [E3.out]), hB1⟩
end Go.Proofs.YtogpkbhjobhodaaDoor
