/- The contracts of the small functions that store.Check calls, the rest. -/
import Derived.Test.YtogpkbhjobhodaaDoorSChk1
import Derived.Deep.RegionHeld3
import Derived.Deep.DeepCutAuto
namespace Go.Proofs.YtogpkbhjobhodaaDoor
open Go.ChangeShapes Go.WideShapes Go.ChangeAt Go.RowKit
set_option linter.unusedVariables false
set_option linter.unusedSimpArgs false

set_option maxHeartbeats 2000000 in
set_option maxRecDepth 100000 in
theorem heldFits_any (s : StoreR) (ia : Option Addr) (ic : Nat) (pa : Option Addr) (pc : Nat) (w : World) (hm : s.most ≤ 40) :
    Calls Tryd.prog 22 #[storeV s ia ic pa pc] w fun e w' => e = .returned (.bool (heldB s)) ∧ Below w.heap.size w w' := by
  have E : Hid (heldB s = (inB s.h0 0 s.most && (inB s.h1 0 s.most && (inB s.h2 0 s.most && (inB s.h3 0 s.most && decide (s.h0 + s.h1 + s.h2 + s.h3 ≤ s.most)))))) := rfl
  generalize heldB s = R at *
  have hall := fun (q0 : inB s.h0 0 s.most = true) (q1 : inB s.h1 0 s.most = true) (q2 : inB s.h2 0 s.most = true) (q3 : inB s.h3 0 s.most = true) (w1 : World) => heldAll_any s ia ic pa pc w1
    (by have := (inB_iff _ _ _).1 q0; omega) (by have := (inB_iff _ _ _).1 q1; omega) (by have := (inB_iff _ _ _).1 q2; omega) (by have := (inB_iff _ _ _).1 q3; omega)
  obtain ⟨clock, scas, uses, most, h0, h1, h2, h3, items, fm, fx, pages⟩ := s
  unfold storeV at *
  simp only at *
  have hB0 : ∀ o, Below w.heap.size w (w.alloc o) := fun o => (Below.refl _ _).alloc (Nat.le_refl _) _
  have i0 := fun w => (idx4 h0 h1 h2 h3 w).1
  have i1 := fun w => (idx4 h0 h1 h2 h3 w).2.1
  have i2 := fun w => (idx4 h0 h1 h2 h3 w).2.2.1
  have i3 := fun w => (idx4 h0 h1 h2 h3 w).2.2.2
  have c0 := within_any h0 0 most
  have c1 := within_any h1 0 most
  have c2 := within_any h2 0 most
  have c3 := within_any h3 0 most
  generalize inB h0 0 most = b0 at *
  generalize inB h1 0 most = b1 at *
  generalize inB h2 0 most = b2 at *
  generalize inB h3 0 most = b3 at *
  go_enter Tryd.func22, Tryd.ntmps22
  go_wp2_with fail
  go_loop [7] (fun i => i = .int .i64 0 ∨ (i = .int .i64 1 ∧ b0 = true) ∨ (i = .int .i64 2 ∧ b0 = true ∧ b1 = true) ∨ (i = .int .i64 3 ∧ b0 = true ∧ b1 = true ∧ b2 = true) ∨ (i = .int .i64 4 ∧ b0 = true ∧ b1 = true ∧ b2 = true ∧ b3 = true)) (fun i => 4 - (intOf i).toNat)
  case atStart => exact Or.inl rfl
  case round =>
    rcases hrel with rfl | ⟨rfl, rfl⟩ | ⟨rfl, rfl, rfl⟩ | ⟨rfl, rfl, rfl, rfl⟩ | ⟨rfl, rfl, rfl, rfl, rfl⟩
    · cases b0
      · have E2 : Hid (R = false) := E.out
        go_wp2_with (go_at_call 37; refine (c0 _).mono ?_; rintro e w' ⟨rfl, hw⟩; obtain rfl := hw.symm)
        go_ret
        exact ⟨ret_bool E2.out.symm, hB0 _⟩
      · go_wp2_with (go_at_call 37; refine (c0 _).mono ?_; rintro e w' ⟨rfl, hw⟩; obtain rfl := hw.symm)
        go_round
        case rel => exact Or.inr (Or.inl ⟨by go_num, by trivial⟩)
        case measure => simp [intOf]
    · cases b1
      · have E2 : Hid (R = false) := E.out
        go_wp2_with (go_at_call 37; refine (c1 _).mono ?_; rintro e w' ⟨rfl, hw⟩; obtain rfl := hw.symm)
        go_ret
        exact ⟨ret_bool E2.out.symm, hB0 _⟩
      · go_wp2_with (go_at_call 37; refine (c1 _).mono ?_; rintro e w' ⟨rfl, hw⟩; obtain rfl := hw.symm)
        go_round
        case rel => exact Or.inr (Or.inr (Or.inl ⟨by go_num, by trivial, by trivial⟩))
        case measure => simp [intOf]
    · cases b2
      · have E2 : Hid (R = false) := E.out
        go_wp2_with (go_at_call 37; refine (c2 _).mono ?_; rintro e w' ⟨rfl, hw⟩; obtain rfl := hw.symm)
        go_ret
        exact ⟨ret_bool E2.out.symm, hB0 _⟩
      · go_wp2_with (go_at_call 37; refine (c2 _).mono ?_; rintro e w' ⟨rfl, hw⟩; obtain rfl := hw.symm)
        go_round
        case rel => exact Or.inr (Or.inr (Or.inr (Or.inl ⟨by go_num, by trivial, by trivial, by trivial⟩)))
        case measure => simp [intOf]
    · cases b3
      · have E2 : Hid (R = false) := E.out
        go_wp2_with (go_at_call 37; refine (c3 _).mono ?_; rintro e w' ⟨rfl, hw⟩; obtain rfl := hw.symm)
        go_ret
        exact ⟨ret_bool E2.out.symm, hB0 _⟩
      · go_wp2_with (go_at_call 37; refine (c3 _).mono ?_; rintro e w' ⟨rfl, hw⟩; obtain rfl := hw.symm)
        go_round
        case rel => exact Or.inr (Or.inr (Or.inr (Or.inr ⟨by go_num, by trivial, by trivial, by trivial, by trivial⟩)))
        case measure => simp [intOf]
    · have E2 : Hid (R = decide (h0 + h1 + h2 + h3 ≤ most)) := E.out
      have ha := hall rfl rfl rfl rfl
      generalize h0 + h1 + h2 + h3 = SUM at *
      have hWd := (Below.refl (w.alloc (.cells #[.int .i64 clock, .int .i64 scas, .int .i64 uses, .int .i64 most, .int .i64 h0, .int .i64 h1, .int .i64 h2, .int .i64 h3, .slice ia items.length ic, .int .i64 fm, .int .i64 fx, .slice pa pages.length pc] 29)).heap.size (w.alloc (.cells #[.int .i64 clock, .int .i64 scas, .int .i64 uses, .int .i64 most, .int .i64 h0, .int .i64 h1, .int .i64 h2, .int .i64 h3, .slice ia items.length ic, .int .i64 fm, .int .i64 fx, .slice pa pages.length pc] 29))).drew
      have bs : ∀ wx, Below (w.alloc (.cells #[.int .i64 clock, .int .i64 scas, .int .i64 uses, .int .i64 most, .int .i64 h0, .int .i64 h1, .int .i64 h2, .int .i64 h3, .slice ia items.length ic, .int .i64 fm, .int .i64 fx, .slice pa pages.length pc] 29)).heap.size (w.alloc (.cells #[.int .i64 clock, .int .i64 scas, .int .i64 uses, .int .i64 most, .int .i64 h0, .int .i64 h1, .int .i64 h2, .int .i64 h3, .slice ia items.length ic, .int .i64 fm, .int .i64 fx, .slice pa pages.length pc] 29)) wx → ∀ j, wx.cell? ⟨w.heap.size, j, none⟩ = (#[.int .i64 clock, .int .i64 scas, .int .i64 uses, .int .i64 most, .int .i64 h0, .int .i64 h1, .int .i64 h2, .int .i64 h3, .slice ia items.length ic, .int .i64 fm, .int .i64 fx, .slice pa pages.length pc] : Array Value)[j]? := fun wx hx j => by rw [hx.cell (p := ⟨w.heap.size, j, none⟩) (by simp)]; simp [go_sem]
      clear hall c0 c1 c2 c3 i0 i1 i2 i3 E
      go_wp2_with fail
      go_region_held3 (fun w' => ∀ j, w'.cell? ⟨w.heap.size, j, none⟩ = (#[.int .i64 clock, .int .i64 scas, .int .i64 uses, .int .i64 most, .int .i64 h0, .int .i64 h1, .int .i64 h2, .int .i64 h3, .slice ia items.length ic, .int .i64 fm, .int .i64 fx, .slice pa pages.length pc] : Array Value)[j]?) (first | exact bs _ hWd | exact bs _ (hWd.trans (hb2.mono hWd.size))) ((go_at_call 38; refine (ha _).mono ?_; rintro e w2 ⟨rfl, hb2⟩))
      go_wp2
      go_ret
      exact ⟨ret_bool E2.out.symm, (hB0 _).trans ((hWd.trans (hb2.mono hWd.size)).mono (hB0 _).size)⟩

theorem sclassOf_any (it : ItemR) (w : World) (hL : LaidC w) (ok : ItemOk it) :
    Calls Tryd.prog 53 #[.agg #[.string it.key, .int .i64 it.flags, .int .i64 it.until_, .int .i64 it.cas, .int .i64 it.used, .string it.value, .bool it.far, .int .i64 it.page, .int .i64 it.at_]] w fun e w' => e = .returned (.int .i64 (classN it.key.size it.value.size)) ∧ Below w.heap.size w w' := by
  obtain ⟨key, flags, until_, cas, used, value, far, page, at_⟩ := it
  obtain ⟨z1, z2, _, _⟩ := ok
  simp only at *
  unfold maxLen at z1 z2
  have hB0 : ∀ o, Below w.heap.size w (w.alloc o) := fun o => (Below.refl _ _).alloc (Nat.le_refl _) _
  have hc := fun w1 hb => class_any (key.size : Int) (value.size : Int) w1 (hL.later hb)
  generalize classN (key.size : Int) (value.size : Int) = C at *
  go_enter Tryd.func53, Tryd.ntmps53
  go_wp2_with (go_at_call 59; refine (hc _ (hB0 _)).mono ?_; rintro e w' ⟨rfl, hw⟩; obtain rfl := hw.symm)
  go_ret
  exact ⟨rfl, hB0 _⟩

theorem farValue_any (fm fx : Int) (ps : List PageR) (pa : Option Addr) (pc : Nat) (n p : Int) (w : World) (hP : PagesAt w pa ps) (h1 : ∀ j, j < ps.length → 1 ≤ (ps.getD j default).bs.length) (hp0 : -9223372036854775808 ≤ p) (hp1 : p ≤ 9223372036854775807) :
    Calls Tryd.prog 52 #[.agg #[.int .i64 fm, .int .i64 fx, .slice pa ps.length pc], .agg #[.int .i64 n, .int .i64 p]] w fun e w' => e = .returned (.tuple #[.string (findS ps n p), .bool (findN ps n p == 0)]) ∧ Below w.heap.size w w' := by
  have hB0 : ∀ o1 o2, Below w.heap.size w ((w.alloc o1).alloc o2) := fun o1 o2 => ((Below.refl _ _).alloc (Nat.le_refl _) _).alloc (by simp) _
  have hf := fun w1 hb => find_any ps pa pc n p w1 (hP.later hb) h1 hp0 hp1
  generalize findS ps n p = S at *
  generalize findN ps n p = N at *
  go_enter Tryd.func52, Tryd.ntmps52
  go_wp2_with (go_at_call 58; refine (hf _ (hB0 _ _)).mono ?_; rintro e w' ⟨rfl, hb⟩)
  go_ret2
  exact ⟨rfl, (hB0 _ _).trans (hb.mono (hB0 _ _).size)⟩
end Go.Proofs.YtogpkbhjobhodaaDoor
