/- dovecoteref.AppendedOf: what it refuses; a row of pages at an offset. -/
import Derived.Test.YtbabiandegianaaFAppW
import Derived.Test.YtbabiandegianaaRFlashO
import Derived.Test.YtbabiandegianaaFReadL
import Derived.Deep.RegionHeld3
import Derived.Deep.DeepCutAuto
namespace Go.Proofs.Ytbabiandegianaa
open Go.ChangeShapes Go.WideShapes Go.ChangeAt Go.RowKit
set_option linter.unusedVariables false
set_option linter.unusedSimpArgs false

theorem rapp_boxes (m x : Int) (a : Option Addr) (n c : Nat) (w : World) : ApB w (((w.alloc (.cells #[.int .i64 m, .int .i64 x, .slice a n c] 24)).alloc (.cells #[.int .i64 0, .int .i64 0, .slice none 0 0] 24)).alloc (.cells #[.int .i64 0, .int .i64 0] 27)) #[.int .i64 m, .int .i64 x, .slice a n c] := by
  have A1 : Below w.heap.size w (w.alloc (.cells #[.int .i64 m, .int .i64 x, .slice a n c] 24)) := (Below.refl _ _).alloc (Nat.le_refl _) _
  have T2 := TB.new 24 (w.alloc (.cells #[.int .i64 m, .int .i64 x, .slice a n c] 24)) #[.int .i64 0, .int .i64 0, .slice none 0 0]
  have T3 := TB.new 27 ((w.alloc (.cells #[.int .i64 m, .int .i64 x, .slice a n c] 24)).alloc (.cells #[.int .i64 0, .int .i64 0, .slice none 0 0] 24)) #[.int .i64 0, .int .i64 0]
  rw [show (w.alloc (.cells #[.int .i64 m, .int .i64 x, .slice a n c] 24)).heap.size = w.heap.size + 1 by simp] at T2
  rw [show ((w.alloc (.cells #[.int .i64 m, .int .i64 x, .slice a n c] 24)).alloc (.cells #[.int .i64 0, .int .i64 0, .slice none 0 0] 24)).heap.size = w.heap.size + 2 by simp] at T3
  exact ⟨((TB.new 24 w _).alloc _).alloc _, T2.alloc _, T3, (A1.alloc (by simp) _).alloc (by simp; omega) _⟩

theorem app_bad_end {w w1 : World} {cs : Array Value} {k R : Int} (h : ApB w w1 cs) (e : R = k) : AppBad R w (.returned (.tuple #[.agg #[.int .i64 0, .int .i64 0, .slice none 0 0], .agg #[.int .i64 0, .int .i64 0], .int .i64 0, .int .i64 k])) (((((w1.setCell ⟨w.heap.size + 1, 0, none⟩ (.int .i64 0)).setCell ⟨w.heap.size + 1, 1, none⟩ (.int .i64 0)).setCell ⟨w.heap.size + 1, 2, none⟩ (.slice none 0 0)).setCell ⟨w.heap.size + 1 + 1, 0, none⟩ (.int .i64 0)).setCell ⟨w.heap.size + 1 + 1, 1, none⟩ (.int .i64 0)) := by
  subst e
  exact ⟨rfl, ((((h.2.2.2.setCell (Nat.le_succ _) _).setCell (Nat.le_succ _) _).setCell (Nat.le_succ _) _).setCell (show w.heap.size ≤ w.heap.size + 1 + 1 by omega) _).setCell (show w.heap.size ≤ w.heap.size + 1 + 1 by omega) _⟩

set_option maxHeartbeats 2000000 in
set_option maxRecDepth 100000 in
theorem rappend_bad (m x : Int) (ps : List PageR) (a : Option Addr) (c : Nat) (s : ByteArray) (w : World) (hA : PagesAt w a ps) (hs : s.size ≤ maxLen) (hvi : VIn) (hr : refN m x ps s.size ≠ 0) :
    Calls Try.prog 7 #[.agg #[.int .i64 m, .int .i64 x, .slice a ps.length c], .string s] w (AppBad (refN m x ps s.size) w) := by
  have I0 := rapp_boxes m x a ps.length c w
  have hmay := fun w1 (hb : Below w.heap.size w w1) => may_any m x ps a c w1 (hA.later hb) (fun l a c w h1 h2 h3 h4 => (hvi l a c w h1 h2 h3 h4).mono fun e w' ⟨u, v, g1, g2, _⟩ => ⟨u, v, g1, g2⟩)
  unfold maxLen at hs
  have E : Hid (refN m x ps s.size = if mayB m x ps = true then (if 200 < s.size then 1 else if m = 0 then 7 else if x = 1099511627776 then 7 else 0) else 8) := rfl
  have hend := fun (k : Int) w1 (h : ApB w w1 #[.int .i64 m, .int .i64 x, .slice a ps.length c]) e => app_bad_end (k := k) (R := refN m x ps s.size) h e
  generalize refN m x ps s.size = R at *
  generalize hPO : AppBad R w = PO at *
  cases hm : mayB m x ps
  · rw [hm] at hmay
    have E2 : R = 8 := by have := E.out; rw [hm] at this; exact this
    clear E hm
    go_enter Try.func7, Try.ntmps7
    go_wp2_with (go_at_call 17; refine (hmay _ I0.2.2.2).mono ?_; rintro e w1 ⟨rfl, hb1⟩; have I1 := I0.later hb1; have x1 := (fun j => I1.1.cell j); have l1 := I1.1.lt; have y1 := (fun j => I1.2.1.cell j); have fy1 := (fun j => I1.2.1.frozen j); have ly1 := I1.2.1.lt; have v1 := (fun j => I1.2.2.1.cell j); have fv1 := (fun j => I1.2.2.1.frozen j); have lv1 := I1.2.2.1.lt)
    exact bodyPost_ret (v := .tuple #[.agg #[.int .i64 0, .int .i64 0, .slice none 0 0], .agg #[.int .i64 0, .int .i64 0], .int .i64 0, .int .i64 8]) (by simp [results, Try.results7, go_sem, y1, ly1, v1, lv1]) rfl (hend 8 _ I1 E2)
  · rw [hm] at hmay
    have E1 := E.out
    rw [hm] at E1
    simp only [if_true] at E1
    clear E hm
    by_cases h1 : 200 < s.size
    · have h1z : (200 : Int) < (s.size : Int) := by omega
      have E2 : Hid (R = 1) := by rw [if_pos h1] at E1; exact E1
      clear E1
      go_enter Try.func7, Try.ntmps7
      go_wp2_with (go_at_call 17; refine (hmay _ I0.2.2.2).mono ?_; rintro e w1 ⟨rfl, hb1⟩; have I1 := I0.later hb1; have x1 := (fun j => I1.1.cell j); have l1 := I1.1.lt; have y1 := (fun j => I1.2.1.cell j); have fy1 := (fun j => I1.2.1.frozen j); have ly1 := I1.2.1.lt; have v1 := (fun j => I1.2.2.1.cell j); have fv1 := (fun j => I1.2.2.1.frozen j); have lv1 := I1.2.2.1.lt)
      exact bodyPost_ret (v := .tuple #[.agg #[.int .i64 0, .int .i64 0, .slice none 0 0], .agg #[.int .i64 0, .int .i64 0], .int .i64 0, .int .i64 1]) (by simp [results, Try.results7, go_sem, y1, ly1, v1, lv1]) rfl (hend 1 _ I1 E2.out)
    · have h1z : ¬ (200 : Int) < (s.size : Int) := by omega
      rw [if_neg h1] at E1
      have E2 : Hid (R = 7) ∧ (m = 0 ∨ x = 1099511627776) := by
        by_cases h2 : m = 0
        · rw [if_pos h2] at E1; exact ⟨E1, Or.inl h2⟩
        · rw [if_neg h2] at E1
          by_cases h3 : x = 1099511627776
          · rw [if_pos h3] at E1; exact ⟨E1, Or.inr h3⟩
          · rw [if_neg h3] at E1; exact absurd E1 hr
      obtain ⟨E2, hmx⟩ := E2
      clear E1
      by_cases h2 : m = 0
      · subst h2
        go_enter Try.func7, Try.ntmps7
        go_wp2_with (go_at_call 17; refine (hmay _ I0.2.2.2).mono ?_; rintro e w1 ⟨rfl, hb1⟩; have I1 := I0.later hb1; have x1 := (fun j => I1.1.cell j); have l1 := I1.1.lt; have y1 := (fun j => I1.2.1.cell j); have fy1 := (fun j => I1.2.1.frozen j); have ly1 := I1.2.1.lt; have v1 := (fun j => I1.2.2.1.cell j); have fv1 := (fun j => I1.2.2.1.frozen j); have lv1 := I1.2.2.1.lt)
        exact bodyPost_ret (v := .tuple #[.agg #[.int .i64 0, .int .i64 0, .slice none 0 0], .agg #[.int .i64 0, .int .i64 0], .int .i64 0, .int .i64 7]) (by simp [results, Try.results7, go_sem, y1, ly1, v1, lv1]) rfl (hend 7 _ I1 E2.out)
      · have hx : x = 1099511627776 := hmx.resolve_left h2
        subst hx
        have q2 : (m == 0) = false := by simpa using h2
        go_enter Try.func7, Try.ntmps7
        go_wp2_with (go_at_call 17; refine (hmay _ I0.2.2.2).mono ?_; rintro e w1 ⟨rfl, hb1⟩; have I1 := I0.later hb1; have x1 := (fun j => I1.1.cell j); have l1 := I1.1.lt; have y1 := (fun j => I1.2.1.cell j); have fy1 := (fun j => I1.2.1.frozen j); have ly1 := I1.2.1.lt; have v1 := (fun j => I1.2.2.1.cell j); have fv1 := (fun j => I1.2.2.1.frozen j); have lv1 := I1.2.2.1.lt)
        exact bodyPost_ret (v := .tuple #[.agg #[.int .i64 0, .int .i64 0, .slice none 0 0], .agg #[.int .i64 0, .int .i64 0], .int .i64 0, .int .i64 7]) (by simp [results, Try.results7, go_sem, y1, ly1, v1, lv1]) rfl (hend 7 _ I1 E2.out)
end Go.Proofs.Ytbabiandegianaa
