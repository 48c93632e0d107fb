/- The contract of dovecoteref.FlashMay: it answers what flash.Check takes. -/
import Derived.Test.YtogpkbhjobhodaaDoorFChk
import Derived.Test.YtogpkbhjobhodaaDoorFVals
import Derived.Deep.RegionHeld3
import Derived.Deep.DeepCutAuto
namespace Go.Proofs.YtogpkbhjobhodaaDoor
open Go.ChangeShapes Go.WideShapes Go.ChangeAt Go.RowKit
set_option linter.unusedVariables false
set_option linter.unusedSimpArgs false

/-- No page, or the first number is at least 1. -/
theorem may_low (m x : Int) (ps : List PageR) (hb : boundsB m x ps.length = true) (h : x - (ps.length : Int) < 1) : 0 < ps.length ∧ mayB m x ps = false := by
  have hx : 1 ≤ x := by
    unfold boundsB inB at hb
    simp at hb
    omega
  refine ⟨by omega, ?_⟩
  unfold mayB pagesB
  rw [decide_eq_false (by omega)]
  simp

set_option maxHeartbeats 4000000 in
set_option maxRecDepth 100000 in
theorem may_any (m x : Int) (ps : List PageR) (a : Option Addr) (c : Nat) (w : World) (hA : PagesAt w a ps)
    (hvi : ∀ (l : List UInt8) (a : Option Addr) (c : Nat) (w : World), BytesAt w a l → l.length ≤ 256 → l.length ≤ c → c ≤ maxLen → Calls Tryd.prog 45 #[.slice a l.length c] w fun e w' => ∃ u v, e = .returned (.tuple #[u, v, .bool (recsB l)]) ∧ Below w.heap.size w w') :
    Calls Tryd.prog 28 #[.agg #[.int .i64 m, .int .i64 x, .slice a ps.length c]] w fun e w' => e = .returned (.bool (mayB m x ps)) ∧ Below w.heap.size w w' := by
  have hB0 : Below w.heap.size w (w.alloc (.cells #[.int .i64 m, .int .i64 x, .slice a ps.length c] 27)) := (Below.refl _ _).alloc (Nat.le_refl _) _
  have hin1 := fun w1 => in_any m 0 20 w1
  have hin2 := fun w1 => in_any x 1 1099511627776 w1
  have hmax := hA.1
  unfold maxLen at hmax
  have E0 : Hid (mayB m x ps = (boundsB m x ps.length && pagesB x ps)) := rfl
  have Eb : Hid (boundsB m x ps.length = (inB m 0 20 && (inB x 1 1099511627776 && decide ((ps.length : Int) ≤ m)))) := rfl
  cases hb : boundsB m x ps.length
  · have E : Hid (mayB m x ps = false) := by unfold Hid; rw [E0.out, hb]; rfl
    generalize mayB m x ps = R at *
    have Eb2 : (inB m 0 20 && (inB x 1 1099511627776 && decide ((ps.length : Int) ≤ m))) = false := by rw [← Eb.out, hb]
    clear E0 Eb hb
    cases h1 : inB m 0 20
    · rw [h1] at hin1
      clear Eb2 h1
      go_enter Tryd.func28, Tryd.ntmps28
      go_wp2_with (go_at_call_of 27 (Value.int .i64 m); refine (hin1 _).mono ?_; rintro e w1 ⟨rfl, rfl⟩)
      go_ret
      exact ⟨ret_bool E.out.symm, hB0⟩
    · rw [h1] at hin1
      by_cases h2 : (ps.length : Int) ≤ m
      · have h2z : ¬ m < (ps.length : Int) := by omega
        have h3 : inB x 1 1099511627776 = false := by rw [h1, decide_eq_true h2] at Eb2; simpa using Eb2
        rw [h3] at hin2
        clear Eb2 h1 h3
        go_enter Tryd.func28, Tryd.ntmps28
        go_wp2_with (first | (go_at_call_of 27 (Value.int .i64 m); refine (hin1 _).mono ?_; rintro e w1 ⟨rfl, rfl⟩) | (go_at_call_of 27 (Value.int .i64 x); refine (hin2 _).mono ?_; rintro e w1 ⟨rfl, rfl⟩))
        go_ret
        exact ⟨ret_bool E.out.symm, hB0⟩
      · have h2z : m < (ps.length : Int) := by omega
        clear Eb2 h1
        go_enter Tryd.func28, Tryd.ntmps28
        go_wp2_with (go_at_call_of 27 (Value.int .i64 m); refine (hin1 _).mono ?_; rintro e w1 ⟨rfl, rfl⟩)
        go_ret
        exact ⟨ret_bool E.out.symm, hB0⟩
  · have hbd : inB m 0 20 = true ∧ inB x 1 1099511627776 = true ∧ (ps.length : Int) ≤ m := by
      have := Eb.out
      rw [hb] at this
      simpa using this.symm
    obtain ⟨b1, b2, b3⟩ := hbd
    have hx : 1 ≤ x ∧ x ≤ 1099511627776 := by unfold inB at b2; simpa using b2
    have hm20 : ps.length ≤ 20 := by unfold inB at b1; simp at b1; omega
    rw [b1] at hin1
    rw [b2] at hin2
    have h2z : ¬ m < (ps.length : Int) := by omega
    have E1 : Hid (mayB m x ps = pagesB x ps) := by unfold Hid; rw [E0.out, hb]; rfl
    have Elow : Hid (x - (ps.length : Int) < 1 → mayB m x ps = false) := fun h => (may_low m x ps hb h).2
    have Ehigh : Hid (¬ x - (ps.length : Int) < 1 → mayB m x ps = pagesF (x - ps.length) ps) := by
      intro h
      rw [E1.out]
      unfold pagesB
      rw [decide_eq_true (by omega)]
      rfl
    have Enil : Hid (ps.length = 0 → mayB m x ps = true) := by
      intro h
      rw [E1.out]
      unfold pagesB
      have : ps = [] := List.length_eq_zero_iff.1 h
      subst this
      rw [decide_eq_true (by simp; omega)]
      rfl
    clear E0 Eb hb E1
    generalize mayB m x ps = R at *
    obtain ⟨_, hmm⟩ := hA
    have hin3 := fun (n : Nat) w1 => in_any (n : Int) 1 256 w1
    go_enter Tryd.func28, Tryd.ntmps28
    go_wp2_with (first | (go_at_call_of 27 (Value.int .i64 m); refine (hin1 _).mono ?_; rintro e w1 ⟨rfl, rfl⟩) | (go_at_call_of 27 (Value.int .i64 x); refine (hin2 _).mono ?_; rintro e w1 ⟨rfl, rfl⟩))
    have hWs : (w.alloc (.cells #[.int .i64 m, .int .i64 x, .slice a ps.length c] 27)).heap.size = w.heap.size + 1 := by simp
    have g1 : (w.alloc (.cells #[.int .i64 m, .int .i64 x, .slice a ps.length c] 27)).cell? ⟨w.heap.size, 1, none⟩ = some (.int .i64 x) := by simp [go_sem]
    have g2 : (w.alloc (.cells #[.int .i64 m, .int .i64 x, .slice a ps.length c] 27)).cell? ⟨w.heap.size, 2, none⟩ = some (.slice a ps.length c) := by simp [go_sem]
    generalize (w.alloc (.cells #[.int .i64 m, .int .i64 x, .slice a ps.length c] 27)) = W1 at *
    by_cases hlow : x - (ps.length : Int) < 1
    · have E : Hid (R = false) := Elow.out hlow
      have hpos : 0 < ps.length := by omega
      clear Elow Ehigh Enil
      go_loopw [3] (fun i wr => i = .int .i64 0 ∧ Below W1.heap.size W1 wr) (fun i _ => 0)
      case atStart => exact ⟨rfl, Below.refl _ _⟩
      case round =>
        obtain ⟨rfl, hb⟩ := hrel
        have e1 : wr.cell? ⟨w.heap.size, 1, none⟩ = some (.int .i64 x) := by rw [hb.cell (p := ⟨w.heap.size, 1, none⟩) (by show w.heap.size < _; omega)]; exact g1
        have e2 : wr.cell? ⟨w.heap.size, 2, none⟩ = some (.slice a ps.length c) := by rw [hb.cell (p := ⟨w.heap.size, 2, none⟩) (by show w.heap.size < _; omega)]; exact g2
        have hbw : Below w.heap.size w wr := hB0.trans (hb.mono hB0.size)
        have hltz : (0 : Int) < (ps.length : Int) := by omega
        have hl1 : w.heap.size < wr.heap.size := Nat.lt_of_lt_of_le (by omega) hb.size
        rcases hmm with hmm | ⟨b, o, rfl, hbl, hc⟩
        · omega
        obtain ⟨p, q, n1, n2, n3, n4, n5⟩ := (hc 0 hpos).later hbl hbw
        rw [Nat.zero_mul, Nat.add_zero] at n1 n2
        have hl2 : b < wr.heap.size := Nat.lt_of_lt_of_le hbl hbw.size
        clear hc g1 g2
        generalize ps.getD 0 default = P at *
        obtain ⟨num, bs⟩ := P
        simp only at *
        by_cases hn1 : num < 1
        · go_wp2
          go_ret
          exact ⟨ret_bool E.out.symm, hbw.alloc hbw.size _⟩
        · have hne : (num == x - (ps.length : Int)) = false := by simp; omega
          have hne2 : ¬ num = x - (ps.length : Int) := by omega
          go_wp2
          go_ret
          exact ⟨ret_bool E.out.symm, hbw.alloc hbw.size _⟩
    · have E : Hid (R = pagesF (x - ps.length) ps) := Ehigh.out (by omega)
      clear Elow Ehigh Enil
      go_loopw [3] (fun i wr => ∃ k : Nat, k ≤ ps.length ∧ i = .int .i64 k ∧ Hid (R = pagesF (x - ps.length + k) (ps.drop k)) ∧ Below W1.heap.size W1 wr) (fun i _ => ps.length - (intOf i).toNat)
      case atStart => exact ⟨0, Nat.zero_le _, rfl, by unfold Hid; rw [E.out]; simp, Below.refl _ _⟩
      case round =>
        obtain ⟨k, hk, rfl, E3, hb⟩ := hrel
        have e1 : wr.cell? ⟨w.heap.size, 1, none⟩ = some (.int .i64 x) := by rw [hb.cell (p := ⟨w.heap.size, 1, none⟩) (by show w.heap.size < _; omega)]; exact g1
        have e2 : wr.cell? ⟨w.heap.size, 2, none⟩ = some (.slice a ps.length c) := by rw [hb.cell (p := ⟨w.heap.size, 2, none⟩) (by show w.heap.size < _; omega)]; exact g2
        have hbw : Below w.heap.size w wr := hB0.trans (hb.mono hB0.size)
        have hl1 : w.heap.size < wr.heap.size := Nat.lt_of_lt_of_le (by omega) hb.size
        by_cases hlt : k < ps.length
        · have hltz : (k : Int) < (ps.length : Int) := by omega
          have hk0 : (0 : Int) ≤ (k : Int) := Int.natCast_nonneg _
          rcases hmm with hmm | ⟨b, o, rfl, hbl, hc⟩
          · omega
          obtain ⟨p, q, n1, n2, n3, n4, n5⟩ := (hc k hlt).later hbl hbw
          have hl2 : b < wr.heap.size := Nat.lt_of_lt_of_le hbl hbw.size
          clear hc g1 g2
          have hst := pagesF_at (x - ps.length) ps k hlt
          generalize ps.getD k default = P at *
          obtain ⟨num, bs⟩ := P
          simp only at *
          have hA1 : Below wr.heap.size wr (wr.alloc (.cells #[.int .i64 num, .slice p bs.length q] 45)) := (Below.refl _ _).alloc (Nat.le_refl _) _
          have hbA : Below w.heap.size w (wr.alloc (.cells #[.int .i64 num, .slice p bs.length q] 45)) := hbw.trans (hA1.mono hbw.size)
          by_cases hn1 : num < 1
          · have E4 : Hid (R = false) := by unfold Hid; rw [E3.out, hst, decide_eq_false (by omega)]; rfl
            clear hst
            go_wp2
            go_ret
            exact ⟨ret_bool E4.out.symm, hbA⟩
          by_cases hnum : num = x - ps.length + k
          · rw [decide_eq_true hnum] at hst
            have hnum' : num = x + (k : Int) - (ps.length : Int) := by omega
            clear hnum
            subst hnum'
            have hg : ((x + (k : Int) - (ps.length : Int)) == (x + (k : Int) - (ps.length : Int))) = true := by simp
            have hi3 := hin3 bs.length
            have hbm := n3.1
            unfold maxLen at hbm
            cases hib : inB (bs.length : Int) 1 256
            · have E4 : Hid (R = false) := by
                unfold Hid
                rw [E3.out, hst]
                have : bytesB bs = false := by unfold inB at hib; unfold bytesB; simp at hib ⊢; intro h1 h2; omega
                rw [this]
                rfl
              rw [hib] at hi3
              clear hst hib hin1 hin2 hin3
              go_wp2_with ((go_at_call 27; refine (hi3 _).mono ?_; rintro e w1 ⟨rfl, rfl⟩))
              go_ret
              exact ⟨ret_bool E4.out.symm, hbA⟩
            · have hl256 : bs.length ≤ 256 := by unfold inB at hib; simp at hib; omega
              have hl1b : 1 ≤ bs.length := by unfold inB at hib; simp at hib; omega
              have hbB : bytesB bs = recsB bs := by unfold bytesB; rw [decide_eq_true hl1b, decide_eq_true hl256]; rfl
              rw [hbB] at hst
              have hv1 := hvi bs p q _ (n3.later hA1) hl256 n4 n5
              have hT : Below wr.heap.size wr (wr.alloc (.cells #[.int .i64 (x + (k : Int) - (ps.length : Int)), .slice p bs.length q] 45)) := hA1
              rw [hib] at hi3
              cases hrb : recsB bs
              · have E4 : Hid (R = false) := by unfold Hid; rw [E3.out, hst, hrb]; rfl
                rw [hrb] at hv1
                clear hst hib hin1 hin2 hin3 hbB
                go_wp2_with (first | (go_at_call 27; refine (hi3 _).mono ?_; rintro e w1 ⟨rfl, rfl⟩) | (go_at_call 45; refine hv1.mono ?_; rintro e w2 ⟨y1, y2, rfl, hb2⟩))
                go_ret
                exact ⟨ret_bool E4.out.symm, hbA.trans (hb2.mono hbA.size)⟩
              · have E4 : Hid (R = pagesF (x - ps.length + (k + 1 : Nat)) (ps.drop (k + 1))) := by unfold Hid; rw [E3.out, hst, hrb]; rfl
                rw [hrb] at hv1
                clear hst hib hin1 hin2 hin3 hbB
                go_wp2_with (first | (go_at_call 27; refine (hi3 _).mono ?_; rintro e w1 ⟨rfl, rfl⟩) | (go_at_call 45; refine hv1.mono ?_; rintro e w2 ⟨y1, y2, rfl, hb2⟩))
                exact ⟨⟨k + 1, by omega, by simp, E4, (hb.trans (hA1.mono hb.size)).trans (hb2.mono (hb.trans (hA1.mono hb.size)).size)⟩, by simp [intOf]; omega⟩
          · have hg : (num == x + (k : Int) - (ps.length : Int)) = false := by simp; omega
            have hg2 : ¬ num = x + (k : Int) - (ps.length : Int) := by omega
            rw [decide_eq_false hnum] at hst
            have E4 : Hid (R = false) := by unfold Hid; rw [E3.out, hst]; rfl
            clear hst hnum
            go_wp2
            go_ret
            exact ⟨ret_bool E4.out.symm, hbA⟩
        · have hltz : ¬ (k : Int) < (ps.length : Int) := by omega
          have hkl : k = ps.length := by omega
          have E4 : Hid (R = true) := by unfold Hid; rw [E3.out, hkl, List.drop_length]; rfl
          go_wp2
          go_ret
          exact ⟨ret_bool E4.out.symm, hbw⟩
end Go.Proofs.YtogpkbhjobhodaaDoor
