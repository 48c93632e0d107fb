/- The contract of flash.refused. -/
import Derived.Test.YtbabiandegianaaFChk
namespace Go.Proofs.Ytbabiandegianaa
open Go.ChangeShapes Go.WideShapes Go.ChangeAt Go.RowKit
set_option linter.unusedVariables false
set_option linter.unusedSimpArgs false

/-- What is wrong with an append. -/
def refN (m x : Int) (ps : List PageR) (n : Nat) : Int := if mayB m x ps = true then (if 200 < n then 1 else if m = 0 then 7 else if x = 1099511627776 then 7 else 0) else 8

set_option maxHeartbeats 1000000 in
theorem frefused_any (m x : Int) (ps : List PageR) (a : Option Addr) (c : Nat) (s : ByteArray) (w : World) (hA : PagesAt w a ps) (hs : s.size ≤ maxLen) :
    Calls Try.prog 13 #[.agg #[.int .i64 m, .int .i64 x, .slice a ps.length c], .string s] w fun e w' => e = .returned (.int .i64 (refN m x ps s.size)) ∧ Below w.heap.size w w' := by
  have hB0 : Below w.heap.size w (w.alloc (.cells #[.int .i64 m, .int .i64 x, .slice a ps.length c] 24)) := (Below.refl _ _).alloc (Nat.le_refl _) _
  have hck := fcheck_any m x ps a c _ (hA.later hB0)
  have hsz : (w.alloc (.cells #[.int .i64 m, .int .i64 x, .slice a ps.length c] 24)).heap.size = w.heap.size + 1 := by simp
  unfold maxLen at hs
  have E : Hid (refN m x ps s.size = if mayB m x ps = true then (if 200 < s.size then 1 else if m = 0 then 7 else if x = 1099511627776 then 7 else 0) else 8) := rfl
  generalize refN m x ps s.size = R at *
  cases hm : mayB m x ps
  · rw [hm] at hck
    have E2 : Hid (R = 8) := by have := E.out; rw [hm] at this; exact this
    simp only [Bool.false_eq_true, if_false] at hck
    clear E hm
    go_enter Try.func13, Try.ntmps13
    go_wp2_with (go_at_call 12; refine hck.mono ?_; rintro e w1 ⟨rfl, hb1⟩; obtain ⟨p1, p2⟩ := bcell hb1)
    go_ret
    exact ⟨ret_i64 E2.out.symm, hB0.trans (hb1.mono hB0.size)⟩
  · rw [hm] at hck
    simp only [if_true] at hck
    have E1 := E.out
    rw [hm] at E1
    simp only [if_true] at E1
    clear E hm
    by_cases h1 : 200 < s.size
    · have h1z : (200 : Int) < (s.size : Int) := by omega
      have E2 : Hid (R = 1) := by rw [if_pos h1] at E1; exact E1
      clear E1
      go_enter Try.func13, Try.ntmps13
      go_wp2_with (go_at_call 12; refine hck.mono ?_; rintro e w1 ⟨rfl, hb1⟩; obtain ⟨p1, p2⟩ := bcell hb1)
      go_ret
      exact ⟨ret_i64 E2.out.symm, hB0.trans (hb1.mono hB0.size)⟩
    · have h1z : ¬ (200 : Int) < (s.size : Int) := by omega
      rw [if_neg h1] at E1
      by_cases h2 : m = 0
      · have E2 : Hid (R = 7) := by rw [if_pos h2] at E1; exact E1
        subst h2
        clear E1
        go_enter Try.func13, Try.ntmps13
        go_wp2_with (go_at_call 12; refine hck.mono ?_; rintro e w1 ⟨rfl, hb1⟩; obtain ⟨p1, p2⟩ := bcell hb1; have hy := hb1.size)
        go_ret
        exact ⟨ret_i64 E2.out.symm, hB0.trans (hb1.mono hB0.size)⟩
      · rw [if_neg h2] at E1
        have q2 : (m == 0) = false := by simpa using h2
        by_cases h3 : x = 1099511627776
        · have E2 : Hid (R = 7) := by rw [if_pos h3] at E1; exact E1
          subst h3
          clear E1
          go_enter Try.func13, Try.ntmps13
          go_wp2_with (go_at_call 12; refine hck.mono ?_; rintro e w1 ⟨rfl, hb1⟩; obtain ⟨p1, p2⟩ := bcell hb1; have hy := hb1.size)
          go_ret
          exact ⟨ret_i64 E2.out.symm, hB0.trans (hb1.mono hB0.size)⟩
        · have E2 : Hid (R = 0) := by rw [if_neg h3] at E1; exact E1
          have q3 : (x == 1099511627776) = false := by simpa using h3
          clear E1
          go_enter Try.func13, Try.ntmps13
          go_wp2_with (go_at_call 12; refine hck.mono ?_; rintro e w1 ⟨rfl, hb1⟩; obtain ⟨p1, p2⟩ := bcell hb1; have hy := hb1.size)
          go_ret
          exact ⟨ret_i64 E2.out.symm, hB0.trans (hb1.mono hB0.size)⟩
end Go.Proofs.Ytbabiandegianaa
