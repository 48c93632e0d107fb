/- The contract of dovecoteref.ReplyText: what wire.Print answers, at every reply. -/
import Derived.Test.YtdgmifkdfjpcgaaDoorRepPrint
namespace Go.Proofs.YtdgmifkdfjpcgaaDoor
open Go.ChangeShapes Go.WideShapes Go.ChangeAt Go.RowKit
set_option linter.unusedVariables false

theorem decP (n : Int) (h0 : -9223372036854775808 ≤ n) (h1 : n ≤ 9223372036854775807) (W0 w1 : World) (hB : Below W0.heap.size W0 w1) :
    Calls Tryd.prog 25 #[.int .i64 n] w1 fun e w' => e = .returned (.string (decS n)) ∧ Below W0.heap.size W0 w' :=
  (dec_any n w1 h0 h1).mono fun e w' ⟨he, hb⟩ => ⟨he, hB.trans (hb.mono hB.size)⟩

theorem hit_text (A k f n c v : ByteArray) : A ++ ⟨#[86, 65, 76, 85, 69, 32]⟩ ++ k ++ ⟨#[32]⟩ ++ f ++ ⟨#[32]⟩ ++ n ++ ⟨#[32]⟩ ++ c ++ ⟨#[10]⟩ ++ v ++ ⟨#[10]⟩ = A ++ (((wordsS valueS [k, f, n, c] ++ nlS) ++ v) ++ nlS) := by
  have e : (⟨#[86, 65, 76, 85, 69, 32]⟩ : ByteArray) = valueS ++ blankS := rfl
  rw [e]
  simp only [wordsS, ByteArray.append_assoc]
  rfl

def REPS (kind nn : Int) (l : List HitR) (w : World) (e : Ending) (w' : World) : Prop := e = .returned (.tuple #[.string (printS kind nn l), .int .i64 (printN kind nn l)]) ∧ Below w.heap.size w w'

theorem print_no (kind nn : Int) (l : List HitR) (h : inB kind 1 12 = true) (hf : fitsB kind nn l = false) : printN kind nn l = 4 ∧ printS kind nn l = ⟨#[]⟩ := by
  have e : printN kind nn l = 4 := by unfold printN; rw [if_neg (by simp [h]), if_pos hf]
  exact ⟨e, by unfold printS; rw [e, if_neg (by decide)]⟩

theorem print_yes (kind nn : Int) (l : List HitR) (h : inB kind 1 12 = true) (hf : fitsB kind nn l = true) : printN kind nn l = 0 ∧ printS kind nn l = (if kind = 7 then decS nn ++ nlS else (accS l ++ sayS kind.toNat) ++ nlS) := by
  have e : printN kind nn l = 0 := by unfold printN; rw [if_neg (by simp [h]), if_neg (by simp [hf])]
  exact ⟨e, by unfold printS; rw [e, if_pos rfl]⟩

set_option maxHeartbeats 2000000 in
set_option maxRecDepth 100000 in
theorem repText_no (kind nn : Int) (l : List HitR) (a : Option Addr) (c : Nat) (w : World) (hn : l.length ≤ maxLen) (h : inB kind 1 12 = false) : Calls Tryd.prog 13 #[.agg #[.int .i64 kind, .int .i64 nn, .slice a l.length c]] w (REPS kind nn l w) := by
  have hB0 : Below w.heap.size w (w.alloc (.cells #[.int .i64 kind, .int .i64 nn, .slice a l.length c] 35)) := (Below.refl _ _).alloc (Nat.le_refl _) _
  have e1 : printN kind nn l = 3 := by unfold printN; rw [if_pos h]
  have e2 : printS kind nn l = ⟨#[]⟩ := by unfold printS; rw [e1, if_neg (by decide)]
  unfold REPS
  rw [e1, e2]
  have hc := in_any kind 1 12
  rw [h] at hc
  clear h e1 e2
  go_enter Tryd.func13, Tryd.ntmps13
  go_wp2_with (go_at_call 37; refine (hc _).mono ?_; rintro e w' ⟨rfl, rfl⟩)
  go_ret2
  exact ⟨rfl, hB0⟩

set_option maxHeartbeats 2000000 in
set_option maxRecDepth 100000 in
theorem repText_bad (kind nn : Int) (l : List HitR) (a : Option Addr) (c : Nat) (w : World) (hn : l.length ≤ maxLen) (h : inB kind 1 12 = true) (hbad : 10 < l.length ∨ (0 < l.length ∧ kind ≠ 1) ∨ (nn ≠ 0 ∧ kind ≠ 7)) : Calls Tryd.prog 13 #[.agg #[.int .i64 kind, .int .i64 nn, .slice a l.length c]] w (REPS kind nn l w) := by
  have hB0 : Below w.heap.size w (w.alloc (.cells #[.int .i64 kind, .int .i64 nn, .slice a l.length c] 35)) := (Below.refl _ _).alloc (Nat.le_refl _) _
  have hf : fitsB kind nn l = false := by
    cases hq : fitsB kind nn l
    · rfl
    · obtain ⟨f1, _, f3, f4⟩ := fits_hits kind nn l hq
      rcases hbad with h1 | ⟨h1, h2⟩ | ⟨h1, h2⟩
      · omega
      · have := f3 h2; omega
      · exact absurd (f4 h2) h1
  obtain ⟨e1, e2⟩ := print_no kind nn l h hf
  unfold REPS
  rw [e1, e2]
  have hc := in_any kind 1 12
  rw [h] at hc
  clear h hf e1 e2
  unfold maxLen at hn
  by_cases h10 : 10 < l.length
  · have h10' : (10 : Int) < (l.length : Int) := by omega
    clear hbad h10
    go_enter Tryd.func13, Tryd.ntmps13
    go_wp2_with (go_at_call 37; refine (hc _).mono ?_; rintro e w' ⟨rfl, rfl⟩)
    go_ret2
    exact ⟨rfl, hB0⟩
  have h10' : ¬ (10 : Int) < (l.length : Int) := by omega
  by_cases h1 : 0 < l.length ∧ kind ≠ 1
  · have hl' : (0 : Int) < (l.length : Int) := by omega
    have k1 : (kind == 1) = false := by simp [h1.2]
    have k1n : (kind != 1) = true := by simp [h1.2]
    clear hbad h10 h1
    go_enter Tryd.func13, Tryd.ntmps13
    go_wp2_with (go_at_call 37; refine (hc _).mono ?_; rintro e w' ⟨rfl, rfl⟩)
    go_ret2
    exact ⟨rfl, hB0⟩
  have h2 : nn ≠ 0 ∧ kind ≠ 7 := by
    rcases hbad with h | h | h
    · exact absurd h h10
    · exact absurd h h1
    · exact h
  have n0 : (nn == 0) = false := by simp [h2.1]
  have n0n : (nn != 0) = true := by simp [h2.1]
  have k7 : (kind == 7) = false := by simp [h2.2]
  have k7n : (kind != 7) = true := by simp [h2.2]
  by_cases hl : 0 < l.length
  · have hl' : (0 : Int) < (l.length : Int) := by omega
    obtain rfl : kind = 1 := by
      by_cases hk : kind = 1
      · exact hk
      · exact absurd ⟨hl, hk⟩ h1
    clear hbad h10 h1 h2 hl k7 k7n
    go_enter Tryd.func13, Tryd.ntmps13
    go_wp2_with (go_at_call 37; refine (hc _).mono ?_; rintro e w' ⟨rfl, rfl⟩)
    go_ret2
    exact ⟨rfl, hB0⟩
  · have hl' : ¬ (0 : Int) < (l.length : Int) := by omega
    clear hbad h10 h1 h2 hl
    go_enter Tryd.func13, Tryd.ntmps13
    go_wp2_with (go_at_call 37; refine (hc _).mono ?_; rintro e w' ⟨rfl, rfl⟩)
    go_ret2
    exact ⟨rfl, hB0⟩

set_option maxHeartbeats 2000000 in
set_option maxRecDepth 100000 in
theorem repText_say (kind nn : Int) (a : Option Addr) (c : Nat) (w : World) (h : inB kind 1 12 = true) (h1 : kind ≠ 1) (hn0 : -9223372036854775808 ≤ nn) (hn1 : nn ≤ 9223372036854775807) (h7 : nn = 0 ∨ kind = 7) : Calls Tryd.prog 13 #[.agg #[.int .i64 kind, .int .i64 nn, .slice a 0 c]] w (REPS kind nn [] w) := by
  have hB0 : Below w.heap.size w (w.alloc (.cells #[.int .i64 kind, .int .i64 nn, .slice a 0 c] 35)) := (Below.refl _ _).alloc (Nat.le_refl _) _
  have hf : fitsB kind nn [] = true := by
    unfold fitsB
    rw [if_neg (by simp), if_neg (by rintro ⟨x, y⟩; rcases h7 with h7 | h7 <;> contradiction)]
    rfl
  obtain ⟨e1, e2⟩ := print_yes kind nn [] h hf
  unfold REPS
  rw [e1, e2]
  have hc := in_any kind 1 12
  rw [h] at hc
  by_cases hk : kind = 7
  · subst hk
    rw [if_pos rfl]
    have hz := decS_size nn hn0 hn1
    have hd := fun w1 => dec_any nn w1 hn0 hn1
    have k1 : ((7 : Int) == 1) = false := rfl
    clear h hf e1 e2 h1 h7
    by_cases h0 : nn = 0
    · subst h0
      go_enter Tryd.func13, Tryd.ntmps13
      go_wp2_with (first | (go_at_call 37; refine (hc _).mono ?_; rintro e w' ⟨rfl, rfl⟩) | (go_at_call 25; refine (hd _).mono ?_; rintro e w2 ⟨rfl, hb2⟩))
      go_ret2
      exact ⟨rfl, hB0.trans (hb2.mono hB0.size)⟩
    · have n0 : (nn == 0) = false := by simp [h0]
      have n0n : (nn != 0) = true := by simp [h0]
      go_enter Tryd.func13, Tryd.ntmps13
      go_wp2_with (first | (go_at_call 37; refine (hc _).mono ?_; rintro e w' ⟨rfl, rfl⟩) | (go_at_call 25; refine (hd _).mono ?_; rintro e w2 ⟨rfl, hb2⟩))
      go_ret2
      exact ⟨rfl, hB0.trans (hb2.mono hB0.size)⟩
  · obtain rfl : nn = 0 := by rcases h7 with h7 | h7; exact h7; exact absurd h7 hk
    rw [if_neg hk]
    have hcases : kind = 2 ∨ kind = 3 ∨ kind = 4 ∨ kind = 5 ∨ kind = 6 ∨ kind = 8 ∨ kind = 9 ∨ kind = 10 ∨ kind = 11 ∨ kind = 12 := by unfold inB at h; simp at h; omega
    clear h hf e1 e2 h1 h7 hk
    rcases hcases with rfl | rfl | rfl | rfl | rfl | rfl | rfl | rfl | rfl | rfl <;>
    (go_enter Tryd.func13, Tryd.ntmps13; go_wp2_with (go_at_call 37; refine (hc _).mono ?_; rintro e w' ⟨rfl, rfl⟩); go_ret2; exact ⟨rfl, hB0.alloc hB0.size _⟩)
end Go.Proofs.YtdgmifkdfjpcgaaDoor
