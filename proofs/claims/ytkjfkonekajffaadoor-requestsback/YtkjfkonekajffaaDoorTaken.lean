/- What wire.Next takes is at most what there is; what it takes it takes with more behind, too. -/
import Derived.Test.YtkjfkonekajffaaDoorBack4
namespace Go.Proofs.YtkjfkonekajffaaDoor
open Go.ChangeShapes Go.WideShapes Go.ChangeAt Go.RowKit
set_option linter.unusedVariables false
set_option linter.unusedSimpArgs false

theorem indexByte_app (c : UInt8) : ∀ (l r : List UInt8), ¬ Lib.indexByte l c < 0 → Lib.indexByte (l ++ r) c = Lib.indexByte l c
  | [], r, h => by simp [Lib.indexByte] at h
  | b :: l, r, h => by
    rw [List.cons_append]
    unfold Lib.indexByte at h ⊢
    by_cases hb : (b == c) = true
    · rw [if_pos hb, if_pos hb]
    · rw [if_neg hb] at h
      rw [if_neg hb, if_neg hb]
      by_cases h1 : (Lib.indexByte l c == -1) = true
      · rw [if_pos h1] at h
        omega
      · rw [if_neg h1] at h
        rw [indexByte_app c l r (by have := Lib.indexByte_ge l c; simp at h1; omega)]

theorem extract_more (s more : ByteArray) (i j : Nat) (h : j ≤ s.size) : (s ++ more).extract i j = s.extract i j := by
  apply ByteArray.ext
  apply Array.toList_inj.1
  rw [extract_data, extract_data, append_data, List.take_append_of_le_length (by exact h)]

theorem getD_more (s more : ByteArray) (j : Nat) (h : j < s.size) : (s ++ more).data.toList.getD j 0 = s.data.toList.getD j 0 := by
  rw [append_data]
  exact getD_left _ _ j h

/-- What is said of an answer of wire.Next. -/
def TakenOk (s : ByteArray) (X : NextR) : Prop :=
  (X.n = 0 → X.kind = 0) ∧ (X.n ≠ 0 → 0 ≤ X.n ∧ X.n ≤ s.size ∧ X.kind ≠ 0 ∧ (X.kind = 13 ∨ checkN X.kind X.key X.keys X.flags X.exp X.nn X.value X.quiet = 0))

theorem zero_ok (s : ByteArray) : TakenOk s zeroN := ⟨fun _ => rfl, fun h => absurd rfl h⟩
theorem bad_ok (s : ByteArray) (n : Nat) (h : n ≤ s.size) (h0 : 0 < n) : TakenOk s (badN (n : Int)) :=
  ⟨fun h1 => by simp [badN] at h1; omega, fun _ => ⟨by simp [badN], by simp [badN]; omega, by simp [badN], Or.inl rfl⟩⟩
theorem chk_ok (s : ByteArray) (kind : Int) (key : ByteArray) (keys : List ByteArray) (flags exp nn : Int) (value : ByteArray) (quiet : Bool) (n : Nat) (h : n ≤ s.size) (h0 : 0 < n) : TakenOk s (chkD kind key keys flags exp nn value quiet (n : Int)) := by
  unfold chkD
  by_cases hc : checkN kind key keys flags exp nn value quiet = 0
  · rw [if_pos hc]
    have f1 := (check_facts kind key keys flags exp nn value quiet hc).1
    refine ⟨fun h1 => ?_, fun _ => ⟨by simp, by simp; omega, ?_, Or.inr hc⟩⟩
    · simp at h1
      omega
    · unfold inB at f1
      simp at f1
      simp
      omega
  · rw [if_neg hc]
    exact bad_ok s n h h0

theorem next_taken (s : ByteArray) : TakenOk s (nextD s) := by
  unfold nextD
  by_cases h0 : Lib.indexByte s.data.toList 10 < 0
  · rw [if_pos h0]
    by_cases h1 : 300 < s.size
    · rw [if_pos h1]
      exact bad_ok s _ (Nat.le_refl _) (by omega)
    · rw [if_neg h1]
      exact zero_ok s
  rw [if_neg h0]
  have hlt := indexByte_lt s 10 h0
  generalize (Lib.indexByte s.data.toList 10).toNat = e at *
  by_cases h1 : 300 < e
  · rw [if_pos h1]
    exact bad_ok s (e + 1) hlt (by omega)
  rw [if_neg h1]
  unfold restD
  cases lineD (lineWs (s.extract 0 e)) with
  | none => exact bad_ok s (e + 1) hlt (by omega)
  | some R =>
    simp only
    by_cases h7 : inB R.kind 2 7 = true
    · rw [if_pos h7]
      unfold valD
      split
      · exact bad_ok s (e + 1) hlt (by omega)
      split
      · exact zero_ok s
      split
      · exact chk_ok s _ _ _ _ _ _ _ _ (e + 1 + R.size.toNat + 1) (by omega) (by omega)
      · exact bad_ok s (e + 1) hlt (by omega)
    · rw [if_neg h7]
      exact chk_ok s _ _ _ _ _ _ _ _ (e + 1) (by omega) (by omega)

theorem next_more (s more : ByteArray) (h0 : ¬ Lib.indexByte s.data.toList 10 < 0) (hn : (nextD s).n ≠ 0) : nextD (s ++ more) = nextD s := by
  have hx : Lib.indexByte (s ++ more).data.toList 10 = Lib.indexByte s.data.toList 10 := by
    rw [append_data]
    exact indexByte_app 10 _ _ h0
  revert hn
  unfold nextD
  rw [hx, if_neg h0, if_neg h0]
  have hlt := indexByte_lt s 10 h0
  generalize (Lib.indexByte s.data.toList 10).toNat = e at *
  by_cases h1 : 300 < e
  · rw [if_pos h1, if_pos h1]
    exact fun _ => rfl
  rw [if_neg h1, if_neg h1]
  unfold restD
  rw [extract_more s more 0 e (by omega)]
  cases lineD (lineWs (s.extract 0 e)) with
  | none => exact fun _ => rfl
  | some R =>
    simp only
    by_cases h7 : inB R.kind 2 7 = true
    · rw [if_pos h7, if_pos h7]
      unfold valD
      by_cases h2 : 200 < R.size.toNat
      · rw [if_pos h2, if_pos h2]
        exact fun _ => rfl
      rw [if_neg h2, if_neg h2]
      by_cases h3 : s.size ≤ e + 1 + R.size.toNat
      · rw [if_pos h3]
        exact fun h => absurd rfl h
      · have h4 : ¬ (s ++ more).size ≤ e + 1 + R.size.toNat := by rw [ByteArray.size_append]; omega
        rw [if_neg h3, if_neg h4, getD_more s more _ (by omega), extract_more s more _ _ (by omega)]
        exact fun _ => rfl
    · rw [if_neg h7, if_neg h7]
      exact fun _ => rfl
end Go.Proofs.YtkjfkonekajffaaDoor
