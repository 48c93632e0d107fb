/- What wire.Next reads out of what wire.Encode writes: the numbers, and the words of a line. -/
import Derived.Test.YtkjfkonekajffaaDoorNext3
import Derived.Test.YtkjfkonekajffaaDoorNumberOf
namespace Go.Proofs.YtkjfkonekajffaaDoor
open Go.ChangeShapes Go.WideShapes Go.ChangeAt Go.RowKit
set_option linter.unusedVariables false

theorem digE_cons (b : UInt8) (r : List UInt8) (acc : Int) : digE (b :: r) acc = if (b.toNat : Int) < 48 ∨ 57 < (b.toNat : Int) then none else digE r (acc * 10 + ((b.toNat : Int) - 48)) := rfl

theorem digE_append : ∀ (l r : List UInt8) (acc : Int), digE (l ++ r) acc = (digE l acc).bind (fun v => digE r v)
  | [], r, acc => rfl
  | b :: l, r, acc => by
    show digE (b :: (l ++ r)) acc = _
    rw [digE_cons, digE_cons]
    split
    · rfl
    · exact digE_append l r _

theorem digE_digit (d : Nat) (hd : d < 10) (acc : Int) : digE [UInt8.ofNat (48 + d)] acc = some (acc * 10 + d) := by
  have h : (UInt8.ofNat (48 + d)).toNat = 48 + d := by
    rw [UInt8.toNat_ofNat']
    omega
  unfold digE
  rw [h, if_neg (by omega)]
  unfold digE
  congr 1
  omega

theorem digE_dec : ∀ (u : Nat), digE (Lib.decDigits u) 0 = some (u : Int) := by
  intro u
  induction u using Nat.strongRecOn with
  | _ u ih =>
    rw [Lib.decDigits]
    split
    · rename_i h
      rw [digE_digit u h]
      congr 1
      omega
    · rename_i h
      rw [digE_append, ih (u / 10) (by omega)]
      show digE [UInt8.ofNat (48 + u % 10)] ((u / 10 : Nat) : Int) = _
      rw [digE_digit (u % 10) (by omega)]
      congr 1
      omega

theorem dec_pos (u : Nat) : 0 < (Lib.decDigits u).length := by
  rw [Lib.decDigits]
  split <;> simp

theorem dec_head : ∀ (u : Nat), 1 ≤ u → (Lib.decDigits u).getD 0 0 ≠ 48 := by
  intro u
  induction u using Nat.strongRecOn with
  | _ u ih =>
    intro h1
    rw [Lib.decDigits]
    split
    · rename_i h
      intro e
      have e2 : UInt8.ofNat (48 + u) = 48 := e
      have := congrArg UInt8.toNat e2
      rw [UInt8.toNat_ofNat'] at this
      have h48 : (48 : UInt8).toNat = 48 := rfl
      omega
    · rename_i h
      have hp := dec_pos (u / 10)
      rw [List.getD_eq_getElem?_getD, List.getElem?_append_left hp, ← List.getD_eq_getElem?_getD]
      exact ih (u / 10) (by omega) (by omega)

theorem dec_least (u : Nat) (h : 1 < (Lib.decDigits u).length) : 1 ≤ u := by
  rcases Nat.eq_zero_or_pos u with rfl | h0
  · rw [Lib.decDigits] at h
    simp at h
  · exact h0

/-- A number is read as it was written. -/
theorem numD_dec (n : Int) (h0 : 0 ≤ n) (h1 : n ≤ 1099511627776) : numD (decS n) = some n := by
  rw [decS_nat n h0]
  have hsz : (⟨(Lib.decDigits n.toNat).toArray⟩ : ByteArray).size = (Lib.decDigits n.toNat).length := rfl
  have hd : (⟨(Lib.decDigits n.toNat).toArray⟩ : ByteArray).data.toList = Lib.decDigits n.toNat := rfl
  have hp := dec_pos n.toNat
  unfold numD
  rw [hsz, hd, if_neg (by omega), if_neg (fun h => dec_head n.toNat (dec_least _ h.2) h.1), digitsV_eq _ 0 (by omega) (by omega), digE_dec]
  simp only [capM]
  rw [if_neg (by omega)]
  congr 1
  omega

/-- No digit of a number is a blank. -/
theorem dec_bytes : ∀ (u : Nat), ∀ b ∈ Lib.decDigits u, b ≠ 32 ∧ b ≠ 10 := by
  intro u
  induction u using Nat.strongRecOn with
  | _ u ih =>
    intro b hb
    have key : ∀ d, d < 10 → UInt8.ofNat (48 + d) ≠ 32 ∧ UInt8.ofNat (48 + d) ≠ 10 := by
      intro d hd
      have : d = 0 ∨ d = 1 ∨ d = 2 ∨ d = 3 ∨ d = 4 ∨ d = 5 ∨ d = 6 ∨ d = 7 ∨ d = 8 ∨ d = 9 := by omega
      rcases this with rfl | rfl | rfl | rfl | rfl | rfl | rfl | rfl | rfl | rfl <;> decide
    rw [Lib.decDigits] at hb
    split at hb
    · rename_i h
      rw [List.mem_singleton] at hb
      rw [hb]
      exact key u h
    · rename_i h
      rw [List.mem_append] at hb
      rcases hb with hb | hb
      · exact ih (u / 10) (by omega) b hb
      · rw [List.mem_singleton] at hb
        rw [hb]
        exact key (u % 10) (by omega)

theorem splitP_word (c : UInt8) : ∀ (x r : List UInt8), (∀ b ∈ x, b ≠ c) → splitP c (x ++ c :: r) = x :: splitP c r
  | [], r, h => by
    show splitP c (c :: r) = _
    rw [splitP, if_pos rfl]
  | b :: x, r, h => by
    show splitP c (b :: (x ++ c :: r)) = _
    rw [splitP, if_neg (h b (by simp)), splitP_word c x r (fun y hy => h y (by simp [hy]))]

theorem splitP_last (c : UInt8) : ∀ (x : List UInt8), (∀ b ∈ x, b ≠ c) → splitP c x = [x]
  | [], h => rfl
  | b :: x, h => by
    rw [splitP, if_neg (h b (by simp)), splitP_last c x (fun y hy => h y (by simp [hy]))]

/-- Words that hold no blank come back out of their line. -/
theorem splitP_join (c : UInt8) : ∀ (x : List UInt8) (r : List (List UInt8)), (∀ y ∈ x :: r, ∀ b ∈ y, b ≠ c) → splitP c (x ++ Lib.joinTail [c] r) = x :: r
  | x, [], h => by
    show splitP c (x ++ []) = _
    rw [List.append_nil]
    exact splitP_last c x (h x (by simp))
  | x, y :: r, h => by
    have e : Lib.joinTail [c] (y :: r) = c :: (y ++ Lib.joinTail [c] r) := by
      unfold Lib.joinTail
      simp
    rw [e, splitP_word c x _ (h x (by simp)), splitP_join c y r (fun z hz => h z (by simp at hz ⊢; exact Or.inr hz))]
end Go.Proofs.YtkjfkonekajffaaDoor
