/- The contracts of dovecoteref.numberOf and dovecoteref.numbersOf. -/
import Derived.Test.YtidkdkdibkapoabDoorNext3
namespace Go.Proofs.YtidkdkdibkapoabDoor
open Go.ChangeShapes Go.WideShapes Go.ChangeAt Go.RowKit
set_option linter.unusedVariables false

/-- The number that decimal digits are behind 'acc', of any size. -/
def digE : List UInt8 → Int → Option Int
  | [], acc => some acc
  | b :: r, acc => if (b.toNat : Int) < 48 ∨ 57 < (b.toNat : Int) then none else digE r (acc * 10 + ((b.toNat : Int) - 48))

theorem digE_ge : ∀ (l : List UInt8) (acc v : Int), 0 ≤ acc → digE l acc = some v → acc * 10 ^ l.length ≤ v
  | [], acc, v, h, hv => by simp only [digE, Option.some.injEq] at hv; simp [hv]
  | b :: r, acc, v, h, hv => by
    unfold digE at hv
    split at hv
    · cases hv
    · rename_i hb
      have := digE_ge r _ v (by omega) hv
      refine Int.le_trans ?_ this
      rw [List.length_cons, Int.pow_succ, ← Int.mul_assoc, Int.mul_right_comm]
      apply Int.mul_le_mul_of_nonneg_right
      · omega
      · exact Int.pow_nonneg (by decide)

theorem pow_pos10 (n : Nat) : (1 : Int) ≤ 10 ^ n := by
  have : (0 : Int) < 10 ^ n := Int.pow_pos (by decide)
  omega

theorem digE_mono (l : List UInt8) (acc v : Int) (h : 0 ≤ acc) (hv : digE l acc = some v) : acc ≤ v := by
  have h1 := digE_ge l acc v h hv
  have h2 : acc * 1 ≤ acc * 10 ^ l.length := Int.mul_le_mul_of_nonneg_left (pow_pos10 _) h
  omega

/-- At most 1099511627776, or none. -/
def capM (o : Option Int) : Option Int := match o with
  | none => none
  | some v => if 1099511627776 < v then none else some v

theorem digitsV_eq : ∀ (l : List UInt8) (acc : Int), 0 ≤ acc → acc ≤ 1099511627776 → digitsV l acc = capM (digE l acc)
  | [], acc, h1, h2 => by
    simp only [digitsV, digE, capM]
    rw [if_neg (by omega)]
  | b :: r, acc, h1, h2 => by
    unfold digitsV digE
    split
    · rfl
    · rename_i hb
      split
      · rename_i hg
        cases hd : digE r (acc * 10 + ((b.toNat : Int) - 48)) with
        | none => rfl
        | some v =>
          have := digE_mono r _ v (by omega) hd
          simp only [capM]
          rw [if_pos (by omega)]
      · exact digitsV_eq r _ (by omega) (by omega)

theorem long_none (s : ByteArray) (h : 13 < s.size) : numD s = none := by
  unfold numD
  rw [if_neg (by omega)]
  split
  · rfl
  · rename_i h0
    have hl : s.data.toList.length = s.size := rfl
    rw [digitsV_eq _ 0 (by omega) (by omega)]
    cases hd : s.data.toList with
    | nil => rw [hd] at hl; simp at hl; omega
    | cons b r =>
      rw [hd] at hl h0
      simp at hl
      have hb0 : b ≠ 48 := fun e => h0 ⟨by simpa using e, by omega⟩
      unfold digE
      split
      · rfl
      · rename_i hb
        cases hv : digE r (0 * 10 + ((b.toNat : Int) - 48)) with
        | none => rfl
        | some v =>
          have h1 := digE_ge r _ v (by omega) hv
          have hb1 : b.toNat ≠ 48 := fun e => hb0 (UInt8.toNat_inj.1 e)
          have h2 : (1 : Int) * 10 ^ r.length ≤ (0 * 10 + ((b.toNat : Int) - 48)) * 10 ^ r.length := Int.mul_le_mul_of_nonneg_right (by omega) (Int.pow_nonneg (by decide))
          have h3 : (10 : Int) ^ 13 ≤ 10 ^ r.length := by
            have : r.length = 13 + (r.length - 13) := by omega
            rw [this, Int.pow_add]
            have := Int.mul_le_mul_of_nonneg_left (pow_pos10 (r.length - 13)) (show (0 : Int) ≤ 10 ^ 13 by decide)
            omega
          have h4 : (10 : Int) ^ 13 = 10000000000000 := by decide
          simp only [capM]
          rw [if_pos (by omega)]

def numberN (s : ByteArray) : Int := match numD s with
  | none => -1
  | some v => v

theorem digE_step (s : ByteArray) (k : Nat) (hk : k < s.size) (acc : Int) : digE (s.data.toList.drop k) acc =
    if ((s.data.toList.getD k 0).toNat : Int) < 48 ∨ 57 < ((s.data.toList.getD k 0).toNat : Int) then none else digE (s.data.toList.drop (k + 1)) (acc * 10 + (((s.data.toList.getD k 0).toNat : Int) - 48)) := by
  have h : k < s.data.toList.length := by simpa using hk
  rw [List.drop_eq_getElem_cons h, List.getD_eq_getElem?_getD, List.getElem?_eq_getElem h]
  rfl

theorem pow_le13 (k : Nat) (h : k ≤ 13) : (10 : Int) ^ k ≤ 10000000000000 := by
  have : k = 0 ∨ k = 1 ∨ k = 2 ∨ k = 3 ∨ k = 4 ∨ k = 5 ∨ k = 6 ∨ k = 7 ∨ k = 8 ∨ k = 9 ∨ k = 10 ∨ k = 11 ∨ k = 12 ∨ k = 13 := by omega
  rcases this with rfl | rfl | rfl | rfl | rfl | rfl | rfl | rfl | rfl | rfl | rfl | rfl | rfl | rfl <;> decide

def nnumsN (k : Int) : Nat := if inB k 2 7 = true then (if k = 7 then 4 else 3) else if inB k 9 11 = true then 1 else 0

end Go.Proofs.YtidkdkdibkapoabDoor
