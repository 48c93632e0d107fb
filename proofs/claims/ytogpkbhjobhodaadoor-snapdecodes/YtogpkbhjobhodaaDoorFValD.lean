/- The values in the bytes of a page, each with the place where it begins. -/
import Derived.Test.YtogpkbhjobhodaaDoorFRec
namespace Go.Proofs.YtogpkbhjobhodaaDoor
open Go.ChangeShapes Go.WideShapes Go.ChangeAt Go.RowKit
set_option linter.unusedVariables false

def valsF : Nat → Nat → List UInt8 → List (Int × ByteArray)
  | 0, _, _ => []
  | f + 1, k, m => if recN m = 0 then [] else ((k : Int), strB ((m.take (recN m)).drop 3)) :: valsF f (k + recN m) (m.drop (recN m))
def valsAt (k : Nat) (m : List UInt8) : List (Int × ByteArray) := valsF m.length k m

theorem recN_nil (m : List UInt8) (h : m.length = 0) : recN m = 0 := by
  unfold recN
  rw [if_pos (Or.inl (by omega))]

theorem valsF_more : ∀ (f k : Nat) (m : List UInt8), m.length ≤ f → valsF f k m = valsF (f + 1) k m
  | 0, k, m, h => by
    rw [valsF, valsF, if_pos (recN_nil m (by omega))]
  | f + 1, k, m, h => by
    rw [valsF, valsF]
    by_cases h1 : recN m = 0
    · rw [if_pos h1, if_pos h1]
    · rw [if_neg h1, if_neg h1, valsF_more f _ (m.drop (recN m)) (by rw [List.length_drop]; omega)]
theorem valsF_enough (k : Nat) (m : List UInt8) : ∀ (j : Nat), valsF (m.length + j) k m = valsAt k m
  | 0 => rfl
  | j + 1 => by rw [← valsF_enough k m j]; exact (valsF_more (m.length + j) k m (by omega)).symm
theorem valsAt_none (k : Nat) (m : List UInt8) (h : recN m = 0) : valsAt k m = [] := by
  unfold valsAt
  cases hl : m.length with
  | zero => rfl
  | succ f => rw [valsF, if_pos h]
theorem valsAt_step (k : Nat) (m : List UInt8) (h : recN m ≠ 0) : valsAt k m = ((k : Int), strB ((m.take (recN m)).drop 3)) :: valsAt (k + recN m) (m.drop (recN m)) := by
  have hn : m.length ≠ 0 := fun h0 => h (recN_nil m h0)
  obtain ⟨f, hf⟩ : ∃ f, m.length = f + 1 := ⟨m.length - 1, by omega⟩
  have e : valsAt k m = valsF (f + 1) k m := by unfold valsAt; rw [hf]
  rw [e, valsF, if_neg h]
  congr 1
  obtain ⟨j, hj⟩ : ∃ j, f = (m.drop (recN m)).length + j := ⟨f - (m.drop (recN m)).length, by rw [List.length_drop]; omega⟩
  rw [hj]
  exact valsF_enough _ _ j

theorem valsF_ge : ∀ (f k : Nat) (m : List UInt8), ∀ x ∈ valsF f k m, (k : Int) ≤ x.1
  | 0, _, _, x, hx => by simp [valsF] at hx
  | f + 1, k, m, x, hx => by
    rw [valsF] at hx
    split at hx
    · simp at hx
    · rcases List.mem_cons.1 hx with rfl | hx
      · exact Int.le_refl _
      · have := valsF_ge f _ _ x hx
        omega

/-- The value at a place. -/
def valO (vs : List (Int × ByteArray)) (p : Int) : Option ByteArray := (vs.find? fun x => x.1 == p).map (·.2)

theorem valO_below (k : Nat) (m : List UInt8) (p : Int) (h : p < k) : valO (valsAt k m) p = none := by
  unfold valO
  rw [List.find?_eq_none.2]
  · rfl
  · intro x hx
    have := valsF_ge _ _ _ x hx
    simp
    omega
theorem valO_here (k : Nat) (m : List UInt8) (h : recN m ≠ 0) : valO (valsAt k m) k = some (strB ((m.take (recN m)).drop 3)) := by
  rw [valsAt_step k m h]
  simp [valO]
theorem valO_next (k : Nat) (m : List UInt8) (p : Int) (h : recN m ≠ 0) (hp : (k : Int) ≠ p) : valO (valsAt k m) p = valO (valsAt (k + recN m) (m.drop (recN m))) p := by
  rw [valsAt_step k m h]
  unfold valO
  rw [List.find?_cons_of_neg (by simp [hp])]
theorem valO_none (k : Nat) (m : List UInt8) (p : Int) (h : recN m = 0) : valO (valsAt k m) p = none := by
  rw [valsAt_none k m h]
  rfl
theorem recN_three (m : List UInt8) (h : recN m ≠ 0) : 3 ≤ recN m := by
  unfold recN at h ⊢
  split
  · next h2 => rw [if_pos h2] at h; exact absurd rfl h
  · omega
end Go.Proofs.YtogpkbhjobhodaaDoor
