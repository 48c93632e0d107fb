/- The contract of dovecoteref.parted: the words of a line, in new memory. -/
import Derived.Test.YtidkdkdibkapoabDoorNext3
namespace Go.Proofs.YtidkdkdibkapoabDoor
open Go.ChangeShapes Go.WideShapes Go.ChangeAt Go.RowKit
set_option linter.unusedVariables false

/-- The pieces from byte f on, seen from byte i on. -/
def pcs (s : ByteArray) : Nat → Nat → Nat → List ByteArray
  | 0, f, i => [s.extract f i]
  | k + 1, f, i => if s.data.toList.getD i 0 = 32 then s.extract f i :: pcs s k (i + 1) (i + 1) else pcs s k f (i + 1)

theorem extract_data (s : ByteArray) (f i : Nat) : (s.extract f i).data.toList = (s.data.toList.take i).drop f := by
  rw [ByteArray.data_extract, Array.toList_extract, List.extract_eq_take_drop, List.drop_take]

theorem pcs_data (s : ByteArray) : ∀ (k f i : Nat), i + k = s.size → f ≤ i → ∃ x xs, splitP 32 (s.data.toList.drop i) = x :: xs ∧ (pcs s k f i).map (·.data.toList) = ((s.data.toList.take i).drop f ++ x) :: xs
  | 0, f, i, h, hf => by
    refine ⟨[], [], ?_, ?_⟩
    · rw [List.drop_eq_nil_of_le (show s.data.toList.length ≤ i from by show s.size ≤ i; omega)]
      rfl
    · simp only [pcs, List.map_cons, List.map_nil, List.append_nil]
      rw [extract_data]
  | k + 1, f, i, h, hf => by
    have hi : i < s.data.toList.length := by show i < s.size; omega
    have hd : s.data.toList.drop i = s.data.toList.getD i 0 :: s.data.toList.drop (i + 1) := by
      rw [List.drop_eq_getElem_cons hi, List.getD_eq_getElem?_getD, List.getElem?_eq_getElem hi]; rfl
    have ht : s.data.toList.take (i + 1) = s.data.toList.take i ++ [s.data.toList.getD i 0] := by
      rw [List.take_succ_eq_append_getElem hi, List.getD_eq_getElem?_getD, List.getElem?_eq_getElem hi]; rfl
    rw [hd]
    unfold splitP pcs
    by_cases hb : s.data.toList.getD i 0 = 32
    · obtain ⟨x, xs, h1, h2⟩ := pcs_data s k (i + 1) (i + 1) (by omega) (Nat.le_refl _)
      rw [if_pos hb, if_pos hb, h1]
      refine ⟨[], x :: xs, rfl, ?_⟩
      rw [List.map_cons, h2, extract_data, List.append_nil]
      rw [List.drop_eq_nil_of_le (show (s.data.toList.take (i + 1)).length ≤ i + 1 by rw [List.length_take]; omega)]
      rfl
    · obtain ⟨x, xs, h1, h2⟩ := pcs_data s k f (i + 1) (by omega) (by omega)
      rw [if_neg hb, if_neg hb, h1]
      refine ⟨_ :: x, xs, rfl, ?_⟩
      rw [h2, ht, List.drop_append_of_le_length (by simp; omega), List.append_assoc]
      rfl

theorem texts_inj (a b : List ByteArray) (h : a.map (·.data.toList) = b.map (·.data.toList)) : a = b := by
  apply List.map_inj_right (f := fun x : ByteArray => x.data.toList) ?_ |>.1 h
  intro x y hxy
  apply ByteArray.ext
  exact Array.toList_inj.1 hxy

theorem pcs_line (s : ByteArray) : pcs s s.size 0 0 = lineWs s := by
  apply texts_inj
  obtain ⟨x, xs, h1, h2⟩ := pcs_data s s.size 0 0 (by omega) (Nat.le_refl _)
  rw [h2, lineWs_data]
  rw [List.drop_zero] at h1
  rw [h1]
  simp

/-- What is still to come. -/
def pcsR (s : ByteArray) (f i : Nat) : List ByteArray := if i ≤ s.size then pcs s (s.size - i) f i else []

end Go.Proofs.YtidkdkdibkapoabDoor
