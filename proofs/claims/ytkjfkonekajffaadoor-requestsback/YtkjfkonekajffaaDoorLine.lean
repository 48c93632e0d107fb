/- What a line says, as a plain function on its words; words as strings.Split cuts them. -/
import Derived.Test.YtkjfkonekajffaaDoorKindof
import Derived.Test.YtkjfkonekajffaaDoorNumbers
import Derived.Lib.SplitLaws
import Derived.Lib.IndexBytes
namespace Go.Proofs.YtkjfkonekajffaaDoor
open Go.ChangeShapes Go.WideShapes Go.ChangeAt Go.RowKit
set_option linter.unusedVariables false

/-- Bytes cut at each byte c. -/
def splitP (c : UInt8) : List UInt8 → List (List UInt8)
  | [] => [[]]
  | b :: r => if b = c then [] :: splitP c r else match splitP c r with
    | [] => [[b]]
    | x :: xs => (b :: x) :: xs

theorem split_nil (c : UInt8) : Lib.split [] [c] = [[]] := by
  unfold Lib.split
  rw [Lib.count_one]
  rfl

theorem split_cons_eq (c : UInt8) (l : List UInt8) : Lib.split (c :: l) [c] = [] :: Lib.split l [c] := by
  unfold Lib.split
  rw [Lib.count_cons_eq, Nat.add_comm 1, Lib.splitK]
  have h : Lib.index (c :: l) [c] = 0 := by rw [Lib.index_one]; unfold Lib.indexByte; simp
  rw [h]
  simp

theorem split_cons_ne (b c : UInt8) (l : List UInt8) (h : b ≠ c) : Lib.split (b :: l) [c] = match Lib.split l [c] with
    | [] => [[b]]
    | x :: xs => (b :: x) :: xs := by
  unfold Lib.split
  rw [Lib.count_cons_ne b c l h]
  cases hk : Lib.count l [c] with
  | zero => rfl
  | succ k =>
    have h1 : Lib.index (b :: l) [c] = if Lib.index l [c] == -1 then -1 else Lib.index l [c] + 1 := by
      rw [Lib.index_one, Lib.index_one]
      conv => lhs; unfold Lib.indexByte
      rw [if_neg (by simpa using h)]
    have h2 : ¬ (Lib.index l [c] == -1) = true := by
      intro hh
      have := Lib.count_miss (beq_iff_eq.1 hh)
      omega
    have h3 := Lib.index_ge l [c]
    have h4 : Lib.index l [c] ≠ -1 := fun e => h2 (beq_iff_eq.2 e)
    rw [if_neg h2] at h1
    rw [Lib.splitK, Lib.splitK, h1, if_neg h2, if_neg (by intro e; have := beq_iff_eq.1 e; omega)]
    rw [show (Lib.index l [c] + 1).toNat = (Lib.index l [c]).toNat + 1 by omega]
    simp

theorem split_eq (c : UInt8) : ∀ l : List UInt8, Lib.split l [c] = splitP c l
  | [] => split_nil c
  | b :: r => by
    unfold splitP
    by_cases h : b = c
    · subst h
      rw [if_pos rfl, split_cons_eq, split_eq b r]
    · rw [if_neg h, split_cons_ne b c r h, split_eq c r]

/-- The words of a line. -/
def lineWs (s : ByteArray) : List ByteArray := Lib.splitB blankS 0 (Lib.countB s blankS) s

theorem lineWs_data (s : ByteArray) : (lineWs s).map (·.data.toList) = splitP 32 s.data.toList := by
  unfold lineWs
  rw [Lib.splitB_data]
  exact split_eq 32 s.data.toList

theorem lineWs_length (s : ByteArray) : (lineWs s).length = Lib.countB s blankS + 1 :=
  Lib.splitB_all blankS (Nat.le_refl 1) 0 _ s rfl

theorem splitP_sizes (c : UInt8) : ∀ (l : List UInt8), (splitP c l).length ≤ l.length + 1 ∧ ∀ x ∈ splitP c l, x.length ≤ l.length
  | [] => by simp [splitP]
  | b :: r => by
    obtain ⟨h1, h2⟩ := splitP_sizes c r
    unfold splitP
    split
    · refine ⟨by simp; omega, ?_⟩
      intro x hx
      simp at hx
      rcases hx with rfl | hx
      · simp
      · have := h2 x hx; simp; omega
    · cases hs : splitP c r with
      | nil => simp
      | cons y ys =>
        rw [hs] at h1 h2
        refine ⟨by simp at h1 ⊢; omega, ?_⟩
        intro x hx
        simp at hx
        rcases hx with rfl | hx
        · have := h2 y (by simp); simp; omega
        · have := h2 x (by simp [hx]); simp; omega

theorem lineWs_sizes (s : ByteArray) : (lineWs s).length ≤ s.size + 1 ∧ ∀ x ∈ lineWs s, x.size ≤ s.size := by
  obtain ⟨h1, h2⟩ := splitP_sizes 32 s.data.toList
  rw [← lineWs_data] at h1 h2
  refine ⟨by simpa using h1, fun x hx => ?_⟩
  exact h2 x.data.toList (List.mem_map.2 ⟨x, hx, rfl⟩)

/-- What a line says. -/
structure LineR where
  kind : Int
  key : ByteArray
  keys : List ByteArray
  flags : Int
  exp : Int
  nn : Int
  quiet : Bool
  size : Int

/-- Numbers behind a line's key, by its kind. -/
def fillD (k : Int) (key : ByteArray) (q : Bool) (vs : List Int) : LineR :=
  if inB k 2 7 = true then { kind := k, key := key, keys := [], flags := vs.getD 0 0, exp := vs.getD 1 0, nn := (if k = 7 then vs.getD 3 0 else 0), quiet := q, size := vs.getD 2 0 }
  else if k = 11 then { kind := k, key := key, keys := [], flags := 0, exp := vs.getD 0 0, nn := 0, quiet := q, size := 0 }
  else { kind := k, key := key, keys := [], flags := 0, exp := 0, nn := (if hasNB k = true then vs.getD 0 0 else 0), quiet := q, size := 0 }

def mustN (k : Nat) : Nat := (behindL.getD k 0).toNat
def lineQ (k : Nat) (t : List ByteArray) : Bool := decide (t.length = mustN k + 1) && decide (t.getD (mustN k) ByteArray.empty = quietS)
def lineU (k : Nat) (t : List ByteArray) : List ByteArray := if lineQ k t = true then t.take (mustN k) else t

def lineRest (k : Nat) (t : List ByteArray) : Option LineR :=
  if (lineU k t).length = mustN k then
    (match numsD (if inB k 2 11 = true then (lineU k t).tail else lineU k t) with
      | none => none
      | some vs => some (fillD k (if inB k 2 11 = true then (lineU k t).getD 0 ByteArray.empty else ByteArray.empty) (lineQ k t) vs))
  else none

def lineD (ws : List ByteArray) : Option LineR :=
  if kindD (ws.getD 0 ByteArray.empty) = 0 then none
  else if kindD (ws.getD 0 ByteArray.empty) = 1 then some { kind := 1, key := ByteArray.empty, keys := ws.tail, flags := 0, exp := 0, nn := 0, quiet := false, size := 0 }
  else lineRest (kindD (ws.getD 0 ByteArray.empty)) ws.tail
end Go.Proofs.YtkjfkonekajffaaDoor
