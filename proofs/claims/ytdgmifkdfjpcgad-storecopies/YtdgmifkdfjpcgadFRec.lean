/- The contracts of package record, over the list of bytes. -/
import Derived.Test.YtdgmifkdfjpcgadFPages
import Derived.Laws.BitsLemmas
namespace Go.Proofs.Ytdgmifkdfjpcgad
open Go.ChangeShapes Go.WideShapes Go.ChangeAt Go.RowKit
set_option linter.unusedVariables false
set_option linter.unusedSimpArgs false

def sumF (l : List UInt8) (n : Int) : Int := l.foldl (fun n c => (31 * n + (c.toNat : Int)) % 65521) n

theorem sumF_range (l : List UInt8) : ∀ n : Int, 0 ≤ n → n < 65521 → 0 ≤ sumF l n ∧ sumF l n < 65521 := by
  induction l with
  | nil => intro n h0 h1; exact ⟨h0, h1⟩
  | cons c r ih =>
    intro n h0 h1
    exact ih _ (Int.emod_nonneg _ (by decide)) (Int.emod_lt_of_pos _ (by decide))

theorem sumF_take (l : List UInt8) (k : Nat) (hk : k < l.length) (n : Int) : sumF (l.take (k + 1)) n = (31 * sumF (l.take k) n + ((l.getD k 0).toNat : Int)) % 65521 := by
  have h : l.take (k + 1) = l.take k ++ [l.getD k 0] := by
    rw [List.take_add_one, List.getElem?_eq_getElem hk, List.getD_eq_getElem?_getD, List.getElem?_eq_getElem hk]
    rfl
  rw [h]
  unfold sumF
  rw [List.foldl_append]
  rfl

/-- How many bytes the record has with which bytes begin; 0: they are too few, or its value is too long. -/
def recN (l : List UInt8) : Nat := if l.length < 3 ∨ 200 < (l.getD 0 0).toNat ∨ l.length < 3 + (l.getD 0 0).toNat then 0 else 3 + (l.getD 0 0).toNat

theorem recN_le (l : List UInt8) : recN l ≤ l.length := by
  unfold recN
  split
  · exact Nat.zero_le _
  · omega

def sumOk (l : List UInt8) : Bool := decide (((l.getD 1 0).toNat : Int) * 256 + ((l.getD 2 0).toNat : Int) = sumF (l.drop 3) 7)

theorem bytes_drop {w : World} {b o : Nat} {l : List UInt8} (hc : ∀ j, j < l.length → w.cell? ⟨b, o + j, none⟩ = some (.int .u8 ((l.getD j 0).toNat : Int))) (hlt : b < w.heap.size) (hmax : l.length ≤ maxLen) (n : Nat) (a : Option Addr) (ha : n < l.length → a = some ⟨b, o + n, none⟩) : BytesAt w a (l.drop n) := by
  refine ⟨by rw [List.length_drop]; omega, ?_⟩
  by_cases h : n < l.length
  · refine Or.inr ⟨b, o + n, ha h, hlt, fun j hj => ?_⟩
    rw [List.length_drop] at hj
    have := hc (n + j) (by omega)
    rw [← Nat.add_assoc] at this
    rw [this, List.getD_eq_getElem?_getD, List.getD_eq_getElem?_getD, List.getElem?_drop]
  · exact Or.inl (by rw [List.length_drop]; omega)

/-- Are these bytes all of them records? -/
def recsF : Nat → List UInt8 → Bool
  | 0, l => decide (l.length = 0)
  | f + 1, l => if l.length = 0 then true else if recN l = 0 then false else sumOk (l.take (recN l)) && recsF f (l.drop (recN l))
def recsB (l : List UInt8) : Bool := recsF l.length l

theorem recsF_more : ∀ (f : Nat) (l : List UInt8), l.length ≤ f → recsF f l = recsF (f + 1) l
  | 0, l, h => by
    have h0 : l.length = 0 := by omega
    unfold recsF
    simp [h0]
  | f + 1, l, h => by
    rw [recsF, recsF]
    by_cases h0 : l.length = 0
    · rw [if_pos h0, if_pos h0]
    · rw [if_neg h0, if_neg h0]
      by_cases h1 : recN l = 0
      · rw [if_pos h1, if_pos h1]
      · rw [if_neg h1, if_neg h1, recsF_more f (l.drop (recN l)) (by rw [List.length_drop]; omega)]
theorem recsF_enough (l : List UInt8) : ∀ (k : Nat), recsF (l.length + k) l = recsB l
  | 0 => rfl
  | k + 1 => by rw [← recsF_enough l k]; exact (recsF_more (l.length + k) l (by omega)).symm
theorem recsB_nil (l : List UInt8) (h : l.length = 0) : recsB l = true := by
  unfold recsB
  rw [h]
  simp [recsF, h]
theorem recsB_step (l : List UInt8) (h : l.length ≠ 0) : recsB l = if recN l = 0 then false else sumOk (l.take (recN l)) && recsB (l.drop (recN l)) := by
  obtain ⟨f, hf⟩ : ∃ f, l.length = f + 1 := ⟨l.length - 1, by omega⟩
  have e : recsB l = recsF (f + 1) l := by unfold recsB; rw [hf]
  rw [e, recsF, if_neg h]
  by_cases h1 : recN l = 0
  · rw [if_pos h1, if_pos h1]
  · rw [if_neg h1, if_neg h1]
    congr 1
    obtain ⟨k, hk⟩ : ∃ k, f = (l.drop (recN l)).length + k := ⟨f - (l.drop (recN l)).length, by rw [List.length_drop]; omega⟩
    rw [hk]
    exact recsF_enough _ k

theorem bytes_take {w : World} {a : Option Addr} {l : List UInt8} (h : BytesAt w a l) (n : Nat) (hn : n ≤ l.length) : BytesAt w a (l.take n) := by
  obtain ⟨h1, h2⟩ := h
  have hl : (l.take n).length = n := by rw [List.length_take]; omega
  refine ⟨by omega, ?_⟩
  rw [hl]
  by_cases h0 : n = 0
  · exact Or.inl h0
  rcases h2 with h2 | ⟨b, o, h3, h4, h5⟩
  · omega
  · refine Or.inr ⟨b, o, h3, h4, fun j hj => ?_⟩
    rw [h5 j (by omega), List.getD_eq_getElem?_getD, List.getD_eq_getElem?_getD, List.getElem?_take_of_lt hj]

def lenOf : Value → Nat
  | .slice _ n _ => n
  | _ => 0

/-- What slot 0 holds while the records are seen. -/
def AllR (l : List UInt8) (w : World) (v : Value) (wr : World) : Prop :=
  ∃ (m : List UInt8) (a : Option Addr) (c : Nat), v = .slice a m.length c ∧ BytesAt wr a m ∧ m.length ≤ c ∧ c ≤ maxLen ∧ recsB l = recsB m ∧ ∃ q, wr = w.drewN q

theorem drewN_two (w : World) (p q : Nat) : (w.drewN p).drewN q = w.drewN (p + q) := World.drewN_drewN w p q

def bytesB (l : List UInt8) : Bool := decide (1 ≤ l.length) && (decide (l.length ≤ 256) && recsB l)

end Go.Proofs.Ytdgmifkdfjpcgad
