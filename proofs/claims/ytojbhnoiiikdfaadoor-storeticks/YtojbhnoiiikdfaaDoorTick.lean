/- What both Tick and TickedOf answer; the sizes of a store that may be. -/
import Derived.Test.YtojbhnoiiikdfaaDoorSCopyW
import Derived.Test.YtojbhnoiiikdfaaDoorSChk6
namespace Go.Proofs.YtojbhnoiiikdfaaDoor
open Go.ChangeShapes Go.WideShapes Go.ChangeAt Go.RowKit
set_option linter.unusedVariables false
set_option linter.unusedSimpArgs false

def zeroS : StoreR := ⟨0, 0, 0, 0, 0, 0, 0, 0, [], 0, 0, []⟩
def tickOk (s : StoreR) (n : Int) : Bool := inB n 0 1000 && decide (s.clock + n ≤ 1099511627776)
def tickN (s : StoreR) (n : Int) : Int := if storeB s = true then (if tickOk s n = true then 0 else 2) else 8
def tickS (s : StoreR) (n : Int) : StoreR := if storeB s = true then (if tickOk s n = true then { s with clock := s.clock + n } else zeroS) else zeroS
def TickPost (s : StoreR) (n : Int) (w : World) (e : Ending) (w' : World) : Prop := ∃ ia ic pa pc, e = .returned (.tuple #[storeV (tickS s n) ia ic pa pc, .int .i64 (tickN s n)]) ∧ StoreFrom w.heap.size w' (tickS s n) ia pa ∧ Below w.heap.size w w'

theorem zero_from (n : Nat) (w : World) : StoreFrom n w zeroS none none := fun w' _ _ => ⟨items_none _ _, pages_none _ _⟩

theorem pagesF_len : ∀ (ps : List PageR) (x : Int), pagesF x ps = true → ∀ j, j < ps.length → (ps.getD j default).bs.length ≤ 256
  | [], _, _, j, hj => absurd hj (Nat.not_lt_zero _)
  | p :: r, x, h, 0, _ => by
    unfold pagesF bytesB at h
    simp [Bool.and_eq_true] at h
    simpa using h.2.1.2.1
  | p :: r, x, h, j + 1, hj => by
    unfold pagesF at h
    simp only [Bool.and_eq_true] at h
    have := pagesF_len r (x + 1) h.2.2 j (by simpa using hj)
    simpa using this

structure Sizes (s : StoreR) : Prop where
  items : s.items.length ≤ 1000
  texts : ∀ j, j < s.items.length → (s.items.getD j default).key.size ≤ 281474976710656 ∧ (s.items.getD j default).value.size ≤ 281474976710656
  pages : s.pages.length ≤ 20
  bytes : ∀ j, j < s.pages.length → (s.pages.getD j default).bs.length ≤ 140737488351232
  clock : 0 ≤ s.clock ∧ s.clock ≤ 1099511627776

theorem sizes_of (s : StoreR) (h : storeB s = true) : Sizes s := by
  unfold storeB at h
  simp only [Bool.and_eq_true] at h
  obtain ⟨h1, h2, h3, h4, h5⟩ := h
  obtain ⟨hi, hj⟩ := items_each h4
  unfold mayB boundsB pagesB at h3
  simp only [Bool.and_eq_true, decide_eq_true_eq, inB_iff] at h3
  unfold countsB at h1
  simp only [Bool.and_eq_true, inB_iff] at h1
  refine ⟨hi, fun j hjl => ?_, by omega, fun j hjl => Nat.le_trans (pagesF_len _ _ h3.2.2 j hjl) (by omega), h1.1⟩
  have ho := hj j hjl
  unfold okAt fieldsB keyB at ho
  simp only [Bool.and_eq_true, inB_iff] at ho
  refine ⟨by omega, ?_⟩
  have hv := ho.2.2
  unfold valueB at hv
  split at hv
  · simp only [Bool.and_eq_true] at hv
    have he : (s.items.getD j default).value.toList = [] := by simpa using hv.1
    have : (s.items.getD j default).value.size = 0 := by
      rw [ByteArray.size, ← Array.length_toList]
      rw [ByteArray.toList_eq] at he
      rw [he]; rfl
    omega
  · simp only [Bool.and_eq_true, decide_eq_true_eq] at hv
    omega
end Go.Proofs.YtojbhnoiiikdfaaDoor
