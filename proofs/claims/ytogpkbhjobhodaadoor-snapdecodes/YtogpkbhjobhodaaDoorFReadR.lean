/- The contracts of flash.Read and of dovecoteref.FlashRead: the same answers. -/
import Derived.Test.YtogpkbhjobhodaaDoorFFind
import Derived.Test.YtogpkbhjobhodaaDoorFMay
import Derived.Test.YtogpkbhjobhodaaDoorFVals
namespace Go.Proofs.YtogpkbhjobhodaaDoor
open Go.ChangeShapes Go.WideShapes Go.ChangeAt Go.RowKit
set_option linter.unusedVariables false
set_option linter.unusedSimpArgs false

def readS (m x : Int) (ps : List PageR) (n p : Int) : ByteArray := if mayB m x ps = true then findS ps n p else ⟨#[]⟩
def readN (m x : Int) (ps : List PageR) (n p : Int) : Int := if mayB m x ps = true then findN ps n p else 8

theorem pagesF_each : ∀ (ps : List PageR) (f : Int), pagesF f ps = true → ∀ j, j < ps.length → bytesB (ps.getD j default).bs = true
  | [], _, _, j, hj => by simp at hj
  | p :: r, f, h, j, hj => by
    unfold pagesF at h
    simp only [Bool.and_eq_true] at h
    match j, hj with
    | 0, _ => exact h.2.1
    | j + 1, hj => exact pagesF_each r (f + 1) h.2.2 j (by simpa using hj)

theorem may_bytes {m x : Int} {ps : List PageR} (h : mayB m x ps = true) : ∀ j, j < ps.length → 1 ≤ (ps.getD j default).bs.length ∧ (ps.getD j default).bs.length ≤ 256 ∧ recsB (ps.getD j default).bs = true := by
  intro j hj
  unfold mayB pagesB at h
  simp only [Bool.and_eq_true] at h
  have := pagesF_each ps _ h.2.2 j hj
  unfold bytesB at this
  simp only [Bool.and_eq_true, decide_eq_true_eq] at this
  exact ⟨this.1, this.2.1, this.2.2⟩

theorem pageI_here {ps : List PageR} {n : Int} {k : Nat} (hlt : k < ps.length) (A : k ≤ pageI ps n) (hq : (ps.getD k default).num = n) : pageI ps n = k := by
  have hgk : ps[k] = ps.getD k default := by rw [List.getD_eq_getElem?_getD, List.getElem?_eq_getElem hlt]; rfl
  unfold pageI
  have := List.findIdx_eq hlt (p := fun p : PageR => p.num == n)
  refine this.2 ⟨by rw [hgk]; exact beq_iff_eq.2 hq, fun j hj => ?_⟩
  have := List.not_of_lt_findIdx (p := fun p : PageR => p.num == n) (xs := ps) (i := j) (Nat.lt_of_lt_of_le hj A)
  simpa using this

theorem pageI_next {ps : List PageR} {n : Int} {k : Nat} (hlt : k < ps.length) (A : k ≤ pageI ps n) (hq : (ps.getD k default).num ≠ n) : k + 1 ≤ pageI ps n := by
  have hgk : ps[k] = ps.getD k default := by rw [List.getD_eq_getElem?_getD, List.getElem?_eq_getElem hlt]; rfl
  rcases Nat.lt_or_ge k (pageI ps n) with h | h
  · exact h
  · have e : pageI ps n = k := Nat.le_antisymm h A
    have := List.findIdx_getElem (p := fun p : PageR => p.num == n) (xs := ps) (w := by show pageI ps n < _; omega)
    have e2 : ps[List.findIdx (fun p : PageR => p.num == n) ps]'(by show pageI ps n < _; omega) = ps[k] := by congr 1
    rw [e2, hgk] at this
    simp at this
    exact absurd this hq

theorem valO_cons (o : Int) (v : ByteArray) (r : List (Int × ByteArray)) (p : Int) : valO ((o, v) :: r) p = if o = p then some v else valO r p := by
  unfold valO
  by_cases h : o = p
  · rw [if_pos h, List.find?_cons_of_pos (by simp [h])]
    rfl
  · rw [if_neg h, List.find?_cons_of_neg (by simp [h])]

theorem valO_hit (p : Int) : ∀ (os : List Int) (vs : List ByteArray) (k : Nat), k < os.length → vs.length = os.length → (∀ j, j < k → os.getD j 0 ≠ p) → os.getD k 0 = p → valO (os.zip vs) p = some (vs.getD k ByteArray.empty)
  | [], _, _, h, _, _, _ => by simp at h
  | _ :: _, [], _, _, h, _, _ => by simp at h
  | o :: os, v :: vs, 0, _, _, _, h => by
    rw [List.zip_cons_cons, valO_cons, if_pos (by simpa using h)]
    rfl
  | o :: os, v :: vs, k + 1, h1, h2, h3, h4 => by
    have h0 : o ≠ p := by simpa using h3 0 (by omega)
    rw [List.zip_cons_cons, valO_cons, if_neg h0]
    exact valO_hit p os vs k (by simpa using h1) (by simpa using h2) (fun j hj => by simpa using h3 (j + 1) (by omega)) (by simpa using h4)

theorem valO_miss (p : Int) : ∀ (os : List Int) (vs : List ByteArray), vs.length = os.length → (∀ j, j < os.length → os.getD j 0 ≠ p) → valO (os.zip vs) p = none
  | [], _, _, _ => by simp [valO]
  | _ :: _, [], h, _ => by simp at h
  | o :: os, v :: vs, h2, h3 => by
    have h0 : o ≠ p := by simpa using h3 0 (by simp)
    rw [List.zip_cons_cons, valO_cons, if_neg h0]
    exact valO_miss p os vs (by simpa using h2) (fun j hj => by simpa using h3 (j + 1) (by simpa using hj))

theorem OwnS.form {W0 w : World} {v : Value} {l : List ByteArray} (h : OwnS W0 w v l) : ∃ a c, v = .slice a l.length c ∧ (l.length = 0 ∨ ∃ g, a = some ⟨g, 0, none⟩ ∧ ∀ j, j < l.length → w.cell? ⟨g, 0 + j, none⟩ = some (.string (l.getD j ByteArray.empty))) := by
  rcases h.1.2 with ⟨h0, h1⟩ | ⟨g, cap, cur, hv, hg, hc, _⟩
  · exact ⟨none, 0, by rw [h0, h1], Or.inl h1⟩
  · refine ⟨some ⟨g, 0, none⟩, cap, hv, Or.inr ⟨g, rfl, fun j hj => ?_⟩⟩
    have := h.1.cells (g := g) (by rw [hv]; rfl) j (.string (l.getD j ByteArray.empty)) (by rw [List.getElem?_map, List.getElem?_eq_getElem hj, List.getD_eq_getElem?_getD, List.getElem?_eq_getElem hj]; rfl)
    rw [WideShapes.add_plain] at this
    exact this
theorem OwnI.form {W0 w : World} {v : Value} {l : List Int} (h : OwnI W0 w v l) : ∃ a c, v = .slice a l.length c ∧ (l.length = 0 ∨ ∃ g, a = some ⟨g, 0, none⟩ ∧ ∀ j, j < l.length → w.cell? ⟨g, 0 + j, none⟩ = some (.int .i64 (l.getD j 0))) := by
  rcases h.1.2 with ⟨h0, h1⟩ | ⟨g, cap, cur, hv, hg, hc, _⟩
  · exact ⟨none, 0, by rw [h0, h1], Or.inl h1⟩
  · refine ⟨some ⟨g, 0, none⟩, cap, hv, Or.inr ⟨g, rfl, fun j hj => ?_⟩⟩
    have := h.1.cells (g := g) (by rw [hv]; rfl) j (.int .i64 (l.getD j 0)) (by rw [List.getElem?_map, List.getElem?_eq_getElem hj, List.getD_eq_getElem?_getD, List.getElem?_eq_getElem hj]; rfl)
    rw [WideShapes.add_plain] at this
    exact this
end Go.Proofs.YtogpkbhjobhodaaDoor
