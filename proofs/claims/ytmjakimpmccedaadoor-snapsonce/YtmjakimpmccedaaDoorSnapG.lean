/- A store that may be has numbers that are not below 0. -/
import Derived.Test.YtmjakimpmccedaaDoorSnapE
import Derived.Test.YtmjakimpmccedaaDoorSChk6
namespace Go.Proofs.YtmjakimpmccedaaDoor
open Go.ChangeShapes Go.WideShapes Go.ChangeAt Go.RowKit
set_option linter.unusedVariables false
set_option linter.unusedSimpArgs false

theorem pagesF_num : ∀ (ps : List PageR) (x : Int), pagesF x ps = true → ∀ j, j < ps.length → (ps.getD j default).num = x + j
  | [], _, _, j, hj => absurd hj (Nat.not_lt_zero _)
  | p :: r, x, h, 0, _ => by
    unfold pagesF at h
    simp only [Bool.and_eq_true, decide_eq_true_eq] at h
    simpa using h.1
  | p :: r, x, h, j + 1, hj => by
    unfold pagesF at h
    simp only [Bool.and_eq_true] at h
    have := pagesF_num r (x + 1) h.2.2 j (by simpa using hj)
    simp only [List.getD_cons_succ]
    rw [this]
    omega

theorem pageI_num (ps : List PageR) (n : Int) (h : pageI ps n < ps.length) : (ps.getD (pageI ps n) default).num = n := by
  have := List.findIdx_getElem (xs := ps) (p := fun p : PageR => p.num == n) (w := h)
  rw [List.getD_eq_getElem?_getD, List.getElem?_eq_getElem h]
  exact eq_of_beq this

theorem far_place (m x : Int) (ps : List PageR) (n p : Int) (hm : mayB m x ps = true) (h : findN ps n p = 0) : (0 ≤ n ∧ n ≤ 1099511627776) ∧ 0 ≤ p := by
  unfold findN at h
  split at h
  · rename_i hi
    split at h
    · rename_i hs
      refine ⟨?_, ?_⟩
      · unfold mayB boundsB pagesB at hm
        simp only [Bool.and_eq_true, decide_eq_true_eq, inB_iff] at hm
        have h1 := pagesF_num ps _ hm.2.2 _ hi
        have h2 := pageI_num ps n hi
        omega
      · rcases Int.lt_or_le p 0 with hp | hp
        · rw [valO_below 0 _ p (by simpa using hp)] at hs
          simp at hs
        · exact hp
    · omega
  · omega

theorem fit_of (s : StoreR) (h : storeB s = true) (hok : ItemsOk s.items) : StoreFit s := by
  unfold storeB at h
  simp only [Bool.and_eq_true] at h
  obtain ⟨h1, h2, h3, h4, h5⟩ := h
  obtain ⟨hi, hj⟩ := items_each h4
  have hb := fun j hjl => may_bytes h3 j hjl
  have hmay := h3
  unfold mayB boundsB pagesB at h3
  simp only [Bool.and_eq_true, decide_eq_true_eq, inB_iff] at h3
  unfold countsB at h1
  simp only [Bool.and_eq_true, inB_iff] at h1
  unfold heldB at h2
  simp only [Bool.and_eq_true, decide_eq_true_eq, inB_iff] at h2
  refine ⟨by omega, by omega, by omega, by omega, by omega, by omega, by omega, by omega, by omega, by omega, hi, fun j hjl => ?_, by omega, fun j hjl => (hb j hjl).2.1⟩
  have ho := hj j hjl
  have hoj := hok j hjl
  unfold okAt fieldsB keyB at ho
  simp only [Bool.and_eq_true, inB_iff] at ho
  have hv := ho.2.2
  unfold ItemOk at hoj
  unfold valueB at hv
  split at hv
  · simp only [Bool.and_eq_true, decide_eq_true_eq] at hv
    have he : (s.items.getD j default).value.toList = [] := by simpa using hv.1
    have hz : (s.items.getD j default).value.size = 0 := by
      rw [ByteArray.size, ← Array.length_toList]
      rw [ByteArray.toList_eq] at he
      rw [he]; rfl
    have hp := far_place _ _ _ _ _ hmay hv.2.1
    exact ⟨by omega, by omega, by omega, by omega, by omega, by omega, by omega, by omega⟩
  · simp only [Bool.and_eq_true, decide_eq_true_eq] at hv
    exact ⟨by omega, by omega, by omega, by omega, by omega, by omega, by omega, by omega⟩
end Go.Proofs.YtmjakimpmccedaaDoor
