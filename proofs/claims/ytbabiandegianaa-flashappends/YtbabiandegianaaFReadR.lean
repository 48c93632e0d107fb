/- The contracts of flash.Read and of dovecoteref.FlashRead: the same answers. -/
import Derived.Test.YtbabiandegianaaFFind
import Derived.Test.YtbabiandegianaaFMay
import Derived.Test.YtbabiandegianaaFVals
namespace Go.Proofs.Ytbabiandegianaa
open Go.ChangeShapes Go.WideShapes Go.ChangeAt Go.RowKit
set_option linter.unusedVariables false
set_option linter.unusedSimpArgs false

def readS (m x : Int) (ps : List PageR) (n p : Int) : ByteArray := if mayB m x ps = true then findS ps n p else ⟨#[]⟩
def readN (m x : Int) (ps : List PageR) (n p : Int) : Int := if mayB m x ps = true then findN ps n p else 8

theorem pagesF_each : ∀ (ps : List PageR) (f : Int), pagesF f ps = true → ∀ j, j < ps.length → bytesB (ps.getD j default).bs = true
  | [], _, _, j, hj => by simp at hj
  | p :: r, f, h, j, hj => by
    unfold pagesF at h
    simp only [Bool.and_eq_true] at h
    match j, hj with
    | 0, _ => exact h.2.1
    | j + 1, hj => exact pagesF_each r (f + 1) h.2.2 j (by simpa using hj)

theorem may_bytes {m x : Int} {ps : List PageR} (h : mayB m x ps = true) : ∀ j, j < ps.length → 1 ≤ (ps.getD j default).bs.length ∧ (ps.getD j default).bs.length ≤ 256 ∧ recsB (ps.getD j default).bs = true := by
  intro j hj
  unfold mayB pagesB at h
  simp only [Bool.and_eq_true] at h
  have := pagesF_each ps _ h.2.2 j hj
  unfold bytesB at this
  simp only [Bool.and_eq_true, decide_eq_true_eq] at this
  exact ⟨this.1, this.2.1, this.2.2⟩

set_option maxHeartbeats 1000000 in
set_option maxRecDepth 100000 in
theorem read_any (m x : Int) (ps : List PageR) (a : Option Addr) (c : Nat) (n p : Int) (w : World) (hP : PagesAt w a ps) (hp0 : -9223372036854775808 ≤ p) (hp1 : p ≤ 9223372036854775807) :
    Calls Try.prog 11 #[.agg #[.int .i64 m, .int .i64 x, .slice a ps.length c], .agg #[.int .i64 n, .int .i64 p]] w fun e w' => e = .returned (.tuple #[.string (readS m x ps n p), .int .i64 (readN m x ps n p)]) ∧ Below w.heap.size w w' := by
  have hB0 : ∀ o1 o2, Below w.heap.size w ((w.alloc o1).alloc o2) := fun o1 o2 => ((Below.refl _ _).alloc (Nat.le_refl _) _).alloc (by simp) _
  have hc1 := fun (w1 : World) (hb : Below w.heap.size w w1) => fcheck_any m x ps a c w1 (hP.later hb)
  have RS : Hid (readS m x ps n p = if mayB m x ps = true then findS ps n p else ⟨#[]⟩) := rfl
  have RN : Hid (readN m x ps n p = if mayB m x ps = true then findN ps n p else 8) := rfl
  generalize readS m x ps n p = S at *
  generalize readN m x ps n p = N at *
  cases hR : mayB m x ps
  · rw [hR] at hc1 RS RN
    simp only [Bool.false_eq_true, if_false] at hc1
    have RS' : Hid (S = ⟨#[]⟩) := RS.out
    have RN' : Hid (N = 8) := RN.out
    clear RS RN
    go_enter Try.func11, Try.ntmps11
    go_wp2_with fail
    refine (hc1 _ (hB0 _ _)).mono ?_
    rintro e w1 ⟨rfl, hb1⟩
    go_wp2
    go_ret2
    exact ⟨ret_tuple RS'.out.symm RN'.out.symm, (hB0 _ _).trans (hb1.mono (hB0 _ _).size)⟩
  · have hby := may_bytes hR
    have hc2 := fun (w1 : World) (hb : Below w.heap.size w w1) => find_any ps a c n p w1 (hP.later hb) (fun j hj => (hby j hj).1) hp0 hp1
    rw [hR] at hc1 RS RN
    simp only [if_true] at hc1
    have RS' : Hid (S = findS ps n p) := RS.out
    have RN' : Hid (N = findN ps n p) := RN.out
    clear RS RN hby
    go_enter Try.func11, Try.ntmps11
    go_wp2_with fail
    refine (hc1 _ (hB0 _ _)).mono ?_
    rintro e w1 ⟨rfl, hb1⟩
    obtain ⟨q1, q2⟩ := bcell hb1
    have hz0 : w.heap.size < w1.heap.size := by have := hb1.size; simp at this; omega
    have hz1 : w.heap.size + 1 < w1.heap.size := by have := hb1.size; simp at this; omega
    have hB1 : Below w.heap.size w w1 := (hB0 _ _).trans (hb1.mono (hB0 _ _).size)
    have k1 : w1.cell? ⟨w.heap.size, 2, none⟩ = some (.slice a ps.length c) := by rw [q1 _ _ (by simp; omega)]; simp [go_sem]
    have k2 : w1.cell? ⟨w.heap.size + 1, 0, none⟩ = some (.int .i64 n) := by rw [q1 _ _ (by simp)]; simp [go_sem]
    have k3 : w1.cell? ⟨w.heap.size + 1, 1, none⟩ = some (.int .i64 p) := by rw [q1 _ _ (by simp)]; simp [go_sem]
    clear q1 q2 hb1
    go_wp2_with (go_at_call 21; refine (hc2 _ hB1).mono ?_; rintro e w2 ⟨rfl, hb2⟩)
    go_ret2
    exact ⟨ret_tuple RS'.out.symm RN'.out.symm, hB1.trans (hb2.mono hB1.size)⟩

theorem pageI_here {ps : List PageR} {n : Int} {k : Nat} (hlt : k < ps.length) (A : k ≤ pageI ps n) (hq : (ps.getD k default).num = n) : pageI ps n = k := by
  have hgk : ps[k] = ps.getD k default := by rw [List.getD_eq_getElem?_getD, List.getElem?_eq_getElem hlt]; rfl
  unfold pageI
  have := List.findIdx_eq hlt (p := fun p : PageR => p.num == n)
  refine this.2 ⟨by rw [hgk]; exact beq_iff_eq.2 hq, fun j hj => ?_⟩
  have := List.not_of_lt_findIdx (p := fun p : PageR => p.num == n) (xs := ps) (i := j) (Nat.lt_of_lt_of_le hj A)
  simpa using this

theorem pageI_next {ps : List PageR} {n : Int} {k : Nat} (hlt : k < ps.length) (A : k ≤ pageI ps n) (hq : (ps.getD k default).num ≠ n) : k + 1 ≤ pageI ps n := by
  have hgk : ps[k] = ps.getD k default := by rw [List.getD_eq_getElem?_getD, List.getElem?_eq_getElem hlt]; rfl
  rcases Nat.lt_or_ge k (pageI ps n) with h | h
  · exact h
  · have e : pageI ps n = k := Nat.le_antisymm h A
    have := List.findIdx_getElem (p := fun p : PageR => p.num == n) (xs := ps) (w := by show pageI ps n < _; omega)
    have e2 : ps[List.findIdx (fun p : PageR => p.num == n) ps]'(by show pageI ps n < _; omega) = ps[k] := by congr 1
    rw [e2, hgk] at this
    simp at this
    exact absurd this hq

theorem valO_cons (o : Int) (v : ByteArray) (r : List (Int × ByteArray)) (p : Int) : valO ((o, v) :: r) p = if o = p then some v else valO r p := by
  unfold valO
  by_cases h : o = p
  · rw [if_pos h, List.find?_cons_of_pos (by simp [h])]
    rfl
  · rw [if_neg h, List.find?_cons_of_neg (by simp [h])]

theorem valO_hit (p : Int) : ∀ (os : List Int) (vs : List ByteArray) (k : Nat), k < os.length → vs.length = os.length → (∀ j, j < k → os.getD j 0 ≠ p) → os.getD k 0 = p → valO (os.zip vs) p = some (vs.getD k ByteArray.empty)
  | [], _, _, h, _, _, _ => by simp at h
  | _ :: _, [], _, _, h, _, _ => by simp at h
  | o :: os, v :: vs, 0, _, _, _, h => by
    rw [List.zip_cons_cons, valO_cons, if_pos (by simpa using h)]
    rfl
  | o :: os, v :: vs, k + 1, h1, h2, h3, h4 => by
    have h0 : o ≠ p := by simpa using h3 0 (by omega)
    rw [List.zip_cons_cons, valO_cons, if_neg h0]
    exact valO_hit p os vs k (by simpa using h1) (by simpa using h2) (fun j hj => by simpa using h3 (j + 1) (by omega)) (by simpa using h4)

theorem valO_miss (p : Int) : ∀ (os : List Int) (vs : List ByteArray), vs.length = os.length → (∀ j, j < os.length → os.getD j 0 ≠ p) → valO (os.zip vs) p = none
  | [], _, _, _ => by simp [valO]
  | _ :: _, [], h, _ => by simp at h
  | o :: os, v :: vs, h2, h3 => by
    have h0 : o ≠ p := by simpa using h3 0 (by simp)
    rw [List.zip_cons_cons, valO_cons, if_neg h0]
    exact valO_miss p os vs (by simpa using h2) (fun j hj => by simpa using h3 (j + 1) (by simpa using hj))

theorem OwnS.form {W0 w : World} {v : Value} {l : List ByteArray} (h : OwnS W0 w v l) : ∃ a c, v = .slice a l.length c ∧ (l.length = 0 ∨ ∃ g, a = some ⟨g, 0, none⟩ ∧ ∀ j, j < l.length → w.cell? ⟨g, 0 + j, none⟩ = some (.string (l.getD j ByteArray.empty))) := by
  rcases h.1.2 with ⟨h0, h1⟩ | ⟨g, cap, cur, hv, hg, hc, _⟩
  · exact ⟨none, 0, by rw [h0, h1], Or.inl h1⟩
  · refine ⟨some ⟨g, 0, none⟩, cap, hv, Or.inr ⟨g, rfl, fun j hj => ?_⟩⟩
    have := h.1.cells (g := g) (by rw [hv]; rfl) j (.string (l.getD j ByteArray.empty)) (by rw [List.getElem?_map, List.getElem?_eq_getElem hj, List.getD_eq_getElem?_getD, List.getElem?_eq_getElem hj]; rfl)
    rw [WideShapes.add_plain] at this
    exact this
theorem OwnI.form {W0 w : World} {v : Value} {l : List Int} (h : OwnI W0 w v l) : ∃ a c, v = .slice a l.length c ∧ (l.length = 0 ∨ ∃ g, a = some ⟨g, 0, none⟩ ∧ ∀ j, j < l.length → w.cell? ⟨g, 0 + j, none⟩ = some (.int .i64 (l.getD j 0))) := by
  rcases h.1.2 with ⟨h0, h1⟩ | ⟨g, cap, cur, hv, hg, hc, _⟩
  · exact ⟨none, 0, by rw [h0, h1], Or.inl h1⟩
  · refine ⟨some ⟨g, 0, none⟩, cap, hv, Or.inr ⟨g, rfl, fun j hj => ?_⟩⟩
    have := h.1.cells (g := g) (by rw [hv]; rfl) j (.int .i64 (l.getD j 0)) (by rw [List.getElem?_map, List.getElem?_eq_getElem hj, List.getD_eq_getElem?_getD, List.getElem?_eq_getElem hj]; rfl)
    rw [WideShapes.add_plain] at this
    exact this
end Go.Proofs.Ytbabiandegianaa
