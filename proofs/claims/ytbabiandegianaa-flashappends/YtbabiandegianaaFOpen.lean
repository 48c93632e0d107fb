/- A flash that came in, opened: its two numbers, and its pages in memory. -/
import Derived.Test.YtbabiandegianaaFPages
import Derived.ChangeSlices
namespace Go.Proofs.Ytbabiandegianaa
open Go.ChangeShapes Go.WideShapes Go.ChangeAt Go.RowKit
set_option linter.unusedVariables false

theorem cellsInt : Try.prog.cellsOf 3 = 1 := by kernel_rfl
theorem cellsByte : Try.prog.cellsOf 5 = 1 := by kernel_rfl
theorem cellsBytes : Try.prog.cellsOf 38 = 1 := by kernel_rfl
theorem cellsPage : Try.prog.cellsOf 40 = 2 := by kernel_rfl
theorem cellsPages : Try.prog.cellsOf 22 = 1 := by kernel_rfl
theorem cellsFlash : Try.prog.cellsOf 24 = 3 := by kernel_rfl

theorem list3 {α : Type} {cs : Array α} (h : cs.size = 3) : ∃ c0 c1 c2, cs = #[c0, c1, c2] := by
  obtain ⟨l⟩ := cs
  match l, h with
  | [c0, c1, c2], _ => exact ⟨c0, c1, c2, rfl⟩

/-- A field of one cell of a struct by value, read. -/
theorem fieldAt {H : Type} {enc : TypeId × Value → H} {P : Program} {W : World} {base n : Nat} {sp : Nat → Bool} {hd : Bool} {fs : Array Field} {cs : List Value} {xs : List (DataW H × List MemPlace)}
    (hx : ∀ (i : Nat) (f : Field), fs[i]? = some f → DataW.trod enc P W base sp hd n f.type ((cs.drop f.offset).take (P.cellsOf f.type)) = xs[i]?) (i : Nat) (f : Field) (hf : fs[i]? = some f) (c : Value) (hc : cs[f.offset]? = some c)
    (h1 : P.cellsOf f.type = 1) (hi : i < xs.length) : DataW.trod enc P W base sp hd n f.type [c] = some xs[i] := by
  have h := hx i f hf
  rw [List.getElem?_eq_getElem hi, h1] at h
  rw [← h]
  obtain ⟨hlt, he⟩ := List.getElem?_eq_some_iff.1 hc
  rw [List.drop_eq_getElem_cons hlt, he]
  rfl

theorem block_lt {W : World} {b o : Nat} {v : Value} (h : W.cell? ⟨b, o, none⟩ = some v) : b < W.heap.size := by
  rcases Nat.lt_or_ge b W.heap.size with h' | h'
  · exact h'
  · simp [World.cell?, Array.getElem?_eq_none h'] at h

/-- Bytes that came in. -/
theorem open_bytes {H : Type} {enc : TypeId × Value → H} {W : World} {n : Nat} {c : Value} {y : DataW H × List MemPlace}
    (h : DataW.trod enc Try.prog W 0 (fun _ => true) true n 38 [c] = some y) : ∃ a l cap, c = .slice a (l : List UInt8).length cap ∧ BytesAt W a l ∧ l.length ≤ cap ∧ cap ≤ maxLen := by
  rcases open_ints Try.underlying38 Try.underlying5 cellsByte h with ⟨hcs, _⟩ | ⟨a, len, cap, xs, hcs, _, hl, hm, hz, _, hcell, hall⟩
  · simp at hcs
    exact ⟨none, [], 0, hcs, ⟨Nat.zero_le _, Or.inl rfl⟩, Nat.le_refl _, Nat.zero_le _⟩
  · simp at hcs hz
    have hlen : ((xs.take len).map fun n => UInt8.ofNat n.toNat).length = len := by simp; omega
    refine ⟨some a, (xs.take len).map fun n => UInt8.ofNat n.toNat, cap, by rw [hlen]; exact hcs, ⟨by rw [hlen]; omega, ?_⟩, by rw [hlen]; exact hl, hm⟩
    rw [hlen]
    by_cases h0 : len = 0
    · exact Or.inl h0
    · obtain ⟨b, off, spot⟩ := a
      have g0 := hcell 0 (by omega)
      have hspot : spot = none := by simpa [Addr.add] using World.cell?_spot g0
      subst hspot
      refine Or.inr ⟨b, off, rfl, ?_, fun j hj => ?_⟩
      · rw [add_plain] at g0
        exact block_lt g0
      · have := hcell j (by omega)
        rw [add_plain] at this
        rw [this]
        have hjx : j < xs.length := by omega
        have hw := hall xs[j] (List.getElem_mem hjx)
        have hr : 0 ≤ xs[j] ∧ xs[j] ≤ 255 := by
          have hw' : IntKind.u8.min ≤ xs[j] ∧ xs[j] ≤ IntKind.u8.max := by simpa [Lit.wf] using hw
          exact hw'
        have e1 : xs.getD j 0 = xs[j] := by simp [List.getD_eq_getElem?_getD, List.getElem?_eq_getElem hjx]
        have e2 : ((xs.take len).map fun n => UInt8.ofNat n.toNat).getD j 0 = UInt8.ofNat xs[j].toNat := by
          rw [List.getD_eq_getElem?_getD, List.getElem?_eq_getElem (by rw [hlen]; exact hj)]
          simp
        rw [e1, e2]
        congr 2
        rw [UInt8.toNat_ofNat']
        omega

theorem open_pages {H : Type} {enc : TypeId × Value → H} {W : World} {n : Nat} {c : Value} {y : DataW H × List MemPlace}
    (h : DataW.trod enc Try.prog W 0 (fun _ => true) true n 22 [c] = some y) : ∃ a ps cap, c = .slice a (ps : List PageR).length cap ∧ PagesAt W a ps := by
  rcases Go.Deep.open_slice_pairs Try.underlying22 Try.underlying40 cellsPage rfl rfl cellsInt cellsBytes h with ⟨hcs, _⟩ | ⟨a, len, cap, m, n', V0, V1, D0, D1, P0, P1, hcs, _, hl, hm, hmm, _, hall⟩
  · simp at hcs
    exact ⟨none, [], 0, hcs, Nat.zero_le _, Or.inl rfl⟩
  · simp at hcs hmm
    have each : ∀ i, i < len → ∃ p : PageR, ∃ aa cc, W.cell? (a.add (i * 2)) = some (.int .i64 p.num) ∧ W.cell? (a.add (i * 2 + 1)) = some (.slice aa p.bs.length cc) ∧ BytesAt W aa p.bs ∧ p.bs.length ≤ cc ∧ cc ≤ maxLen := by
      intro i hi
      obtain ⟨h1, h2, h3, h4⟩ := hall i (by omega)
      obtain ⟨k, e0, _, _⟩ := DataW.trod_int Try.underlying3 h3
      obtain ⟨aa, l, cc, e1, hb⟩ := open_bytes h4
      simp at e0
      exact ⟨⟨k, l⟩, aa, cc, by rw [h1, e0], by rw [h2, e1], hb⟩
    obtain ⟨f, hf⟩ := Go.Deep.choose_lt (α := PageR) each
    have hlen : ((List.range len).map f).length = len := by simp
    refine ⟨some a, (List.range len).map f, cap, by rw [hlen]; exact hcs, by rw [hlen]; omega, ?_⟩
    rw [hlen]
    by_cases h0 : len = 0
    · exact Or.inl h0
    · obtain ⟨b, off, spot⟩ := a
      obtain ⟨_, _, g0, _⟩ := hf 0 (by omega)
      have hspot : spot = none := by simpa [Addr.add] using World.cell?_spot g0
      subst hspot
      refine Or.inr ⟨b, off, rfl, ?_, fun j hj => ?_⟩
      · rw [add_plain] at g0
        exact block_lt g0
      · obtain ⟨aa, cc, g1, g2, g3⟩ := hf j hj
        rw [add_plain] at g1 g2
        have e : ((List.range len).map f).getD j default = f j := by
          rw [List.getD_eq_getElem?_getD, List.getElem?_eq_getElem (by rw [hlen]; exact hj)]
          simp
        rw [e]
        exact ⟨aa, cc, g1, g2, g3⟩

set_option maxRecDepth 100000 in
theorem open_flash {H : Type} {enc : TypeId × Value → H} {W : World} {base : Nat} {v : Value} {d : DataW H} {p : List MemPlace}
    (hv : Value.okWide Try.prog W .any base 24 v) (h : DataW.Trod enc Try.prog W 0 (fun _ => true) true 24 v d p) :
    ∃ (m x : Int) (a : Option Addr) (ps : List PageR) (c : Nat), v = .agg #[.int .i64 m, .int .i64 x, .slice a ps.length c] ∧ PagesAt W a ps ∧
      (Lit.int .i64 m).wf = true ∧ (Lit.int .i64 x).wf = true := by
  obtain ⟨cs, rfl, hsz⟩ := okWide_struct Try.underlying24 hv
  obtain ⟨c0, c1, c2, rfl⟩ := list3 (hsz.trans cellsFlash)
  obtain ⟨fuel, hf⟩ := h
  obtain ⟨xs, n, _, _, hl, hlen, hx⟩ := DataW.trod_struct Try.underlying24 hf
  have hlen' : xs.length = 3 := hlen
  have h0 := fieldAt hx 0 _ rfl c0 rfl cellsInt (by omega)
  have h1 := fieldAt hx 1 _ rfl c1 rfl cellsInt (by omega)
  have h2 := fieldAt hx 2 _ rfl c2 rfl cellsPages (by omega)
  obtain ⟨m, e0, _, w0⟩ := DataW.trod_int Try.underlying3 h0
  obtain ⟨x, e1, _, w1⟩ := DataW.trod_int Try.underlying3 h1
  obtain ⟨a, ps, c, e2, w2⟩ := open_pages (c := c2) h2
  simp at e0 e1
  subst e0 e1 e2
  exact ⟨m, x, a, ps, c, rfl, w2, w0, w1⟩
end Go.Proofs.Ytbabiandegianaa
