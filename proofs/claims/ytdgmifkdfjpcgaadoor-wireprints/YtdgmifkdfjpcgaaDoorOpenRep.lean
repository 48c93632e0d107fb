/- A reply that came in, opened: its two numbers, and its hits in memory. -/
import Derived.Test.YtdgmifkdfjpcgaaDoorEncode
import Derived.Deep.SlicePairs
namespace Go.Proofs.YtdgmifkdfjpcgaaDoor
open Go.ChangeShapes Go.WideShapes Go.ChangeAt Go.RowKit
set_option linter.unusedVariables false

structure HitR where
  key : ByteArray
  flags : Int
  cas : Int
  value : ByteArray
  deriving Inhabited

def HitOk (h : HitR) : Prop :=
  h.key.size ≤ maxLen ∧ h.value.size ≤ maxLen ∧ (-9223372036854775808 ≤ h.flags ∧ h.flags ≤ 9223372036854775807) ∧ (-9223372036854775808 ≤ h.cas ∧ h.cas ≤ 9223372036854775807)

/-- One hit at its four cells. -/
def HitAt (w : World) (b o : Nat) (h : HitR) : Prop :=
  w.cell? ⟨b, o, none⟩ = some (.string h.key) ∧ w.cell? ⟨b, o + 1, none⟩ = some (.int .i64 h.flags) ∧ w.cell? ⟨b, o + 2, none⟩ = some (.int .i64 h.cas) ∧ w.cell? ⟨b, o + 3, none⟩ = some (.string h.value)

theorem HitAt.later {w w' : World} {b o : Nat} {h : HitR} (hh : HitAt w b o h) (hlt : b < w.heap.size) (hb : Below w.heap.size w w') : HitAt w' b o h := by
  obtain ⟨h1, h2, h3, h4⟩ := hh
  exact ⟨by rw [hb.cell (p := ⟨b, o, none⟩) hlt]; exact h1, by rw [hb.cell (p := ⟨b, o + 1, none⟩) hlt]; exact h2, by rw [hb.cell (p := ⟨b, o + 2, none⟩) hlt]; exact h3, by rw [hb.cell (p := ⟨b, o + 3, none⟩) hlt]; exact h4⟩

/-- The hits 'l' lie in memory as the slice (a, l.length) says. -/
def HitsAt (w : World) (a : Option Addr) (l : List HitR) : Prop :=
  l.length ≤ maxLen ∧ (∀ j, j < l.length → HitOk (l.getD j default)) ∧ (l.length = 0 ∨ ∃ b o, a = some ⟨b, o, none⟩ ∧ b < w.heap.size ∧ ∀ j, j < l.length → HitAt w b (o + j * 4) (l.getD j default))

theorem HitsAt.later {w w' : World} {a : Option Addr} {l : List HitR} (h : HitsAt w a l) (hb : Below w.heap.size w w') : HitsAt w' a l := by
  obtain ⟨h1, h0, h2⟩ := h
  refine ⟨h1, h0, ?_⟩
  rcases h2 with h2 | ⟨b, o, h3, h4, h5⟩
  · exact Or.inl h2
  · exact Or.inr ⟨b, o, h3, Nat.lt_of_lt_of_le h4 hb.size, fun j hj => (h5 j hj).later h4 hb⟩

theorem cellsHit : Tryd.prog.cellsOf 58 = 4 := by kernel_rfl
theorem cellsHits : Tryd.prog.cellsOf 33 = 1 := by kernel_rfl
theorem cellsReply : Tryd.prog.cellsOf 35 = 3 := by kernel_rfl

theorem wf_i64 {n : Int} (h : (Lit.int .i64 n).wf = true) : -9223372036854775808 ≤ n ∧ n ≤ 9223372036854775807 := by
  have h' : IntKind.i64.min ≤ n ∧ n ≤ IntKind.i64.max := by simpa [Lit.wf] using h
  exact h'

set_option maxRecDepth 100000 in
theorem open_hits {H : Type} {enc : TypeId × Value → H} {W : World} {n : Nat} {c : Value} {y : DataW H × List MemPlace}
    (h : DataW.trod enc Tryd.prog W 0 (fun _ => true) true n 33 [c] = some y) : ∃ a l cap, c = .slice a (l : List HitR).length cap ∧ HitsAt W a l := by
  rcases Go.Deep.open_slice Tryd.underlying33 h with ⟨hcs, _⟩ | ⟨a, len, cap, m, n', D, Pl, hcs, _, hl, hm, hmm, _, hx⟩
  · simp at hcs
    exact ⟨none, [], 0, hcs, Nat.zero_le _, fun j hj => by simp at hj, Or.inl rfl⟩
  · simp at hcs hmm
    have each : ∀ i, i < len → ∃ p : HitR, HitOk p ∧ W.cell? (a.add (i * 4)) = some (.string p.key) ∧ W.cell? (a.add (i * 4 + 1)) = some (.int .i64 p.flags) ∧ W.cell? (a.add (i * 4 + 2)) = some (.int .i64 p.cas) ∧ W.cell? (a.add (i * 4 + 3)) = some (.string p.value) := by
      intro i hi
      obtain ⟨cs', h1, h2⟩ := hx i (by omega)
      rw [cellsHit] at h1
      obtain ⟨_, hlen, hcell⟩ := World.cells?_some h1
      obtain ⟨xs, k, hk, hxy, _, hxl, hf⟩ := DataW.trod_struct Tryd.underlying58 h2
      have hxl' : xs.length = 4 := hxl
      match cs', hlen with
      | [c0, c1, c2, c3], _ =>
        have h0 := fieldAt hf 0 _ rfl c0 rfl cellsStr (by omega)
        have h1 := fieldAt hf 1 _ rfl c1 rfl cellsInt (by omega)
        have h2 := fieldAt hf 2 _ rfl c2 rfl cellsInt (by omega)
        have h3 := fieldAt hf 3 _ rfl c3 rfl cellsStr (by omega)
        obtain ⟨key, e0, _, w0⟩ := DataW.trod_string Tryd.underlying9 h0
        obtain ⟨flags, e1, _, w1⟩ := DataW.trod_int Tryd.underlying3 h1
        obtain ⟨cas, e2, _, w2⟩ := DataW.trod_int Tryd.underlying3 h2
        obtain ⟨value, e3, _, w3⟩ := DataW.trod_string Tryd.underlying9 h3
        simp at e0 e1 e2 e3
        subst e0 e1 e2 e3
        have g0 := hcell 0 (by omega)
        have g1 := hcell 1 (by omega)
        have g2 := hcell 2 (by omega)
        have g3 := hcell 3 (by omega)
        rw [Go.Deep.add_add] at g0 g1 g2 g3
        exact ⟨⟨key, flags, cas, value⟩, ⟨w0, w3, wf_i64 w1, wf_i64 w2⟩, by simpa using g0, by simpa using g1, by simpa using g2, by simpa using g3⟩
    obtain ⟨f, hf⟩ := Go.Deep.choose_lt (α := HitR) each
    have hlen : ((List.range len).map f).length = len := by simp
    have hget : ∀ j, j < len → ((List.range len).map f).getD j default = f j := fun j hj => by
      rw [List.getD_eq_getElem?_getD, List.getElem?_eq_getElem (by rw [hlen]; exact hj)]
      simp
    refine ⟨some a, (List.range len).map f, cap, by rw [hlen]; exact hcs, by rw [hlen]; omega, ?_, ?_⟩
    · rw [hlen]
      intro j hj
      rw [hget j hj]
      exact (hf j hj).1
    rw [hlen]
    by_cases h0 : len = 0
    · exact Or.inl h0
    · obtain ⟨b, off, spot⟩ := a
      obtain ⟨_, g0, _⟩ := hf 0 (by omega)
      have hspot : spot = none := by simpa [Addr.add] using World.cell?_spot g0
      subst hspot
      refine Or.inr ⟨b, off, rfl, ?_, fun j hj => ?_⟩
      · rw [add_plain] at g0
        rcases Nat.lt_or_ge b W.heap.size with h' | h'
        · exact h'
        · simp [World.cell?, Array.getElem?_eq_none h'] at g0
      · obtain ⟨_, g1, g2, g3, g4⟩ := hf j hj
        rw [add_plain] at g1 g2 g3 g4
        rw [hget j hj]
        exact ⟨g1, g2, g3, g4⟩

set_option maxRecDepth 100000 in
theorem open_reply {H : Type} {enc : TypeId × Value → H} {W : World} {base : Nat} {v : Value} {d : DataW H} {p : List MemPlace}
    (hv : Value.okWide Tryd.prog W .any base 35 v) (h : DataW.Trod enc Tryd.prog W 0 (fun _ => true) true 35 v d p) :
    ∃ (k x : Int) (a : Option Addr) (l : List HitR) (c : Nat), v = .agg #[.int .i64 k, .int .i64 x, .slice a l.length c] ∧ HitsAt W a l ∧
      (-9223372036854775808 ≤ k ∧ k ≤ 9223372036854775807) ∧ (-9223372036854775808 ≤ x ∧ x ≤ 9223372036854775807) := by
  obtain ⟨cs, rfl, hsz⟩ := okWide_struct Tryd.underlying35 hv
  have hsz' : cs.size = 3 := hsz.trans cellsReply
  obtain ⟨c0, c1, c2, rfl⟩ : ∃ c0 c1 c2, cs = #[c0, c1, c2] := by
    obtain ⟨l⟩ := cs
    match l, hsz' with
    | [c0, c1, c2], _ => exact ⟨c0, c1, c2, rfl⟩
  obtain ⟨fuel, hf⟩ := h
  obtain ⟨xs, n, _, _, hl, hlen, hx⟩ := DataW.trod_struct Tryd.underlying35 hf
  have hlen' : xs.length = 3 := hlen
  have h0 := fieldAt hx 0 _ rfl c0 rfl cellsInt (by omega)
  have h1 := fieldAt hx 1 _ rfl c1 rfl cellsInt (by omega)
  have h2 := fieldAt hx 2 _ rfl c2 rfl cellsHits (by omega)
  obtain ⟨m, e0, _, w0⟩ := DataW.trod_int Tryd.underlying3 h0
  obtain ⟨x, e1, _, w1⟩ := DataW.trod_int Tryd.underlying3 h1
  obtain ⟨a, ps, c, e2, w2⟩ := open_hits (c := c2) h2
  simp at e0 e1
  subst e0 e1 e2
  exact ⟨m, x, a, ps, c, rfl, w2, wf_i64 w0, wf_i64 w1⟩
end Go.Proofs.YtdgmifkdfjpcgaaDoor
