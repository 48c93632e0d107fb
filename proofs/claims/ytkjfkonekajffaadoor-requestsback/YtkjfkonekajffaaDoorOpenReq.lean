/- A request that came in, opened: its fields, and its Keys as texts in memory. -/
import Derived.Test.YtkjfkonekajffaaDoorKeysfit
import Derived.SliceStrings
namespace Go.Proofs.YtkjfkonekajffaaDoor
open Go.ChangeShapes Go.WideShapes Go.ChangeAt Go.RowKit
set_option linter.unusedVariables false

theorem cellsInt : Tryd.prog.cellsOf 3 = 1 := by kernel_rfl
theorem cellsStr : Tryd.prog.cellsOf 9 = 1 := by kernel_rfl
theorem cellsStrs : Tryd.prog.cellsOf 22 = 1 := by kernel_rfl
theorem cellsBool : Tryd.prog.cellsOf 4 = 1 := by kernel_rfl
theorem cellsReq : Tryd.prog.cellsOf 24 = 8 := by kernel_rfl

theorem list8 {α : Type} {cs : Array α} (h : cs.size = 8) : ∃ c0 c1 c2 c3 c4 c5 c6 c7, cs = #[c0, c1, c2, c3, c4, c5, c6, c7] := by
  obtain ⟨l⟩ := cs
  match l, h with
  | [c0, c1, c2, c3, c4, c5, c6, c7], _ => exact ⟨c0, c1, c2, c3, c4, c5, c6, c7, rfl⟩

/-- A field of one cell of a struct by value, read. -/
theorem fieldAt {H : Type} {enc : TypeId × Value → H} {P : Program} {W : World} {base n : Nat} {sp : Nat → Bool} {hd : Bool} {fs : Array Field} {cs : List Value} {xs : List (DataW H × List MemPlace)}
    (hx : ∀ (i : Nat) (f : Field), fs[i]? = some f → DataW.trod enc P W base sp hd n f.type ((cs.drop f.offset).take (P.cellsOf f.type)) = xs[i]?) (i : Nat) (f : Field) (hf : fs[i]? = some f) (c : Value) (hc : cs[f.offset]? = some c)
    (h1 : P.cellsOf f.type = 1) (hi : i < xs.length) : DataW.trod enc P W base sp hd n f.type [c] = some xs[i] := by
  have h := hx i f hf
  rw [List.getElem?_eq_getElem hi, h1] at h
  rw [← h]
  obtain ⟨hlt, he⟩ := List.getElem?_eq_some_iff.1 hc
  rw [List.drop_eq_getElem_cons hlt, he]
  rfl

/-- A slice of texts that came in. -/
theorem open_strs {H : Type} {enc : TypeId × Value → H} {W : World} {n : Nat} {c : Value} {y : DataW H × List MemPlace}
    (h : DataW.trod enc Tryd.prog W 0 (fun _ => true) true n 22 [c] = some y) : ∃ a len cap l, c = .slice a len cap ∧ StrsAt W a len l := by
  rcases open_strings Tryd.underlying22 Tryd.underlying9 cellsStr h with ⟨hcs, _⟩ | ⟨a, len, cap, ss, hcs, _, hl, hm, hz, _, hcell, hall⟩
  · simp at hcs
    exact ⟨none, 0, 0, [], hcs, rfl, Nat.zero_le _, fun s hs => by simp at hs, Or.inl rfl⟩
  · simp at hcs hz
    refine ⟨some a, len, cap, ss.take len, hcs, by simp; omega, by omega, fun s hs => hall s (List.mem_of_mem_take hs), ?_⟩
    by_cases h0 : len = 0
    · exact Or.inl h0
    · obtain ⟨b, off, spot⟩ := a
      have g0 := hcell 0 (by omega)
      have hspot : spot = none := by simpa [Addr.add] using World.cell?_spot g0
      subst hspot
      have hlt : b < W.heap.size := by
        rcases Nat.lt_or_ge b W.heap.size with h' | h'
        · exact h'
        · simp [World.cell?, Addr.add, Array.getElem?_eq_none h'] at g0
      refine Or.inr ⟨b, off, rfl, hlt, fun j hj => ?_⟩
      have := hcell j (by omega)
      rw [add_plain] at this
      rw [this]
      simp [List.getD_eq_getElem?_getD, hj]

set_option maxRecDepth 100000 in
theorem open_req {H : Type} {enc : TypeId × Value → H} {W : World} {base : Nat} {v : Value} {d : DataW H} {p : List MemPlace}
    (hv : Value.okWide Tryd.prog W .any base 24 v) (h : DataW.Trod enc Tryd.prog W 0 (fun _ => true) true 24 v d p) :
    ∃ (kind : Int) (key : ByteArray) (ka : Option Addr) (kn kc : Nat) (keys : List ByteArray) (flags exp nn : Int) (value : ByteArray) (quiet : Bool), v = .agg #[.int .i64 kind, .string key, .slice ka kn kc, .int .i64 flags, .int .i64 exp, .int .i64 nn, .string value, .bool quiet] ∧ StrsAt W ka kn keys ∧ key.size ≤ maxLen ∧ value.size ≤ maxLen ∧
      (Lit.int .i64 kind).wf = true ∧ (Lit.int .i64 flags).wf = true ∧ (Lit.int .i64 exp).wf = true ∧ (Lit.int .i64 nn).wf = true := by
  obtain ⟨cs, rfl, hsz⟩ := okWide_struct Tryd.underlying24 hv
  obtain ⟨c0, c1, c2, c3, c4, c5, c6, c7, rfl⟩ := list8 (hsz.trans cellsReq)
  obtain ⟨fuel, hf⟩ := h
  obtain ⟨xs, n, _, _, hl, hlen, hx⟩ := DataW.trod_struct Tryd.underlying24 hf
  have hlen' : xs.length = 8 := hlen
  have h0 := fieldAt hx 0 _ rfl c0 rfl cellsInt (by omega)
  have h1 := fieldAt hx 1 _ rfl c1 rfl cellsStr (by omega)
  have h2 := fieldAt hx 2 _ rfl c2 rfl cellsStrs (by omega)
  have h3 := fieldAt hx 3 _ rfl c3 rfl cellsInt (by omega)
  have h4 := fieldAt hx 4 _ rfl c4 rfl cellsInt (by omega)
  have h5 := fieldAt hx 5 _ rfl c5 rfl cellsInt (by omega)
  have h6 := fieldAt hx 6 _ rfl c6 rfl cellsStr (by omega)
  have h7 := fieldAt hx 7 _ rfl c7 rfl cellsBool (by omega)
  obtain ⟨kind, e0, _, w0⟩ := DataW.trod_int Tryd.underlying3 h0
  obtain ⟨key, e1, _, w1⟩ := DataW.trod_string Tryd.underlying9 h1
  obtain ⟨ka, kn, kc, keys, e2, w2⟩ := open_strs (c := c2) h2
  obtain ⟨flags, e3, _, w3⟩ := DataW.trod_int Tryd.underlying3 h3
  obtain ⟨exp, e4, _, w4⟩ := DataW.trod_int Tryd.underlying3 h4
  obtain ⟨nn, e5, _, w5⟩ := DataW.trod_int Tryd.underlying3 h5
  obtain ⟨value, e6, _, w6⟩ := DataW.trod_string Tryd.underlying9 h6
  obtain ⟨quiet, e7, _⟩ := DataW.trod_bool Tryd.underlying4 h7
  simp at e0 e1 e3 e4 e5 e6 e7
  subst e0 e1 e2 e3 e4 e5 e6 e7
  exact ⟨kind, key, ka, kn, kc, keys, flags, exp, nn, value, quiet, rfl, w2, w1, w6, w0, w3, w4, w5⟩
end Go.Proofs.YtkjfkonekajffaaDoor
