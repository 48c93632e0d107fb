/- A number of 64 bits that came in; four of them in a struct. -/
import Derived.Test.YtkjfkonekajffaaDoorKReq
namespace Go.Proofs.YtkjfkonekajffaaDoor
open Go.ChangeShapes Go.WideShapes Go.ChangeAt Go.RowKit
set_option linter.unusedVariables false

theorem i64_of_wf {n : Int} (h : (Lit.int .i64 n).wf = true) : i64In n := by
  have h2 : IntKind.i64.min ≤ n ∧ n ≤ IntKind.i64.max := by simpa [Lit.wf] using h
  exact h2

theorem list4 {α : Type} {cs : Array α} (h : cs.size = 4) : ∃ c0 c1 c2 c3, cs = #[c0, c1, c2, c3] := by
  obtain ⟨l⟩ := cs
  match l, h with
  | [c0, c1, c2, c3], _ => exact ⟨c0, c1, c2, c3, rfl⟩

theorem cellsRaw : Tryd.prog.cellsOf 30 = 4 := by kernel_rfl

set_option maxRecDepth 100000 in
theorem open_raw {H : Type} {enc : TypeId × Value → H} {W : World} {base : Nat} {v : Value} {d : DataW H} {p : List MemPlace}
    (hv : Value.okWide Tryd.prog W .any base 30 v) (h : DataW.Trod enc Tryd.prog W 0 (fun _ => true) true 30 v d p) :
    ∃ rk ra rb rc : Int, v = .agg #[.int .i64 rk, .int .i64 ra, .int .i64 rb, .int .i64 rc] ∧ i64In rk ∧ i64In ra ∧ i64In rb ∧ i64In rc := by
  obtain ⟨cs, rfl, hsz⟩ := okWide_struct Tryd.underlying30 hv
  obtain ⟨c0, c1, c2, c3, rfl⟩ := list4 (hsz.trans cellsRaw)
  obtain ⟨fuel, hf⟩ := h
  obtain ⟨xs, n, _, _, hl, hlen, hx⟩ := DataW.trod_struct Tryd.underlying30 hf
  have hlen' : xs.length = 4 := hlen
  have h0 := fieldAt hx 0 _ rfl c0 rfl cellsInt (by omega)
  have h1 := fieldAt hx 1 _ rfl c1 rfl cellsInt (by omega)
  have h2 := fieldAt hx 2 _ rfl c2 rfl cellsInt (by omega)
  have h3 := fieldAt hx 3 _ rfl c3 rfl cellsInt (by omega)
  obtain ⟨rk, e0, _, w0⟩ := DataW.trod_int Tryd.underlying3 h0
  obtain ⟨ra, e1, _, w1⟩ := DataW.trod_int Tryd.underlying3 h1
  obtain ⟨rb, e2, _, w2⟩ := DataW.trod_int Tryd.underlying3 h2
  obtain ⟨rc, e3, _, w3⟩ := DataW.trod_int Tryd.underlying3 h3
  simp at e0 e1 e2 e3
  subst e0 e1 e2 e3
  exact ⟨rk, ra, rb, rc, rfl, i64_of_wf w0, i64_of_wf w1, i64_of_wf w2, i64_of_wf w3⟩
end Go.Proofs.YtkjfkonekajffaaDoor
