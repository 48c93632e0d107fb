/- The contract of wire.withNumbers for every kind at once. -/
import Derived.Test.YtkjfkonekajffaaDoorReadLine
namespace Go.Proofs.YtkjfkonekajffaaDoor
open Go.ChangeShapes Go.WideShapes Go.ChangeAt Go.RowKit
set_option linter.unusedVariables false

/-- How many numbers stand behind a line's key. -/
def needN (k : Nat) : Nat := if inB k 2 11 = true then mustN k - 1 else mustN k

theorem ints_form {W0 w : World} {v : Value} {vs : List Int} (h : IntsAt W0 w v vs) (hp : 0 < vs.length) : ∃ g cap, v = .slice (some ⟨g, 0, none⟩) vs.length cap ∧ g < w.heap.size ∧ vs.length ≤ cap ∧ ∀ j, j < vs.length → w.cell? ⟨g, j, none⟩ = some (.int .i64 (vs.getD j 0)) := by
  rcases h.1.2 with ⟨_, h0⟩ | ⟨g, cap, cur, hv, hb, hg, hle, _⟩
  · omega
  · refine ⟨g, cap, hv, ?_, hle, fun j hj => ?_⟩
    · rcases Nat.lt_or_ge g w.heap.size with hlt | hge
      · exact hlt
      · rw [Array.getElem?_eq_none hge] at hg; cases hg
    · have := h.1.cells (g := g) (by rw [hv]; rfl) j (.int .i64 (vs.getD j 0)) (by
        rw [List.getElem?_map, List.getElem?_eq_getElem hj, List.getD_eq_getElem?_getD, List.getElem?_eq_getElem hj]; rfl)
      rw [WideShapes.add_plain] at this
      simpa using this

theorem withNum_any (k : Nat) (key : ByteArray) (quiet : Bool) (vs : List Int) (v : Value) (W0 w : World) (h1 : 2 ≤ k) (h2 : k ≤ 12) (hI : IntsAt W0 w v vs) (hn : vs.length = needN k) :
    Calls Tryd.prog 48 #[.agg #[.int .i64 k, .string key, .slice none 0 0, .int .i64 0, .int .i64 0, .int .i64 0, .string ⟨#[]⟩, .bool quiet], v] w fun e w' =>
      e = .returned (.tuple #[.agg #[.int .i64 k, .string key, .slice none 0 0, .int .i64 (fillD k key quiet vs).flags, .int .i64 (fillD k key quiet vs).exp, .int .i64 (fillD k key quiet vs).nn, .string ⟨#[]⟩, .bool quiet], .int .i64 (fillD k key quiet vs).size]) ∧ Below w.heap.size w w' := by
  have hk : k = 2 ∨ k = 3 ∨ k = 4 ∨ k = 5 ∨ k = 6 ∨ k = 7 ∨ k = 8 ∨ k = 9 ∨ k = 10 ∨ k = 11 ∨ k = 12 := by omega
  rcases hk with rfl | rfl | rfl | rfl | rfl | rfl | rfl | rfl | rfl | rfl | rfl
  all_goals simp only [needN, mustN] at hn
  iterate 5
    · have hn3 : vs.length = 3 := hn
      match vs, hn3 with
      | [a, b, c], _ =>
        obtain ⟨g, cap, rfl, hg, hc, hcell⟩ := ints_form hI (by simp)
        exact withNum_set _ key quiet a b c g cap w (by omega) (by omega) hg hc (hcell 0 (by simp)) (hcell 1 (by simp)) (hcell 2 (by simp))
  · have hn3 : vs.length = 4 := hn
    match vs, hn3 with
    | [a, b, c, d], _ =>
      obtain ⟨g, cap, rfl, hg, hc, hcell⟩ := ints_form hI (by simp)
      exact withNum_cas _ key quiet a b c d g cap w rfl hg hc (hcell 0 (by simp)) (hcell 1 (by simp)) (hcell 2 (by simp)) (hcell 3 (by simp))
  · exact withNum_none _ key quiet v w (Or.inl rfl)
  · have hn3 : vs.length = 1 := hn
    match vs, hn3 with
    | [a], _ =>
      obtain ⟨g, cap, rfl, hg, hc, hcell⟩ := ints_form hI (by simp)
      exact withNum_n _ key quiet a g cap w (Or.inl rfl) hg hc (hcell 0 (by simp))
  · have hn3 : vs.length = 1 := hn
    match vs, hn3 with
    | [a], _ =>
      obtain ⟨g, cap, rfl, hg, hc, hcell⟩ := ints_form hI (by simp)
      exact withNum_n _ key quiet a g cap w (Or.inr rfl) hg hc (hcell 0 (by simp))
  · have hn3 : vs.length = 1 := hn
    match vs, hn3 with
    | [a], _ =>
      obtain ⟨g, cap, rfl, hg, hc, hcell⟩ := ints_form hI (by simp)
      exact withNum_exp _ key quiet a g cap w rfl hg hc (hcell 0 (by simp))
  · exact withNum_none _ key quiet v w (Or.inr rfl)
end Go.Proofs.YtkjfkonekajffaaDoor
