/- 'append([]byte(nil), b...)' at a step of a region that draws. -/
import Derived.Test.YtogpkbhjobhodaaDoorFCopyW
namespace Go.Proofs.YtogpkbhjobhodaaDoor
open Go.ChangeShapes Go.WideShapes Go.ChangeAt Go.RowKit
set_option linter.unusedVariables false
set_option linter.unusedSimpArgs false

/-- 'append([]byte(nil), b...)' at a step of a region that draws: the same bytes, in a block of its own. -/
theorem append_clone_step {ops : Array Oper} {o : Oper} {a : Act} {K : Act → World → Prop} {Q : Exit → Act → World → Prop} {E : Prop} (w : World) (hgd : o.guard = none) (s x : Operand)
    (ho : o.op = .call { callee := .builtin .append, args := #[s, x], argTypes := #[22, 22] }) (hs : a.eval s = .slice none 0 0)
    (l : List UInt8) (ad : Option Addr) (c : Nat) (hx : a.eval x = .slice ad l.length c) (hB : BytesAt w ad l) (hsz : l.length ≤ 140737488351232)
    (h : ∀ a2 c2 w', Below w.heap.size w w' → BytesAt w' a2 l → l.length ≤ c2 → c2 ≤ maxLen → (∀ y : Addr, a2 = some y → w.heap.size ≤ y.block ∧ y.block < w'.heap.size) → K (a.put o.dst (.slice a2 l.length c2)) w') :
    if Region.wanted o (yielded ops a.tmps) = true then Oper.wp Tryd.prog o a w K Q else E := by
  rcases Nat.eq_zero_or_pos l.length with hz | hp
  · have hl : l = [] := List.length_eq_zero_iff.1 hz
    subst hl
    exact append_none_step w hgd s x ho hs ad c hx (h none 0 w (Below.refl _ _) ⟨Nat.zero_le _, Or.inl rfl⟩ (Nat.le_refl _) (Nat.zero_le _) (fun y hy => by cases hy))
  · refine append_copy_step w hgd s x ho hs l ad c hx hB hp hsz ?_
    intro g cap w' hO hg
    obtain ⟨g', cap', hv, hg', hBy, hc1, hc2⟩ := hO.form hp
    cases hv
    refine h _ _ w' (made_keeps hg) hBy hc1 hc2 fun y hy => ?_
    cases hy
    refine ⟨hg', ?_⟩
    rcases hBy.2 with h0 | ⟨b, o', hb, hlt, _⟩
    · omega
    · cases hb; exact hlt
end Go.Proofs.YtogpkbhjobhodaaDoor
