/- The contract of flash.Copy. -/
import Derived.Test.YtogpkbhjobhodaaDoorFRef
import Derived.Deep.RegionHeld3
import Derived.Deep.DeepCutAuto
namespace Go.Proofs.YtogpkbhjobhodaaDoor
open Go.ChangeShapes Go.WideShapes Go.ChangeAt Go.RowKit
set_option linter.unusedVariables false
set_option linter.unusedSimpArgs false

theorem infoPage : (Tryd.prog.info? 45).map (fun i => (i.zero, i.size, i.bytes)) = some (some (.agg #[.int .i64 0, .slice none 0 0]), 2, 32) := by kernel_rfl

/-- The pages j < k of the row that is made, in its block H. -/
def RowP (ps : List PageR) (H k : Nat) (cur : Array Value) (w : World) : Prop :=
  ∀ j, j < k → ∃ a c, cur[j * 2]? = some (.int .i64 (ps.getD j default).num) ∧ cur[j * 2 + 1]? = some (.slice a (ps.getD j default).bs.length c) ∧ BytesAt w a (ps.getD j default).bs ∧ (∀ x, a = some x → H < x.block) ∧ (ps.getD j default).bs.length ≤ c ∧ c ≤ maxLen

def CopR (ps : List PageR) (W : World) (H k : Nat) (wr : World) : Prop :=
  ∃ cur : Array Value, wr.heap[H]? = some (.cells cur 45 (0, 0)) ∧ cur.size = ps.length * 2 ∧ Below H W wr ∧ RowP ps H k cur wr

theorem made_keeps {W w1 : World} (hg : W.grownBy w1 none) : Below W.heap.size W w1 := (Below.refl _ _).grown hg (Nat.le_refl _) (fun k h => by cases h)

/-- 'append([]byte(nil), b...)' at a step of a region that draws. -/
theorem append_copy_step {ops : Array Oper} {o : Oper} {a : Act} {K : Act → World → Prop} {Q : Exit → Act → World → Prop} {E : Prop} (w : World) (hgd : o.guard = none) (s x : Operand)
    (ho : o.op = .call { callee := .builtin .append, args := #[s, x], argTypes := #[22, 22] }) (hs : a.eval s = .slice none 0 0)
    (l : List UInt8) (ad : Option Addr) (c : Nat) (hx : a.eval x = .slice ad l.length c) (hB : BytesAt w ad l) (hp : 0 < l.length) (hsz : l.length ≤ 140737488351232)
    (h : ∀ g cap w', OwnB w w' (.slice (some ⟨g, 0, none⟩) l.length cap) l → w.grownBy w' none → K (a.put o.dst (.slice (some ⟨g, 0, none⟩) l.length cap)) w') :
    if Region.wanted o (yielded ops a.tmps) = true then Oper.wp Tryd.prog o a w K Q else E := by
  obtain ⟨i0, hi, hz0, hz1, hz2⟩ := info_parts infoByte
  obtain ⟨_, hm⟩ := hB
  rcases hm with hm | ⟨b, off, rfl, hlt, hc⟩
  · omega
  refine step_append_lies w hgd s x 22 ho w.heap.size 5 i0 (.int .u8 0) 1 1 Tryd.underlying22 hi hz0 hz1 hz2 rfl (by omega) (.slice none 0 0) 0 [] hs ⟨rfl, Or.inl ⟨rfl, rfl⟩⟩ ⟨b, off, none⟩ l.length c (l.map fun y => Value.int .u8 (y.toNat : Int)) hx (by simp) ?_ ?_ hp (by unfold maxLen; omega) (by omega) (Nat.le_refl _) w.heap.size rfl ?_
  · intro j u hj
    rw [List.getElem?_map, Option.map_eq_some_iff] at hj
    obtain ⟨y, hy, rfl⟩ := hj
    obtain ⟨hjl, hje⟩ := List.getElem?_eq_some_iff.1 hy
    rw [WideShapes.add_plain, hc j hjl, List.getD_eq_getElem?_getD, hy]
    rfl
  · intro u hu
    obtain ⟨y, _, rfl⟩ := List.mem_map.1 hu
    rfl
  intro g cap w' h2 h3 h4 h5
  rw [Nat.zero_add] at h2 ⊢
  refine h g cap w' ⟨?_, made_keeps h3⟩ h3
  simpa using h2
end Go.Proofs.YtogpkbhjobhodaaDoor
