/- The walk of flash.Copy. -/
import Derived.Test.YtogpkbhjobhodaaDoorFCopy
namespace Go.Proofs.YtogpkbhjobhodaaDoor
open Go.ChangeShapes Go.WideShapes Go.ChangeAt Go.RowKit
set_option linter.unusedVariables false
set_option linter.unusedSimpArgs false

theorem cell_row {w : World} {H : Nat} {cur : Array Value} (h : w.heap[H]? = some (.cells cur 45 (0, 0))) (j : Nat) : w.cell? ⟨H, j, none⟩ = cur[j]? := by simp [World.cell?, h]

theorem BytesAt.farH {w : World} {a : Option Addr} {l : List UInt8} (h : BytesAt w a l) (H j : Nat) (v : Value) (hp : ∀ x, a = some x → H < x.block) : BytesAt (w.setCell ⟨H, j, none⟩ v) a l := by
  obtain ⟨h1, h4⟩ := h
  refine ⟨h1, ?_⟩
  rcases h4 with h4 | ⟨b, off, ha, hlt, hc⟩
  · exact Or.inl h4
  · have hb : H < b := hp _ ha
    refine Or.inr ⟨b, off, ha, by simp [World.setCell]; omega, fun i hi => ?_⟩
    rw [World.cell?_setCell_far w ⟨H, j, none⟩ ⟨b, off + i, none⟩ v (show H ≠ b by omega)]
    exact hc i hi

theorem CopR.step {ps : List PageR} {W wr w2 : World} {H k c2 : Nat} {a2 : Option Addr} {cur : Array Value} (hlt : k < ps.length) (hcur : wr.heap[H]? = some (.cells cur 45 (0, 0))) (hcs : cur.size = ps.length * 2) (hb : Below H W wr) (hP : RowP ps H k cur wr)
    (hw : Below wr.heap.size wr w2) (hHr : H < wr.heap.size) (num : Int) (bs : List UInt8) (hn : (ps.getD k default).num = num) (hbs : (ps.getD k default).bs = bs) (hB : BytesAt w2 a2 bs) (hne : ∀ x, a2 = some x → H < x.block) (hc1 : bs.length ≤ c2) (hc2 : c2 ≤ maxLen) :
    CopR ps W H (k + 1) ((w2.setCell ⟨H, k * 2, none⟩ (.int .i64 num)).setCell ⟨H, k * 2 + 1, none⟩ (.slice a2 bs.length c2)) := by
  subst hn hbs
  have h2 : w2.heap[H]? = some (.cells cur 45 (0, 0)) := by rw [hw.block H hHr]; exact hcur
  refine ⟨(cur.setIfInBounds (k * 2) _).setIfInBounds (k * 2 + 1) _, heap_setCell_same _ H _ _ 45 _ (heap_setCell_same _ H _ _ 45 _ h2), by simp [hcs], ((hb.trans (hw.mono (by omega))).setCell (Nat.le_refl _) _).setCell (Nat.le_refl _) _, fun j hj => ?_⟩
  by_cases hjk : j = k
  · subst hjk
    refine ⟨a2, c2, ?_, ?_, (hB.farH _ _ _ hne).farH _ _ _ hne, hne, hc1, hc2⟩
    · rw [Array.getElem?_setIfInBounds_ne (by omega), Array.getElem?_setIfInBounds_self_of_lt (by omega)]
    · rw [Array.getElem?_setIfInBounds_self_of_lt (by simp; omega)]
  · obtain ⟨a, c, e1, e2, e3, e4, e5⟩ := hP j (by omega)
    refine ⟨a, c, ?_, ?_, ((e3.later hw).farH _ _ _ e4).farH _ _ _ e4, e4, e5⟩
    · rw [Array.getElem?_setIfInBounds_ne (by omega), Array.getElem?_setIfInBounds_ne (by omega)]; exact e1
    · rw [Array.getElem?_setIfInBounds_ne (by omega), Array.getElem?_setIfInBounds_ne (by omega)]; exact e2

theorem CopR.later {ps : List PageR} {W w w' : World} {H k : Nat} (h : CopR ps W H k w) (hH : H < w.heap.size) (hb : Below w.heap.size w w') : CopR ps W H k w' := by
  obtain ⟨cur, h1, h2, h3, h4⟩ := h
  refine ⟨cur, by rw [hb.block H hH]; exact h1, h2, h3.trans (hb.mono (by omega)), fun j hj => ?_⟩
  obtain ⟨a, c, e1, e2, e3, e4⟩ := h4 j hj
  exact ⟨a, c, e1, e2, e3.later hb, e4⟩

theorem cell_new2 (W : World) (n : Nat) (h : W.heap.size = n) (cs : Array Value) (t : TypeId) (j : Nat) : ((W.alloc (.cells cs t)).drew).cell? ⟨n, j, none⟩ = cs[j]? := by
  subst h
  simp [go_sem]

theorem row_pages {ps : List PageR} {H : Nat} {cur : Array Value} {w w' : World} (hm : ps.length ≤ maxLen) (hHl : H < w.heap.size) (hcur : w.heap[H]? = some (.cells cur 45 (0, 0))) (hP : RowP ps H ps.length cur w) (hs : w.heap.size ≤ w'.heap.size) (hw : ∀ b, H ≤ b → b < w.heap.size → w'.heap[b]? = w.heap[b]?) : PagesAt w' (some ⟨H, 0, none⟩) ps := by
  have ce : ∀ b o, H ≤ b → b < w.heap.size → w'.cell? ⟨b, o, none⟩ = w.cell? ⟨b, o, none⟩ := fun b o h h2 => by simp only [World.cell?, hw b h h2]
  refine ⟨hm, Or.inr ⟨H, 0, rfl, Nat.lt_of_lt_of_le hHl hs, fun j hj => ?_⟩⟩
  obtain ⟨a, c, e1, e2, e3, e4, e5⟩ := hP j hj
  refine ⟨a, c, ?_, ?_, ⟨e3.1, ?_⟩, e5⟩
  · rw [ce _ _ (Nat.le_refl _) hHl, cell_row hcur, Nat.zero_add]; exact e1
  · rw [ce _ _ (Nat.le_refl _) hHl, cell_row hcur, Nat.zero_add]; exact e2
  · rcases e3.2 with h4 | ⟨b, off, ha, hlt, hc⟩
    · exact Or.inl h4
    · refine Or.inr ⟨b, off, ha, Nat.lt_of_lt_of_le hlt hs, fun i hi => ?_⟩
      rw [ce _ _ (Nat.le_of_lt (e4 _ ha)) hlt]
      exact hc i hi

theorem append_none_step {ops : Array Oper} {o : Oper} {a : Act} {K : Act → World → Prop} {Q : Exit → Act → World → Prop} {E : Prop} (w : World) (hgd : o.guard = none) (s x : Operand)
    (ho : o.op = .call { callee := .builtin .append, args := #[s, x], argTypes := #[22, 22] }) (hs : a.eval s = .slice none 0 0) (ad : Option Addr) (c : Nat) (hx : a.eval x = .slice ad 0 c)
    (h : K (a.put o.dst (.slice none 0 0)) w) : if Region.wanted o (yielded ops a.tmps) = true then Oper.wp Tryd.prog o a w K Q else E := by
  obtain ⟨i0, hi, hz0, hz1, hz2⟩ := info_parts infoByte
  have hr : (Builtin.append_ #[22, 22] o.type #[.slice none 0 0, .slice ad 0 c]).run Tryd.prog w = .ok (.slice none 0 0) w := by
    cases ad <;> simp [Builtin.append_, run_underlying Tryd.underlying22, sizeOf, typeInfo, hi, Builtin.lenOf, Builtin.firstCells, go_sem]
  have hw : Region.wanted o (yielded ops a.tmps) = true := by simp [Region.wanted, hgd]
  rw [if_pos hw]
  unfold Oper.wp execOp
  simp only [ho, resolve, invoke, builtin, Sem.run_bind, Sem.run_pure, Result.andThen_ok, List.map_toArray, List.map_cons, List.map_nil, hs, hx, hr]
  exact h

/-- The pages lie in blocks from n on: what changes below does not matter. -/
def PagesFrom (n : Nat) (w : World) (a : Option Addr) (ps : List PageR) : Prop := ∀ w' : World, w.heap.size ≤ w'.heap.size → (∀ b, n ≤ b → b < w.heap.size → w'.heap[b]? = w.heap[b]?) → PagesAt w' a ps

def CopyPost2 (m x : Int) (ps : List PageR) (w : World) (e : Ending) (w' : World) : Prop := ∃ a' c', e = .returned (.agg #[.int .i64 m, .int .i64 x, .slice a' ps.length c']) ∧ PagesFrom w.heap.size w' a' ps ∧ Below w.heap.size w w'

def CopyPost (m x : Int) (ps : List PageR) (w : World) (e : Ending) (w' : World) : Prop := ∃ a' c', e = .returned (.agg #[.int .i64 m, .int .i64 x, .slice a' ps.length c']) ∧ PagesAt w' a' ps ∧ Below w.heap.size w w'

end Go.Proofs.YtogpkbhjobhodaaDoor
