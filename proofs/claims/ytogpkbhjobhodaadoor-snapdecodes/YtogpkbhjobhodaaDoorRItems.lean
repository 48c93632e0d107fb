/- The contract of dovecoteref.items: the same items, in memory of their own. -/
import Derived.Test.YtogpkbhjobhodaaDoorSSame
import Derived.Test.YtogpkbhjobhodaaDoorFVals
import Derived.Test.YtogpkbhjobhodaaDoorTB
import Derived.Deep.AppendLies
namespace Go.Proofs.YtogpkbhjobhodaaDoor
open Go.ChangeShapes Go.WideShapes Go.ChangeAt Go.RowKit
set_option linter.unusedVariables false
set_option linter.unusedSimpArgs false

theorem infoItemR : (Tryd.prog.info? 49).map (fun i => (i.zero, i.size, i.bytes)) = some (some (.agg #[.string ByteArray.empty, .int .i64 0, .int .i64 0, .int .i64 0, .int .i64 0, .string ByteArray.empty, .bool false, .int .i64 0, .int .i64 0]), 9, 88) := by kernel_rfl

def itemCells (it : ItemR) : List Value := [.string it.key, .int .i64 it.flags, .int .i64 it.until_, .int .i64 it.cas, .int .i64 it.used, .string it.value, .bool it.far, .int .i64 it.page, .int .i64 it.at_]

theorem flat9 : ∀ (l : List ItemR) (j : Nat), j < l.length → ∀ i, i < 9 → (l.flatMap itemCells)[j * 9 + i]? = (itemCells (l.getD j default))[i]?
  | [], j, hj, _, _ => absurd hj (Nat.not_lt_zero _)
  | x :: r, 0, _, i, hi => by
    rw [List.flatMap_cons, Nat.zero_mul, Nat.zero_add, List.getElem?_append_left (by simpa [itemCells] using hi)]
    rfl
  | x :: r, j + 1, hj, i, hi => by
    have hl : (itemCells x).length = 9 := rfl
    rw [List.flatMap_cons, List.getElem?_append_right (by rw [hl]; omega), hl, show (j + 1) * 9 + i - 9 = j * 9 + i by omega, flat9 r j (by simpa using hj) i hi]
    rfl

/-- Items in a row of the call's own. -/
def OwnIt (W0 w : World) (v : Value) (l : List ItemR) : Prop := w.ownsRow W0.heap.size 49 9 v l.length (l.flatMap itemCells) ∧ Below W0.heap.size W0 w
theorem OwnIt.later {W0 w w1 : World} {v : Value} {l : List ItemR} (h : OwnIt W0 w v l) (hb : Below w.heap.size w w1) : OwnIt W0 w1 v l := ⟨ownsRow_later h.1 hb, h.2.trans (hb.mono h.2.size)⟩

/-- The items lie in blocks from n on: what changes below does not matter. -/
def ItemsFrom (n : Nat) (w : World) (a : Option Addr) (l : List ItemR) : Prop := ∀ w' : World, w.heap.size ≤ w'.heap.size → (∀ b, n ≤ b → b < w.heap.size → w'.heap[b]? = w.heap[b]?) → ItemsAt w' a l

theorem OwnIt.items {W0 w : World} {v : Value} {l : List ItemR} (h : OwnIt W0 w v l) (hm : l.length ≤ maxLen) : ∃ a c, v = .slice a l.length c ∧ ItemsFrom W0.heap.size w a l := by
  obtain ⟨hx, h | ⟨g, cap, cur, hv, hg, hc, h1, h2, h3, h4⟩⟩ := h.1
  · refine ⟨none, 0, by rw [h.1, h.2], fun w' _ _ => ⟨hm, Or.inl h.2⟩⟩
  · refine ⟨some ⟨g, 0, none⟩, cap, hv, fun w' hs hw => ⟨hm, Or.inr ⟨g, 0, rfl, ?_, fun j hj => ?_⟩⟩⟩
    · have hlt : g < w.heap.size := by
        rcases Nat.lt_or_ge g w.heap.size with hlt | hge
        · exact hlt
        · rw [Array.getElem?_eq_none hge] at hc; cases hc
      omega
    · have hlt : g < w.heap.size := by
        rcases Nat.lt_or_ge g w.heap.size with hlt | hge
        · exact hlt
        · rw [Array.getElem?_eq_none hge] at hc; cases hc
      have hc' : w'.heap[g]? = some (.cells cur 49 (0, 0)) := by rw [hw g hg hlt]; exact hc
      have ce : ∀ o, w'.cell? ⟨g, o, none⟩ = cur[o]? := fun o => by simp [World.cell?, hc']
      have hat : ∀ i, i < 9 → cur[0 + j * 9 + i]? = (itemCells (l.getD j default))[i]? := fun i hi => by
        rw [Nat.zero_add, ← flat9 l j hj i hi, ← h4, List.getElem?_take_of_lt (by omega)]
        simp
      refine ⟨?_, ?_, ?_, ?_, ?_, ?_, ?_, ?_, ?_⟩
      · rw [ce]; exact hat 0 (by omega)
      · rw [ce]; exact hat 1 (by omega)
      · rw [ce]; exact hat 2 (by omega)
      · rw [ce]; exact hat 3 (by omega)
      · rw [ce]; exact hat 4 (by omega)
      · rw [ce]; exact hat 5 (by omega)
      · rw [ce]; exact hat 6 (by omega)
      · rw [ce]; exact hat 7 (by omega)
      · rw [ce]; exact hat 8 (by omega)

theorem append_items {ops : Array Oper} {rest : List Oper} {o : Oper} {a : Act} {Q : Exit → Act → World → Prop} (w : World) (hgd : o.guard = none) (s x : Operand)
    (ho : o.op = .call { callee := .builtin .append, args := #[s, x], argTypes := #[24, 24] })
    (W0 : World) (v : Value) (l : List ItemR) (hs : a.eval s = v) (hW : OwnIt W0 w v l) (it : ItemR) (B : Nat) (hx : a.eval x = .slice (some ⟨B, 0, none⟩) 1 1) (hB : w.heap[B]? = some (.cells (itemCells it).toArray 49 (0, 0))) (hsz : (l.length + 1) * 88 ≤ 140737488351232)
    (h : ∀ g cap w', OwnIt W0 w' (.slice (some ⟨g, 0, none⟩) (l.length + 1) cap) (l ++ [it]) → wpList Tryd.prog ops Q rest (a.put o.dst (.slice (some ⟨g, 0, none⟩) (l.length + 1) cap)) w') : wpList Tryd.prog ops Q (o :: rest) a w := by
  obtain ⟨i0, hi, hz0, hz1, hz2⟩ := info_parts infoItemR
  refine wpList_append_lies w hgd s x 24 ho W0.heap.size 49 i0 _ 9 88 Tryd.underlying24 hi hz0 hz1 hz2 rfl (by omega) v l.length (l.flatMap itemCells) hs hW.1 ⟨B, 0, none⟩ 1 1 (itemCells it) hx rfl ?_ ?_ (by omega) (by unfold maxLen; omega) (by omega) hW.2.size w.heap.size rfl ?_
  · exact World.news_of_block hB
  · intro u hu
    simp [itemCells] at hu
    rcases hu with rfl | rfl | rfl | rfl | rfl | rfl | rfl | rfl | rfl <;> rfl
  intro g cap w' h2 h3 h4 h5
  refine h g cap w' ⟨?_, hW.2.grown h3 hW.2.size (fun k hk => (hW.1.lt k hk).1)⟩
  rw [List.length_append, List.flatMap_append]
  simpa using h2

def RItemsPost (l : List ItemR) (w : World) (e : Ending) (w' : World) : Prop := ∃ a' c', e = .returned (.slice a' l.length c') ∧ ItemsFrom w.heap.size w' a' l ∧ Below w.heap.size w w'

end Go.Proofs.YtogpkbhjobhodaaDoor
