/- Flash of a call's own: its row of pages and the rows of their bytes, all in blocks apart from each other. -/
import Derived.Test.YtbabiandegianaaRFlash
import Derived.Test.YtbabiandegianaaRowK
import Derived.Test.YtbabiandegianaaFClone
namespace Go.Proofs.Ytbabiandegianaa
open Go.ChangeShapes Go.WideShapes Go.ChangeAt Go.RowKit
set_option linter.unusedVariables false
set_option linter.unusedSimpArgs false

def byteVs (l : List UInt8) : List Value := l.map fun b => Value.int .u8 (b.toNat : Int)
/-- The bytes of one page, in a row of the call's own. -/
def OwnBy (n : Nat) (w : World) (x : PageR × Value) : Prop := w.ownsRow n 5 1 x.2 x.1.bs.length (byteVs x.1.bs)
/-- Blocks apart. -/
def Apart (v : Value) (l : List (PageR × Value)) : Prop := (∀ x ∈ l, ∀ g, x.2.ownBlock = some g → v.ownBlock ≠ some g) ∧ l.Pairwise fun x y => ∀ g, x.2.ownBlock = some g → y.2.ownBlock ≠ some g
def PgOwn (n : Nat) (w : World) (v : Value) (l : List (PageR × Value)) : Prop := w.ownsRow n 40 2 v l.length (l.flatMap pgCells) ∧ (∀ x ∈ l, OwnBy n w x) ∧ Apart v l

theorem OwnBy.lt {n : Nat} {w : World} {x : PageR × Value} (h : OwnBy n w x) : ∀ g, x.2.ownBlock = some g → n ≤ g ∧ g < w.heap.size := World.ownsRow.lt h

theorem OwnBy.bytes {n : Nat} {w : World} {x : PageR × Value} (h : OwnBy n w x) (hm : x.1.bs.length ≤ maxLen) : ∃ a c, x.2 = .slice a x.1.bs.length c ∧ BytesAt w a x.1.bs ∧ x.1.bs.length ≤ c ∧ c ≤ maxLen ∧ x.2.oneCell' = true ∧ ∀ y, a = some y → x.2.ownBlock = some y.block := by
  rcases h.2 with ⟨h0, h1⟩ | ⟨g, cap, cur, hv, hg, hc, h1, h2, h3, h4⟩
  · exact ⟨none, 0, by rw [h0, h1], ⟨hm, Or.inl h1⟩, by omega, Nat.zero_le _, by rw [h0]; rfl, fun y hy => by cases hy⟩
  · refine ⟨some ⟨g, 0, none⟩, cap, hv, ⟨hm, Or.inr ⟨g, 0, rfl, ?_, fun j hj => ?_⟩⟩, h1, h2, by rw [hv]; rfl, fun y hy => by cases hy; rw [hv]; rfl⟩
    · rcases Nat.lt_or_ge g w.heap.size with hlt | hge
      · exact hlt
      · rw [Array.getElem?_eq_none hge] at hc; cases hc
    · rw [Nat.zero_add, cell_of_row w g j cur 5 (0, 0) hc]
      have : (byteVs x.1.bs)[j]? = some (.int .u8 ((x.1.bs.getD j 0).toNat : Int)) := by
        unfold byteVs
        rw [List.getElem?_map, List.getD_eq_getElem?_getD, List.getElem?_eq_getElem hj]
        rfl
      rw [← this, ← h4, List.getElem?_take_of_lt (by omega)]
      simp

/-- What does not touch the blocks of a flash leaves it as it is. -/
theorem OwnBy.kept {n : Nat} {w w' : World} {x : PageR × Value} (h : OwnBy n w x) (hk : ∀ g, x.2.ownBlock = some g → g < w.heap.size → w'.heap[g]? = w.heap[g]?) : OwnBy n w' x := by
  refine ⟨h.1, ?_⟩
  rcases h.2 with h0 | ⟨g, cap, cur, hv, hg, hc, q⟩
  · exact Or.inl h0
  · have hlt : g < w.heap.size := by
      rcases Nat.lt_or_ge g w.heap.size with hlt | hge
      · exact hlt
      · rw [Array.getElem?_eq_none hge] at hc; cases hc
    exact Or.inr ⟨g, cap, cur, hv, hg, by rw [hk g (by rw [hv]; rfl) hlt]; exact hc, q⟩

theorem PgOwn.kept {n : Nat} {w w' : World} {v : Value} {l : List (PageR × Value)} (h : PgOwn n w v l) (hk : ∀ b, n ≤ b → b < w.heap.size → w'.heap[b]? = w.heap[b]?) : PgOwn n w' v l := by
  obtain ⟨h1, h2, h3⟩ := h
  refine ⟨⟨h1.1, ?_⟩, fun x hx => (h2 x hx).kept fun g hg hl => hk g ((h2 x hx).lt g hg).1 hl, h3⟩
  rcases h1.2 with h | ⟨g, cap, cur, hv, hg, hc, q⟩
  · exact Or.inl h
  · have hlt : g < w.heap.size := by
      rcases Nat.lt_or_ge g w.heap.size with hlt | hge
      · exact hlt
      · rw [Array.getElem?_eq_none hge] at hc; cases hc
    exact Or.inr ⟨g, cap, cur, hv, hg, by rw [hk g hg hlt]; exact hc, q⟩
theorem PgOwn.later {n : Nat} {w w' : World} {v : Value} {l : List (PageR × Value)} (h : PgOwn n w v l) (hb : Below w.heap.size w w') : PgOwn n w' v l := h.kept fun b _ hl => hb.block b hl
theorem PgOwn.far {n : Nat} {w : World} {v : Value} {l : List (PageR × Value)} (h : PgOwn n w v l) {b j : Nat} {u : Value} (hb : b < n) : PgOwn n (w.setCell ⟨b, j, none⟩ u) v l := h.kept fun i hi hl => heap_setCell_other w ⟨b, j, none⟩ i u (show i ≠ b by omega)
theorem PgOwn.mono {n m : Nat} {w : World} {v : Value} {l : List (PageR × Value)} (h : PgOwn n w v l) (hm : m ≤ n) : PgOwn m w v l := by
  obtain ⟨h1, h2, h3⟩ := h
  have key : ∀ {e : TypeId} {s k : Nat} {u : Value} {xs : List Value}, w.ownsRow n e s u k xs → w.ownsRow m e s u k xs := by
    intro e s k u xs h
    refine ⟨h.1, ?_⟩
    rcases h.2 with h0 | ⟨g, cap, cur, hv, hg, q⟩
    · exact Or.inl h0
    · exact Or.inr ⟨g, cap, cur, hv, Nat.le_trans hm hg, q⟩
  exact ⟨key h1, fun x hx => key (h2 x hx), h3⟩

theorem PgOwn.own {n : Nat} {w : World} {v : Value} {l : List (PageR × Value)} (h : PgOwn n w v l) (hm : ∀ x ∈ l, x.1.bs.length ≤ maxLen) : OwnPg n w v l := by
  obtain ⟨h1, h2, h3⟩ := h
  refine ⟨h1, fun x hx => ?_⟩
  obtain ⟨a, c, e1, e2, e3, e4, _, e5⟩ := (h2 x hx).bytes (hm x hx)
  refine ⟨a, c, e1, e2, e3, e4, fun y hy => ?_⟩
  have hb := e5 y hy
  obtain ⟨q1, q2⟩ := (h2 x hx).lt _ hb
  exact ⟨q1, q2, h3.1 x hx _ hb⟩

theorem PgOwn.pages {n : Nat} {w : World} {v : Value} {l : List (PageR × Value)} (h : PgOwn n w v l) (hl : l.length ≤ maxLen) (hm : ∀ x ∈ l, x.1.bs.length ≤ maxLen) : ∃ a c, v = .slice a l.length c ∧ PagesFrom n w a (l.map (·.1)) := (h.own hm).pages hl

theorem pgCells_len : ∀ l : List (PageR × Value), (l.flatMap pgCells).length = l.length * 2
  | [] => rfl
  | x :: r => by rw [List.flatMap_cons, List.length_append, pgCells_len r, List.length_cons]; simp [pgCells]; omega
theorem pgCells_drop : ∀ (l : List (PageR × Value)) (k : Nat), (l.flatMap pgCells).drop (k * 2) = (l.drop k).flatMap pgCells
  | l, 0 => by simp
  | [], k + 1 => by simp
  | x :: r, k + 1 => by
    rw [List.drop_succ_cons, ← pgCells_drop r k, List.flatMap_cons, show (k + 1) * 2 = 2 + k * 2 by omega, ← List.drop_drop]
    congr 1
theorem pgCells_take : ∀ (l : List (PageR × Value)) (k : Nat), (l.flatMap pgCells).take (k * 2) = (l.take k).flatMap pgCells
  | l, 0 => by simp
  | [], k + 1 => by simp
  | x :: r, k + 1 => by
    rw [List.take_succ_cons, List.flatMap_cons, List.flatMap_cons, ← pgCells_take r k, show (k + 1) * 2 = (pgCells x).length + k * 2 by simp [pgCells]; omega, List.take_append, List.take_of_length_le (by omega)]
    simp

theorem PgOwn.slice {n : Nat} {w : World} {v : Value} {l : List (PageR × Value)} (h : PgOwn n w v l) : ∃ va vc, v = .slice va l.length vc := by
  rcases h.1.2 with ⟨h0, h1⟩ | ⟨g, cap, cur, hv, _⟩
  · exact ⟨none, 0, by rw [h0, h1]⟩
  · exact ⟨_, _, hv⟩

/-- The same, in blocks of O. -/
def PgO (O : Nat → Prop) (w : World) (v : Value) (l : List (PageR × Value)) : Prop := PgOwn 0 w v l ∧ (∀ g, v.ownBlock = some g → O g) ∧ ∀ x ∈ l, ∀ g, x.2.ownBlock = some g → O g
theorem PgOwn.toO {n : Nat} {w : World} {v : Value} {l : List (PageR × Value)} (h : PgOwn n w v l) : PgO (fun b => n ≤ b ∧ b < w.heap.size) w v l := ⟨h.mono (Nat.zero_le _), fun g hg => World.ownsRow.lt h.1 g hg, fun x hx g hg => (h.2.1 x hx).lt g hg⟩
theorem base_up {n : Nat} {w : World} {e : TypeId} {s k : Nat} {u : Value} {xs : List Value} (h : w.ownsRow 0 e s u k xs) (hb : ∀ g, u.ownBlock = some g → n ≤ g) : w.ownsRow n e s u k xs := by
  refine ⟨h.1, ?_⟩
  rcases h.2 with h0 | ⟨g, cap, cur, hv, _, q⟩
  · exact Or.inl h0
  · exact Or.inr ⟨g, cap, cur, hv, hb g (by rw [hv]; rfl), q⟩
theorem PgO.toOwn {O : Nat → Prop} {n : Nat} {w : World} {v : Value} {l : List (PageR × Value)} (h : PgO O w v l) (ho : ∀ b, O b → n ≤ b) : PgOwn n w v l := by
  obtain ⟨⟨h1, h2, h3⟩, h4, h5⟩ := h
  exact ⟨base_up h1 (fun g hg => ho g (h4 g hg)), fun x hx => base_up (h2 x hx) (fun g hg => ho g (h5 x hx g hg)), h3⟩
theorem PgO.kept {O : Nat → Prop} {w w' : World} {v : Value} {l : List (PageR × Value)} (h : PgO O w v l) (hk : ∀ b, O b → b < w.heap.size → w'.heap[b]? = w.heap[b]?) : PgO O w' v l := by
  obtain ⟨⟨h1, h2, h3⟩, h4, h5⟩ := h
  refine ⟨⟨⟨h1.1, ?_⟩, fun x hx => (h2 x hx).kept fun g hg hl => hk g (h5 x hx g hg) hl, h3⟩, h4, h5⟩
  rcases h1.2 with h | ⟨g, cap, cur, hv, hg, hc, q⟩
  · exact Or.inl h
  · have hlt : g < w.heap.size := by
      rcases Nat.lt_or_ge g w.heap.size with hlt | hge
      · exact hlt
      · rw [Array.getElem?_eq_none hge] at hc; cases hc
    exact Or.inr ⟨g, cap, cur, hv, hg, by rw [hk g (h4 g (by rw [hv]; rfl)) hlt]; exact hc, q⟩
theorem PgO.later {O : Nat → Prop} {w w' : World} {v : Value} {l : List (PageR × Value)} (h : PgO O w v l) (hb : Below w.heap.size w w') : PgO O w' v l := h.kept fun b _ hl => hb.block b hl
theorem PgO.far {O : Nat → Prop} {w : World} {v : Value} {l : List (PageR × Value)} (h : PgO O w v l) {b : Nat} (j : Nat) (u : Value) (hb : ¬ O b) : PgO O (w.setCell ⟨b, j, none⟩ u) v l := h.kept fun i hi hl => heap_setCell_other w ⟨b, j, none⟩ i u (fun e => hb (by subst e; exact hi))
theorem PgO.mono {O O' : Nat → Prop} {w : World} {v : Value} {l : List (PageR × Value)} (h : PgO O w v l) (ho : ∀ b, O b → O' b) : PgO O' w v l := ⟨h.1, fun g hg => ho g (h.2.1 g hg), fun x hx g hg => ho g (h.2.2 x hx g hg)⟩

/-- A page more, behind the others. -/
theorem PgO.snoc {O O' : Nat → Prop} {w w' : World} {v : Value} {l : List (PageR × Value)} (h : PgO O w v l) {g cap : Nat} {q : PageR × Value} (hr : w'.ownsRow 0 40 2 (.slice (some ⟨g, 0, none⟩) (l.length + 1) cap) (l.length + 1) (l.flatMap pgCells ++ pgCells q)) (hgr : w.grownBy w' v.ownBlock) (hat : v.ownBlock = some g ∨ g = w.heap.size)
    (hq : OwnBy 0 w q) (hqa : ∀ b, q.2.ownBlock = some b → v.ownBlock ≠ some b ∧ (∀ y ∈ l, y.2.ownBlock ≠ some b) ∧ O' b) (ho : ∀ b, O b → O' b) (hg : O' g) : PgO O' w' (.slice (some ⟨g, 0, none⟩) (l.length + 1) cap) (l ++ [q]) := by
  obtain ⟨⟨h1, h2, h3, h4⟩, h5, h6⟩ := h
  have hne : ∀ x : PageR × Value, OwnBy 0 w x → (∀ b, x.2.ownBlock = some b → v.ownBlock ≠ some b) → OwnBy 0 w' x ∧ ∀ b, x.2.ownBlock = some b → g ≠ b := by
    intro x hx hv
    refine ⟨hx.kept fun b hb hl => hgr.block b hl (fun e => hv b hb e.symm), fun b hb e => ?_⟩
    subst e
    rcases hat with e | e
    · exact hv _ hb e
    · have := (hx.lt _ hb).2
      omega
  have hqv : ∀ b, q.2.ownBlock = some b → v.ownBlock ≠ some b := fun b hb => (hqa b hb).1
  refine ⟨⟨?_, fun x hx => ?_, fun x hx b hb => ?_, ?_⟩, fun b hb => ?_, fun x hx b hb => ?_⟩
  · rw [List.length_append, List.flatMap_append]
    simpa using hr
  · rcases List.mem_append.1 hx with hx | hx
    · exact (hne x (h2 x hx) (h3 x hx)).1
    · simp at hx; subst hx; exact (hne _ hq hqv).1
  · intro e
    have e' : g = b := by simpa [Value.ownBlock] using e
    rcases List.mem_append.1 hx with hx | hx
    · exact (hne x (h2 x hx) (h3 x hx)).2 b hb e'
    · simp at hx; subst hx; exact (hne _ hq hqv).2 b hb e'
  · rw [List.pairwise_append]
    refine ⟨h4, List.pairwise_singleton _ _, fun x hx y hy b hb e => ?_⟩
    simp at hy
    subst hy
    exact (hqa b e).2.1 x hx hb
  · have e' : g = b := by simpa [Value.ownBlock] using hb
    exact e' ▸ hg
  · rcases List.mem_append.1 hx with hx | hx
    · exact ho b (h6 x hx b hb)
    · simp at hx; subst hx; exact (hqa b hb).2.2

/-- 'append(f.Pages, Page{..})' in a plain region. -/
theorem append_pgO {ops : Array Oper} {rest : List Oper} {o : Oper} {a : Act} {Q : Exit → Act → World → Prop} (w : World) (hgd : o.guard = none) (s x : Operand)
    (ho : o.op = .call { callee := .builtin .append, args := #[s, x], argTypes := #[22, 22] }) (O : Nat → Prop) (v : Value) (l : List (PageR × Value)) (hs : a.eval s = v) (hW : PgO O w v l) (q : PageR × Value) (B : Nat) (hx : a.eval x = .slice (some ⟨B, 0, none⟩) 1 1)
    (hB : w.heap[B]? = some (.cells (pgCells q).toArray 40 (0, 0))) (hq : OwnBy 0 w q) (hqa : ∀ b, q.2.ownBlock = some b → v.ownBlock ≠ some b ∧ (∀ y ∈ l, y.2.ownBlock ≠ some b) ∧ O b) (hone : q.2.oneCell' = true) (hsz : (l.length + 1) * 32 ≤ 140737488351232)
    (h : ∀ g cap w', PgO (fun b => O b ∨ w.heap.size ≤ b) w' (.slice (some ⟨g, 0, none⟩) (l.length + 1) cap) (l ++ [q]) → Fr O w w' → wpList Try.prog ops Q rest (a.put o.dst (.slice (some ⟨g, 0, none⟩) (l.length + 1) cap)) w') : wpList Try.prog ops Q (o :: rest) a w := by
  obtain ⟨i0, hi, hz0, hz1, hz2⟩ := info_parts infoPage
  refine wpList_append_lies w hgd s x 22 ho 0 40 i0 _ 2 32 Try.underlying22 hi hz0 hz1 hz2 rfl (by omega) v l.length (l.flatMap pgCells) hs hW.1.1 ⟨B, 0, none⟩ 1 1 (pgCells q) hx rfl ?_ ?_ (by omega) (by unfold maxLen; omega) (by omega) (Nat.zero_le _) w.heap.size rfl ?_
  · exact World.news_of_block hB
  · intro u hu
    simp [pgCells] at hu
    rcases hu with rfl | rfl
    · rfl
    · exact hone
  intro g cap w' h2 h3 h4 h5
  refine h g cap w' (hW.snoc h2 h3 h4 hq (fun b hb => ⟨(hqa b hb).1, (hqa b hb).2.1, Or.inl (hqa b hb).2.2⟩) (fun b hb => Or.inl hb) ?_) (Fr.of_grown h3 fun b hb => Or.inl (hW.2.1 b hb))
  rcases h4 with e | e
  · exact Or.inl (hW.2.1 g e)
  · exact Or.inr (by omega)
end Go.Proofs.Ytbabiandegianaa
