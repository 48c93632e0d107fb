/- Parts of the proof. -/
import Derived.Test.YtdblegdgmjakfaaGreatDoorMJ01
import Derived.Deep.LoopGhost
import Derived.Deep.RegionLaw
namespace Go.Proofs.YtdblegdgmjakfaaGreatDoor
open Go.ChangeShapes Go.WideShapes Go.ChangeAt Go.RowKit
set_option linter.unusedVariables false
set_option linter.unusedSimpArgs false

/- Flash of a call's own: its row of pages and the rows of their bytes, all in blocks apart from each other. -/

def byteVs (l : List UInt8) : List Value := l.map fun b => Value.int .u8 (b.toNat : Int)
/-- The bytes of one page, in a row of the call's own. -/
def OwnBy (n : Nat) (w : World) (x : PageR × Value) : Prop := w.ownsRow n 5 1 x.2 x.1.bs.length (byteVs x.1.bs)
/-- Blocks apart. -/
def Apart (v : Value) (l : List (PageR × Value)) : Prop := (∀ x ∈ l, ∀ g, x.2.ownBlock = some g → v.ownBlock ≠ some g) ∧ l.Pairwise fun x y => ∀ g, x.2.ownBlock = some g → y.2.ownBlock ≠ some g
def PgOwn (n : Nat) (w : World) (v : Value) (l : List (PageR × Value)) : Prop := w.ownsRow n 119 2 v l.length (l.flatMap pgCells) ∧ (∀ x ∈ l, OwnBy n w x) ∧ Apart v l

theorem OwnBy.lt {n : Nat} {w : World} {x : PageR × Value} (h : OwnBy n w x) : ∀ g, x.2.ownBlock = some g → n ≤ g ∧ g < w.heap.size := World.ownsRow.lt h

theorem OwnBy.bytes {n : Nat} {w : World} {x : PageR × Value} (h : OwnBy n w x) (hm : x.1.bs.length ≤ maxLen) : ∃ a c, x.2 = .slice a x.1.bs.length c ∧ BytesAt w a x.1.bs ∧ x.1.bs.length ≤ c ∧ c ≤ maxLen ∧ x.2.oneCell' = true ∧ ∀ y, a = some y → x.2.ownBlock = some y.block := by
 rcases h.2 with ⟨h0, h1⟩ | ⟨g, cap, cur, hv, hg, hc, h1, h2, h3, h4⟩
 · exact ⟨none, 0, by rw [h0, h1], ⟨hm, Or.inl h1⟩, by omega, Nat.zero_le _, by rw [h0]; rfl, fun y hy => by cases hy⟩
 · refine ⟨some ⟨g, 0, none⟩, cap, hv, ⟨hm, Or.inr ⟨g, 0, rfl, ?_, fun j hj => ?_⟩⟩, h1, h2, by rw [hv]; rfl, fun y hy => by cases hy; rw [hv]; rfl⟩
   · rcases Nat.lt_or_ge g w.heap.size with hlt | hge
     · exact hlt
     · rw [Array.getElem?_eq_none hge] at hc; cases hc
   · rw [Nat.zero_add, cell_of_row w g j cur 5 (0, 0) hc]
     have : (byteVs x.1.bs)[j]? = some (.int .u8 ((x.1.bs.getD j 0).toNat : Int)) := by
      unfold byteVs
      rw [List.getElem?_map, List.getD_eq_getElem?_getD, List.getElem?_eq_getElem hj]
      rfl
     rw [← this, ← h4, List.getElem?_take_of_lt (by omega)]
     simp

/-- What does not touch the blocks of a flash leaves it as it is. -/
theorem OwnBy.kept {n : Nat} {w w' : World} {x : PageR × Value} (h : OwnBy n w x) (hk : ∀ g, x.2.ownBlock = some g → g < w.heap.size → w'.heap[g]? = w.heap[g]?) : OwnBy n w' x := by
 refine ⟨h.1, ?_⟩
 rcases h.2 with h0 | ⟨g, cap, cur, hv, hg, hc, q⟩
 · exact Or.inl h0
 · have hlt : g < w.heap.size := by
    rcases Nat.lt_or_ge g w.heap.size with hlt | hge
    · exact hlt
    · rw [Array.getElem?_eq_none hge] at hc; cases hc
   exact Or.inr ⟨g, cap, cur, hv, hg, by rw [hk g (by rw [hv]; rfl) hlt]; exact hc, q⟩

theorem PgOwn.kept {n : Nat} {w w' : World} {v : Value} {l : List (PageR × Value)} (h : PgOwn n w v l) (hk : ∀ b, n ≤ b → b < w.heap.size → w'.heap[b]? = w.heap[b]?) : PgOwn n w' v l := by
 obtain ⟨h1, h2, h3⟩ := h
 refine ⟨⟨h1.1, ?_⟩, fun x hx => (h2 x hx).kept fun g hg hl => hk g ((h2 x hx).lt g hg).1 hl, h3⟩
 rcases h1.2 with h | ⟨g, cap, cur, hv, hg, hc, q⟩
 · exact Or.inl h
 · have hlt : g < w.heap.size := by
    rcases Nat.lt_or_ge g w.heap.size with hlt | hge
    · exact hlt
    · rw [Array.getElem?_eq_none hge] at hc; cases hc
   exact Or.inr ⟨g, cap, cur, hv, hg, by rw [hk g hg hlt]; exact hc, q⟩
theorem PgOwn.later {n : Nat} {w w' : World} {v : Value} {l : List (PageR × Value)} (h : PgOwn n w v l) (hb : Below w.heap.size w w') : PgOwn n w' v l := h.kept fun b _ hl => hb.block b hl
theorem PgOwn.far {n : Nat} {w : World} {v : Value} {l : List (PageR × Value)} (h : PgOwn n w v l) {b j : Nat} {u : Value} (hb : b < n) : PgOwn n (w.setCell ⟨b, j, none⟩ u) v l := h.kept fun i hi hl => heap_setCell_other w ⟨b, j, none⟩ i u (show i ≠ b by omega)
theorem PgOwn.mono {n m : Nat} {w : World} {v : Value} {l : List (PageR × Value)} (h : PgOwn n w v l) (hm : m ≤ n) : PgOwn m w v l := by
 obtain ⟨h1, h2, h3⟩ := h
 have key : ∀ {e : TypeId} {s k : Nat} {u : Value} {xs : List Value}, w.ownsRow n e s u k xs → w.ownsRow m e s u k xs := by
  intro e s k u xs h
  refine ⟨h.1, ?_⟩
  rcases h.2 with h0 | ⟨g, cap, cur, hv, hg, q⟩
  · exact Or.inl h0
  · exact Or.inr ⟨g, cap, cur, hv, Nat.le_trans hm hg, q⟩
 exact ⟨key h1, fun x hx => key (h2 x hx), h3⟩

theorem PgOwn.own {n : Nat} {w : World} {v : Value} {l : List (PageR × Value)} (h : PgOwn n w v l) (hm : ∀ x ∈ l, x.1.bs.length ≤ maxLen) : OwnPg n w v l := by
 obtain ⟨h1, h2, h3⟩ := h
 refine ⟨h1, fun x hx => ?_⟩
 obtain ⟨a, c, e1, e2, e3, e4, _, e5⟩ := (h2 x hx).bytes (hm x hx)
 refine ⟨a, c, e1, e2, e3, e4, fun y hy => ?_⟩
 have hb := e5 y hy
 obtain ⟨q1, q2⟩ := (h2 x hx).lt _ hb
 exact ⟨q1, q2, h3.1 x hx _ hb⟩

theorem PgOwn.pages {n : Nat} {w : World} {v : Value} {l : List (PageR × Value)} (h : PgOwn n w v l) (hl : l.length ≤ maxLen) (hm : ∀ x ∈ l, x.1.bs.length ≤ maxLen) : ∃ a c, v = .slice a l.length c ∧ PagesFrom n w a (l.map (·.1)) := (h.own hm).pages hl

theorem pgCells_len : ∀ l : List (PageR × Value), (l.flatMap pgCells).length = l.length * 2
 | [] => rfl
 | x :: r => by rw [List.flatMap_cons, List.length_append, pgCells_len r, List.length_cons]; simp [pgCells]; omega
theorem PgOwn.slice {n : Nat} {w : World} {v : Value} {l : List (PageR × Value)} (h : PgOwn n w v l) : ∃ va vc, v = .slice va l.length vc := by
 rcases h.1.2 with ⟨h0, h1⟩ | ⟨g, cap, cur, hv, _⟩
 · exact ⟨none, 0, by rw [h0, h1]⟩
 · exact ⟨_, _, hv⟩

/-- The same, in blocks of O. -/
def PgO (O : Nat → Prop) (w : World) (v : Value) (l : List (PageR × Value)) : Prop := PgOwn 0 w v l ∧ (∀ g, v.ownBlock = some g → O g) ∧ ∀ x ∈ l, ∀ g, x.2.ownBlock = some g → O g
theorem PgOwn.toO {n : Nat} {w : World} {v : Value} {l : List (PageR × Value)} (h : PgOwn n w v l) : PgO (fun b => n ≤ b ∧ b < w.heap.size) w v l := ⟨h.mono (Nat.zero_le _), fun g hg => World.ownsRow.lt h.1 g hg, fun x hx g hg => (h.2.1 x hx).lt g hg⟩
theorem base_up {n : Nat} {w : World} {e : TypeId} {s k : Nat} {u : Value} {xs : List Value} (h : w.ownsRow 0 e s u k xs) (hb : ∀ g, u.ownBlock = some g → n ≤ g) : w.ownsRow n e s u k xs := by
 refine ⟨h.1, ?_⟩
 rcases h.2 with h0 | ⟨g, cap, cur, hv, _, q⟩
 · exact Or.inl h0
 · exact Or.inr ⟨g, cap, cur, hv, hb g (by rw [hv]; rfl), q⟩
theorem PgO.toOwn {O : Nat → Prop} {n : Nat} {w : World} {v : Value} {l : List (PageR × Value)} (h : PgO O w v l) (ho : ∀ b, O b → n ≤ b) : PgOwn n w v l := by
 obtain ⟨⟨h1, h2, h3⟩, h4, h5⟩ := h
 exact ⟨base_up h1 (fun g hg => ho g (h4 g hg)), fun x hx => base_up (h2 x hx) (fun g hg => ho g (h5 x hx g hg)), h3⟩
theorem PgO.kept {O : Nat → Prop} {w w' : World} {v : Value} {l : List (PageR × Value)} (h : PgO O w v l) (hk : ∀ b, O b → b < w.heap.size → w'.heap[b]? = w.heap[b]?) : PgO O w' v l := by
 obtain ⟨⟨h1, h2, h3⟩, h4, h5⟩ := h
 refine ⟨⟨⟨h1.1, ?_⟩, fun x hx => (h2 x hx).kept fun g hg hl => hk g (h5 x hx g hg) hl, h3⟩, h4, h5⟩
 rcases h1.2 with h | ⟨g, cap, cur, hv, hg, hc, q⟩
 · exact Or.inl h
 · have hlt : g < w.heap.size := by
    rcases Nat.lt_or_ge g w.heap.size with hlt | hge
    · exact hlt
    · rw [Array.getElem?_eq_none hge] at hc; cases hc
   exact Or.inr ⟨g, cap, cur, hv, hg, by rw [hk g (h4 g (by rw [hv]; rfl)) hlt]; exact hc, q⟩
theorem PgO.later {O : Nat → Prop} {w w' : World} {v : Value} {l : List (PageR × Value)} (h : PgO O w v l) (hb : Below w.heap.size w w') : PgO O w' v l := h.kept fun b _ hl => hb.block b hl
theorem PgO.far {O : Nat → Prop} {w : World} {v : Value} {l : List (PageR × Value)} (h : PgO O w v l) {b : Nat} (j : Nat) (u : Value) (hb : ¬ O b) : PgO O (w.setCell ⟨b, j, none⟩ u) v l := h.kept fun i hi hl => heap_setCell_other w ⟨b, j, none⟩ i u (fun e => hb (by subst e; exact hi))
theorem PgO.mono {O O' : Nat → Prop} {w : World} {v : Value} {l : List (PageR × Value)} (h : PgO O w v l) (ho : ∀ b, O b → O' b) : PgO O' w v l := ⟨h.1, fun g hg => ho g (h.2.1 g hg), fun x hx g hg => ho g (h.2.2 x hx g hg)⟩

/-- A page more, behind the others. -/
theorem PgO.snoc {O O' : Nat → Prop} {w w' : World} {v : Value} {l : List (PageR × Value)} (h : PgO O w v l) {g cap : Nat} {q : PageR × Value} (hr : w'.ownsRow 0 119 2 (.slice (some ⟨g, 0, none⟩) (l.length + 1) cap) (l.length + 1) (l.flatMap pgCells ++ pgCells q)) (hgr : w.grownBy w' v.ownBlock) (hat : v.ownBlock = some g ∨ g = w.heap.size)
 (hq : OwnBy 0 w q) (hqa : ∀ b, q.2.ownBlock = some b → v.ownBlock ≠ some b ∧ (∀ y ∈ l, y.2.ownBlock ≠ some b) ∧ O' b) (ho : ∀ b, O b → O' b) (hg : O' g) : PgO O' w' (.slice (some ⟨g, 0, none⟩) (l.length + 1) cap) (l ++ [q]) := by
 obtain ⟨⟨h1, h2, h3, h4⟩, h5, h6⟩ := h
 have hne : ∀ x : PageR × Value, OwnBy 0 w x → (∀ b, x.2.ownBlock = some b → v.ownBlock ≠ some b) → OwnBy 0 w' x ∧ ∀ b, x.2.ownBlock = some b → g ≠ b := by
  intro x hx hv
  refine ⟨hx.kept fun b hb hl => hgr.block b hl (fun e => hv b hb e.symm), fun b hb e => ?_⟩
  subst e
  rcases hat with e | e
  · exact hv _ hb e
  · have := (hx.lt _ hb).2
    omega
 have hqv : ∀ b, q.2.ownBlock = some b → v.ownBlock ≠ some b := fun b hb => (hqa b hb).1
 refine ⟨⟨?_, fun x hx => ?_, fun x hx b hb => ?_, ?_⟩, fun b hb => ?_, fun x hx b hb => ?_⟩
 · rw [List.length_append, List.flatMap_append]
   simpa using hr
 · rcases List.mem_append.1 hx with hx | hx
   · exact (hne x (h2 x hx) (h3 x hx)).1
   · simp at hx; subst hx; exact (hne _ hq hqv).1
 · intro e
   have e' : g = b := by simpa [Value.ownBlock] using e
   rcases List.mem_append.1 hx with hx | hx
   · exact (hne x (h2 x hx) (h3 x hx)).2 b hb e'
   · simp at hx; subst hx; exact (hne _ hq hqv).2 b hb e'
 · rw [List.pairwise_append]
   refine ⟨h4, List.pairwise_singleton _ _, fun x hx y hy b hb e => ?_⟩
   simp at hy
   subst hy
   exact (hqa b e).2.1 x hx hb
 · have e' : g = b := by simpa [Value.ownBlock] using hb
   exact e' ▸ hg
 · rcases List.mem_append.1 hx with hx | hx
   · exact ho b (h6 x hx b hb)
   · simp at hx; subst hx; exact (hqa b hb).2.2

/-- 'append(f.Pages, Page{..})' in a plain region. -/
theorem append_pgO {ops : Array Oper} {rest : List Oper} {o : Oper} {a : Act} {Q : Exit → Act → World → Prop} (w : World) (hgd : o.guard = none) (s x : Operand)
 (ho : o.op = .call { callee := .builtin .append, args := #[s, x], argTypes := #[25, 25] }) (O : Nat → Prop) (v : Value) (l : List (PageR × Value)) (hs : a.eval s = v) (hW : PgO O w v l) (q : PageR × Value) (B : Nat) (hx : a.eval x = .slice (some ⟨B, 0, none⟩) 1 1)
 (hB : w.heap[B]? = some (.cells (pgCells q).toArray 119 (0, 0))) (hq : OwnBy 0 w q) (hqa : ∀ b, q.2.ownBlock = some b → v.ownBlock ≠ some b ∧ (∀ y ∈ l, y.2.ownBlock ≠ some b) ∧ O b) (hone : q.2.oneCell' = true) (hsz : (l.length + 1) * 32 ≤ 140737488351232)
 (h : ∀ g cap w', PgO (fun b => O b ∨ w.heap.size ≤ b) w' (.slice (some ⟨g, 0, none⟩) (l.length + 1) cap) (l ++ [q]) → Fr O w w' → wpList Tryz.prog ops Q rest (a.put o.dst (.slice (some ⟨g, 0, none⟩) (l.length + 1) cap)) w') : wpList Tryz.prog ops Q (o :: rest) a w := by
 obtain ⟨i0, hi, hz0, hz1, hz2⟩ := info_parts infoPage
 refine wpList_append_lies w hgd s x 25 ho 0 119 i0 _ 2 32 Tryz.underlying25 hi hz0 hz1 hz2 rfl (by omega) v l.length (l.flatMap pgCells) hs hW.1.1 ⟨B, 0, none⟩ 1 1 (pgCells q) hx rfl ?_ ?_ (by omega) (by unfold maxLen; omega) (by omega) (Nat.zero_le _) w.heap.size rfl ?_
 · exact World.news_of_block hB
 · intro u hu
   simp [pgCells] at hu
   rcases hu with rfl | rfl
   · rfl
   · exact hone
 intro g cap w' h2 h3 h4 h5
 refine h g cap w' (hW.snoc h2 h3 h4 hq (fun b hb => ⟨(hqa b hb).1, (hqa b hb).2.1, Or.inl (hqa b hb).2.2⟩) (fun b hb => Or.inl hb) ?_) (Fr.of_grown h3 fun b hb => Or.inl (hW.2.1 b hb))
 rcases h4 with e | e
 · exact Or.inl (hW.2.1 g e)
 · exact Or.inr (by omega)

/- The contract of slices.Delete over pages, at the first one. -/

set_option maxRecDepth 100000 in
theorem zeroPage (w : World) : (zeroValue 119).run Tryz.prog w = .ok (.agg #[.int .i64 0, .slice none 0 0]) w := by
 first
  | rfl
  | simp [zeroValue, go_sem]

set_option maxHeartbeats 4000000 in
set_option maxRecDepth 1000000 in
theorem delete_first (n g cap : Nat) (p : PageR × Value) (l : List (PageR × Value)) (w : World) (hW : PgOwn n w (.slice (some ⟨g, 0, none⟩) (l.length + 1) cap) (p :: l)) :
 Calls Tryz.prog 164 #[.slice (some ⟨g, 0, none⟩) (l.length + 1) cap, .int .i64 0, .int .i64 1] w fun e w' => e = .returned (.slice (some ⟨g, 0, none⟩) l.length cap) ∧ PgOwn n w' (.slice (some ⟨g, 0, none⟩) l.length cap) l ∧ w.grownBy w' (some g) := by
 obtain ⟨hR, hO, hA1, hA2⟩ := hW
 have hR' := hR
 rw [List.length_cons] at hR
 obtain ⟨cur, hb, hg, hnc, hcm, hcs, ht⟩ := owns_block hR
 obtain ⟨i0, hi, hz0, hz1, hz2⟩ := info_parts infoPage
 have hm2 : cap ≤ 9223372036854775807 := by unfold maxLen at hcm; exact hcm
 obtain ⟨news, hnews⟩ : ∃ news, news = l.flatMap pgCells := ⟨_, rfl⟩
 have hnl : news.length = l.length * 2 := by rw [hnews]; exact pgCells_len l
 have hcur : cur.toList.take ((l.length + 1) * 2) = pgCells p ++ news := by rw [ht, List.flatMap_cons, hnews]
 obtain ⟨A, hA, hsrc⟩ : ∃ A : Addr, (if cap = 1 then some (⟨g, 0, none⟩ : Addr) else some ⟨g, 0 + 1 * 2, none⟩) = some A ∧ Hid (∀ t u, news[t]? = some u → w.drew.cell? (A.add t) = some u) := by
  by_cases h : cap = 1
  · refine ⟨⟨g, 0, none⟩, by simp [h], fun t u hu => ?_⟩
    have : news.length = 0 := by omega
    rw [List.length_eq_zero_iff.1 this] at hu
    simp at hu
  · refine ⟨⟨g, 0 + 1 * 2, none⟩, by simp [h], fun t u hu => ?_⟩
    have hlt := (List.getElem?_eq_some_iff.1 hu).1
    rw [Addr.add_lit]
    show w.cell? ⟨g, 0 + 1 * 2 + t, none⟩ = _
    rw [cell_of_row w g _ cur 119 (0, 0) hg, ← hu]
    have : (pgCells p ++ news)[2 + t]? = news[t]? := by
     rw [List.getElem?_append_right (by show 2 ≤ 2 + t; omega)]
     congr 1
     show 2 + t - 2 = t
     omega
    rw [← this, ← hcur, List.getElem?_take_of_lt (by omega), Array.getElem?_toList]
 have s1 : Hid (news.length = l.length * 2) := hnl
 have s2 : Hid (∀ u ∈ news, u.oneCell' = true) := by
  intro u hu
  rw [hnews, List.mem_flatMap] at hu
  obtain ⟨x, hx, hu⟩ := hu
  simp [pgCells] at hu
  rcases hu with rfl | rfl
  · rfl
  · rcases (hO x (by simp [hx])).2 with ⟨h0, _⟩ | ⟨g', cap', cur', hv, _⟩
    · rw [h0]; rfl
    · rw [hv]; rfl
 have s3 : Hid (∀ t, t < news.length → (w.drew.cell? ⟨g, 0 + 0 * 2 + t, none⟩).isSome = true ∧ w.drew.frozen? ⟨g, 0 + 0 * 2 + t, none⟩ = false) := by
  intro t ht'
  exact row_there hg _ (by rw [hcs]; omega)
 obtain ⟨W1, hW1⟩ : ∃ W1, W1 = w.drew.setCells g (0 + 0 * 2) news := ⟨_, rfl⟩
 have hg1 : W1.heap[g]? = some (.cells (laid cur (0 + 0 * 2) news) 119 (0, 0)) := by
  rw [hW1]
  exact setCells_row news _ w.drew cur hg (by rw [hnl, hcs]; omega)
 have hs1 : (laid cur (0 + 0 * 2) news).size = cap * 2 := by rw [laid_size (by rw [hnl, hcs]; omega), hcs]
 have hcl : ∀ ty, (Builtin.clear_ #[25] ty #[.slice (some ⟨g, l.length * 2, none⟩) 1 (cap - l.length)]).run Tryz.prog W1 = .ok (.tuple #[]) (W1.setCells g (l.length * 2) (Builtin.zeroCells (Value.agg #[.int .i64 0, .slice none 0 0]).cells 1).toList) :=
  fun ty => run_clear_row W1 25 119 ty _ Tryz.underlying25 zeroPage (by intro u hu; simp [Value.cells] at hu; rcases hu with rfl | rfl <;> rfl) g _ 1 _ (by omega) (fun j hj => (row_there hg1 _ (by rw [hs1]; have : j < 1 * 2 := hj; omega)).1) (fun j hj => (row_there hg1 _ (by rw [hs1]; have : j < 1 * 2 := hj; omega)).2)
 have hW : Hid (W1 = w.drew.setCells g (0 + 0 * 2) news) := hW1
 have hend : Hid (PgOwn n (W1.setCells g (l.length * 2) (Builtin.zeroCells (Value.agg #[.int .i64 0, .slice none 0 0]).cells 1).toList) (.slice (some ⟨g, 0, none⟩) l.length cap) l ∧ w.grownBy (W1.setCells g (l.length * 2) (Builtin.zeroCells (Value.agg #[.int .i64 0, .slice none 0 0]).cells 1).toList) (some g)) := by
  have hzl : (Builtin.zeroCells (Value.agg #[.int .i64 0, .slice none 0 0]).cells 1).toList.length = 2 := by simp [Builtin.zeroCells, Value.cells]
  have hg2 := setCells_row (Builtin.zeroCells (Value.agg #[.int .i64 0, .slice none 0 0]).cells 1).toList (l.length * 2) W1 _ hg1 (by rw [hzl, hs1]; omega)
  have hgr : w.grownBy (W1.setCells g (l.length * 2) (Builtin.zeroCells (Value.agg #[.int .i64 0, .slice none 0 0]).cells 1).toList) (some g) := by
   refine World.grownBy.trans ?_ (setCells_grown g _ _ W1)
   rw [hW1]
   exact World.grownBy.trans (⟨rfl, rfl, rfl, Nat.le_refl _, fun _ _ _ => rfl⟩ : w.grownBy w.drew (some g)) (setCells_grown g _ _ w.drew)
  refine ⟨⟨owns_shorter hb hg2 (by omega) hcm (by rw [laid_size (by rw [hzl, hs1]; omega), hs1]) ?_, fun x hx => (hO x (by simp [hx])).kept fun g' hg' hl => hgr.block g' hl (fun e => hA1 x (by simp [hx]) g' hg' (by cases e; rfl)), fun x hx => hA1 x (by simp [hx]), (List.pairwise_cons.1 hA2).2⟩, hgr⟩
  rw [← hnews]
  apply List.ext_getElem?
  intro j
  by_cases hj : j < l.length * 2
  · rw [List.getElem?_take_of_lt hj, Array.getElem?_toList, laid_get (by rw [hzl, hs1]; omega), if_pos hj, laid_get (by rw [hnl, hcs]; omega), if_neg (by omega), if_pos (by omega)]
    congr 1
  · rw [List.getElem?_eq_none (by rw [List.length_take]; omega), List.getElem?_eq_none (by omega)]
 have hcap1 : 1 ≤ cap := by omega
 have hz1' : (1 : Int) ≤ (l.length : Int) + 1 := by omega
 have hlen : Hid (l.length ≤ cap) := by unfold Hid; omega
 clear hW1 hR hg hcs ht hcur hnews hnl hA1 hA2 hO
 go_enter Tryz.func164, Tryz.ntmps164
 go_wp2_with fail
 go_region_law (refine step_append_room rfl (.tmp 22) (.tmp 25) 25 rfl 119 i0 2 Tryz.underlying25 hi hz1 g 0 0 cap (by simp [Act.eval, Act.put]) A l.length (cap - 1) news (by simp [Act.eval, Act.put]) s1.out hsrc.out s2.out (by have := hlen.out; omega) s3.out ?_; rw [← hW.out])
 all_goals
  go_wp2
  go_ret
  exact ⟨rfl, hend.out⟩

/- The contract of flash.withRoom, over pages of the call's own. -/

/-- Does the last page take n bytes more? -/
def fitsB (ps : List PageR) (n : Nat) : Bool := match ps.getLast? with
 | some p => decide (p.bs.length + n ≤ 256)
 | none => false
/-- The pages, the next number, and which page had to go. -/
def roomP (m x : Int) (ps : List PageR) (n : Nat) : List PageR × Int × Int :=
 if fitsB ps n = true then (ps, x, 0) else if (ps.length : Int) = m then (ps.tail ++ [⟨x, []⟩], x + 1, (ps.headD default).num) else (ps ++ [⟨x, []⟩], x + 1, 0)

def RoomPost (O : Nat → Prop) (m : Int) (r : List PageR × Int × Int) (w : World) (e : Ending) (w' : World) : Prop :=
 ∃ v l, e = .returned (.tuple #[.agg #[.int .i64 m, .int .i64 r.2.1, v], .int .i64 r.2.2]) ∧ l.map (·.1) = r.1 ∧ PgO (fun b => O b ∨ w.heap.size + 2 ≤ b) w' v l ∧ Fr O w w'

theorem last_split {α : Type} (l : List α) (h : l ≠ []) : ∃ l0 p, l = l0 ++ [p] := ⟨l.dropLast, l.getLast h, (List.dropLast_concat_getLast h).symm⟩

set_option maxHeartbeats 4000000 in
set_option maxRecDepth 100000 in
theorem room_fits (O : Nat → Prop) (m x : Int) (v : Value) (l : List (PageR × Value)) (N : Nat) (w : World) (hW : PgO O w v l) (hO : ∀ b, O b → b < w.heap.size) (hl : l.length ≤ 20) (hbs : ∀ p ∈ l, p.1.bs.length ≤ 256) (hN : N ≤ 256) (hf : fitsB (l.map (·.1)) N = true) :
 Calls Tryz.prog 163 #[.agg #[.int .i64 m, .int .i64 x, v], .int .i64 N] w (RoomPost O m (l.map (·.1), x, 0) w) := by
 have hne : l ≠ [] := by intro h; subst h; simp [fitsB] at hf
 have hW' := hW
 have hl' := hl
 obtain ⟨l0, p, hlp⟩ := last_split l hne
 have hpl : p ∈ l := by rw [hlp]; simp
 have hpb := hbs p hpl
 have hlen : l.length = l0.length + 1 := by rw [hlp]; simp
 have hfit : p.1.bs.length + N ≤ 256 := by
  rw [hlp] at hf
  simpa [fitsB] using hf
 obtain ⟨pa, pc, hpv, hpB, hp1, hp2, _, _⟩ := (hW.1.2.1 p hpl).bytes (by unfold maxLen; omega)
 rcases hW.1.1.2 with ⟨_, h0⟩ | ⟨g, cap, cur, hv, hg, hc, h1, h2, h3, h4⟩
 · exact absurd (List.length_eq_zero_iff.1 h0) hne
 have hx : (l.flatMap pgCells)[l0.length * 2 + 1]? = some p.2 := by
  have := (flat2 l l0.length p (by rw [hlp]; simp)).2
  exact this
 have hA1 : Below w.heap.size w (w.alloc (.cells #[.int .i64 m, .int .i64 x, v] 27)) := (Below.refl _ _).alloc (Nat.le_refl _) _
 have hA2 := fun o => hA1.alloc (w := w.alloc (.cells #[.int .i64 m, .int .i64 x, v] 27)) (by simp) o
 have hgl : g < w.heap.size := by
  rcases Nat.lt_or_ge g w.heap.size with hlt | hge
  · exact hlt
  · rw [Array.getElem?_eq_none hge] at hc; cases hc
 have c1 : w.cell? ⟨g, l0.length * 2 + 1, none⟩ = some (.slice pa p.1.bs.length pc) := by
  rw [cell_of_row w g _ cur 119 (0, 0) hc, ← hpv, ← hx, ← h4, List.getElem?_take_of_lt (by omega), Array.getElem?_toList]
 have hz1 : (p.1.bs.length : Int) + (N : Int) ≤ 256 := by omega
 have hz2 : (0 : Int) ≤ (l0.length : Int) := by omega
 have hz3 : (l0.length : Int) ≤ 20 := by omega
 have hz4 : (p.1.bs.length : Int) ≤ 256 := by omega
 have hz5 : (N : Int) ≤ 256 := by omega
 have hv' : v = .slice (some ⟨g, 0, none⟩) (l0.length + 1) cap := by rw [hv, hlen]
 have hpost : Hid (∀ w', Below w.heap.size w w' → RoomPost O m (l.map (·.1), x, 0) w (.returned (.tuple #[.agg #[.int .i64 m, .int .i64 x, v], .int .i64 0])) w') := fun w' hb => ⟨v, l, rfl, rfl, (hW'.later hb).mono (fun b hb => Or.inl hb), Fr.of_below hb⟩
 generalize RoomPost O m (l.map (·.1), x, 0) w = PO at *
 rw [hv'] at hpost hA1 hA2 ⊢
 clear hW hW' hbs hf hlp hx hv hv' h4 hc hpB hl'
 generalize p.1.bs.length = P at *
 go_enter Tryz.func163, Tryz.ntmps163
 go_wp2_with fail
 exact bodyPost_ret (v := .tuple #[.agg #[.int .i64 m, .int .i64 x, .slice (some ⟨g, 0, none⟩) (l0.length + 1) cap], .int .i64 0]) (by simp [results, Tryz.results163, go_sem]) rfl (hpost.out _ (hA2 _))

/-- Two boxes laid: the flash, and the answer's. -/
def RmB (O : Nat → Prop) (w wi : World) (cs : Array Value) : Prop := TB 27 wi w.heap.size cs ∧ TB 27 wi (w.heap.size + 1) #[.int .i64 0, .int .i64 0, .slice none 0 0] ∧ Fr O w wi ∧ ∀ b, O b → b < w.heap.size
theorem RmB.fr {O O' : Nat → Prop} {w wi w' : World} {cs : Array Value} (h : RmB O w wi cs) (hf : Fr O' wi w') (ho : ∀ b, O' b → O b ∨ w.heap.size + 2 ≤ b) : RmB O w w' cs := by
 obtain ⟨h1, h2, h3, h4⟩ := h
 have hn : ∀ b, b = w.heap.size ∨ b = w.heap.size + 1 → ¬ O' b := fun b hb e => by
  rcases ho b e with q | q
  · have := h4 b q; omega
  · omega
 exact ⟨hf.tb h1 (hn _ (Or.inl rfl)), hf.tb h2 (hn _ (Or.inr rfl)), h3.trans hf (fun b hb => (ho b hb).imp id (fun q => by omega)), h4⟩
theorem RmB.set {O : Nat → Prop} {w wi : World} {cs : Array Value} (h : RmB O w wi cs) (j : Nat) (v : Value) : RmB O w (wi.setCell ⟨w.heap.size, j, none⟩ v) (cs.setIfInBounds j v) := by
 obtain ⟨h1, h2, h3, h4⟩ := h
 exact ⟨h1.set j v, h2.far ⟨w.heap.size, j, none⟩ v (by show w.heap.size + 1 ≠ w.heap.size; omega), h3.set j v (Or.inr (Nat.le_refl _)), h4⟩

/-- Behind a new page: the end of withRoom. -/
theorem room_end (O : Nat → Prop) (m x gone : Int) (v : Value) (l : List (PageR × Value)) (w w1 : World) (r : List PageR) (hr : l.map (·.1) = r) (hI : RmB O w w1 #[.int .i64 m, .int .i64 (x + 1), v]) (hP : PgO (fun b => O b ∨ w.heap.size + 2 ≤ b) w1 v l) :
 RoomPost O m (r, x + 1, gone) w (.returned (.tuple #[.agg #[.int .i64 m, .int .i64 (x + 1), v], .int .i64 gone])) (((w1.setCell ⟨w.heap.size + 1, 0, none⟩ (.int .i64 m)).setCell ⟨w.heap.size + 1, 1, none⟩ (.int .i64 (x + 1))).setCell ⟨w.heap.size + 1, 2, none⟩ v) := by
 have hn : ¬ (O (w.heap.size + 1) ∨ w.heap.size + 2 ≤ w.heap.size + 1) := fun e => by
  rcases e with q | q
  · have := hI.2.2.2 _ q; omega
  · omega
 exact ⟨v, l, rfl, hr, ((hP.far 0 _ hn).far 1 _ hn).far 2 _ hn, ((hI.2.2.1.set 0 _ (Or.inr (by omega))).set 1 _ (Or.inr (by omega))).set 2 _ (Or.inr (by omega))⟩

set_option maxHeartbeats 4000000 in
set_option maxRecDepth 100000 in
theorem room_more (O : Nat → Prop) (m x : Int) (v : Value) (l : List (PageR × Value)) (N : Nat) (w : World) (hW : PgO O w v l) (hO : ∀ b, O b → b < w.heap.size) (hl : l.length ≤ 20) (hbs : ∀ p ∈ l, p.1.bs.length ≤ 256) (hN : N ≤ 256) (hf : fitsB (l.map (·.1)) N = false) (hm : (l.length : Int) ≠ m) (hx0 : 0 ≤ x) (hx1 : x ≤ 1099511627776) :
 Calls Tryz.prog 163 #[.agg #[.int .i64 m, .int .i64 x, v], .int .i64 N] w (RoomPost O m (l.map (·.1) ++ [⟨x, []⟩], x + 1, 0) w) := by
 have I0 : RmB O w ((w.alloc (.cells #[.int .i64 m, .int .i64 x, v] 27)).alloc (.cells #[.int .i64 0, .int .i64 0, .slice none 0 0] 27)) #[.int .i64 m, .int .i64 x, v] := by
  have A1 : Below w.heap.size w (w.alloc (.cells #[.int .i64 m, .int .i64 x, v] 27)) := (Below.refl _ _).alloc (Nat.le_refl _) _
  have T2 := TB.new 27 (w.alloc (.cells #[.int .i64 m, .int .i64 x, v] 27)) #[.int .i64 0, .int .i64 0, .slice none 0 0]
  rw [show (w.alloc (.cells #[.int .i64 m, .int .i64 x, v] 27)).heap.size = w.heap.size + 1 by simp] at T2
  exact ⟨(TB.new 27 w _).alloc _, T2, Fr.of_below (A1.alloc (by simp) _), hO⟩
 have hP0 : PgO O ((w.alloc (.cells #[.int .i64 m, .int .i64 x, v] 27)).alloc (.cells #[.int .i64 0, .int .i64 0, .slice none 0 0] 27)) v l := hW.later (((Below.refl _ _).alloc (Nat.le_refl _) _).alloc (by simp) _)
 have A3 := fun (W : World) (o : Obj) => ((Below.refl W.heap.size W).alloc (Nat.le_refl _) o)
 have hP3 := hP0.later (A3 _ (.cells #[.int .i64 x, .slice none 0 0] 119))
 have I3 := I0.fr (O' := O) (Fr.of_below (A3 _ (.cells #[.int .i64 x, .slice none 0 0] 119))) (fun b hb => Or.inl hb)
 have hB3 : (((w.alloc (.cells #[.int .i64 m, .int .i64 x, v] 27)).alloc (.cells #[.int .i64 0, .int .i64 0, .slice none 0 0] 27)).alloc (.cells #[.int .i64 x, .slice none 0 0] 119)).heap[w.heap.size + 1 + 1]? = some (.cells (pgCells (⟨x, []⟩, .slice none 0 0)).toArray 119 (0, 0)) := by
  have := heap_alloc_new ((w.alloc (.cells #[.int .i64 m, .int .i64 x, v] 27)).alloc (.cells #[.int .i64 0, .int .i64 0, .slice none 0 0] 27)) (.cells #[.int .i64 x, .slice none 0 0] 119)
  simpa [pgCells] using this
 have hwx : IntKind.i64.wrap (x + 1) = x + 1 := by simp only [IntKind.wrap_i64]; omega
 have hend : Hid (∀ v2 l2 w2, l2.map (·.1) = l.map (·.1) ++ [⟨x, []⟩] → RmB O w w2 #[.int .i64 m, .int .i64 (x + 1), v2] → PgO (fun b => O b ∨ w.heap.size + 2 ≤ b) w2 v2 l2 → RoomPost O m (l.map (·.1) ++ [⟨x, []⟩], x + 1, 0) w (.returned (.tuple #[.agg #[.int .i64 m, .int .i64 (x + 1), v2], .int .i64 0])) (((w2.setCell ⟨w.heap.size + 1, 0, none⟩ (.int .i64 m)).setCell ⟨w.heap.size + 1, 1, none⟩ (.int .i64 (x + 1))).setCell ⟨w.heap.size + 1, 2, none⟩ v2)) := fun v2 l2 w2 h => room_end O m x 0 v2 l2 w w2 _ h
 generalize RoomPost O m (l.map (·.1) ++ [⟨x, []⟩], x + 1, 0) w = PO at *
 by_cases hne : l = []
 · subst hne
   have hmz : ((0 : Int) == m) = false := by simpa using hm
   obtain ⟨va, vc, rfl⟩ : ∃ va vc, v = .slice va 0 vc := by
    rcases hW.1.1.2 with ⟨h0, _⟩ | ⟨g, cap, cur, hv, _⟩
    · exact ⟨none, 0, h0⟩
    · exact ⟨_, _, hv⟩
   clear hW hP0 I0 hf hbs
   go_enter Tryz.func163, Tryz.ntmps163
   go_wp2_with (at_builtin; refine append_pgO _ rfl (.tmp 43) (.tmp 47) rfl O _ [] rfl hP3 (⟨x, []⟩, .slice none 0 0) _ rfl hB3 (World.ownsRow_nil _ _ _ _) (fun b hb => by cases hb) rfl (by omega) ?_; intro g2 cap2 w2 hP2 hF2; have J2 := I3.fr hF2 (fun b hb => Or.inl hb); have x2 := (fun j => J2.1.cell j); have f2 := (fun j => J2.1.frozen j); have l2 := J2.1.lt; have y2 := (fun j => J2.2.1.cell j); have fy2 := (fun j => J2.2.1.frozen j); have ly2 := J2.2.1.lt)
   have hnO : ∀ b : Nat, b = w.heap.size → ¬ (O b ∨ w.heap.size + 2 ≤ b) := fun b e q => by
    rcases q with q | q
    · have := hO b q; omega
    · omega
   have hP9 := ((hP2.mono (O' := fun b => O b ∨ w.heap.size + 2 ≤ b) (fun b hb => hb.imp id (fun q => by simp at q; omega))).far 2 (.slice (some ⟨g2, 0, none⟩) (1) cap2) (hnO _ rfl)).far 1 (.int .i64 (x + 1)) (hnO _ rfl)
   have J9 := (J2.set 2 (.slice (some ⟨g2, 0, none⟩) (1) cap2)).set 1 (.int .i64 (x + 1))
   exact bodyPost_ret (v := .tuple #[.agg #[.int .i64 m, .int .i64 (x + 1), .slice (some ⟨g2, 0, none⟩) (1) cap2], .int .i64 0]) (by simp [results, Tryz.results163, go_sem, x2, l2, y2, ly2]) rfl (hend.out _ _ _ (by simp) J9 hP9)
 · obtain ⟨l0, p, hlp⟩ := last_split l hne
   have hpl : p ∈ l := by rw [hlp]; simp
   have hpb := hbs p hpl
   have hlen : l.length = l0.length + 1 := by rw [hlp]; simp
   have hfit : 256 < p.1.bs.length + N := by
    rw [hlp] at hf
    simpa [fitsB] using hf
   obtain ⟨pa, pc, hpv, hpB, hp1, hp2, _, _⟩ := (hW.1.2.1 p hpl).bytes (by unfold maxLen; omega)
   obtain ⟨g, cap, hv, hgl, c1⟩ : ∃ g cap, v = .slice (some ⟨g, 0, none⟩) (l0.length + 1) cap ∧ g < w.heap.size ∧ w.cell? ⟨g, l0.length * 2 + 1, none⟩ = some (.slice pa p.1.bs.length pc) := by
    rcases hW.1.1.2 with ⟨_, h0⟩ | ⟨g, cap, cur, hv, hg, hc, h1, h2, h3, h4⟩
    · exact absurd (List.length_eq_zero_iff.1 h0) hne
    · have hgl : g < w.heap.size := by
       rcases Nat.lt_or_ge g w.heap.size with hlt | hge
       · exact hlt
       · rw [Array.getElem?_eq_none hge] at hc; cases hc
      have hx : (l.flatMap pgCells)[l0.length * 2 + 1]? = some p.2 := (flat2 l l0.length p (by rw [hlp]; simp)).2
      refine ⟨g, cap, by rw [hv, hlen], hgl, ?_⟩
      rw [cell_of_row w g _ cur 119 (0, 0) hc, ← hpv, ← hx, ← h4, List.getElem?_take_of_lt (by omega), Array.getElem?_toList]
   subst hv
   have hz1 : ¬ (p.1.bs.length : Int) + (N : Int) ≤ 256 := by omega
   have hz2 : (0 : Int) ≤ (l0.length : Int) := by omega
   have hz3 : (l0.length : Int) ≤ 20 := by omega
   have hz4 : (p.1.bs.length : Int) ≤ 256 := by omega
   have hz5 : (N : Int) ≤ 256 := by omega
   have hmz : ((l0.length : Int) + 1 == m) = false := by
    rw [hlen] at hm
    simpa using hm
   have hlx : l.length * 32 ≤ 640 := by omega
   clear hW hP0 I0 hf hbs hpB hpv hlp
   generalize p.1.bs.length = P at *
   go_enter Tryz.func163, Tryz.ntmps163
   go_wp2_with (at_builtin; refine append_pgO _ rfl (.tmp 43) (.tmp 47) rfl O _ l rfl hP3 (⟨x, []⟩, .slice none 0 0) _ rfl hB3 (World.ownsRow_nil _ _ _ _) (fun b hb => by cases hb) rfl (by omega) ?_; intro g2 cap2 w2 hP2 hF2; have J2 := I3.fr hF2 (fun b hb => Or.inl hb); have x2 := (fun j => J2.1.cell j); have f2 := (fun j => J2.1.frozen j); have l2 := J2.1.lt; have y2 := (fun j => J2.2.1.cell j); have fy2 := (fun j => J2.2.1.frozen j); have ly2 := J2.2.1.lt)
   have hnO : ∀ b : Nat, b = w.heap.size → ¬ (O b ∨ w.heap.size + 2 ≤ b) := fun b e q => by
    rcases q with q | q
    · have := hO b q; omega
    · omega
   have hP9 := ((hP2.mono (O' := fun b => O b ∨ w.heap.size + 2 ≤ b) (fun b hb => hb.imp id (fun q => by simp at q; omega))).far 2 (.slice (some ⟨g2, 0, none⟩) (l0.length + 1 + 1) cap2) (hnO _ rfl)).far 1 (.int .i64 (x + 1)) (hnO _ rfl)
   have J9 := (J2.set 2 (.slice (some ⟨g2, 0, none⟩) (l0.length + 1 + 1) cap2)).set 1 (.int .i64 (x + 1))
   rw [hlen] at hP9
   exact bodyPost_ret (v := .tuple #[.agg #[.int .i64 m, .int .i64 (x + 1), .slice (some ⟨g2, 0, none⟩) (l0.length + 1 + 1) cap2], .int .i64 0]) (by simp [results, Tryz.results163, go_sem, x2, l2, y2, ly2]) rfl (hend.out _ _ _ (by simp) J9 hP9)

set_option maxHeartbeats 4000000 in
set_option maxRecDepth 100000 in
theorem room_drop (O : Nat → Prop) (m x : Int) (v : Value) (l : List (PageR × Value)) (N : Nat) (w : World) (hW : PgO O w v l) (hO : ∀ b, O b → b < w.heap.size) (hl : l.length ≤ 20) (hbs : ∀ p ∈ l, p.1.bs.length ≤ 256) (hN : N ≤ 256) (hf : fitsB (l.map (·.1)) N = false) (hm : (l.length : Int) = m) (hm0 : m ≠ 0) (hx0 : 0 ≤ x) (hx1 : x ≤ 1099511627776) :
 Calls Tryz.prog 163 #[.agg #[.int .i64 m, .int .i64 x, v], .int .i64 N] w (RoomPost O m ((l.map (·.1)).tail ++ [⟨x, []⟩], x + 1, ((l.map (fun y : PageR × Value => y.1)).headD default).num) w) := by
 have hne : l ≠ [] := by intro h; subst h; simp at hm; omega
 obtain ⟨p0, lt, rfl⟩ := List.exists_cons_of_ne_nil hne
 have I0 : RmB O w ((w.alloc (.cells #[.int .i64 m, .int .i64 x, v] 27)).alloc (.cells #[.int .i64 0, .int .i64 0, .slice none 0 0] 27)) #[.int .i64 m, .int .i64 x, v] := by
  have A1 : Below w.heap.size w (w.alloc (.cells #[.int .i64 m, .int .i64 x, v] 27)) := (Below.refl _ _).alloc (Nat.le_refl _) _
  have T2 := TB.new 27 (w.alloc (.cells #[.int .i64 m, .int .i64 x, v] 27)) #[.int .i64 0, .int .i64 0, .slice none 0 0]
  rw [show (w.alloc (.cells #[.int .i64 m, .int .i64 x, v] 27)).heap.size = w.heap.size + 1 by simp] at T2
  exact ⟨(TB.new 27 w _).alloc _, T2, Fr.of_below (A1.alloc (by simp) _), hO⟩
 have hP0 : PgO O ((w.alloc (.cells #[.int .i64 m, .int .i64 x, v] 27)).alloc (.cells #[.int .i64 0, .int .i64 0, .slice none 0 0] 27)) v (p0 :: lt) := hW.later (((Below.refl _ _).alloc (Nat.le_refl _) _).alloc (by simp) _)
 obtain ⟨l0, p, hlp⟩ := last_split (p0 :: lt) hne
 have hpl : p ∈ p0 :: lt := by rw [hlp]; simp
 have hpb := hbs p hpl
 have hlen : l0.length = lt.length := by have := congrArg List.length hlp; simpa using this.symm
 have hfit : 256 < p.1.bs.length + N := by
  rw [hlp] at hf
  simpa [fitsB] using hf
 obtain ⟨pa, pc, hpv, hpB, hp1, hp2, _, _⟩ := (hW.1.2.1 p hpl).bytes (by unfold maxLen; omega)
 obtain ⟨g, cap, hv, hgl, hgO, c1, c2⟩ : ∃ g cap, v = .slice (some ⟨g, 0, none⟩) (lt.length + 1) cap ∧ g < w.heap.size ∧ O g ∧ w.cell? ⟨g, lt.length * 2 + 1, none⟩ = some (.slice pa p.1.bs.length pc) ∧ w.cell? ⟨g, 0, none⟩ = some (.int .i64 p0.1.num) := by
  rcases hW.1.1.2 with ⟨_, h0⟩ | ⟨g, cap, cur, hv, hg, hc, h1, h2, h3, h4⟩
  · simp at h0
  · have hgl : g < w.heap.size := by
     rcases Nat.lt_or_ge g w.heap.size with hlt | hge
     · exact hlt
     · rw [Array.getElem?_eq_none hge] at hc; cases hc
    have hx : ((p0 :: lt).flatMap pgCells)[lt.length * 2 + 1]? = some p.2 := (flat2 (p0 :: lt) lt.length p (by rw [hlp, ← hlen]; simp)).2
    have hy : ((p0 :: lt).flatMap pgCells)[0]? = some (.int .i64 p0.1.num) := rfl
    refine ⟨g, cap, by rw [hv]; rfl, hgl, hW.2.1 g (by rw [hv]; rfl), ?_, ?_⟩
    · rw [cell_of_row w g _ cur 119 (0, 0) hc, ← hpv, ← hx, ← h4, List.getElem?_take_of_lt (by simp; omega), Array.getElem?_toList]
    · rw [cell_of_row w g _ cur 119 (0, 0) hc, ← hy, ← h4, List.getElem?_take_of_lt (by simp), Array.getElem?_toList]
 subst hv
 have hz1 : ¬ (p.1.bs.length : Int) + (N : Int) ≤ 256 := by omega
 have hz2 : (0 : Int) ≤ (lt.length : Int) := by omega
 have hz3 : (lt.length : Int) ≤ 20 := by simp at hl; omega
 have hz4 : (p.1.bs.length : Int) ≤ 256 := by omega
 have hz5 : (N : Int) ≤ 256 := by omega
 have hz6 : (0 : Int) < (lt.length : Int) + 1 := by omega
 have hmz : ((lt.length : Int) + 1 == m) = true := by
  rw [← hm]
  simp
 have hlx : (lt.length + 1) * 32 ≤ 672 := by simp at hl; omega
 have hdel := delete_first 0 g cap p0 lt _ hP0.1
 have hPt : ∀ g' cap' w3, PgOwn 0 w3 (.slice (some ⟨g', 0, none⟩) lt.length cap') lt → g' = g → PgO O w3 (.slice (some ⟨g', 0, none⟩) lt.length cap') lt := fun g' cap' w3 h e => by
  subst e
  refine ⟨h, fun b hb => ?_, fun x hx b hb => hW.2.2 x (List.mem_cons_of_mem _ hx) b hb⟩
  have e : g' = b := by simpa [Value.ownBlock] using hb
  exact e ▸ hgO
 have hend : Hid (∀ v2 l2 w2, l2.map (·.1) = ((p0 :: lt).map (·.1)).tail ++ [⟨x, []⟩] → RmB O w w2 #[.int .i64 m, .int .i64 (x + 1), v2] → PgO (fun b => O b ∨ w.heap.size + 2 ≤ b) w2 v2 l2 → RoomPost O m (((p0 :: lt).map (·.1)).tail ++ [⟨x, []⟩], x + 1, (((p0 :: lt).map (fun y : PageR × Value => y.1)).headD default).num) w (.returned (.tuple #[.agg #[.int .i64 m, .int .i64 (x + 1), v2], .int .i64 p0.1.num])) (((w2.setCell ⟨w.heap.size + 1, 0, none⟩ (.int .i64 m)).setCell ⟨w.heap.size + 1, 1, none⟩ (.int .i64 (x + 1))).setCell ⟨w.heap.size + 1, 2, none⟩ v2)) := fun v2 l2 w2 h => room_end O m x p0.1.num v2 l2 w w2 _ h
 generalize RoomPost O m (((p0 :: lt).map (·.1)).tail ++ [⟨x, []⟩], x + 1, (((p0 :: lt).map (fun y : PageR × Value => y.1)).headD default).num) w = PO at *
 generalize p0.1.num = q0 at *
 have hwx : IntKind.i64.wrap (x + 1) = x + 1 := by simp only [IntKind.wrap_i64]; omega
 have hnO : ∀ b : Nat, b = w.heap.size → ¬ (O b ∨ w.heap.size + 2 ≤ b) := fun b e q => by
  rcases q with q | q
  · have := hO b q; omega
  · omega
 clear hW hP0 hf hbs hpB hpv hlp hm
 generalize p.1.bs.length = P at *
 have A3 := fun (W : World) (o : Obj) => ((Below.refl W.heap.size W).alloc (Nat.le_refl _) o)
 go_enter Tryz.func163, Tryz.ntmps163
 go_wp2_with (first | (go_at_call 164; refine hdel.mono ?_; rintro e w3 ⟨rfl, hP3, hg3⟩; have J3 := I0.fr (O' := O) (Fr.of_grown hg3 (fun b hb => by cases hb; exact Or.inl hgO)) (fun b hb => Or.inl hb); have hPO3 := hPt _ _ _ hP3 rfl; have x3 := (fun j => J3.1.cell j); have f3 := (fun j => J3.1.frozen j); have l3 := J3.1.lt; have K3 := J3.set 2 (.slice (some ⟨g, 0, none⟩) lt.length cap); have K4 := K3.fr (O' := O) (Fr.of_below (A3 _ (.cells #[.int .i64 x, .slice none 0 0] 119))) (fun b hb => Or.inl hb); have hP4 := (hPO3.far 2 (.slice (some ⟨g, 0, none⟩) lt.length cap) (fun q => hnO _ rfl (Or.inl q))).later (A3 _ (.cells #[.int .i64 x, .slice none 0 0] 119)); have hB4 : ((w3.setCell ⟨w.heap.size, 2, none⟩ (.slice (some ⟨g, 0, none⟩) lt.length cap)).alloc (.cells #[.int .i64 x, .slice none 0 0] 119)).heap[w3.heap.size]? = some (.cells (pgCells (⟨x, []⟩, .slice none 0 0)).toArray 119 (0, 0)) := (by have := heap_alloc_new (w3.setCell ⟨w.heap.size, 2, none⟩ (.slice (some ⟨g, 0, none⟩) lt.length cap)) (.cells #[.int .i64 x, .slice none 0 0] 119); simpa [pgCells, World.setCell] using this)) | (at_builtin; refine append_pgO _ rfl (.tmp 43) (.tmp 47) rfl O _ lt rfl hP4 (⟨x, []⟩, .slice none 0 0) _ rfl hB4 (World.ownsRow_nil _ _ _ _) (fun b hb => by cases hb) rfl (by omega) ?_; intro g2 cap2 w2 hP2 hF2; have J2 := K4.fr hF2 (fun b hb => Or.inl hb); have x2 := (fun j => J2.1.cell j); have f2 := (fun j => J2.1.frozen j); have l2 := J2.1.lt; have y2 := (fun j => J2.2.1.cell j); have fy2 := (fun j => J2.2.1.frozen j); have ly2 := J2.2.1.lt))
 trace_state
 have hP9 := ((hP2.mono (O' := fun b => O b ∨ w.heap.size + 2 ≤ b) (fun b hb => hb.imp id (fun q => by simp [World.setCell] at q; have := J3.2.1.lt; omega))).far 2 (.slice (some ⟨g2, 0, none⟩) (lt.length + 1) cap2) (hnO _ rfl)).far 1 (.int .i64 (x + 1)) (hnO _ rfl)
 have J9 := (J2.set 2 (.slice (some ⟨g2, 0, none⟩) (lt.length + 1) cap2)).set 1 (.int .i64 (x + 1))
 exact bodyPost_ret (v := .tuple #[.agg #[.int .i64 m, .int .i64 (x + 1), .slice (some ⟨g2, 0, none⟩) (lt.length + 1) cap2], .int .i64 q0]) (by simp [results, Tryz.results163, go_sem, x2, l2, y2, ly2]) rfl (hend.out _ _ _ (by simp) J9 hP9)

theorem room_any (O : Nat → Prop) (m x : Int) (v : Value) (l : List (PageR × Value)) (N : Nat) (w : World) (hW : PgO O w v l) (hO : ∀ b, O b → b < w.heap.size) (hl : l.length ≤ 20) (hbs : ∀ p ∈ l, p.1.bs.length ≤ 256) (hN : N ≤ 256) (hm0 : m ≠ 0) (hx0 : 0 ≤ x) (hx1 : x ≤ 1099511627776) :
 Calls Tryz.prog 163 #[.agg #[.int .i64 m, .int .i64 x, v], .int .i64 N] w (RoomPost O m (roomP m x (l.map fun y : PageR × Value => y.1) N) w) := by
 unfold roomP
 cases hf : fitsB (l.map fun y : PageR × Value => y.1) N
 · rw [if_neg (by decide)]
   by_cases hm : (l.length : Int) = m
   · rw [if_pos (by simpa using hm)]
     exact room_drop O m x v l N w hW hO hl hbs hN hf hm hm0 hx0 hx1
   · rw [if_neg (by simpa using hm)]
     exact room_more O m x v l N w hW hO hl hbs hN hf hm hx0 hx1
 · rw [if_pos rfl]
   exact room_fits O m x v l N w hW hO hl hbs hN hf

theorem roomP_ne (m x : Int) (ps : List PageR) (n : Nat) : (roomP m x ps n).1 ≠ [] := by
 unfold roomP
 split
 · next h => intro e; subst e; simp [fitsB] at h
 · split <;> simp

end Go.Proofs.YtdblegdgmjakfaaGreatDoor
