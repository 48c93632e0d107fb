/- The contract of dovecoteref.FlashCopy: the same flash, in memory of its own. -/
import Derived.Test.YtogpkbhjobhodaaDoorFCopyW
import Derived.Test.YtogpkbhjobhodaaDoorFVals
import Derived.Test.YtogpkbhjobhodaaDoorTB
import Derived.Deep.AppendLies
import Derived.Deep.RegionHeld3
namespace Go.Proofs.YtogpkbhjobhodaaDoor
open Go.ChangeShapes Go.WideShapes Go.ChangeAt Go.RowKit
set_option linter.unusedVariables false
set_option linter.unusedSimpArgs false

def pgCells (x : PageR × Value) : List Value := [.int .i64 x.1.num, x.2]

theorem flat2 : ∀ (l : List (PageR × Value)) (j : Nat) (x : PageR × Value), l[j]? = some x → (l.flatMap pgCells)[j * 2]? = some (.int .i64 x.1.num) ∧ (l.flatMap pgCells)[j * 2 + 1]? = some x.2
  | [], j, x, h => by simp at h
  | y :: r, 0, x, h => by simp at h; subst h; exact ⟨rfl, rfl⟩
  | y :: r, j + 1, x, h => by
    have hl : (pgCells y).length = 2 := rfl
    have ih := flat2 r j x (by simpa using h)
    rw [List.flatMap_cons, List.getElem?_append_right (by rw [hl]; omega), List.getElem?_append_right (by rw [hl]; omega), hl, show (j + 1) * 2 - 2 = j * 2 by omega, show (j + 1) * 2 + 1 - 2 = j * 2 + 1 by omega]
    exact ih

/-- One page's bytes, in a block from n on that is not the row's own. -/
def PgOk (n : Nat) (w : World) (v : Value) (x : PageR × Value) : Prop :=
  ∃ a c, x.2 = .slice a x.1.bs.length c ∧ BytesAt w a x.1.bs ∧ x.1.bs.length ≤ c ∧ c ≤ maxLen ∧ ∀ y, a = some y → n ≤ y.block ∧ y.block < w.heap.size ∧ v.ownBlock ≠ some y.block

/-- Pages in a row of the call's own. -/
def OwnPg (n : Nat) (w : World) (v : Value) (l : List (PageR × Value)) : Prop := w.ownsRow n 45 2 v l.length (l.flatMap pgCells) ∧ ∀ x ∈ l, PgOk n w v x

theorem PgOk.kept {n : Nat} {w w' : World} {v v' : Value} {x : PageR × Value} (h : PgOk n w v x) (hs : w.heap.size ≤ w'.heap.size) (hk : ∀ b, n ≤ b → b < w.heap.size → v.ownBlock ≠ some b → w'.heap[b]? = w.heap[b]?) (hv : v'.ownBlock = v.ownBlock ∨ ∃ g, v'.ownBlock = some g ∧ w.heap.size ≤ g) : PgOk n w' v' x := by
  obtain ⟨a, c, h1, h2, h3, h4, h5⟩ := h
  refine ⟨a, c, h1, ⟨h2.1, ?_⟩, h3, h4, fun y hy => ?_⟩
  · rcases h2.2 with h | ⟨b, o, rfl, hb, hc⟩
    · exact Or.inl h
    · obtain ⟨q1, q2, q3⟩ := h5 _ rfl
      refine Or.inr ⟨b, o, rfl, Nat.lt_of_lt_of_le hb hs, fun j hj => ?_⟩
      have := hk b q1 q2 q3
      simp only [World.cell?, this]
      exact hc j hj
  · obtain ⟨q1, q2, q3⟩ := h5 y hy
    refine ⟨q1, Nat.lt_of_lt_of_le q2 hs, ?_⟩
    rcases hv with hv | ⟨g, hg, hgs⟩
    · rw [hv]; exact q3
    · rw [hg]; intro e; cases e; omega

theorem OwnPg.kept {n : Nat} {w w' : World} {v : Value} {l : List (PageR × Value)} (h : OwnPg n w v l) (hs : w.heap.size ≤ w'.heap.size) (hk : ∀ b, n ≤ b → b < w.heap.size → w'.heap[b]? = w.heap[b]?) : OwnPg n w' v l := by
  obtain ⟨h1, h2⟩ := h
  refine ⟨⟨h1.1, ?_⟩, fun x hx => (h2 x hx).kept hs (fun b hb hl _ => hk b hb hl) (Or.inl rfl)⟩
  rcases h1.2 with h | ⟨g, cap, cur, hv, hg, hc, q⟩
  · exact Or.inl h
  · have hlt : g < w.heap.size := by
      rcases Nat.lt_or_ge g w.heap.size with hlt | hge
      · exact hlt
      · rw [Array.getElem?_eq_none hge] at hc; cases hc
    exact Or.inr ⟨g, cap, cur, hv, hg, by rw [hk g hg hlt]; exact hc, q⟩

theorem OwnPg.pages {n : Nat} {w : World} {v : Value} {l : List (PageR × Value)} (h : OwnPg n w v l) (hm : l.length ≤ maxLen) : ∃ a c, v = .slice a l.length c ∧ PagesFrom n w a (l.map (·.1)) := by
  have key : ∀ w', w.heap.size ≤ w'.heap.size → (∀ b, n ≤ b → b < w.heap.size → w'.heap[b]? = w.heap[b]?) → OwnPg n w' v l := fun w' hs hw => h.kept hs hw
  rcases h.1.2 with h0 | ⟨g, cap, cur, hv, hg, hc, h1, h2, h3, h4⟩
  · exact ⟨none, 0, by rw [h0.1, h0.2], fun w' _ _ => ⟨by simpa using hm, Or.inl (by simpa using h0.2)⟩⟩
  · refine ⟨some ⟨g, 0, none⟩, cap, hv, fun w' hs hw => ⟨by simpa using hm, Or.inr ⟨g, 0, rfl, ?_, fun j hj => ?_⟩⟩⟩
    · have hlt : g < w.heap.size := by
        rcases Nat.lt_or_ge g w.heap.size with hlt | hge
        · exact hlt
        · rw [Array.getElem?_eq_none hge] at hc; cases hc
      omega
    · have hlt : g < w.heap.size := by
        rcases Nat.lt_or_ge g w.heap.size with hlt | hge
        · exact hlt
        · rw [Array.getElem?_eq_none hge] at hc; cases hc
      have hjl : j < l.length := by simpa using hj
      have hx : l[j]? = some l[j] := List.getElem?_eq_getElem hjl
      have hc' : w'.heap[g]? = some (.cells cur 45 (0, 0)) := by rw [hw g hg hlt]; exact hc
      have ce : ∀ o, w'.cell? ⟨g, o, none⟩ = cur[o]? := fun o => by simp [World.cell?, hc']
      obtain ⟨f1, f2⟩ := flat2 l j _ hx
      obtain ⟨a, c, k1, k2, k3, k4, _⟩ := (key w' hs hw).2 l[j] (List.getElem_mem hjl)
      have hd : (l.map (·.1)).getD j default = l[j].1 := by rw [List.getD_eq_getElem?_getD, List.getElem?_map, hx]; rfl
      rw [hd]
      refine ⟨a, c, ?_, ?_, k2, k3, k4⟩
      · rw [ce, Nat.zero_add, ← f1, ← h4, List.getElem?_take_of_lt (by omega)]; simp
      · rw [ce, Nat.zero_add, ← k1, ← f2, ← h4, List.getElem?_take_of_lt (by omega)]; simp

/-- 'append(out, Page{..})' at a step of a region that draws. -/
theorem append_page_step {ops : Array Oper} {o : Oper} {a : Act} {K : Act → World → Prop} {Q : Exit → Act → World → Prop} {E : Prop} (w : World) (hgd : o.guard = none) (s x : Operand)
    (ho : o.op = .call { callee := .builtin .append, args := #[s, x], argTypes := #[25, 25] }) (n : Nat) (v : Value) (l : List (PageR × Value)) (hs : a.eval s = v) (hW : OwnPg n w v l) (p : PageR × Value) (B : Nat) (hx : a.eval x = .slice (some ⟨B, 0, none⟩) 1 1)
    (hB : w.heap[B]? = some (.cells (pgCells p).toArray 45 (0, 0))) (hp : PgOk n w v p) (hone : p.2.oneCell' = true) (hn : n ≤ w.heap.size) (hsz : (l.length + 1) * 32 ≤ 140737488351232)
    (h : ∀ g cap w', OwnPg n w' (.slice (some ⟨g, 0, none⟩) (l.length + 1) cap) (l ++ [p]) → w.grownBy w' v.ownBlock → K (a.put o.dst (.slice (some ⟨g, 0, none⟩) (l.length + 1) cap)) w') :
    if Region.wanted o (yielded ops a.tmps) = true then Oper.wp Tryd.prog o a w K Q else E := by
  obtain ⟨i0, hi, hz0, hz1, hz2⟩ := info_parts infoPage
  refine step_append_lies w hgd s x 25 ho n 45 i0 _ 2 32 Tryd.underlying25 hi hz0 hz1 hz2 rfl (by omega) v l.length (l.flatMap pgCells) hs hW.1 ⟨B, 0, none⟩ 1 1 (pgCells p) hx rfl ?_ ?_ (by omega) (by unfold maxLen; omega) (by omega) hn w.heap.size rfl ?_
  · exact World.news_of_block hB
  · intro u hu
    simp [pgCells] at hu
    rcases hu with rfl | rfl
    · rfl
    · exact hone
  intro g cap w' h2 h3 h4 h5
  have hv : (Value.slice (some ⟨g, 0, none⟩) (l.length + 1) cap).ownBlock = v.ownBlock ∨ ∃ g', (Value.slice (some ⟨g, 0, none⟩) (l.length + 1) cap).ownBlock = some g' ∧ w.heap.size ≤ g' := by
    rcases h4 with h4 | h4
    · exact Or.inl (by rw [h4]; rfl)
    · exact Or.inr ⟨g, rfl, by omega⟩
  have hk : ∀ b, n ≤ b → b < w.heap.size → v.ownBlock ≠ some b → w'.heap[b]? = w.heap[b]? := fun b _ hl hne => h3.block b hl (fun e => hne e.symm)
  refine h g cap w' ⟨?_, fun y hy => ?_⟩ h3
  · rw [List.length_append, List.flatMap_append]
    simpa using h2
  · rcases List.mem_append.1 hy with hy | hy
    · exact (hW.2 y hy).kept h3.size hk hv
    · simp at hy; subst hy; exact hp.kept h3.size hk hv
end Go.Proofs.YtogpkbhjobhodaaDoor
