/- A row of pages from an offset on, in blocks of O. -/
import Derived.Test.YtbabiandegianaaFAppW
namespace Go.Proofs.Ytbabiandegianaa
open Go.ChangeShapes Go.WideShapes Go.ChangeAt Go.RowKit
set_option linter.unusedVariables false
set_option linter.unusedSimpArgs false

def TlO (O : Nat → Prop) (w : World) (gb off : Nat) (l : List (PageR × Value)) : Prop :=
  (∃ cur : Array Value, w.heap[gb]? = some (.cells cur 40 (0, 0)) ∧ off + l.length * 2 ≤ cur.size ∧ ∀ j, j < l.length * 2 → cur[off + j]? = (l.flatMap pgCells)[j]?) ∧
  (∀ x ∈ l, OwnBy 0 w x) ∧ (∀ x ∈ l, ∀ g, x.2.ownBlock = some g → g ≠ gb) ∧ (l.Pairwise fun x y => ∀ g, x.2.ownBlock = some g → y.2.ownBlock ≠ some g) ∧ O gb ∧ ∀ x ∈ l, ∀ g, x.2.ownBlock = some g → O g

theorem PgO.tail {O : Nat → Prop} {w : World} {g n cap : Nat} {l : List (PageR × Value)} (h : PgO O w (.slice (some ⟨g, 0, none⟩) n cap) l) (hn : n = l.length) : TlO O w g 0 l := by
  subst hn
  obtain ⟨⟨h1, h2, h3, h4⟩, h5, h6⟩ := h
  obtain ⟨cur, _, hg, hnc, hcm, hcs, ht⟩ := owns_block h1
  have hle : l.length * 2 ≤ cap * 2 := Nat.mul_le_mul_right _ hnc
  refine ⟨⟨cur, hg, by omega, fun j hj => ?_⟩, h2, fun x hx b hb e => h3 x hx b hb (by rw [e]; rfl), h4, h5 g rfl, h6⟩
  rw [Nat.zero_add, ← ht, List.getElem?_take_of_lt hj, Array.getElem?_toList]

theorem TlO.kept {O : Nat → Prop} {w w' : World} {gb off : Nat} {l : List (PageR × Value)} (h : TlO O w gb off l) (hk : ∀ b, O b → b < w.heap.size → w'.heap[b]? = w.heap[b]?) : TlO O w' gb off l := by
  obtain ⟨⟨cur, hg, h1, h2⟩, h3, h4, h5, h6, h7⟩ := h
  have hlt : gb < w.heap.size := (Array.getElem?_eq_some_iff.1 hg).1
  exact ⟨⟨cur, by rw [hk gb h6 hlt]; exact hg, h1, h2⟩, fun x hx => (h3 x hx).kept fun g hg' hl => hk g (h7 x hx g hg') hl, h4, h5, h6, h7⟩
theorem TlO.later {O : Nat → Prop} {w w' : World} {gb off : Nat} {l : List (PageR × Value)} (h : TlO O w gb off l) (hb : Below w.heap.size w w') : TlO O w' gb off l := h.kept fun b _ hl => hb.block b hl
theorem TlO.far {O : Nat → Prop} {w : World} {gb off : Nat} {l : List (PageR × Value)} (h : TlO O w gb off l) {b : Nat} (j : Nat) (u : Value) (hb : ¬ O b) : TlO O (w.setCell ⟨b, j, none⟩ u) gb off l := h.kept fun i hi hl => heap_setCell_other w ⟨b, j, none⟩ i u (fun e => hb (by subst e; exact hi))
theorem TlO.mono {O O' : Nat → Prop} {w : World} {gb off : Nat} {l : List (PageR × Value)} (h : TlO O w gb off l) (ho : ∀ b, O b → O' b) : TlO O' w gb off l := by
  obtain ⟨h1, h3, h4, h5, h6, h7⟩ := h
  exact ⟨h1, h3, h4, h5, ho _ h6, fun x hx g hg => ho g (h7 x hx g hg)⟩

/-- Where the last page stands. -/
theorem TlO.cells {O : Nat → Prop} {w : World} {gb off : Nat} {l : List (PageR × Value)} {q : PageR × Value} (h : TlO O w gb off (l ++ [q])) : gb < w.heap.size ∧ w.cell? ⟨gb, off + l.length * 2, none⟩ = some (.int .i64 q.1.num) ∧ w.cell? ⟨gb, off + l.length * 2 + 1, none⟩ = some q.2 ∧ ∀ j, w.frozen? ⟨gb, j, none⟩ = false := by
  obtain ⟨⟨cur, hg, h1, h2⟩, _⟩ := h
  obtain ⟨f1, f2⟩ := flat2 (l ++ [q]) l.length q (by simp)
  rw [List.length_append, List.length_singleton] at h1 h2
  refine ⟨(Array.getElem?_eq_some_iff.1 hg).1, ?_, ?_, fun j => frozen_of_row w gb j cur 40 hg⟩
  · rw [cell_of_row w gb _ cur 40 (0, 0) hg, h2 _ (by omega), f1]
  · rw [cell_of_row w gb _ cur 40 (0, 0) hg, Nat.add_assoc, h2 _ (by omega), f2]

/-- As pages in memory, whatever changes elsewhere. -/
theorem TlO.pages {O : Nat → Prop} {w : World} {gb off : Nat} {l : List (PageR × Value)} (h : TlO O w gb off l) (hl : l.length ≤ maxLen) (hm : ∀ x ∈ l, x.1.bs.length ≤ maxLen) (w' : World) (hs : w.heap.size ≤ w'.heap.size) (hk : ∀ b, O b → b < w.heap.size → w'.heap[b]? = w.heap[b]?) : PagesAt w' (some ⟨gb, off, none⟩) (l.map fun y : PageR × Value => y.1) := by
  obtain ⟨⟨cur, hg, h1, h2⟩, h3, _⟩ := h.kept hk
  refine ⟨by simpa using hl, Or.inr ⟨gb, off, rfl, (Array.getElem?_eq_some_iff.1 hg).1, fun j hj => ?_⟩⟩
  rw [List.length_map] at hj
  have hx : l[j]? = some l[j] := List.getElem?_eq_getElem hj
  obtain ⟨f1, f2⟩ := flat2 l j _ hx
  obtain ⟨a, c, k1, k2, k3, k4, _⟩ := (h3 l[j] (List.getElem_mem hj)).bytes (hm _ (List.getElem_mem hj))
  have hd : (l.map fun y : PageR × Value => y.1).getD j default = l[j].1 := by rw [List.getD_eq_getElem?_getD, List.getElem?_map, hx]; rfl
  rw [hd]
  refine ⟨a, c, ?_, ?_, k2, k3, k4⟩
  · rw [cell_of_row w' gb _ cur 40 (0, 0) hg, h2 _ (by omega), f1]
  · rw [cell_of_row w' gb _ cur 40 (0, 0) hg, Nat.add_assoc, h2 _ (by omega), f2, k1]

/-- The last page with other bytes. -/
theorem TlO.last {O O' : Nat → Prop} {w w' : World} {l : List (PageR × Value)} {q : PageR × Value} {gb off g n cap : Nat} {bs : List UInt8} (h : TlO O w gb off (l ++ [q])) (hown : OwnBy 0 w' (⟨q.1.num, bs⟩, .slice (some ⟨g, 0, none⟩) n cap)) (hgr : w.grownBy w' q.2.ownBlock) (hat : q.2.ownBlock = some g ∨ g = w.heap.size)
    (ho : ∀ b, O b → O' b) (hg : O' g) : TlO O' (w'.setCell ⟨gb, off + l.length * 2 + 1, none⟩ (.slice (some ⟨g, 0, none⟩) n cap)) gb off (l ++ [((⟨q.1.num, bs⟩ : PageR), .slice (some ⟨g, 0, none⟩) n cap)]) := by
  obtain ⟨⟨cur, hgb, h1, h2⟩, h3, h4, h5, h6, h7⟩ := h
  have hqm : q ∈ l ++ [q] := by simp
  have hgw : gb < w.heap.size := (Array.getElem?_eq_some_iff.1 hgb).1
  have hgg : g ≠ gb := by
    rcases hat with e | e
    · exact h4 q hqm g e
    · omega
  have hgb' : w'.heap[gb]? = some (.cells cur 40 (0, 0)) := by rw [hgr.block gb hgw (fun e => h4 q hqm gb e.symm rfl)]; exact hgb
  have hset : ∀ x : PageR × Value, OwnBy 0 w' x → (∀ b, x.2.ownBlock = some b → b ≠ gb) → OwnBy 0 (w'.setCell ⟨gb, off + l.length * 2 + 1, none⟩ (.slice (some ⟨g, 0, none⟩) n cap)) x := fun x hx hb => hx.kept fun b hb' _ => heap_setCell_other w' ⟨gb, off + l.length * 2 + 1, none⟩ b _ (hb b hb')
  have hpw := List.pairwise_append.1 h5
  have hold : ∀ x ∈ l, OwnBy 0 w' x := fun x hx => (h3 x (by simp [hx])).kept fun b hb hl => hgr.block b hl (fun e => hpw.2.2 x hx q (by simp) b hb e.symm)
  rw [List.length_append, List.length_singleton] at h1 h2
  refine ⟨⟨_, heap_setCell_same w' gb (off + l.length * 2 + 1) cur 40 _ hgb', by rw [List.length_append, List.length_singleton]; simpa using h1, fun j hj => ?_⟩, fun x hx => ?_, fun x hx b hb e => ?_, ?_, ho _ h6, fun x hx b hb => ?_⟩
  · rw [List.length_append, List.length_singleton] at hj
    rw [← flat_set l q bs (.slice (some ⟨g, 0, none⟩) n cap)]
    by_cases hjl : j = l.length * 2 + 1
    · subst hjl
      rw [List.getElem?_set_self (by rw [pgCells_len, List.length_append, List.length_singleton]; omega), ← Nat.add_assoc, Array.getElem?_setIfInBounds_self_of_lt (by omega)]
    · rw [List.getElem?_set_ne (by omega), Array.getElem?_setIfInBounds_ne (by omega)]
      exact h2 j hj
  · rcases List.mem_append.1 hx with hx | hx
    · exact hset x (hold x hx) (h4 x (by simp [hx]))
    · simp at hx; subst hx
      refine hset _ hown (fun b hb => ?_)
      have e : g = b := by simpa [Value.ownBlock] using hb
      omega
  · rcases List.mem_append.1 hx with hx | hx
    · exact h4 x (by simp [hx]) b hb e
    · simp at hx; subst hx
      have e2 : g = b := by simpa [Value.ownBlock] using hb
      omega
  · rw [List.pairwise_append]
    refine ⟨hpw.1, List.pairwise_singleton _ _, fun x hx y hy b hb e => ?_⟩
    simp at hy
    subst hy
    have e2 : g = b := by simpa [Value.ownBlock] using e
    subst e2
    rcases hat with e3 | e3
    · exact hpw.2.2 x hx q (by simp) g hb e3
    · have := ((h3 x (by simp [hx])).lt g hb).2
      omega
  · rcases List.mem_append.1 hx with hx | hx
    · exact ho b (h7 x (by simp [hx]) b hb)
    · simp at hx; subst hx
      have e2 : g = b := by simpa [Value.ownBlock] using hb
      exact e2 ▸ hg

/-- 'append(out.Pages[1:], Page{Number: ..})' in a plain region. -/
theorem append_tail {ops : Array Oper} {rest : List Oper} {o : Oper} {a : Act} {Q : Exit → Act → World → Prop} (w : World) (hgd : o.guard = none) (s x : Operand)
    (ho : o.op = .call { callee := .builtin .append, args := #[s, x], argTypes := #[22, 22] }) (O : Nat → Prop) (g cap : Nat) (p : PageR × Value) (l : List (PageR × Value)) (A : Addr) (hA : (if cap = 1 then some (⟨g, 0, none⟩ : Addr) else some ⟨g, 2, none⟩) = some A) (hs : a.eval s = .slice (some A) l.length (cap - 1))
    (hW : PgO O w (.slice (some ⟨g, 0, none⟩) (l.length + 1) cap) (p :: l)) (num : Int) (B : Nat) (hx : a.eval x = .slice (some ⟨B, 0, none⟩) 1 1)
    (hB : w.heap[B]? = some (.cells #[.int .i64 num, .slice none 0 0] 40 (0, 0))) (hsz : (l.length + 1) * 32 ≤ 140737488351232)
    (h : ∀ gb off cap' w', TlO (fun b => O b ∨ w.heap.size ≤ b) w' gb off (l ++ [((⟨num, []⟩ : PageR), Value.slice none 0 0)]) → Fr O w w' → wpList Try.prog ops Q rest (a.put o.dst (.slice (some ⟨gb, off, none⟩) (l.length + 1) cap')) w') : wpList Try.prog ops Q (o :: rest) a w := by
  obtain ⟨i0, hi, hz0, hz1, hz2⟩ := info_parts infoPage
  obtain ⟨⟨h1, h2, h3, h4⟩, h5, h6⟩ := hW
  have h1' : w.ownsRow 0 40 2 (.slice (some ⟨g, 0, none⟩) (l.length + 1) cap) (l.length + 1) ((p :: l).flatMap pgCells) := h1
  obtain ⟨cur, _, hg, hnc, hcm, hcs, ht⟩ := owns_block h1'
  have hgl : g < w.heap.size := (Array.getElem?_eq_some_iff.1 hg).1
  have hcell : ∀ j u, (l.flatMap pgCells)[j]? = some u → w.cell? ⟨g, 2 + j, none⟩ = some u := by
    intro j u hu
    have hlt := (List.getElem?_eq_some_iff.1 hu).1
    rw [pgCells_len] at hlt
    rw [cell_of_row w g _ cur 40 (0, 0) hg, ← hu]
    have : ((p :: l).flatMap pgCells)[2 + j]? = (l.flatMap pgCells)[j]? := by
      rw [List.flatMap_cons, List.getElem?_append_right (by show 2 ≤ 2 + j; omega)]
      congr 1
      show 2 + j - 2 = j
      omega
    rw [← this, ← ht, List.getElem?_take_of_lt (by omega), Array.getElem?_toList]
  have hAoff : cap ≠ 1 → A = ⟨g, 2, none⟩ := fun e => by rw [if_neg e] at hA; exact (Option.some.inj hA).symm
  have hAb : A.block = g ∧ A.spot = none := by
    split at hA <;> (have := Option.some.inj hA; subst this; exact ⟨rfl, rfl⟩)
  obtain ⟨ab, ao, asp⟩ := A
  obtain ⟨rfl, rfl⟩ := hAb
  have hne : ∀ x ∈ p :: l, ∀ b, x.2.ownBlock = some b → b ≠ ab := fun x hx b hb e => h3 x hx b hb (by rw [e]; rfl)
  refine wpList_append_arg w hgd s x 22 ho 40 i0 _ 2 32 Try.underlying22 hi hz0 hz1 hz2 rfl (by omega) ab ao l.length (cap - 1) (l.flatMap pgCells) hs (pgCells_len l) (fun j u hu => ?_) ⟨B, 0, none⟩ 1 1 [.int .i64 num, .slice none 0 0] hx rfl (World.news_of_block hB) ?_ (fun hr j hj => ?_) (by unfold maxLen; omega) (by omega) (fun hr => ?_) (fun hr v' w' hown hgr => ?_)
  · by_cases hc1 : cap = 1
    · have hl0 : l.length = 0 := by omega
      rw [List.length_eq_zero_iff.1 hl0] at hu
      simp at hu
    · have := hAoff hc1
      simp at this
      subst this
      exact hcell j u hu
  · intro u hu
    simp at hu
    rcases hu with rfl | rfl <;> rfl
  · have := hAoff (by omega)
    simp at this
    subst this
    have hj2 : j < 2 := hj
    exact row_there hg _ (by omega)
  · have := hAoff (by omega)
    simp at this
    subst this
    have hgr := setCells_grown ab [.int .i64 num, .slice none 0 0] (2 + l.length * 2) w
    have hrow := setCells_row [.int .i64 num, .slice none 0 0] (2 + l.length * 2) w cur hg (by show 2 + l.length * 2 + 2 ≤ _; omega)
    refine h ab 2 (cap - 1) _ ⟨⟨_, hrow, ?_, fun j hj => ?_⟩, fun x hx => ?_, fun x hx b hb => ?_, ?_, Or.inl (h5 ab rfl), fun x hx b hb => ?_⟩ (Fr.of_grown hgr (fun b hb => by cases hb; exact Or.inl (h5 ab rfl)))
    · rw [laid_size (by show 2 + l.length * 2 + 2 ≤ _; omega), List.length_append, List.length_singleton]; omega
    · rw [List.length_append, List.length_singleton] at hj
      rw [laid_get (by show 2 + l.length * 2 + 2 ≤ _; omega), List.flatMap_append]
      by_cases hj2 : j < l.length * 2
      · rw [if_pos (by omega), List.getElem?_append_left (by rw [pgCells_len]; exact hj2)]
        have := hcell j _ (List.getElem?_eq_getElem (by rw [pgCells_len]; exact hj2))
        rw [cell_of_row w ab _ cur 40 (0, 0) hg] at this
        rw [this, List.getElem?_eq_getElem]
      · rw [if_neg (by omega), if_pos (by show 2 + j < 2 + l.length * 2 + 2; omega), List.getElem?_append_right (by rw [pgCells_len]; omega), pgCells_len]
        congr 1
        omega
    · rcases List.mem_append.1 hx with hx | hx
      · exact (h2 x (List.mem_cons_of_mem _ hx)).kept fun b hb hl => hgr.block b hl (fun e => hne x (List.mem_cons_of_mem _ hx) b hb (by cases e; rfl))
      · simp at hx; subst hx; exact World.ownsRow_nil _ _ _ _
    · rcases List.mem_append.1 hx with hx | hx
      · exact hne x (List.mem_cons_of_mem _ hx) b hb
      · simp at hx; subst hx; cases hb
    · rw [List.pairwise_append]
      exact ⟨(List.pairwise_cons.1 h4).2, List.pairwise_singleton _ _, fun x hx y hy b hb e => by simp at hy; subst hy; cases e⟩
    · rcases List.mem_append.1 hx with hx | hx
      · exact Or.inl (h6 x (List.mem_cons_of_mem _ hx) b hb)
      · simp at hx; subst hx; cases hb
  · obtain ⟨g2, cap2, rfl, hg2, _⟩ := hown.form (by omega)
    obtain ⟨cur2, _, hc2, hnc2, hcm2, hcs2, ht2⟩ := owns_block hown
    refine h g2 0 cap2 w' ⟨⟨cur2, hc2, ?_, fun j hj => ?_⟩, fun x hx => ?_, fun x hx b hb => ?_, ?_, Or.inr hg2, fun x hx b hb => ?_⟩ (Fr.of_grown hgr (fun b hb => by cases hb))
    · rw [List.length_append, List.length_singleton]; omega
    · rw [List.length_append, List.length_singleton] at hj
      rw [Nat.zero_add, List.flatMap_append]
      have : (l.flatMap pgCells ++ [.int .i64 num, .slice none 0 0])[j]? = cur2[j]? := by rw [← ht2, List.getElem?_take_of_lt hj, Array.getElem?_toList]
      rw [← this]
      rfl
    · rcases List.mem_append.1 hx with hx | hx
      · exact (h2 x (List.mem_cons_of_mem _ hx)).kept fun b hb hl => hgr.block b hl (fun e => by cases e)
      · simp at hx; subst hx; exact World.ownsRow_nil _ _ _ _
    · rcases List.mem_append.1 hx with hx | hx
      · have := ((h2 x (List.mem_cons_of_mem _ hx)).lt b hb).2; omega
      · simp at hx; subst hx; cases hb
    · rw [List.pairwise_append]
      exact ⟨(List.pairwise_cons.1 h4).2, List.pairwise_singleton _ _, fun x hx y hy b hb e => by simp at hy; subst hy; cases e⟩
    · rcases List.mem_append.1 hx with hx | hx
      · exact Or.inl (h6 x (List.mem_cons_of_mem _ hx) b hb)
      · simp at hx; subst hx; cases hb
/-- 'append(p.Bytes, rec...)' at a step of a region that draws. -/
theorem append_bytesO_step {ops : Array Oper} {o : Oper} {a : Act} {K : Act → World → Prop} {Q : Exit → Act → World → Prop} {E : Prop} (w : World) (hgd : o.guard = none) (s x : Operand)
    (ho : o.op = .call { callee := .builtin .append, args := #[s, x], argTypes := #[38, 38] }) (num : Int) (bs : List UInt8) (v : Value) (hs : a.eval s = v) (hq : OwnBy 0 w (⟨num, bs⟩, v)) (R : List UInt8) (b off c : Nat) (hx : a.eval x = .slice (some ⟨b, off, none⟩) R.length c)
    (hR : BytesAt w (some ⟨b, off, none⟩) R) (hp : 0 < R.length) (hsz : bs.length + R.length ≤ 1000000)
    (h : ∀ g cap w', OwnBy 0 w' (⟨num, bs ++ R⟩, .slice (some ⟨g, 0, none⟩) (bs.length + R.length) cap) → w.grownBy w' v.ownBlock → (v.ownBlock = some g ∨ g = w.heap.size) → K (a.put o.dst (.slice (some ⟨g, 0, none⟩) (bs.length + R.length) cap)) w') : if Region.wanted o (yielded ops a.tmps) = true then Oper.wp Try.prog o a w K Q else E := by
  obtain ⟨i0, hi, hz0, hz1, hz2⟩ := info_parts infoByte
  refine step_append_lies w hgd s x 38 ho 0 5 i0 _ 1 1 Try.underlying38 hi hz0 hz1 hz2 rfl (by omega) v bs.length (byteVs bs) hs hq ⟨b, off, none⟩ R.length c (byteVs R) hx (by simp [byteVs]) ?_ ?_ hp (by unfold maxLen; omega) (by omega) (Nat.zero_le _) w.heap.size rfl ?_
  · intro j u hj
    unfold byteVs at hj
    rw [List.getElem?_map, Option.map_eq_some_iff] at hj
    obtain ⟨y, hy, rfl⟩ := hj
    obtain ⟨hjl, hje⟩ := List.getElem?_eq_some_iff.1 hy
    rcases hR.2 with h0 | ⟨b2, o2, hb2, _, hc⟩
    · omega
    cases hb2
    rw [WideShapes.add_plain, hc j hjl, List.getD_eq_getElem?_getD, hy]
    rfl
  · intro u hu
    unfold byteVs at hu
    obtain ⟨y, _, rfl⟩ := List.mem_map.1 hu
    rfl
  intro g cap w' h2 h3 h4 h5
  refine h g cap w' ?_ h3 h4
  unfold OwnBy
  simp only
  rw [List.length_append]
  have e : byteVs (bs ++ R) = byteVs bs ++ byteVs R := by unfold byteVs; rw [List.map_append]
  rw [e]
  exact h2

end Go.Proofs.Ytbabiandegianaa
