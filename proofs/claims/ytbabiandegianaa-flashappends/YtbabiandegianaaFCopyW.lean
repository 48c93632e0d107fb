/- The walk of flash.Copy. -/
import Derived.Test.YtbabiandegianaaFCopy
namespace Go.Proofs.Ytbabiandegianaa
open Go.ChangeShapes Go.WideShapes Go.ChangeAt Go.RowKit
set_option linter.unusedVariables false
set_option linter.unusedSimpArgs false

theorem cell_row {w : World} {H : Nat} {cur : Array Value} (h : w.heap[H]? = some (.cells cur 40 (0, 0))) (j : Nat) : w.cell? ⟨H, j, none⟩ = cur[j]? := by simp [World.cell?, h]

theorem BytesAt.farH {w : World} {a : Option Addr} {l : List UInt8} (h : BytesAt w a l) (H j : Nat) (v : Value) (hp : ∀ x, a = some x → H < x.block) : BytesAt (w.setCell ⟨H, j, none⟩ v) a l := by
  obtain ⟨h1, h4⟩ := h
  refine ⟨h1, ?_⟩
  rcases h4 with h4 | ⟨b, off, ha, hlt, hc⟩
  · exact Or.inl h4
  · have hb : H < b := hp _ ha
    refine Or.inr ⟨b, off, ha, by simp [World.setCell]; omega, fun i hi => ?_⟩
    rw [World.cell?_setCell_far w ⟨H, j, none⟩ ⟨b, off + i, none⟩ v (show H ≠ b by omega)]
    exact hc i hi

theorem CopR.step {ps : List PageR} {W wr w2 : World} {H k c2 : Nat} {a2 : Option Addr} {cur : Array Value} (hlt : k < ps.length) (hcur : wr.heap[H]? = some (.cells cur 40 (0, 0))) (hcs : cur.size = ps.length * 2) (hb : Below H W wr) (hP : RowP ps H k cur wr)
    (hw : Below wr.heap.size wr w2) (hHr : H < wr.heap.size) (num : Int) (bs : List UInt8) (hn : (ps.getD k default).num = num) (hbs : (ps.getD k default).bs = bs) (hB : BytesAt w2 a2 bs) (hne : ∀ x, a2 = some x → H < x.block) (hc1 : bs.length ≤ c2) (hc2 : c2 ≤ maxLen) :
    CopR ps W H (k + 1) ((w2.setCell ⟨H, k * 2, none⟩ (.int .i64 num)).setCell ⟨H, k * 2 + 1, none⟩ (.slice a2 bs.length c2)) := by
  subst hn hbs
  have h2 : w2.heap[H]? = some (.cells cur 40 (0, 0)) := by rw [hw.block H hHr]; exact hcur
  refine ⟨(cur.setIfInBounds (k * 2) _).setIfInBounds (k * 2 + 1) _, heap_setCell_same _ H _ _ 40 _ (heap_setCell_same _ H _ _ 40 _ h2), by simp [hcs], ((hb.trans (hw.mono (by omega))).setCell (Nat.le_refl _) _).setCell (Nat.le_refl _) _, fun j hj => ?_⟩
  by_cases hjk : j = k
  · subst hjk
    refine ⟨a2, c2, ?_, ?_, (hB.farH _ _ _ hne).farH _ _ _ hne, hne, hc1, hc2⟩
    · rw [Array.getElem?_setIfInBounds_ne (by omega), Array.getElem?_setIfInBounds_self_of_lt (by omega)]
    · rw [Array.getElem?_setIfInBounds_self_of_lt (by simp; omega)]
  · obtain ⟨a, c, e1, e2, e3, e4, e5⟩ := hP j (by omega)
    refine ⟨a, c, ?_, ?_, ((e3.later hw).farH _ _ _ e4).farH _ _ _ e4, e4, e5⟩
    · rw [Array.getElem?_setIfInBounds_ne (by omega), Array.getElem?_setIfInBounds_ne (by omega)]; exact e1
    · rw [Array.getElem?_setIfInBounds_ne (by omega), Array.getElem?_setIfInBounds_ne (by omega)]; exact e2

theorem CopR.later {ps : List PageR} {W w w' : World} {H k : Nat} (h : CopR ps W H k w) (hH : H < w.heap.size) (hb : Below w.heap.size w w') : CopR ps W H k w' := by
  obtain ⟨cur, h1, h2, h3, h4⟩ := h
  refine ⟨cur, by rw [hb.block H hH]; exact h1, h2, h3.trans (hb.mono (by omega)), fun j hj => ?_⟩
  obtain ⟨a, c, e1, e2, e3, e4⟩ := h4 j hj
  exact ⟨a, c, e1, e2, e3.later hb, e4⟩

theorem cell_new2 (W : World) (n : Nat) (h : W.heap.size = n) (cs : Array Value) (t : TypeId) (j : Nat) : ((W.alloc (.cells cs t)).drew).cell? ⟨n, j, none⟩ = cs[j]? := by
  subst h
  simp [go_sem]

theorem row_pages {ps : List PageR} {H : Nat} {cur : Array Value} {w w' : World} (hm : ps.length ≤ maxLen) (hHl : H < w.heap.size) (hcur : w.heap[H]? = some (.cells cur 40 (0, 0))) (hP : RowP ps H ps.length cur w) (hs : w.heap.size ≤ w'.heap.size) (hw : ∀ b, H ≤ b → b < w.heap.size → w'.heap[b]? = w.heap[b]?) : PagesAt w' (some ⟨H, 0, none⟩) ps := by
  have ce : ∀ b o, H ≤ b → b < w.heap.size → w'.cell? ⟨b, o, none⟩ = w.cell? ⟨b, o, none⟩ := fun b o h h2 => by simp only [World.cell?, hw b h h2]
  refine ⟨hm, Or.inr ⟨H, 0, rfl, Nat.lt_of_lt_of_le hHl hs, fun j hj => ?_⟩⟩
  obtain ⟨a, c, e1, e2, e3, e4, e5⟩ := hP j hj
  refine ⟨a, c, ?_, ?_, ⟨e3.1, ?_⟩, e5⟩
  · rw [ce _ _ (Nat.le_refl _) hHl, cell_row hcur, Nat.zero_add]; exact e1
  · rw [ce _ _ (Nat.le_refl _) hHl, cell_row hcur, Nat.zero_add]; exact e2
  · rcases e3.2 with h4 | ⟨b, off, ha, hlt, hc⟩
    · exact Or.inl h4
    · refine Or.inr ⟨b, off, ha, Nat.lt_of_lt_of_le hlt hs, fun i hi => ?_⟩
      rw [ce _ _ (Nat.le_of_lt (e4 _ ha)) hlt]
      exact hc i hi

theorem append_none_step {ops : Array Oper} {o : Oper} {a : Act} {K : Act → World → Prop} {Q : Exit → Act → World → Prop} {E : Prop} (w : World) (hgd : o.guard = none) (s x : Operand)
    (ho : o.op = .call { callee := .builtin .append, args := #[s, x], argTypes := #[38, 38] }) (hs : a.eval s = .slice none 0 0) (ad : Option Addr) (c : Nat) (hx : a.eval x = .slice ad 0 c)
    (h : K (a.put o.dst (.slice none 0 0)) w) : if Region.wanted o (yielded ops a.tmps) = true then Oper.wp Try.prog o a w K Q else E := by
  obtain ⟨i0, hi, hz0, hz1, hz2⟩ := info_parts infoByte
  have hr : (Builtin.append_ #[38, 38] o.type #[.slice none 0 0, .slice ad 0 c]).run Try.prog w = .ok (.slice none 0 0) w := by
    cases ad <;> simp [Builtin.append_, run_underlying Try.underlying38, sizeOf, typeInfo, hi, Builtin.lenOf, Builtin.firstCells, go_sem]
  have hw : Region.wanted o (yielded ops a.tmps) = true := by simp [Region.wanted, hgd]
  rw [if_pos hw]
  unfold Oper.wp execOp
  simp only [ho, resolve, invoke, builtin, Sem.run_bind, Sem.run_pure, Result.andThen_ok, List.map_toArray, List.map_cons, List.map_nil, hs, hx, hr]
  exact h

/-- The pages lie in blocks from n on: what changes below does not matter. -/
def PagesFrom (n : Nat) (w : World) (a : Option Addr) (ps : List PageR) : Prop := ∀ w' : World, w.heap.size ≤ w'.heap.size → (∀ b, n ≤ b → b < w.heap.size → w'.heap[b]? = w.heap[b]?) → PagesAt w' a ps

def CopyPost2 (m x : Int) (ps : List PageR) (w : World) (e : Ending) (w' : World) : Prop := ∃ a' c', e = .returned (.agg #[.int .i64 m, .int .i64 x, .slice a' ps.length c']) ∧ PagesFrom w.heap.size w' a' ps ∧ Below w.heap.size w w'

def CopyPost (m x : Int) (ps : List PageR) (w : World) (e : Ending) (w' : World) : Prop := ∃ a' c', e = .returned (.agg #[.int .i64 m, .int .i64 x, .slice a' ps.length c']) ∧ PagesAt w' a' ps ∧ Below w.heap.size w w'

set_option maxHeartbeats 1000000 in
set_option maxRecDepth 100000 in
theorem copy_own (m x : Int) (ps : List PageR) (a : Option Addr) (c : Nat) (w : World) (hA : PagesAt w a ps) (hn : ps.length * 32 ≤ 140737488351232) (hbs : ∀ j, j < ps.length → (ps.getD j default).bs.length ≤ 140737488351232) :
    Calls Try.prog 16 #[.agg #[.int .i64 m, .int .i64 x, .slice a ps.length c]] w (CopyPost2 m x ps w) := by
  obtain ⟨i0, hi, iz0, iz1, iz2⟩ := info_parts infoPage
  obtain ⟨hmax, hmm⟩ := hA
  unfold maxLen at hmax
  go_enter Try.func16, Try.ntmps16
  go_wp2_with (refine wpList_make_full _ rfl (.tmp 8) (.tmp 8) 22 rfl w.heap.size 40 i0 (.agg #[.int .i64 0, .slice none 0 0]) 2 Try.underlying22 hi iz0 iz1 .i64 .i64 _ _ ps.length rfl rfl rfl rfl (by rw [iz2]; omega) (by unfold maxLen; omega) (by simp; omega) ?_; intro w1 hO hg; obtain ⟨p1, p2⟩ := bcell (made_keeps hg); have hy1 := (made_keeps hg).size; have hy2 : w.heap.size < w1.heap.size := Nat.lt_of_lt_of_le (by simp; omega) hy1; have hy3 : w.heap.size + 1 < w1.heap.size := Nat.lt_of_lt_of_le (by simp) hy1)
  have hK := made_keeps hg
  have hrow : ∃ cur : Array Value, w1.heap[w.heap.size + 1 + 1]? = some (.cells cur 40 (0, 0)) ∧ cur.size = ps.length * 2 := by
    rcases hO.2 with ⟨h0, _⟩ | ⟨g, cap, cur, hv, _, hcur, _, _, hcs, _⟩
    · simp at h0
    · simp at hv
      obtain ⟨rfl, rfl⟩ := hv
      exact ⟨cur, by simpa using hcur, hcs⟩
  have hWb : Below w.heap.size w w1 := (((Below.refl w.heap.size w).alloc (Nat.le_refl _) _).alloc (by simp) _).trans (hK.mono (by simp; omega))
  obtain ⟨cur0, hc0, hs0⟩ := hrow
  have hHlt : w.heap.size + 1 + 1 < w1.heap.size := by
    rcases Nat.lt_or_ge (w.heap.size + 1 + 1) w1.heap.size with h | h
    · exact h
    · rw [Array.getElem?_eq_none h] at hc0; cases hc0
  clear hO hg hK iz0 iz1 iz2 hi
  go_loopw [13] (fun i wr => ∃ k : Nat, k ≤ ps.length ∧ i = .int .i64 k ∧ CopR ps w1 (w.heap.size + 1 + 1) k wr) (fun i _ => ps.length - (intOf i).toNat)
  case atStart => exact ⟨0, Nat.zero_le _, rfl, cur0, hc0, hs0, Below.refl _ _, fun j hj => absurd hj (Nat.not_lt_zero j)⟩
  case round =>
    obtain ⟨k, hk, rfl, cur, hcur, hcs, hb, hP⟩ := hrel
    have hbw : Below w.heap.size w wr := hWb.trans (hb.mono (by omega))
    by_cases hlt : k < ps.length
    · have hltz : (k : Int) < (ps.length : Int) := by omega
      have hk0 : (0 : Int) ≤ (k : Int) := Int.natCast_nonneg _
      rcases hmm with hmm | ⟨b, o, rfl, hbl, hc⟩
      · omega
      obtain ⟨p, q, n1, n2, n3, n4, n5⟩ := (hc k hlt).later hbl hbw
      have hbk := hbs k hlt
      have hl2 : b < wr.heap.size := Nat.lt_of_lt_of_le hbl hbw.size
      have hHr : w.heap.size + 1 + 1 < wr.heap.size := Nat.lt_of_lt_of_le hHlt hb.size
      have r0 : wr.cell? ⟨w.heap.size + 1 + 1, k * 2, none⟩ = some (cur[k * 2]'(by omega)) := by rw [cell_row hcur, Array.getElem?_eq_getElem]
      have r1 : wr.cell? ⟨w.heap.size + 1 + 1, k * 2 + 1, none⟩ = some (cur[k * 2 + 1]'(by omega)) := by rw [cell_row hcur, Array.getElem?_eq_getElem]
      have f0 := frozen_of_row wr (w.heap.size + 1 + 1) (k * 2) cur 40 hcur
      have f1 := frozen_of_row wr (w.heap.size + 1 + 1) (k * 2 + 1) cur 40 hcur
      clear hc
      generalize hPk : ps.getD k default = P at *
      obtain ⟨num, bs⟩ := P
      simp only at *
      have hA1 : Below wr.heap.size wr (wr.alloc (.cells #[.int .i64 num, .slice p bs.length q] 40)) := (Below.refl _ _).alloc (Nat.le_refl _) _
      have hB1 := n3.later hA1
      by_cases hz : bs.length = 0
      · have hbe : bs = [] := List.length_eq_zero_iff.1 hz
        subst hbe
        have hNe : wr.heap.size ≠ w.heap.size + 1 + 1 := by omega
        have hNe' : w.heap.size + 1 + 1 ≠ wr.heap.size := by omega
        simp only [List.length_nil] at n2 n4 hA1 hB1
        have q0 : ∀ v1 v2 : Value, (((wr.setCell ⟨w.heap.size + 1 + 1, k * 2, none⟩ v1).setCell ⟨w.heap.size + 1 + 1, k * 2 + 1, none⟩ v2).alloc (.cells #[.int .i64 num, .slice p 0 q] 40)).drew.cell? ⟨wr.heap.size, 0, none⟩ = some (.int .i64 num) := fun v1 v2 => by
          have h := cell_new2 ((wr.setCell ⟨w.heap.size + 1 + 1, k * 2, none⟩ v1).setCell ⟨w.heap.size + 1 + 1, k * 2 + 1, none⟩ v2) wr.heap.size (by simp [World.setCell]) #[.int .i64 num, .slice p 0 q] 40 0
          exact h
        have q1 : ∀ v1 v2 : Value, (((wr.setCell ⟨w.heap.size + 1 + 1, k * 2, none⟩ v1).setCell ⟨w.heap.size + 1 + 1, k * 2 + 1, none⟩ v2).alloc (.cells #[.int .i64 num, .slice p 0 q] 40)).drew.cell? ⟨wr.heap.size, 1, none⟩ = some (.slice p 0 q) := fun v1 v2 => by
          have h := cell_new2 ((wr.setCell ⟨w.heap.size + 1 + 1, k * 2, none⟩ v1).setCell ⟨w.heap.size + 1 + 1, k * 2 + 1, none⟩ v2) wr.heap.size (by simp [World.setCell]) #[.int .i64 num, .slice p 0 q] 40 1
          exact h
        go_wp2_with fail
        go_region_held3 (fun w' => w'.cell? ⟨wr.heap.size, 0, none⟩ = some (.int .i64 num) ∧ w'.cell? ⟨wr.heap.size, 1, none⟩ = some (.slice p 0 q)) (first | go_keep | exact ⟨q0 _ _, q1 _ _⟩) (refine append_none_step _ (by rfl) _ (.tmp 23) (by rfl) (by rfl) p q (by rfl) ?_)
        have hX : CopR ps w1 (w.heap.size + 1 + 1) (k + 1) ((((wr.setCell ⟨w.heap.size + 1 + 1, k * 2, none⟩ (.int .i64 num)).setCell ⟨w.heap.size + 1 + 1, k * 2 + 1, none⟩ (.slice none 0 0)).alloc (.cells #[.int .i64 num, .slice p 0 q] 40)).drew) := by
          refine CopR.later (CopR.step (a2 := none) (c2 := 0) hlt hcur hcs hb hP (Below.refl _ _) hHr num [] (by rw [hPk]) (by rw [hPk]) ⟨Nat.zero_le _, Or.inl rfl⟩ (fun x hx => by cases hx) (Nat.le_refl _) (Nat.zero_le _)) (by simp [World.setCell]; omega) (((Below.refl _ _).alloc (Nat.le_refl _) _).drew)
        go_wp2_with fail
        exact ⟨⟨k + 1, hlt, by simp, hX⟩, by simp [intOf]; omega⟩
      · have hBd : BytesAt (wr.alloc (.cells #[.int .i64 num, .slice p bs.length q] 40)).drew p bs := hB1.later ((Below.refl _ _).drew)
        have hNe : wr.heap.size ≠ w.heap.size + 1 + 1 := by omega
        have hNe' : w.heap.size + 1 + 1 ≠ wr.heap.size := by omega
        go_wp2_with fail
        go_region_held3 (fun w' => w'.cell? ⟨wr.heap.size, 0, none⟩ = some (.int .i64 num) ∧ w'.cell? ⟨wr.heap.size, 1, none⟩ = some (.slice p bs.length q)) (first | go_keep | exact hSv | exact ⟨by simp [go_sem, hNe, hNe', hSv.1], by simp [go_sem, hNe, hNe', hSv.2]⟩)
          ((refine append_copy_step _ (by rfl) _ (.tmp 23) (by rfl) (by rfl) bs p q (by rfl) hBd (by omega) hbk ?_; intro g2 cap2 w2 hO2 hg2; have hk2 : Below (wr.alloc (.cells #[.int .i64 num, .slice p bs.length q] 40)).heap.size (wr.alloc (.cells #[.int .i64 num, .slice p bs.length q] 40)) w2 := ((Below.refl _ _).drew).trans (made_keeps hg2); obtain ⟨s1, s2⟩ := bcell hk2; have hSv : w2.cell? ⟨wr.heap.size, 0, none⟩ = some (.int .i64 num) ∧ w2.cell? ⟨wr.heap.size, 1, none⟩ = some (.slice p bs.length q) := ⟨by rw [s1 _ _ (by simp)]; simp [go_sem], by rw [s1 _ _ (by simp)]; simp [go_sem]⟩; have t0 : w2.cell? ⟨w.heap.size + 1 + 1, k * 2, none⟩ = some (cur[k * 2]'(by omega)) := (by rw [s1 _ _ (by simp; omega)]; simp [go_sem, hHr, r0]); have t1 : w2.cell? ⟨w.heap.size + 1 + 1, k * 2 + 1, none⟩ = some (cur[k * 2 + 1]'(by omega)) := (by rw [s1 _ _ (by simp; omega)]; simp [go_sem, hHr, r1]); have u0 : w2.frozen? ⟨w.heap.size + 1 + 1, k * 2, none⟩ = false := (by rw [s2 _ _ (by simp; omega)]; simp [go_sem, hHr, f0]); have u1 : w2.frozen? ⟨w.heap.size + 1 + 1, k * 2 + 1, none⟩ = false := (by rw [s2 _ _ (by simp; omega)]; simp [go_sem, hHr, f1]); have hH2 : w.heap.size + 1 + 1 < w2.heap.size := Nat.lt_of_lt_of_le (by simp; omega) hk2.size; have hk2z : (k : Int) < (ps.length : Int) := hltz; have hk20 : (0 : Int) ≤ (k : Int) := hk0))
        have hO3 := hO2.form (by omega)
        have hX : CopR ps w1 (w.heap.size + 1 + 1) (k + 1) ((w2.setCell ⟨w.heap.size + 1 + 1, k * 2, none⟩ (.int .i64 num)).setCell ⟨w.heap.size + 1 + 1, k * 2 + 1, none⟩ (.slice (some ⟨g2, 0, none⟩) bs.length cap2)) := by
          obtain ⟨g, cap, hv, hg, hBy, hc1, hc2⟩ := hO3
          cases hv
          exact CopR.step hlt hcur hcs hb hP (hA1.trans (hk2.mono (by simp))) hHr num bs (by rw [hPk]) (by rw [hPk]) hBy (fun x hx => by cases hx; simp at hg; show _ < g2; omega) hc1 hc2
        clear hO2 hO3 hg2 hk2 s1 s2 hSv t0 t1 u0 u1 r0 r1 f0 f1
        go_wp2_with fail
        exact ⟨⟨k + 1, hlt, by simp, hX⟩, by simp [intOf]; omega⟩
    · have hke : k = ps.length := by omega
      have hlt' : ¬ ((k : Int) < (ps.length : Int)) := by omega
      have hHr : w.heap.size + 1 + 1 < wr.heap.size := Nat.lt_of_lt_of_le hHlt hb.size
      have c0 : wr.cell? ⟨w.heap.size, 0, none⟩ = some (.int .i64 m) := by rw [hb.cell (p := ⟨w.heap.size, 0, none⟩) (by simp; omega), p1 _ _ (by simp; omega)]; simp [go_sem]
      have c1 : wr.cell? ⟨w.heap.size, 1, none⟩ = some (.int .i64 x) := by rw [hb.cell (p := ⟨w.heap.size, 1, none⟩) (by simp; omega), p1 _ _ (by simp; omega)]; simp [go_sem]
      have c2 : wr.cell? ⟨w.heap.size, 2, none⟩ = some (.slice a ps.length c) := by rw [hb.cell (p := ⟨w.heap.size, 2, none⟩) (by simp; omega), p1 _ _ (by simp; omega)]; simp [go_sem]
      have d0 : wr.cell? ⟨w.heap.size + 1, 0, none⟩ = some (.int .i64 0) := by rw [hb.cell (p := ⟨w.heap.size + 1, 0, none⟩) (by simp), p1 _ _ (by simp)]; simp [go_sem]
      have d1 : wr.cell? ⟨w.heap.size + 1, 1, none⟩ = some (.int .i64 0) := by rw [hb.cell (p := ⟨w.heap.size + 1, 1, none⟩) (by simp), p1 _ _ (by simp)]; simp [go_sem]
      have d2 : wr.cell? ⟨w.heap.size + 1, 2, none⟩ = some (.slice none 0 0) := by rw [hb.cell (p := ⟨w.heap.size + 1, 2, none⟩) (by simp), p1 _ _ (by simp)]; simp [go_sem]
      have g2 : wr.frozen? ⟨w.heap.size, 2, none⟩ = false := by rw [hb.frozen (p := ⟨w.heap.size, 2, none⟩) (by simp; omega), p2 _ _ (by simp; omega)]; simp [go_sem]
      have h0 : wr.frozen? ⟨w.heap.size + 1, 0, none⟩ = false := by rw [hb.frozen (p := ⟨w.heap.size + 1, 0, none⟩) (by simp), p2 _ _ (by simp)]; simp [go_sem]
      have h1 : wr.frozen? ⟨w.heap.size + 1, 1, none⟩ = false := by rw [hb.frozen (p := ⟨w.heap.size + 1, 1, none⟩) (by simp), p2 _ _ (by simp)]; simp [go_sem]
      have h2 : wr.frozen? ⟨w.heap.size + 1, 2, none⟩ = false := by rw [hb.frozen (p := ⟨w.heap.size + 1, 2, none⟩) (by simp), p2 _ _ (by simp)]; simp [go_sem]
      have hz1 : w.heap.size < wr.heap.size := by omega
      have hz2 : w.heap.size + 1 < wr.heap.size := by omega
      subst hke
      have hlt2 : ¬ ((ps.length : Int) < (ps.length : Int)) := by omega
      clear hlt hlt'
      have hmx : ps.length ≤ maxLen := by unfold maxLen; exact hmax
      go_wp2_with fail
      refine bodyPost_ret (v := .agg #[.int .i64 m, .int .i64 x, .slice (some ⟨w.heap.size + 1 + 1, 0, none⟩) ps.length ps.length]) (by simp [results, Try.results16, go_sem, c0, c1, c2, d0, d1, d2, hz1, hz2]) rfl ⟨_, _, rfl, ?_, ?_⟩
      · intro w9 hs9 h9
        have hs8 : wr.heap.size ≤ w9.heap.size := by simpa [World.setCell] using hs9
        refine row_pages hmx hHr hcur hP hs8 fun b hb hbl => ?_
        rw [h9 b (by omega) (by simpa [World.setCell] using hbl), heap_setCell_other _ _ _ _ (show b ≠ w.heap.size + 1 by omega), heap_setCell_other _ _ _ _ (show b ≠ w.heap.size + 1 by omega), heap_setCell_other _ _ _ _ (show b ≠ w.heap.size + 1 by omega), heap_setCell_other _ _ _ _ (show b ≠ w.heap.size by omega)]
      · exact (((hbw.setCell (Nat.le_refl _) _).setCell (Nat.le_succ _) _).setCell (Nat.le_succ _) _).setCell (Nat.le_succ _) _

theorem copy_any (m x : Int) (ps : List PageR) (a : Option Addr) (c : Nat) (w : World) (hA : PagesAt w a ps) (hn : ps.length * 32 ≤ 140737488351232) (hbs : ∀ j, j < ps.length → (ps.getD j default).bs.length ≤ 140737488351232) :
    Calls Try.prog 16 #[.agg #[.int .i64 m, .int .i64 x, .slice a ps.length c]] w (CopyPost m x ps w) :=
  (copy_own m x ps a c w hA hn hbs).mono fun e w' ⟨a', c', h1, h2, h3⟩ => ⟨a', c', h1, h2 w' (Nat.le_refl _) (fun _ _ _ => rfl), h3⟩
end Go.Proofs.Ytbabiandegianaa
