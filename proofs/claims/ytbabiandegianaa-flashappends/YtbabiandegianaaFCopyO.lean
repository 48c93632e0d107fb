/- The contract of flash.Copy once more: rows of the call's own. -/
import Derived.Test.YtbabiandegianaaFOwn
import Derived.Deep.RegionHeld3
import Derived.Deep.DeepCutAuto
import Derived.Deep.Onto
namespace Go.Proofs.Ytbabiandegianaa
open Go.ChangeShapes Go.WideShapes Go.ChangeAt Go.RowKit
set_option linter.unusedVariables false
set_option linter.unusedSimpArgs false

def CopyPg (m x : Int) (ps : List PageR) (w : World) (e : Ending) (w' : World) : Prop := ∃ v l, e = .returned (.agg #[.int .i64 m, .int .i64 x, v]) ∧ l.map (·.1) = ps ∧ PgOwn w.heap.size w' v l ∧ Below w.heap.size w w'

/-- The first k pages of the row that is made, in its block H. -/
def CopQ' (ps : List PageR) (W : World) (H k : Nat) (wr : World) (cur : Array Value) (l : List (PageR × Value)) : Prop := l.map (·.1) = ps.take k ∧ cur.toList.take (k * 2) = l.flatMap pgCells ∧ (∀ x ∈ l, OwnBy (H + 1) wr x) ∧ l.Pairwise fun x y => ∀ g, x.2.ownBlock = some g → y.2.ownBlock ≠ some g
def CopQ (ps : List PageR) (W : World) (H k : Nat) (wr : World) : Prop :=
  ∃ cur l, wr.heap[H]? = some (.cells cur 40 (0, 0)) ∧ cur.size = ps.length * 2 ∧ Below H W wr ∧ CopQ' ps W H k wr cur l

theorem take_two (l : List Value) (k : Nat) (h : k + 2 ≤ l.length) (a b : Value) : ((l.set k a).set (k + 1) b).take (k + 2) = l.take k ++ [a, b] := by
  apply List.ext_getElem?
  intro j
  have hl : (l.take k).length = k := by rw [List.length_take]; omega
  by_cases h1 : j < k
  · rw [List.getElem?_take_of_lt (by omega), List.getElem?_set_ne (by omega), List.getElem?_set_ne (by omega), List.getElem?_append_left (by omega), List.getElem?_take_of_lt h1]
  · rw [List.getElem?_append_right (by omega), hl]
    by_cases h2 : j = k
    · subst h2
      rw [List.getElem?_take_of_lt (by omega), List.getElem?_set_ne (by omega), List.getElem?_set_self (by omega)]
      simp
    · by_cases h3 : j = k + 1
      · subst h3
        rw [List.getElem?_take_of_lt (by omega), List.getElem?_set_self (by simp; omega), show k + 1 - k = 1 by omega]
        rfl
      · rw [List.getElem?_eq_none (by rw [List.length_take]; omega), List.getElem?_eq_none (by simp; omega)]

theorem CopQ.step {ps : List PageR} {W wr w2 : World} {H k : Nat} {v2 : Value} {cur : Array Value} {l : List (PageR × Value)} (hlt : k < ps.length) (hcur : wr.heap[H]? = some (.cells cur 40 (0, 0))) (hcs : cur.size = ps.length * 2) (hb : Below H W wr) (hP : CopQ' ps W H k wr cur l)
    (hw : Below wr.heap.size wr w2) (hHr : H < wr.heap.size) (num : Int) (bs : List UInt8) (hn : ps.getD k default = ⟨num, bs⟩) (hB : OwnBy wr.heap.size w2 (⟨num, bs⟩, v2)) :
    CopQ ps W H (k + 1) ((w2.setCell ⟨H, k * 2, none⟩ (.int .i64 num)).setCell ⟨H, k * 2 + 1, none⟩ v2) := by
  obtain ⟨h1, h2, h3, h4⟩ := hP
  have hc2 : w2.heap[H]? = some (.cells cur 40 (0, 0)) := by rw [hw.block H hHr]; exact hcur
  have hfar : ∀ {x : PageR × Value} {n : Nat} {w : World} (a b : Value), H < n → OwnBy n w x → OwnBy n ((w.setCell ⟨H, k * 2, none⟩ a).setCell ⟨H, k * 2 + 1, none⟩ b) x := by
    intro x n w a b hn hx
    refine hx.kept fun g hg hl => ?_
    have := (hx.lt g hg).1
    rw [heap_setCell_other _ _ _ _ (show g ≠ H by omega), heap_setCell_other _ _ _ _ (show g ≠ H by omega)]
  refine ⟨(cur.setIfInBounds (k * 2) _).setIfInBounds (k * 2 + 1) _, l ++ [(⟨num, bs⟩, v2)], heap_setCell_same _ H _ _ 40 _ (heap_setCell_same _ H _ _ 40 _ hc2), by simp [hcs], ((hb.trans (hw.mono (by omega))).setCell (Nat.le_refl _) _).setCell (Nat.le_refl _) _, ?_, ?_, ?_, ?_⟩
  · rw [List.map_append, h1, List.take_add_one, List.getElem?_eq_getElem hlt]
    congr 1
    rw [List.getD_eq_getElem?_getD, List.getElem?_eq_getElem hlt] at hn
    simp at hn
    simp [hn]
  · rw [Array.toList_setIfInBounds, Array.toList_setIfInBounds, show (k + 1) * 2 = k * 2 + 2 by omega, take_two _ _ (by rw [Array.length_toList]; omega), h2, List.flatMap_append]
    rfl
  · intro x hx
    rcases List.mem_append.1 hx with hx | hx
    · refine hfar _ _ (by omega) ((h3 x hx).kept fun g hg hl => hw.block g hl)
    · simp at hx
      subst hx
      exact hfar _ _ (by omega) (World.ownsRow.mono hB (by omega))
  · rw [List.pairwise_append]
    refine ⟨h4, List.pairwise_singleton _ _, fun x hx y hy g hg e => ?_⟩
    simp at hy
    subst hy
    have q1 := ((h3 x hx).lt g hg).2
    have q2 := (hB.lt g e).1
    omega

theorem CopQ.later {ps : List PageR} {W w w' : World} {H k : Nat} (h : CopQ ps W H k w) (hH : H < w.heap.size) (hb : Below w.heap.size w w') : CopQ ps W H k w' := by
  obtain ⟨cur, l, h1, h2, h3, h4, h5, h6, h7⟩ := h
  exact ⟨cur, l, by rw [hb.block H hH]; exact h1, h2, h3.trans (hb.mono (by omega)), h4, h5, fun x hx => (h6 x hx).kept fun g hg hl => hb.block g hl, h7⟩

set_option maxHeartbeats 1000000 in
set_option maxRecDepth 100000 in
theorem copy_pg (m x : Int) (ps : List PageR) (a : Option Addr) (c : Nat) (w : World) (hA : PagesAt w a ps) (hn : ps.length * 32 ≤ 140737488351232) (hbs : ∀ j, j < ps.length → (ps.getD j default).bs.length ≤ 140737488351232) :
    Calls Try.prog 16 #[.agg #[.int .i64 m, .int .i64 x, .slice a ps.length c]] w (CopyPg m x ps w) := by
  obtain ⟨i0, hi, iz0, iz1, iz2⟩ := info_parts infoPage
  obtain ⟨hmax, hmm⟩ := hA
  unfold maxLen at hmax
  go_enter Try.func16, Try.ntmps16
  go_wp2_with (refine wpList_make_full _ rfl (.tmp 8) (.tmp 8) 22 rfl w.heap.size 40 i0 (.agg #[.int .i64 0, .slice none 0 0]) 2 Try.underlying22 hi iz0 iz1 .i64 .i64 _ _ ps.length rfl rfl rfl rfl (by rw [iz2]; omega) (by unfold maxLen; omega) (by simp; omega) ?_; intro w1 hO hg; obtain ⟨p1, p2⟩ := bcell (made_keeps hg); have hy1 := (made_keeps hg).size; have hy2 : w.heap.size < w1.heap.size := Nat.lt_of_lt_of_le (by simp; omega) hy1; have hy3 : w.heap.size + 1 < w1.heap.size := Nat.lt_of_lt_of_le (by simp) hy1)
  have hK := made_keeps hg
  have hrow : ∃ cur : Array Value, w1.heap[w.heap.size + 1 + 1]? = some (.cells cur 40 (0, 0)) ∧ cur.size = ps.length * 2 := by
    rcases hO.2 with ⟨h0, _⟩ | ⟨g, cap, cur, hv, _, hcur, _, _, hcs, _⟩
    · simp at h0
    · simp at hv
      obtain ⟨rfl, rfl⟩ := hv
      exact ⟨cur, by simpa using hcur, hcs⟩
  have hWb : Below w.heap.size w w1 := (((Below.refl w.heap.size w).alloc (Nat.le_refl _) _).alloc (by simp) _).trans (hK.mono (by simp; omega))
  obtain ⟨cur0, hc0, hs0⟩ := hrow
  have hHlt : w.heap.size + 1 + 1 < w1.heap.size := by
    rcases Nat.lt_or_ge (w.heap.size + 1 + 1) w1.heap.size with h | h
    · exact h
    · rw [Array.getElem?_eq_none h] at hc0; cases hc0
  clear hO hg hK iz0 iz1 iz2 hi
  go_loopw [13] (fun i wr => ∃ k : Nat, k ≤ ps.length ∧ i = .int .i64 k ∧ CopQ ps w1 (w.heap.size + 1 + 1) k wr) (fun i _ => ps.length - (intOf i).toNat)
  case atStart => exact ⟨0, Nat.zero_le _, rfl, cur0, [], hc0, hs0, Below.refl _ _, rfl, rfl, fun x hx => by simp at hx, List.Pairwise.nil⟩
  case round =>
    obtain ⟨k, hk, rfl, cur, hl, hcur, hcs, hb, hP⟩ := hrel
    have hbw : Below w.heap.size w wr := hWb.trans (hb.mono (by omega))
    by_cases hlt : k < ps.length
    · have hltz : (k : Int) < (ps.length : Int) := by omega
      have hk0 : (0 : Int) ≤ (k : Int) := Int.natCast_nonneg _
      rcases hmm with hmm | ⟨b, o, rfl, hbl, hc⟩
      · omega
      obtain ⟨p, q, n1, n2, n3, n4, n5⟩ := (hc k hlt).later hbl hbw
      have hbk := hbs k hlt
      have hl2 : b < wr.heap.size := Nat.lt_of_lt_of_le hbl hbw.size
      have hHr : w.heap.size + 1 + 1 < wr.heap.size := Nat.lt_of_lt_of_le hHlt hb.size
      have r0 : wr.cell? ⟨w.heap.size + 1 + 1, k * 2, none⟩ = some (cur[k * 2]'(by omega)) := by rw [cell_row hcur, Array.getElem?_eq_getElem]
      have r1 : wr.cell? ⟨w.heap.size + 1 + 1, k * 2 + 1, none⟩ = some (cur[k * 2 + 1]'(by omega)) := by rw [cell_row hcur, Array.getElem?_eq_getElem]
      have f0 := frozen_of_row wr (w.heap.size + 1 + 1) (k * 2) cur 40 hcur
      have f1 := frozen_of_row wr (w.heap.size + 1 + 1) (k * 2 + 1) cur 40 hcur
      clear hc
      generalize hPk : ps.getD k default = P at *
      obtain ⟨num, bs⟩ := P
      simp only at *
      have hA1 : Below wr.heap.size wr (wr.alloc (.cells #[.int .i64 num, .slice p bs.length q] 40)) := (Below.refl _ _).alloc (Nat.le_refl _) _
      have hB1 := n3.later hA1
      by_cases hz : bs.length = 0
      · have hbe : bs = [] := List.length_eq_zero_iff.1 hz
        subst hbe
        have hNe : wr.heap.size ≠ w.heap.size + 1 + 1 := by omega
        have hNe' : w.heap.size + 1 + 1 ≠ wr.heap.size := by omega
        simp only [List.length_nil] at n2 n4 hA1 hB1
        have q0 : ∀ v1 v2 : Value, (((wr.setCell ⟨w.heap.size + 1 + 1, k * 2, none⟩ v1).setCell ⟨w.heap.size + 1 + 1, k * 2 + 1, none⟩ v2).alloc (.cells #[.int .i64 num, .slice p 0 q] 40)).drew.cell? ⟨wr.heap.size, 0, none⟩ = some (.int .i64 num) := fun v1 v2 => by
          have h := cell_new2 ((wr.setCell ⟨w.heap.size + 1 + 1, k * 2, none⟩ v1).setCell ⟨w.heap.size + 1 + 1, k * 2 + 1, none⟩ v2) wr.heap.size (by simp [World.setCell]) #[.int .i64 num, .slice p 0 q] 40 0
          exact h
        have q1 : ∀ v1 v2 : Value, (((wr.setCell ⟨w.heap.size + 1 + 1, k * 2, none⟩ v1).setCell ⟨w.heap.size + 1 + 1, k * 2 + 1, none⟩ v2).alloc (.cells #[.int .i64 num, .slice p 0 q] 40)).drew.cell? ⟨wr.heap.size, 1, none⟩ = some (.slice p 0 q) := fun v1 v2 => by
          have h := cell_new2 ((wr.setCell ⟨w.heap.size + 1 + 1, k * 2, none⟩ v1).setCell ⟨w.heap.size + 1 + 1, k * 2 + 1, none⟩ v2) wr.heap.size (by simp [World.setCell]) #[.int .i64 num, .slice p 0 q] 40 1
          exact h
        go_wp2_with fail
        go_region_held3 (fun w' => w'.cell? ⟨wr.heap.size, 0, none⟩ = some (.int .i64 num) ∧ w'.cell? ⟨wr.heap.size, 1, none⟩ = some (.slice p 0 q)) (first | go_keep | exact ⟨q0 _ _, q1 _ _⟩) (refine append_none_step _ (by rfl) _ (.tmp 23) (by rfl) (by rfl) p q (by rfl) ?_)
        have hX : CopQ ps w1 (w.heap.size + 1 + 1) (k + 1) ((((wr.setCell ⟨w.heap.size + 1 + 1, k * 2, none⟩ (.int .i64 num)).setCell ⟨w.heap.size + 1 + 1, k * 2 + 1, none⟩ (.slice none 0 0)).alloc (.cells #[.int .i64 num, .slice p 0 q] 40)).drew) := by
          refine CopQ.later (CopQ.step (v2 := .slice none 0 0) hlt hcur hcs hb hP (Below.refl _ _) hHr num [] hPk (World.ownsRow_nil _ _ _ _)) (by simp [World.setCell]; omega) (((Below.refl _ _).alloc (Nat.le_refl _) _).drew)
        go_wp2_with fail
        exact ⟨⟨k + 1, hlt, by simp, hX⟩, by simp [intOf]; omega⟩
      · have hBd : BytesAt (wr.alloc (.cells #[.int .i64 num, .slice p bs.length q] 40)).drew p bs := hB1.later ((Below.refl _ _).drew)
        have hNe : wr.heap.size ≠ w.heap.size + 1 + 1 := by omega
        have hNe' : w.heap.size + 1 + 1 ≠ wr.heap.size := by omega
        go_wp2_with fail
        go_region_held3 (fun w' => w'.cell? ⟨wr.heap.size, 0, none⟩ = some (.int .i64 num) ∧ w'.cell? ⟨wr.heap.size, 1, none⟩ = some (.slice p bs.length q)) (first | go_keep | exact hSv | exact ⟨by simp [go_sem, hNe, hNe', hSv.1], by simp [go_sem, hNe, hNe', hSv.2]⟩)
          ((refine append_copy_step _ (by rfl) _ (.tmp 23) (by rfl) (by rfl) bs p q (by rfl) hBd (by omega) hbk ?_; intro g2 cap2 w2 hO2 hg2; have hk2 : Below (wr.alloc (.cells #[.int .i64 num, .slice p bs.length q] 40)).heap.size (wr.alloc (.cells #[.int .i64 num, .slice p bs.length q] 40)) w2 := ((Below.refl _ _).drew).trans (made_keeps hg2); obtain ⟨s1, s2⟩ := bcell hk2; have hSv : w2.cell? ⟨wr.heap.size, 0, none⟩ = some (.int .i64 num) ∧ w2.cell? ⟨wr.heap.size, 1, none⟩ = some (.slice p bs.length q) := ⟨by rw [s1 _ _ (by simp)]; simp [go_sem], by rw [s1 _ _ (by simp)]; simp [go_sem]⟩; have t0 : w2.cell? ⟨w.heap.size + 1 + 1, k * 2, none⟩ = some (cur[k * 2]'(by omega)) := (by rw [s1 _ _ (by simp; omega)]; simp [go_sem, hHr, r0]); have t1 : w2.cell? ⟨w.heap.size + 1 + 1, k * 2 + 1, none⟩ = some (cur[k * 2 + 1]'(by omega)) := (by rw [s1 _ _ (by simp; omega)]; simp [go_sem, hHr, r1]); have u0 : w2.frozen? ⟨w.heap.size + 1 + 1, k * 2, none⟩ = false := (by rw [s2 _ _ (by simp; omega)]; simp [go_sem, hHr, f0]); have u1 : w2.frozen? ⟨w.heap.size + 1 + 1, k * 2 + 1, none⟩ = false := (by rw [s2 _ _ (by simp; omega)]; simp [go_sem, hHr, f1]); have hH2 : w.heap.size + 1 + 1 < w2.heap.size := Nat.lt_of_lt_of_le (by simp; omega) hk2.size; have hk2z : (k : Int) < (ps.length : Int) := hltz; have hk20 : (0 : Int) ≤ (k : Int) := hk0))
        have hX : CopQ ps w1 (w.heap.size + 1 + 1) (k + 1) ((w2.setCell ⟨w.heap.size + 1 + 1, k * 2, none⟩ (.int .i64 num)).setCell ⟨w.heap.size + 1 + 1, k * 2 + 1, none⟩ (.slice (some ⟨g2, 0, none⟩) bs.length cap2)) := by
          refine CopQ.step hlt hcur hcs hb hP (hA1.trans (hk2.mono (by simp))) hHr num bs hPk ?_
          exact World.ownsRow.mono hO2.1 (by simp [World.drew])
        clear hO2 hg2 hk2 s1 s2 hSv t0 t1 u0 u1 r0 r1 f0 f1
        go_wp2_with fail
        exact ⟨⟨k + 1, hlt, by simp, hX⟩, by simp [intOf]; omega⟩
    · have hke : k = ps.length := by omega
      have hlt' : ¬ ((k : Int) < (ps.length : Int)) := by omega
      have hHr : w.heap.size + 1 + 1 < wr.heap.size := Nat.lt_of_lt_of_le hHlt hb.size
      have c0 : wr.cell? ⟨w.heap.size, 0, none⟩ = some (.int .i64 m) := by rw [hb.cell (p := ⟨w.heap.size, 0, none⟩) (by simp; omega), p1 _ _ (by simp; omega)]; simp [go_sem]
      have c1 : wr.cell? ⟨w.heap.size, 1, none⟩ = some (.int .i64 x) := by rw [hb.cell (p := ⟨w.heap.size, 1, none⟩) (by simp; omega), p1 _ _ (by simp; omega)]; simp [go_sem]
      have c2 : wr.cell? ⟨w.heap.size, 2, none⟩ = some (.slice a ps.length c) := by rw [hb.cell (p := ⟨w.heap.size, 2, none⟩) (by simp; omega), p1 _ _ (by simp; omega)]; simp [go_sem]
      have d0 : wr.cell? ⟨w.heap.size + 1, 0, none⟩ = some (.int .i64 0) := by rw [hb.cell (p := ⟨w.heap.size + 1, 0, none⟩) (by simp), p1 _ _ (by simp)]; simp [go_sem]
      have d1 : wr.cell? ⟨w.heap.size + 1, 1, none⟩ = some (.int .i64 0) := by rw [hb.cell (p := ⟨w.heap.size + 1, 1, none⟩) (by simp), p1 _ _ (by simp)]; simp [go_sem]
      have d2 : wr.cell? ⟨w.heap.size + 1, 2, none⟩ = some (.slice none 0 0) := by rw [hb.cell (p := ⟨w.heap.size + 1, 2, none⟩) (by simp), p1 _ _ (by simp)]; simp [go_sem]
      have g2 : wr.frozen? ⟨w.heap.size, 2, none⟩ = false := by rw [hb.frozen (p := ⟨w.heap.size, 2, none⟩) (by simp; omega), p2 _ _ (by simp; omega)]; simp [go_sem]
      have h0 : wr.frozen? ⟨w.heap.size + 1, 0, none⟩ = false := by rw [hb.frozen (p := ⟨w.heap.size + 1, 0, none⟩) (by simp), p2 _ _ (by simp)]; simp [go_sem]
      have h1 : wr.frozen? ⟨w.heap.size + 1, 1, none⟩ = false := by rw [hb.frozen (p := ⟨w.heap.size + 1, 1, none⟩) (by simp), p2 _ _ (by simp)]; simp [go_sem]
      have h2 : wr.frozen? ⟨w.heap.size + 1, 2, none⟩ = false := by rw [hb.frozen (p := ⟨w.heap.size + 1, 2, none⟩) (by simp), p2 _ _ (by simp)]; simp [go_sem]
      have hz1 : w.heap.size < wr.heap.size := by omega
      have hz2 : w.heap.size + 1 < wr.heap.size := by omega
      subst hke
      have hlt2 : ¬ ((ps.length : Int) < (ps.length : Int)) := by omega
      clear hlt hlt'
      have hmx : ps.length ≤ maxLen := by unfold maxLen; exact hmax
      go_wp2_with fail
      refine bodyPost_ret (v := .agg #[.int .i64 m, .int .i64 x, .slice (some ⟨w.heap.size + 1 + 1, 0, none⟩) ps.length ps.length]) (by simp [results, Try.results16, go_sem, c0, c1, c2, d0, d1, d2, hz1, hz2]) rfl ⟨.slice (some ⟨w.heap.size + 1 + 1, 0, none⟩) ps.length ps.length, hl, rfl, ?_, ?_, ?_⟩
      · rw [hP.1, List.take_length]
      · have hll : hl.length = ps.length := by have := congrArg List.length hP.1; simpa using this
        have hpg : PgOwn (w.heap.size + 1 + 1) wr (.slice (some ⟨w.heap.size + 1 + 1, 0, none⟩) ps.length ps.length) hl := by
          refine ⟨?_, fun x hx => World.ownsRow.mono (hP.2.2.1 x hx) (by omega), fun x hx g hg e => ?_, hP.2.2.2⟩
          · rw [hll]
            exact owns_shorter (Nat.le_refl _) hcur (Nat.le_refl _) hmx hcs (by rw [hP.2.1])
          · have := ((hP.2.2.1 x hx).lt g hg).1
            have e' : w.heap.size + 1 + 1 = g := by simpa [Value.ownBlock] using e
            omega
        exact (hpg.far (by omega)).far (by omega) |>.far (by omega) |>.far (by omega) |>.mono (by omega)
      · exact (((hbw.setCell (Nat.le_refl _) _).setCell (Nat.le_succ _) _).setCell (Nat.le_succ _) _).setCell (Nat.le_succ _) _

end Go.Proofs.Ytbabiandegianaa
