/- Parts of the proof. -/
import Derived.Test.YtdblegdgmjakfaaGreatDoorMJ00
import Derived.Test.YtdblegdgmjakfaaGreatDoorRows
import Derived.WalkKit
import Derived.ProofKit
import Derived.OpenShut
import Derived.ShutString
import Derived.ChangeOld
import Derived.Below
import Derived.Shelf.Abstract
import Derived.Laws.Rows
import Derived.Deep.AppendLies
import Derived.Deep.RegionHeld3
import Derived.Laws.IdiomCopy
import Derived.ArgAppend
namespace Go.Proofs.YtdblegdgmjakfaaGreatDoor
open Go.ChangeShapes Go.WideShapes Go.ChangeAt Go.RowKit
set_option linter.unusedVariables false
set_option linter.unusedSimpArgs false

/- The walk of flash.Copy. -/

theorem cell_row {w : World} {H : Nat} {cur : Array Value} (h : w.heap[H]? = some (.cells cur 119 (0, 0))) (j : Nat) : w.cell? ⟨H, j, none⟩ = cur[j]? := by simp [World.cell?, h]

theorem BytesAt.farH {w : World} {a : Option Addr} {l : List UInt8} (h : BytesAt w a l) (H j : Nat) (v : Value) (hp : ∀ x, a = some x → H < x.block) : BytesAt (w.setCell ⟨H, j, none⟩ v) a l := by
 obtain ⟨h1, h4⟩ := h
 refine ⟨h1, ?_⟩
 rcases h4 with h4 | ⟨b, off, ha, hlt, hc⟩
 · exact Or.inl h4
 · have hb : H < b := hp _ ha
   refine Or.inr ⟨b, off, ha, by simp [World.setCell]; omega, fun i hi => ?_⟩
   rw [World.cell?_setCell_far w ⟨H, j, none⟩ ⟨b, off + i, none⟩ v (show H ≠ b by omega)]
   exact hc i hi

theorem CopR.step {ps : List PageR} {W wr w2 : World} {H k c2 : Nat} {a2 : Option Addr} {cur : Array Value} (hlt : k < ps.length) (hcur : wr.heap[H]? = some (.cells cur 119 (0, 0))) (hcs : cur.size = ps.length * 2) (hb : Below H W wr) (hP : RowP ps H k cur wr)
 (hw : Below wr.heap.size wr w2) (hHr : H < wr.heap.size) (num : Int) (bs : List UInt8) (hn : (ps.getD k default).num = num) (hbs : (ps.getD k default).bs = bs) (hB : BytesAt w2 a2 bs) (hne : ∀ x, a2 = some x → H < x.block) (hc1 : bs.length ≤ c2) (hc2 : c2 ≤ maxLen) :
 CopR ps W H (k + 1) ((w2.setCell ⟨H, k * 2, none⟩ (.int .i64 num)).setCell ⟨H, k * 2 + 1, none⟩ (.slice a2 bs.length c2)) := by
 subst hn hbs
 have h2 : w2.heap[H]? = some (.cells cur 119 (0, 0)) := by rw [hw.block H hHr]; exact hcur
 refine ⟨(cur.setIfInBounds (k * 2) _).setIfInBounds (k * 2 + 1) _, heap_setCell_same _ H _ _ 119 _ (heap_setCell_same _ H _ _ 119 _ h2), by simp [hcs], ((hb.trans (hw.mono (by omega))).setCell (Nat.le_refl _) _).setCell (Nat.le_refl _) _, fun j hj => ?_⟩
 by_cases hjk : j = k
 · subst hjk
   refine ⟨a2, c2, ?_, ?_, (hB.farH _ _ _ hne).farH _ _ _ hne, hne, hc1, hc2⟩
   · rw [Array.getElem?_setIfInBounds_ne (by omega), Array.getElem?_setIfInBounds_self_of_lt (by omega)]
   · rw [Array.getElem?_setIfInBounds_self_of_lt (by simp; omega)]
 · obtain ⟨a, c, e1, e2, e3, e4, e5⟩ := hP j (by omega)
   refine ⟨a, c, ?_, ?_, ((e3.later hw).farH _ _ _ e4).farH _ _ _ e4, e4, e5⟩
   · rw [Array.getElem?_setIfInBounds_ne (by omega), Array.getElem?_setIfInBounds_ne (by omega)]; exact e1
   · rw [Array.getElem?_setIfInBounds_ne (by omega), Array.getElem?_setIfInBounds_ne (by omega)]; exact e2

theorem CopR.later {ps : List PageR} {W w w' : World} {H k : Nat} (h : CopR ps W H k w) (hH : H < w.heap.size) (hb : Below w.heap.size w w') : CopR ps W H k w' := by
 obtain ⟨cur, h1, h2, h3, h4⟩ := h
 refine ⟨cur, by rw [hb.block H hH]; exact h1, h2, h3.trans (hb.mono (by omega)), fun j hj => ?_⟩
 obtain ⟨a, c, e1, e2, e3, e4⟩ := h4 j hj
 exact ⟨a, c, e1, e2, e3.later hb, e4⟩

theorem cell_new2 (W : World) (n : Nat) (h : W.heap.size = n) (cs : Array Value) (t : TypeId) (j : Nat) : ((W.alloc (.cells cs t)).drew).cell? ⟨n, j, none⟩ = cs[j]? := by
 subst h
 simp [go_sem]

theorem row_pages {ps : List PageR} {H : Nat} {cur : Array Value} {w w' : World} (hm : ps.length ≤ maxLen) (hHl : H < w.heap.size) (hcur : w.heap[H]? = some (.cells cur 119 (0, 0))) (hP : RowP ps H ps.length cur w) (hs : w.heap.size ≤ w'.heap.size) (hw : ∀ b, H ≤ b → b < w.heap.size → w'.heap[b]? = w.heap[b]?) : PagesAt w' (some ⟨H, 0, none⟩) ps := by
 have ce : ∀ b o, H ≤ b → b < w.heap.size → w'.cell? ⟨b, o, none⟩ = w.cell? ⟨b, o, none⟩ := fun b o h h2 => by simp only [World.cell?, hw b h h2]
 refine ⟨hm, Or.inr ⟨H, 0, rfl, Nat.lt_of_lt_of_le hHl hs, fun j hj => ?_⟩⟩
 obtain ⟨a, c, e1, e2, e3, e4, e5⟩ := hP j hj
 refine ⟨a, c, ?_, ?_, ⟨e3.1, ?_⟩, e5⟩
 · rw [ce _ _ (Nat.le_refl _) hHl, cell_row hcur, Nat.zero_add]; exact e1
 · rw [ce _ _ (Nat.le_refl _) hHl, cell_row hcur, Nat.zero_add]; exact e2
 · rcases e3.2 with h4 | ⟨b, off, ha, hlt, hc⟩
   · exact Or.inl h4
   · refine Or.inr ⟨b, off, ha, Nat.lt_of_lt_of_le hlt hs, fun i hi => ?_⟩
     rw [ce _ _ (Nat.le_of_lt (e4 _ ha)) hlt]
     exact hc i hi

theorem append_none_step {ops : Array Oper} {o : Oper} {a : Act} {K : Act → World → Prop} {Q : Exit → Act → World → Prop} {E : Prop} (w : World) (hgd : o.guard = none) (s x : Operand)
 (ho : o.op = .call { callee := .builtin .append, args := #[s, x], argTypes := #[95, 95] }) (hs : a.eval s = .slice none 0 0) (ad : Option Addr) (c : Nat) (hx : a.eval x = .slice ad 0 c)
 (h : K (a.put o.dst (.slice none 0 0)) w) : if Region.wanted o (yielded ops a.tmps) = true then Oper.wp Tryz.prog o a w K Q else E := by
 obtain ⟨i0, hi, hz0, hz1, hz2⟩ := info_parts infoByte
 have hr : (Builtin.append_ #[95, 95] o.type #[.slice none 0 0, .slice ad 0 c]).run Tryz.prog w = .ok (.slice none 0 0) w := by
  cases ad <;> simp [Builtin.append_, run_underlying Tryz.underlying95, sizeOf, typeInfo, hi, Builtin.lenOf, Builtin.firstCells, go_sem]
 have hw : Region.wanted o (yielded ops a.tmps) = true := by simp [Region.wanted, hgd]
 rw [if_pos hw]
 unfold Oper.wp execOp
 simp only [ho, resolve, invoke, builtin, Sem.run_bind, Sem.run_pure, Result.andThen_ok, List.map_toArray, List.map_cons, List.map_nil, hs, hx, hr]
 exact h

/-- The pages lie in blocks from n on: what changes below does not matter. -/
def PagesFrom (n : Nat) (w : World) (a : Option Addr) (ps : List PageR) : Prop := ∀ w' : World, w.heap.size ≤ w'.heap.size → (∀ b, n ≤ b → b < w.heap.size → w'.heap[b]? = w.heap[b]?) → PagesAt w' a ps

def CopyPost2 (m x : Int) (ps : List PageR) (w : World) (e : Ending) (w' : World) : Prop := ∃ a' c', e = .returned (.agg #[.int .i64 m, .int .i64 x, .slice a' ps.length c']) ∧ PagesFrom w.heap.size w' a' ps ∧ Below w.heap.size w w'

set_option maxHeartbeats 1000000 in
set_option maxRecDepth 100000 in
theorem copy_own (m x : Int) (ps : List PageR) (a : Option Addr) (c : Nat) (w : World) (hA : PagesAt w a ps) (hn : ps.length * 32 ≤ 140737488351232) (hbs : ∀ j, j < ps.length → (ps.getD j default).bs.length ≤ 140737488351232) :
 Calls Tryz.prog 56 #[.agg #[.int .i64 m, .int .i64 x, .slice a ps.length c]] w (CopyPost2 m x ps w) := by
 obtain ⟨i0, hi, iz0, iz1, iz2⟩ := info_parts infoPage
 obtain ⟨hmax, hmm⟩ := hA
 unfold maxLen at hmax
 go_enter Tryz.func56, Tryz.ntmps56
 go_wp2_with (refine wpList_make_full _ rfl (.tmp 8) (.tmp 8) 25 rfl w.heap.size 119 i0 (.agg #[.int .i64 0, .slice none 0 0]) 2 Tryz.underlying25 hi iz0 iz1 .i64 .i64 _ _ ps.length rfl rfl rfl rfl (by rw [iz2]; omega) (by unfold maxLen; omega) (by simp; omega) ?_; intro w1 hO hg; obtain ⟨p1, p2⟩ := bcell (made_keeps hg); have hy1 := (made_keeps hg).size; have hy2 : w.heap.size < w1.heap.size := Nat.lt_of_lt_of_le (by simp; omega) hy1; have hy3 : w.heap.size + 1 < w1.heap.size := Nat.lt_of_lt_of_le (by simp) hy1)
 have hK := made_keeps hg
 have hrow : ∃ cur : Array Value, w1.heap[w.heap.size + 1 + 1]? = some (.cells cur 119 (0, 0)) ∧ cur.size = ps.length * 2 := by
  rcases hO.2 with ⟨h0, _⟩ | ⟨g, cap, cur, hv, _, hcur, _, _, hcs, _⟩
  · simp at h0
  · simp at hv
    obtain ⟨rfl, rfl⟩ := hv
    exact ⟨cur, by simpa using hcur, hcs⟩
 have hWb : Below w.heap.size w w1 := (((Below.refl w.heap.size w).alloc (Nat.le_refl _) _).alloc (by simp) _).trans (hK.mono (by simp; omega))
 obtain ⟨cur0, hc0, hs0⟩ := hrow
 have hHlt : w.heap.size + 1 + 1 < w1.heap.size := by
  rcases Nat.lt_or_ge (w.heap.size + 1 + 1) w1.heap.size with h | h
  · exact h
  · rw [Array.getElem?_eq_none h] at hc0; cases hc0
 clear hO hg hK iz0 iz1 iz2 hi
 go_loopw [13] (fun i wr => ∃ k : Nat, k ≤ ps.length ∧ i = .int .i64 k ∧ CopR ps w1 (w.heap.size + 1 + 1) k wr) (fun i _ => ps.length - (intOf i).toNat)
 case atStart => exact ⟨0, Nat.zero_le _, rfl, cur0, hc0, hs0, Below.refl _ _, fun j hj => absurd hj (Nat.not_lt_zero j)⟩
 case round =>
  obtain ⟨k, hk, rfl, cur, hcur, hcs, hb, hP⟩ := hrel
  have hbw : Below w.heap.size w wr := hWb.trans (hb.mono (by omega))
  by_cases hlt : k < ps.length
  · have hltz : (k : Int) < (ps.length : Int) := by omega
    have hk0 : (0 : Int) ≤ (k : Int) := Int.natCast_nonneg _
    rcases hmm with hmm | ⟨b, o, rfl, hbl, hc⟩
    · omega
    obtain ⟨p, q, n1, n2, n3, n4, n5⟩ := (hc k hlt).later hbl hbw
    have hbk := hbs k hlt
    have hl2 : b < wr.heap.size := Nat.lt_of_lt_of_le hbl hbw.size
    have hHr : w.heap.size + 1 + 1 < wr.heap.size := Nat.lt_of_lt_of_le hHlt hb.size
    have r0 : wr.cell? ⟨w.heap.size + 1 + 1, k * 2, none⟩ = some (cur[k * 2]'(by omega)) := by rw [cell_row hcur, Array.getElem?_eq_getElem]
    have r1 : wr.cell? ⟨w.heap.size + 1 + 1, k * 2 + 1, none⟩ = some (cur[k * 2 + 1]'(by omega)) := by rw [cell_row hcur, Array.getElem?_eq_getElem]
    have f0 := frozen_of_row wr (w.heap.size + 1 + 1) (k * 2) cur 119 hcur
    have f1 := frozen_of_row wr (w.heap.size + 1 + 1) (k * 2 + 1) cur 119 hcur
    clear hc
    generalize hPk : ps.getD k default = P at *
    obtain ⟨num, bs⟩ := P
    simp only at *
    have hA1 : Below wr.heap.size wr (wr.alloc (.cells #[.int .i64 num, .slice p bs.length q] 119)) := (Below.refl _ _).alloc (Nat.le_refl _) _
    have hB1 := n3.later hA1
    by_cases hz : bs.length = 0
    · have hbe : bs = [] := List.length_eq_zero_iff.1 hz
      subst hbe
      have hNe : wr.heap.size ≠ w.heap.size + 1 + 1 := by omega
      have hNe' : w.heap.size + 1 + 1 ≠ wr.heap.size := by omega
      simp only [List.length_nil] at n2 n4 hA1 hB1
      have q0 : ∀ v1 v2 : Value, (((wr.setCell ⟨w.heap.size + 1 + 1, k * 2, none⟩ v1).setCell ⟨w.heap.size + 1 + 1, k * 2 + 1, none⟩ v2).alloc (.cells #[.int .i64 num, .slice p 0 q] 119)).drew.cell? ⟨wr.heap.size, 0, none⟩ = some (.int .i64 num) := fun v1 v2 => by
       have h := cell_new2 ((wr.setCell ⟨w.heap.size + 1 + 1, k * 2, none⟩ v1).setCell ⟨w.heap.size + 1 + 1, k * 2 + 1, none⟩ v2) wr.heap.size (by simp [World.setCell]) #[.int .i64 num, .slice p 0 q] 119 0
       exact h
      have q1 : ∀ v1 v2 : Value, (((wr.setCell ⟨w.heap.size + 1 + 1, k * 2, none⟩ v1).setCell ⟨w.heap.size + 1 + 1, k * 2 + 1, none⟩ v2).alloc (.cells #[.int .i64 num, .slice p 0 q] 119)).drew.cell? ⟨wr.heap.size, 1, none⟩ = some (.slice p 0 q) := fun v1 v2 => by
       have h := cell_new2 ((wr.setCell ⟨w.heap.size + 1 + 1, k * 2, none⟩ v1).setCell ⟨w.heap.size + 1 + 1, k * 2 + 1, none⟩ v2) wr.heap.size (by simp [World.setCell]) #[.int .i64 num, .slice p 0 q] 119 1
       exact h
      go_wp2_with fail
      go_region_held3 (fun w' => w'.cell? ⟨wr.heap.size, 0, none⟩ = some (.int .i64 num) ∧ w'.cell? ⟨wr.heap.size, 1, none⟩ = some (.slice p 0 q)) (first | go_keep | exact ⟨q0 _ _, q1 _ _⟩) (refine append_none_step _ (by rfl) _ (.tmp 23) (by rfl) (by rfl) p q (by rfl) ?_)
      have hX : CopR ps w1 (w.heap.size + 1 + 1) (k + 1) ((((wr.setCell ⟨w.heap.size + 1 + 1, k * 2, none⟩ (.int .i64 num)).setCell ⟨w.heap.size + 1 + 1, k * 2 + 1, none⟩ (.slice none 0 0)).alloc (.cells #[.int .i64 num, .slice p 0 q] 119)).drew) := by
       refine CopR.later (CopR.step (a2 := none) (c2 := 0) hlt hcur hcs hb hP (Below.refl _ _) hHr num [] (by rw [hPk]) (by rw [hPk]) ⟨Nat.zero_le _, Or.inl rfl⟩ (fun x hx => by cases hx) (Nat.le_refl _) (Nat.zero_le _)) (by simp [World.setCell]; omega) (((Below.refl _ _).alloc (Nat.le_refl _) _).drew)
      go_wp2_with fail
      exact ⟨⟨k + 1, hlt, by simp, hX⟩, by simp [intOf]; omega⟩
    · have hBd : BytesAt (wr.alloc (.cells #[.int .i64 num, .slice p bs.length q] 119)).drew p bs := hB1.later ((Below.refl _ _).drew)
      have hNe : wr.heap.size ≠ w.heap.size + 1 + 1 := by omega
      have hNe' : w.heap.size + 1 + 1 ≠ wr.heap.size := by omega
      go_wp2_with fail
      go_region_held3 (fun w' => w'.cell? ⟨wr.heap.size, 0, none⟩ = some (.int .i64 num) ∧ w'.cell? ⟨wr.heap.size, 1, none⟩ = some (.slice p bs.length q)) (first | go_keep | exact hSv | exact ⟨by simp [go_sem, hNe, hNe', hSv.1], by simp [go_sem, hNe, hNe', hSv.2]⟩)
       ((refine append_copy_step _ (by rfl) _ (.tmp 23) (by rfl) (by rfl) bs p q (by rfl) hBd (by omega) hbk ?_; intro g2 cap2 w2 hO2 hg2; have hk2 : Below (wr.alloc (.cells #[.int .i64 num, .slice p bs.length q] 119)).heap.size (wr.alloc (.cells #[.int .i64 num, .slice p bs.length q] 119)) w2 := ((Below.refl _ _).drew).trans (made_keeps hg2); obtain ⟨s1, s2⟩ := bcell hk2; have hSv : w2.cell? ⟨wr.heap.size, 0, none⟩ = some (.int .i64 num) ∧ w2.cell? ⟨wr.heap.size, 1, none⟩ = some (.slice p bs.length q) := ⟨by rw [s1 _ _ (by simp)]; simp [go_sem], by rw [s1 _ _ (by simp)]; simp [go_sem]⟩; have t0 : w2.cell? ⟨w.heap.size + 1 + 1, k * 2, none⟩ = some (cur[k * 2]'(by omega)) := (by rw [s1 _ _ (by simp; omega)]; simp [go_sem, hHr, r0]); have t1 : w2.cell? ⟨w.heap.size + 1 + 1, k * 2 + 1, none⟩ = some (cur[k * 2 + 1]'(by omega)) := (by rw [s1 _ _ (by simp; omega)]; simp [go_sem, hHr, r1]); have u0 : w2.frozen? ⟨w.heap.size + 1 + 1, k * 2, none⟩ = false := (by rw [s2 _ _ (by simp; omega)]; simp [go_sem, hHr, f0]); have u1 : w2.frozen? ⟨w.heap.size + 1 + 1, k * 2 + 1, none⟩ = false := (by rw [s2 _ _ (by simp; omega)]; simp [go_sem, hHr, f1]); have hH2 : w.heap.size + 1 + 1 < w2.heap.size := Nat.lt_of_lt_of_le (by simp; omega) hk2.size; have hk2z : (k : Int) < (ps.length : Int) := hltz; have hk20 : (0 : Int) ≤ (k : Int) := hk0))
      have hO3 := hO2.form (by omega)
      have hX : CopR ps w1 (w.heap.size + 1 + 1) (k + 1) ((w2.setCell ⟨w.heap.size + 1 + 1, k * 2, none⟩ (.int .i64 num)).setCell ⟨w.heap.size + 1 + 1, k * 2 + 1, none⟩ (.slice (some ⟨g2, 0, none⟩) bs.length cap2)) := by
       obtain ⟨g, cap, hv, hg, hBy, hc1, hc2⟩ := hO3
       cases hv
       exact CopR.step hlt hcur hcs hb hP (hA1.trans (hk2.mono (by simp))) hHr num bs (by rw [hPk]) (by rw [hPk]) hBy (fun x hx => by cases hx; simp at hg; show _ < g2; omega) hc1 hc2
      clear hO2 hO3 hg2 hk2 s1 s2 hSv t0 t1 u0 u1 r0 r1 f0 f1
      go_wp2_with fail
      exact ⟨⟨k + 1, hlt, by simp, hX⟩, by simp [intOf]; omega⟩
  · have hke : k = ps.length := by omega
    have hlt' : ¬ ((k : Int) < (ps.length : Int)) := by omega
    have hHr : w.heap.size + 1 + 1 < wr.heap.size := Nat.lt_of_lt_of_le hHlt hb.size
    have c0 : wr.cell? ⟨w.heap.size, 0, none⟩ = some (.int .i64 m) := by rw [hb.cell (p := ⟨w.heap.size, 0, none⟩) (by simp; omega), p1 _ _ (by simp; omega)]; simp [go_sem]
    have c1 : wr.cell? ⟨w.heap.size, 1, none⟩ = some (.int .i64 x) := by rw [hb.cell (p := ⟨w.heap.size, 1, none⟩) (by simp; omega), p1 _ _ (by simp; omega)]; simp [go_sem]
    have c2 : wr.cell? ⟨w.heap.size, 2, none⟩ = some (.slice a ps.length c) := by rw [hb.cell (p := ⟨w.heap.size, 2, none⟩) (by simp; omega), p1 _ _ (by simp; omega)]; simp [go_sem]
    have d0 : wr.cell? ⟨w.heap.size + 1, 0, none⟩ = some (.int .i64 0) := by rw [hb.cell (p := ⟨w.heap.size + 1, 0, none⟩) (by simp), p1 _ _ (by simp)]; simp [go_sem]
    have d1 : wr.cell? ⟨w.heap.size + 1, 1, none⟩ = some (.int .i64 0) := by rw [hb.cell (p := ⟨w.heap.size + 1, 1, none⟩) (by simp), p1 _ _ (by simp)]; simp [go_sem]
    have d2 : wr.cell? ⟨w.heap.size + 1, 2, none⟩ = some (.slice none 0 0) := by rw [hb.cell (p := ⟨w.heap.size + 1, 2, none⟩) (by simp), p1 _ _ (by simp)]; simp [go_sem]
    have g2 : wr.frozen? ⟨w.heap.size, 2, none⟩ = false := by rw [hb.frozen (p := ⟨w.heap.size, 2, none⟩) (by simp; omega), p2 _ _ (by simp; omega)]; simp [go_sem]
    have h0 : wr.frozen? ⟨w.heap.size + 1, 0, none⟩ = false := by rw [hb.frozen (p := ⟨w.heap.size + 1, 0, none⟩) (by simp), p2 _ _ (by simp)]; simp [go_sem]
    have h1 : wr.frozen? ⟨w.heap.size + 1, 1, none⟩ = false := by rw [hb.frozen (p := ⟨w.heap.size + 1, 1, none⟩) (by simp), p2 _ _ (by simp)]; simp [go_sem]
    have h2 : wr.frozen? ⟨w.heap.size + 1, 2, none⟩ = false := by rw [hb.frozen (p := ⟨w.heap.size + 1, 2, none⟩) (by simp), p2 _ _ (by simp)]; simp [go_sem]
    have hz1 : w.heap.size < wr.heap.size := by omega
    have hz2 : w.heap.size + 1 < wr.heap.size := by omega
    subst hke
    have hlt2 : ¬ ((ps.length : Int) < (ps.length : Int)) := by omega
    clear hlt hlt'
    have hmx : ps.length ≤ maxLen := by unfold maxLen; exact hmax
    go_wp2_with fail
    refine bodyPost_ret (v := .agg #[.int .i64 m, .int .i64 x, .slice (some ⟨w.heap.size + 1 + 1, 0, none⟩) ps.length ps.length]) (by simp [results, Tryz.results56, go_sem, c0, c1, c2, d0, d1, d2, hz1, hz2]) rfl ⟨_, _, rfl, ?_, ?_⟩
    · intro w9 hs9 h9
      have hs8 : wr.heap.size ≤ w9.heap.size := by simpa [World.setCell] using hs9
      refine row_pages hmx hHr hcur hP hs8 fun b hb hbl => ?_
      rw [h9 b (by omega) (by simpa [World.setCell] using hbl), heap_setCell_other _ _ _ _ (show b ≠ w.heap.size + 1 by omega), heap_setCell_other _ _ _ _ (show b ≠ w.heap.size + 1 by omega), heap_setCell_other _ _ _ _ (show b ≠ w.heap.size + 1 by omega), heap_setCell_other _ _ _ _ (show b ≠ w.heap.size by omega)]
    · exact (((hbw.setCell (Nat.le_refl _) _).setCell (Nat.le_succ _) _).setCell (Nat.le_succ _) _).setCell (Nat.le_succ _) _

/- dovecoteref.valuesIn: the values of a page, where each begins, and whether its bytes are records. -/

/-- Texts, and numbers, in a row of the call's own. -/
def OwnS (W0 w : World) (v : Value) (l : List ByteArray) : Prop := w.ownsRow W0.heap.size 9 1 v l.length (l.map Value.string) ∧ Below W0.heap.size W0 w
def OwnI (W0 w : World) (v : Value) (l : List Int) : Prop := w.ownsRow W0.heap.size 3 1 v l.length (l.map (Value.int .i64)) ∧ Below W0.heap.size W0 w

theorem ownsRow_later {w w1 : World} {base : Nat} {e : TypeId} {size : Nat} {v : Value} {n : Nat} {xs : List Value} (h : w.ownsRow base e size v n xs) (hb : Below w.heap.size w w1) : w1.ownsRow base e size v n xs := by
 refine ⟨h.1, ?_⟩
 rcases h.2 with h0 | ⟨g, cap, cur, hv, hg, hc, h1, h2, h3, h4⟩
 · exact Or.inl h0
 · refine Or.inr ⟨g, cap, cur, hv, hg, ?_, h1, h2, h3, h4⟩
   have hlt : g < w.heap.size := by
    rcases Nat.lt_or_ge g w.heap.size with hlt | hge
    · exact hlt
    · rw [Array.getElem?_eq_none hge] at hc; cases hc
   rw [hb.block g hlt]
   exact hc
theorem OwnS.later {W0 w w1 : World} {v : Value} {l : List ByteArray} (h : OwnS W0 w v l) (hb : Below w.heap.size w w1) : OwnS W0 w1 v l := ⟨ownsRow_later h.1 hb, h.2.trans (hb.mono h.2.size)⟩
theorem OwnI.later {W0 w w1 : World} {v : Value} {l : List Int} (h : OwnI W0 w v l) (hb : Below w.heap.size w w1) : OwnI W0 w1 v l := ⟨ownsRow_later h.1 hb, h.2.trans (hb.mono h.2.size)⟩

/- A block that is known whole. -/

/-- The block b of the world w has type t and these cells. -/
def TB (t : TypeId) (w : World) (b : Nat) (cs : Array Value) : Prop := w.heap[b]? = some (.cells cs t (0, 0))

theorem TB.lt {t : TypeId} {w : World} {b : Nat} {cs : Array Value} (h : TB t w b cs) : b < w.heap.size := by
 rcases Nat.lt_or_ge b w.heap.size with h' | h'
 · exact h'
 · unfold TB at h; rw [Array.getElem?_eq_none h'] at h; cases h
theorem TB.cell {t : TypeId} {w : World} {b : Nat} {cs : Array Value} (h : TB t w b cs) (j : Nat) : w.cell? ⟨b, j, none⟩ = cs[j]? := by
 unfold TB at h
 simp [World.cell?, h]
theorem TB.frozen {t : TypeId} {w : World} {b : Nat} {cs : Array Value} (h : TB t w b cs) (j : Nat) : w.frozen? ⟨b, j, none⟩ = false := frozen_of_row w b j cs t h
theorem TB.later {t : TypeId} {w w1 : World} {b : Nat} {cs : Array Value} (h : TB t w b cs) (hb : Below w.heap.size w w1) : TB t w1 b cs := by
 unfold TB
 rw [hb.block b h.lt]
 exact h
theorem TB.after {t : TypeId} {w w1 : World} {b : Nat} {cs : Array Value} (hb : Below w.heap.size w w1) (h : TB t w b cs) : TB t w1 b cs := h.later hb
theorem TB.set {t : TypeId} {w : World} {b : Nat} {cs : Array Value} (h : TB t w b cs) (j : Nat) (v : Value) : TB t (w.setCell ⟨b, j, none⟩ v) b (cs.setIfInBounds j v) := heap_setCell_same w b j cs t v h
theorem TB.far {t : TypeId} {w : World} {b : Nat} {cs : Array Value} (h : TB t w b cs) (a : Addr) (v : Value) (hne : b ≠ a.block) : TB t (w.setCell a v) b cs := by
 unfold TB
 rw [heap_setCell_other w a b v hne]
 exact h
theorem TB.new (t : TypeId) (w : World) (cs : Array Value) : TB t (w.alloc (.cells cs t)) w.heap.size cs := by
 show (w.heap.push _)[w.heap.size]? = _
 exact Array.getElem?_push_size
theorem TB.alloc {t : TypeId} {w : World} {b : Nat} {cs : Array Value} (h : TB t w b cs) (o : Obj) : TB t (w.alloc o) b cs := h.later ((Below.refl _ _).alloc (Nat.le_refl _) _)
theorem TB.drew {t : TypeId} {w : World} {b : Nat} {cs : Array Value} (h : TB t w b cs) : TB t w.drew b cs := h

/- The contract of dovecoteref.FlashCopy: the same flash, in memory of its own. -/

def pgCells (x : PageR × Value) : List Value := [.int .i64 x.1.num, x.2]

theorem flat2 : ∀ (l : List (PageR × Value)) (j : Nat) (x : PageR × Value), l[j]? = some x → (l.flatMap pgCells)[j * 2]? = some (.int .i64 x.1.num) ∧ (l.flatMap pgCells)[j * 2 + 1]? = some x.2
 | [], j, x, h => by simp at h
 | y :: r, 0, x, h => by simp at h; subst h; exact ⟨rfl, rfl⟩
 | y :: r, j + 1, x, h => by
  have hl : (pgCells y).length = 2 := rfl
  have ih := flat2 r j x (by simpa using h)
  rw [List.flatMap_cons, List.getElem?_append_right (by rw [hl]; omega), List.getElem?_append_right (by rw [hl]; omega), hl, show (j + 1) * 2 - 2 = j * 2 by omega, show (j + 1) * 2 + 1 - 2 = j * 2 + 1 by omega]
  exact ih

/-- One page's bytes, in a block from n on that is not the row's own. -/
def PgOk (n : Nat) (w : World) (v : Value) (x : PageR × Value) : Prop :=
 ∃ a c, x.2 = .slice a x.1.bs.length c ∧ BytesAt w a x.1.bs ∧ x.1.bs.length ≤ c ∧ c ≤ maxLen ∧ ∀ y, a = some y → n ≤ y.block ∧ y.block < w.heap.size ∧ v.ownBlock ≠ some y.block

/-- Pages in a row of the call's own. -/
def OwnPg (n : Nat) (w : World) (v : Value) (l : List (PageR × Value)) : Prop := w.ownsRow n 119 2 v l.length (l.flatMap pgCells) ∧ ∀ x ∈ l, PgOk n w v x

theorem PgOk.kept {n : Nat} {w w' : World} {v v' : Value} {x : PageR × Value} (h : PgOk n w v x) (hs : w.heap.size ≤ w'.heap.size) (hk : ∀ b, n ≤ b → b < w.heap.size → v.ownBlock ≠ some b → w'.heap[b]? = w.heap[b]?) (hv : v'.ownBlock = v.ownBlock ∨ ∃ g, v'.ownBlock = some g ∧ w.heap.size ≤ g) : PgOk n w' v' x := by
 obtain ⟨a, c, h1, h2, h3, h4, h5⟩ := h
 refine ⟨a, c, h1, ⟨h2.1, ?_⟩, h3, h4, fun y hy => ?_⟩
 · rcases h2.2 with h | ⟨b, o, rfl, hb, hc⟩
   · exact Or.inl h
   · obtain ⟨q1, q2, q3⟩ := h5 _ rfl
     refine Or.inr ⟨b, o, rfl, Nat.lt_of_lt_of_le hb hs, fun j hj => ?_⟩
     have := hk b q1 q2 q3
     simp only [World.cell?, this]
     exact hc j hj
 · obtain ⟨q1, q2, q3⟩ := h5 y hy
   refine ⟨q1, Nat.lt_of_lt_of_le q2 hs, ?_⟩
   rcases hv with hv | ⟨g, hg, hgs⟩
   · rw [hv]; exact q3
   · rw [hg]; intro e; cases e; omega

theorem OwnPg.kept {n : Nat} {w w' : World} {v : Value} {l : List (PageR × Value)} (h : OwnPg n w v l) (hs : w.heap.size ≤ w'.heap.size) (hk : ∀ b, n ≤ b → b < w.heap.size → w'.heap[b]? = w.heap[b]?) : OwnPg n w' v l := by
 obtain ⟨h1, h2⟩ := h
 refine ⟨⟨h1.1, ?_⟩, fun x hx => (h2 x hx).kept hs (fun b hb hl _ => hk b hb hl) (Or.inl rfl)⟩
 rcases h1.2 with h | ⟨g, cap, cur, hv, hg, hc, q⟩
 · exact Or.inl h
 · have hlt : g < w.heap.size := by
    rcases Nat.lt_or_ge g w.heap.size with hlt | hge
    · exact hlt
    · rw [Array.getElem?_eq_none hge] at hc; cases hc
   exact Or.inr ⟨g, cap, cur, hv, hg, by rw [hk g hg hlt]; exact hc, q⟩

theorem OwnPg.pages {n : Nat} {w : World} {v : Value} {l : List (PageR × Value)} (h : OwnPg n w v l) (hm : l.length ≤ maxLen) : ∃ a c, v = .slice a l.length c ∧ PagesFrom n w a (l.map (·.1)) := by
 have key : ∀ w', w.heap.size ≤ w'.heap.size → (∀ b, n ≤ b → b < w.heap.size → w'.heap[b]? = w.heap[b]?) → OwnPg n w' v l := fun w' hs hw => h.kept hs hw
 rcases h.1.2 with h0 | ⟨g, cap, cur, hv, hg, hc, h1, h2, h3, h4⟩
 · exact ⟨none, 0, by rw [h0.1, h0.2], fun w' _ _ => ⟨by simpa using hm, Or.inl (by simpa using h0.2)⟩⟩
 · refine ⟨some ⟨g, 0, none⟩, cap, hv, fun w' hs hw => ⟨by simpa using hm, Or.inr ⟨g, 0, rfl, ?_, fun j hj => ?_⟩⟩⟩
   · have hlt : g < w.heap.size := by
      rcases Nat.lt_or_ge g w.heap.size with hlt | hge
      · exact hlt
      · rw [Array.getElem?_eq_none hge] at hc; cases hc
     omega
   · have hlt : g < w.heap.size := by
      rcases Nat.lt_or_ge g w.heap.size with hlt | hge
      · exact hlt
      · rw [Array.getElem?_eq_none hge] at hc; cases hc
     have hjl : j < l.length := by simpa using hj
     have hx : l[j]? = some l[j] := List.getElem?_eq_getElem hjl
     have hc' : w'.heap[g]? = some (.cells cur 119 (0, 0)) := by rw [hw g hg hlt]; exact hc
     have ce : ∀ o, w'.cell? ⟨g, o, none⟩ = cur[o]? := fun o => by simp [World.cell?, hc']
     obtain ⟨f1, f2⟩ := flat2 l j _ hx
     obtain ⟨a, c, k1, k2, k3, k4, _⟩ := (key w' hs hw).2 l[j] (List.getElem_mem hjl)
     have hd : (l.map (·.1)).getD j default = l[j].1 := by rw [List.getD_eq_getElem?_getD, List.getElem?_map, hx]; rfl
     rw [hd]
     refine ⟨a, c, ?_, ?_, k2, k3, k4⟩
     · rw [ce, Nat.zero_add, ← f1, ← h4, List.getElem?_take_of_lt (by omega)]; simp
     · rw [ce, Nat.zero_add, ← k1, ← f2, ← h4, List.getElem?_take_of_lt (by omega)]; simp

/- Rows of a call's own, changed in place: dump-free laws. -/

/-- The cells of a row, some of them laid anew from o on. -/
def laid (cur : Array Value) (o : Nat) (vs : List Value) : Array Value := (cur.toList.take o ++ vs ++ cur.toList.drop (o + vs.length)).toArray

theorem laid_size {cur : Array Value} {o : Nat} {vs : List Value} (h : o + vs.length ≤ cur.size) : (laid cur o vs).size = cur.size := by
 unfold laid
 simp only [List.size_toArray, List.length_append, List.length_take, List.length_drop, Array.length_toList]
 omega

theorem laid_get {cur : Array Value} {o : Nat} {vs : List Value} (h : o + vs.length ≤ cur.size) (j : Nat) : (laid cur o vs)[j]? = if j < o then cur[j]? else if j < o + vs.length then vs[j - o]? else cur[j]? := by
 unfold laid
 have hl : (cur.toList.take o).length = o := by rw [List.length_take, Array.length_toList]; omega
 simp only [List.getElem?_toArray]
 by_cases h1 : j < o
 · rw [if_pos h1, List.append_assoc, List.getElem?_append_left (by omega), List.getElem?_take_of_lt h1, Array.getElem?_toList]
 · rw [if_neg h1]
   by_cases h2 : j < o + vs.length
   · rw [if_pos h2, List.append_assoc, List.getElem?_append_right (by omega), hl, List.getElem?_append_left (by omega)]
   · rw [if_neg h2, List.getElem?_append_right (by rw [List.length_append]; omega), List.length_append, hl, List.getElem?_drop, Array.getElem?_toList]
     congr 1
     omega

theorem setCells_row {g : Nat} {e : TypeId} : ∀ (vs : List Value) (o : Nat) (w : World) (cur : Array Value), w.heap[g]? = some (.cells cur e (0, 0)) → o + vs.length ≤ cur.size → (w.setCells g o vs).heap[g]? = some (.cells (laid cur o vs) e (0, 0))
 | [], o, w, cur, h, _ => by
  rw [World.setCells, h]
  unfold laid
  simp
 | v :: r, o, w, cur, h, hf => by
  rw [List.length_cons] at hf
  have h1 := heap_setCell_same w g o cur e v h
  have ih := setCells_row r (o + 1) (w.setCell ⟨g, o, none⟩ v) (cur.setIfInBounds o v) h1 (by simp; omega)
  rw [World.setCells, ih]
  congr 2
  apply Array.ext_getElem?
  intro j
  rw [laid_get (by simp; omega), laid_get (by rw [List.length_cons]; omega), List.length_cons]
  by_cases h2 : j < o
  · rw [if_pos (by omega), if_pos h2, Array.getElem?_setIfInBounds_ne (by omega)]
  · rw [if_neg h2]
    by_cases h3 : j = o
    · subst h3
      rw [if_pos (by omega), if_pos (by omega), Array.getElem?_setIfInBounds_self_of_lt (by omega)]
      simp
    · rw [if_neg (by omega)]
      by_cases h4 : j < o + 1 + r.length
      · rw [if_pos h4, if_pos (by omega), show j - o = (j - (o + 1)) + 1 by omega, List.getElem?_cons_succ]
      · rw [if_neg h4, if_neg (by omega), Array.getElem?_setIfInBounds_ne (by omega)]

theorem setCells_size (g : Nat) : ∀ (vs : List Value) (o : Nat) (w : World), (w.setCells g o vs).heap.size = w.heap.size
 | [], _, _ => rfl
 | v :: r, o, w => by rw [World.setCells, setCells_size g r]; simp [World.setCell]

theorem setCells_grown (g : Nat) : ∀ (vs : List Value) (o : Nat) (w : World), w.grownBy (w.setCells g o vs) (some g)
 | [], _, _ => ⟨rfl, rfl, rfl, Nat.le_refl _, fun _ _ _ => rfl⟩
 | v :: r, o, w => by
  have ih := setCells_grown g r (o + 1) (w.setCell ⟨g, o, none⟩ v)
  have h1 : w.grownBy (w.setCell ⟨g, o, none⟩ v) (some g) := ⟨rfl, rfl, rfl, by simp [World.setCell], fun i hi hne => heap_setCell_other w ⟨g, o, none⟩ i v (fun e => hne (by rw [e]))⟩
  exact h1.trans ih

/-- A row as it lies: its block, its cells. -/
theorem owns_block {w : World} {base : Nat} {e : TypeId} {size : Nat} {g n cap : Nat} {xs : List Value} (h : w.ownsRow base e size (.slice (some ⟨g, 0, none⟩) n cap) n xs) :
 ∃ cur, base ≤ g ∧ w.heap[g]? = some (.cells cur e (0, 0)) ∧ n ≤ cap ∧ cap ≤ maxLen ∧ cur.size = cap * size ∧ cur.toList.take (n * size) = xs := by
 rcases h.2 with ⟨h', _⟩ | ⟨g', cap', cur, h', hb, hg, hnc, hcm, hcs, htake⟩
 · simp at h'
 · simp only [Value.slice.injEq, Option.some.injEq, Addr.mk.injEq, and_true, true_and] at h'
   obtain ⟨rfl, rfl⟩ := h'
   exact ⟨cur, hb, hg, hnc, hcm, hcs, htake⟩

theorem owns_shorter {w : World} {base : Nat} {e : TypeId} {size : Nat} {g m cap : Nat} {cur : Array Value} {xs : List Value} (hb : base ≤ g) (hg : w.heap[g]? = some (.cells cur e (0, 0))) (hm : m ≤ cap) (hcm : cap ≤ maxLen) (hcs : cur.size = cap * size) (ht : cur.toList.take (m * size) = xs) :
 w.ownsRow base e size (.slice (some ⟨g, 0, none⟩) m cap) m xs := by
 refine ⟨?_, Or.inr ⟨g, cap, cur, rfl, hb, hg, hm, hcm, hcs, ht⟩⟩
 rw [← ht, List.length_take, Array.length_toList, hcs]
 exact Nat.min_eq_left (Nat.mul_le_mul_right _ hm)

/-- The spare behind a row is there. -/
theorem row_there {w : World} {g : Nat} {e : TypeId} {cur : Array Value} (hg : w.heap[g]? = some (.cells cur e (0, 0))) (j : Nat) (hj : j < cur.size) : (w.cell? ⟨g, j, none⟩).isSome = true ∧ w.frozen? ⟨g, j, none⟩ = false := by
 refine ⟨?_, frozen_of_row w g j cur e hg⟩
 rw [cell_of_row w g j cur e (0, 0) hg]
 simp [hj]

/-- 'clear(s)', elements of some cells each. -/
theorem run_clear_row {P : Program} (w : World) (t e ty : TypeId) (z : Value) (ht : P.underlying t = some (.slice e)) (hv : ∀ w, (zeroValue e).run P w = .ok z w) (h1 : ∀ u ∈ z.cells.toList, u.oneCell' = true) (b o n c : Nat) (hn : 0 < n)
 (hc : ∀ j, j < n * z.cells.size → (w.cell? ⟨b, o + j, none⟩).isSome = true) (hf : ∀ j, j < n * z.cells.size → w.frozen? ⟨b, o + j, none⟩ = false) :
 (Builtin.clear_ #[t] ty #[.slice (some ⟨b, o, none⟩) n c]).run P w = .ok (.tuple #[]) (w.setCells b o (Builtin.zeroCells z.cells n).toList) := by
 have hl : (Builtin.zeroCells z.cells n).toList.length = n * z.cells.size := by simp [Builtin.zeroCells]
 have hst := run_storeCells_cells (P := P) b o (Builtin.zeroCells z.cells n).toList 0 w (by rw [hl]; simpa using hc) (by rw [hl]; simpa using hf) (by
  intro v hv'
  simp only [Builtin.zeroCells, Array.toList_map, List.mem_map] at hv'
  obtain ⟨i, hi, rfl⟩ := hv'
  have hz : 0 < z.cells.size := by
   rcases Nat.eq_zero_or_pos z.cells.size with h0 | h0
   · rw [h0] at hi; simp at hi
   · exact h0
  have hlt : i % z.cells.size < z.cells.size := Nat.mod_lt _ hz
  rw [getElem!_pos z.cells (i % z.cells.size) hlt]
  exact h1 _ (by simp))
 simp only [Nat.add_zero] at hst
 obtain ⟨m, rfl⟩ : ∃ m, n = m + 1 := ⟨n - 1, by omega⟩
 simp [Builtin.clear_, run_underlying ht, hv, hst]

/-- From w to w' only blocks of O and new blocks have changed. -/
structure Fr (O : Nat → Prop) (w w' : World) : Prop where
 os : w'.os = w.os
 tape : w'.tape = w.tape
 output : w'.output = w.output
 size : w.heap.size ≤ w'.heap.size
 block : ∀ k, k < w.heap.size → ¬ O k → w'.heap[k]? = w.heap[k]?

theorem Fr.refl (O : Nat → Prop) (w : World) : Fr O w w := ⟨rfl, rfl, rfl, Nat.le_refl _, fun _ _ _ => rfl⟩
theorem Fr.trans {O O' : Nat → Prop} {w w1 w2 : World} (h : Fr O w w1) (k : Fr O' w1 w2) (ho : ∀ b, O' b → O b ∨ w.heap.size ≤ b) : Fr O w w2 :=
 ⟨k.os.trans h.os, k.tape.trans h.tape, k.output.trans h.output, Nat.le_trans h.size k.size, fun b hb hn => by
   rw [k.block b (Nat.lt_of_lt_of_le hb h.size) (fun e => (ho b e).elim hn (fun q => by omega)), h.block b hb hn]⟩
theorem Fr.of_below {O : Nat → Prop} {w w' : World} (h : Below w.heap.size w w') : Fr O w w' := ⟨h.os, h.tape, h.output, h.size, fun b hb _ => h.block b hb⟩
theorem Fr.of_grown {O : Nat → Prop} {w w' : World} {row : Option Nat} (h : w.grownBy w' row) (ho : ∀ g, row = some g → O g ∨ w.heap.size ≤ g) : Fr O w w' :=
 ⟨h.os, h.tape, h.output, h.size, fun b hb hn => h.block b hb (fun e => (ho b e.symm).elim hn (fun q => by omega))⟩
theorem Fr.set {O : Nat → Prop} {w w' : World} (h : Fr O w w') {b : Nat} (j : Nat) (v : Value) (ho : O b ∨ w.heap.size ≤ b) : Fr O w (w'.setCell ⟨b, j, none⟩ v) :=
 ⟨h.os, h.tape, h.output, by simpa [World.setCell] using h.size, fun k hk hn => by
   rw [heap_setCell_other w' ⟨b, j, none⟩ k v (fun e => by subst e; exact ho.elim hn (fun q => by show False; omega))]
   exact h.block k hk hn⟩
theorem Fr.drew {O : Nat → Prop} {w w' : World} (h : Fr O w w') : Fr O w w'.drew := ⟨h.os, h.tape, h.output, h.size, h.block⟩
theorem Fr.below {O : Nat → Prop} {n : Nat} {w w' : World} (h : Fr O w w') (ho : ∀ b, O b → n ≤ b) (hn : n ≤ w.heap.size) : Below n w w' :=
 ⟨h.os, h.tape, h.output, h.size, fun b hb => h.block b (by omega) (fun e => by have := ho b e; omega)⟩
theorem Fr.tb {O : Nat → Prop} {w w' : World} (h : Fr O w w') {t : TypeId} {b : Nat} {cs : Array Value} (hT : TB t w b cs) (hne : ¬ O b) : TB t w' b cs := by
 have hl := hT.lt
 unfold TB at *
 rw [h.block b hl hne]
 exact hT
theorem Fr.mono {O O' : Nat → Prop} {w w' : World} (h : Fr O w w') (ho : ∀ b, O b → O' b ∨ w.heap.size ≤ b) : Fr O' w w' := ⟨h.os, h.tape, h.output, h.size, fun b hb hn => h.block b hb (fun e => (ho b e).elim hn (fun q => by omega))⟩
theorem Fr.cell {O : Nat → Prop} {w w' : World} (h : Fr O w w') {b o : Nat} (hb : b < w.heap.size) (hne : ¬ O b) : w'.cell? ⟨b, o, none⟩ = w.cell? ⟨b, o, none⟩ := by
 simp only [World.cell?, h.block b hb hne]
theorem grown_tb {w w' : World} {row : Option Nat} (hg : w.grownBy w' row) {t : TypeId} {b : Nat} {cs : Array Value} (hT : TB t w b cs) (hne : row ≠ some b) : TB t w' b cs := by
 have hl := hT.lt
 unfold TB at *
 rw [hg.block b hl (fun e => hne e.symm)]
 exact hT

end Go.Proofs.YtdblegdgmjakfaaGreatDoor
