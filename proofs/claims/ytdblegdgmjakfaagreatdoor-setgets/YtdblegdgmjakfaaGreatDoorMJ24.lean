/- Parts of the proof. -/
import Derived.Test.YtdblegdgmjakfaaGreatDoorMJ19
import Derived.Deep.RegionHeld3
namespace Go.Proofs.YtdblegdgmjakfaaGreatDoor
open Go.ChangeShapes Go.WideShapes Go.ChangeAt Go.RowKit
set_option linter.unusedVariables false
set_option linter.unusedSimpArgs false

/- store.get. -/

set_option maxHeartbeats 40000000 in
set_option maxRecDepth 100000 in
theorem get_any (O : Nat → Prop) (s : StoreR) (B : Nat) (ka : Option Addr) (kc : Nat) (keys : List ByteArray) (w : World) (h : StO O w B s) (hG : ∀ k, k ≤ keys.length → Gd (getK s keys k).1) (hkl : keys.length ≤ 10)
 (hK : ∀ wx, Fr O w wx → StrsAt wx ka keys.length keys) :
 Calls Tryz.prog 57 #[.pointer (some ⟨B, 0, none⟩), .slice ka keys.length kc] w fun e w' => ∃ hv, e = .returned (.agg #[.int .i64 1, .int .i64 0, hv]) ∧ OwnH w.heap.size w' hv (getK s keys keys.length).2 ∧ StPost O w B (getK s keys keys.length).1 w' := by
 have htl := told_any 1
 unfold replyV at *
 have hlt : ∀ x, O x → x < w.heap.size := by
  obtain ⟨iv, pa, pc, Op, h⟩ := h
  exact h.lt
 have T4 := TB.new 42 w #[.int .i64 0, .int .i64 0, .slice none 0 0]
 go_enter Tryz.func57, Tryz.ntmps57
 go_wp2_with fail
 refine (htl _).mono ?_
 rintro e wt ⟨rfl, hbt⟩
 have T5 := TB.new 42 wt #[.int .i64 1, .int .i64 0, .slice none 0 0]
 have T4w := (T4.later hbt).alloc (.cells #[.int .i64 1, .int .i64 0, .slice none 0 0] 42)
 have AW : Below w.heap.size w (wt.alloc (.cells #[.int .i64 1, .int .i64 0, .slice none 0 0] 42)) := below_al (below_thru (below_al (Below.refl _ _) _) hbt) _
 have hwt : w.heap.size < wt.heap.size := (T4.later hbt).lt
 have hWs : (wt.alloc (.cells #[.int .i64 1, .int .i64 0, .slice none 0 0] 42)).heap.size = wt.heap.size + 1 := by simp
 have HWT : Hid (w.heap.size < wt.heap.size) := hwt
 go_wp2_with fail
 generalize hW : (wt.alloc (.cells #[.int .i64 1, .int .i64 0, .slice none 0 0] 42)) = W at *
 clear hW
 have HWS : Hid (W.heap.size = wt.heap.size + 1) := hWs
 clear hWs hwt
 have hno4 : ¬ O w.heap.size := fun e => by have := hlt _ e; omega
 have hno5 : ¬ O wt.heap.size := fun e => by have := hlt _ e; have := HWT.out; omega
 go_loopw [13] (fun i wr => ∃ k : Nat, k ≤ keys.length ∧ i = .int .i64 k ∧ GInv O w W B wt.heap.size (getK s keys k) wr) (fun i _ => keys.length - (intOf i).toNat)
 case atStart => exact ⟨0, Nat.zero_le _, rfl, ⟨O, .slice none 0 0, h.later AW, fun x hx => Or.inl hx, T5, OwnH.nil _ _, fun g hg => by cases hg⟩, Fr.of_below AW, T4w, Nat.le_refl _⟩
 case round =>
  obtain ⟨k, hk, rfl, hI⟩ := hrel
  by_cases hlk : k < keys.length
  · have hltz : (k : Int) < (keys.length : Int) := by omega
    have hk0 : (0 : Int) ≤ (k : Int) := Int.natCast_nonneg _
    have hstep := getK_succ s keys k hlk
    have hgd := hG k hk
    have hln := getK_len s keys k
    have hgd2 := hG (k + 1) hlk
    have hKw := hK wr hI.fr
    obtain ⟨k1, k2, k3, k4⟩ := hKw
    obtain ⟨kb, ko, rfl, kbl, kc1⟩ : ∃ b off, ka = some ⟨b, off, none⟩ ∧ b < wr.heap.size ∧ ∀ j, j < keys.length → wr.cell? ⟨b, off + j, none⟩ = some (.string (keys.getD j ByteArray.empty)) := by
     rcases k4 with k4 | k4
     · omega
     · exact k4
    have hkc := kc1 k hlk
    clear k1 k2 k3 k4 kc1
    generalize keys.getD k ByteArray.empty = key at *
    generalize hP1 : getK s keys (k + 1) = P1 at *
    generalize hP : getK s keys k = P at *
    obtain ⟨⟨O', hv, hSt, ho', T5r, hOw, hap⟩, hFr, T4r, hsz⟩ := hI
    obtain ⟨s', hs⟩ := P
    simp only at *
    have hfd := sfind_any O' s' B key wr hSt hgd.len (hgd.mono key)
    have hcs := foundS_cases s' key
    unfold gstep at hstep
    have hno4' : ¬ O' w.heap.size := out_of ho' hno4 T4w.lt
    have hno5' : ¬ O' wt.heap.size := out_of ho' hno5 T5.lt
    have hltO : ∀ x, O' x → x < wr.heap.size := by
     obtain ⟨iv, pa, pc, Op, hSt⟩ := hSt
     exact hSt.lt
    rcases hcs with hneg | ⟨n, hn, hnl, hF1, hnk⟩
    · have hst2 : Hid (P1 = ((foundS s' key).1, hs)) := by
       unfold Hid
       rw [hstep]
       simp only
       rw [hneg]
       rfl
      clear hstep
      rw [hneg] at hfd
      generalize (foundS s' key).1 = F at *
      go_wp2_with fail
      refine hfd.mono ?_
      rintro e wf ⟨rfl, hpf⟩
      have hI2 : Hid (GInv O w W B wt.heap.size P1 wf) := by
       unfold Hid
       rw [hst2.out]
       obtain ⟨⟨O2, j1, j2⟩, j3⟩ := hpf
       refine ⟨⟨O2, hv, j1, fun x hx => (j2 x hx).elim (ho' x) (fun q => Or.inr (Nat.le_trans hsz q)), j3.tb T5r hno5', hOw.fr j3 hap, fun g hg e => (j2 g e).elim (hap g hg) (fun q => by have := (hOw.lt hg).2; omega)⟩, hFr.trans j3 (fun b hb => (ho' b hb).imp id (fun q => Nat.le_trans AW.size q)), j3.tb T4r hno4', Nat.le_trans hsz j3.size⟩
      clear hpf
      go_wp2_with fail
      refine ⟨⟨k + 1, hlk, by simp, ?_⟩, by simp [intOf]; omega⟩
      rw [hP1]
      exact hI2.out
    · have hst2 : Hid (P1 = (askS s' n, hs ++ [hitOf s' n])) := by
       unfold Hid
       rw [hstep]
       simp only
       rw [hn, hF1, if_pos (Int.natCast_nonneg n)]
       rfl
      clear hstep
      rw [hn, hF1] at hfd
      clear hn hF1 hnk
      generalize s' = F at *
      obtain ⟨it, hit⟩ : ∃ it, F.items.getD n default = it := ⟨_, rfl⟩
      have hfl := hgd.len
      obtain ⟨_, _, _, _, hu0, hu1, _, _⟩ := counts_facts hgd.parts.1
      have hu0' : -1 ≤ F.uses := by omega
      have hval := hgd.valueOf n hnl { it with used := F.uses + 1 } (by rw [hit]) (by rw [hit])
      have hit2 : (askS F n).items.getD n default = { it with used := F.uses + 1 } := by
       show (F.items.set n _).getD n default = _
       rw [List.getD_eq_getElem?_getD, List.getElem?_set_self hnl, hit]
       rfl
      have hHit : Hid (hitOf F n = ⟨it.key, it.flags, it.cas, valN F.pages { it with used := F.uses + 1 }⟩) := by unfold Hid hitOf; rw [hit]; rfl
      generalize valN F.pages { it with used := F.uses + 1 } = V at *
      clear hG hgd hgd2
      go_wp2_with fail
      refine hfd.mono ?_
      rintro e wf ⟨rfl, ⟨O1, k1, k2⟩, k3⟩
      have hn4 : ¬ O1 w.heap.size := out_of k2 hno4' T4r.lt
      have hn5 : ¬ O1 wt.heap.size := out_of k2 hno5' T5r.lt
      have U4 := k3.tb T4r hno4'
      have U5 := k3.tb T5r hno5'
      have hOwf := hOw.fr k3 hap
      have hap1 : ∀ g, hv.ownBlock = some g → ¬ O1 g := fun g hg e => (k2 g e).elim (hap g hg) (fun q => by have := (hOw.lt hg).2; omega)
      have hlen2 : (askS F n).items.length = F.items.length := List.length_set
      clear hfd
      have hS1 := k1
      obtain ⟨iv, pa, pc, Op, k1⟩ := k1
      obtain ⟨g, c, e0, cur, hcur, hcap, hcm, hcs, hct⟩ := k1.row.block (by omega)
      subst e0
      obtain ⟨a', c', e1, hA⟩ := k1.row.items (by unfold maxLen; omega)
      cases e1
      obtain ⟨b, o, ea, hb, hI⟩ := hA.item n hnl
      cases ea
      rw [hit, Nat.zero_add] at hI
      have yB := fun j => k1.box.cell j
      have lB := k1.box.lt
      have hz0 : (0 : Int) ≤ (n : Int) := Int.natCast_nonneg _
      have hz1 : (n : Int) < (F.items.length : Int) := by omega
      have hT : TB 62 wf g cur := hcur
      have HT : Hid (TB 62 wf g cur) := hT
      have HC : Hid (cur.toList.take (F.items.length * 9) = F.items.flatMap itemCells) := hct
      obtain ⟨i0, i1, i2, i3, i4, i5, i6, i7, i8⟩ := hI
      have hgB : g ≠ B := (k1.rowO g rfl).2
      unfold stCells at yB
      clear hA hct hcur hT
      have KB : Hid (TB 29 wf B (stCells F (.slice (some ⟨g, 0, none⟩) F.items.length c) pa pc)) := k1.box
      have fx4 := HT.out.frozen (n * 9 + 4)
      have lg := HT.out.lt
      go_wp2_with fail
      refine (ask_any F (.slice (some ⟨g, 0, none⟩) F.items.length c) pa pc B g (n * 9) _ wf KB.out lg hgB i4 fx4 hu0' hu1).mono ?_
      rintro e wa ⟨rfl, hwa⟩
      have KA : Hid (StAt O1 wa B (askS F n) (.slice (some ⟨g, 0, none⟩) F.items.length c) pa pc Op) := by rw [hwa]; exact k1.asked n hnl
      have FA : Hid (Fr O1 wf wa) := by rw [hwa]; exact k1.fr_ask (n * 9 + 4) _ _
      clear hwa i0 i1 i2 i3 i4 i5 i6 i7 i8 yB fx4 lg hb lB
      have yB : ∀ j, wa.cell? ⟨B, j, none⟩ = (#[.int .i64 F.clock, .int .i64 F.cas, .int .i64 (F.uses + 1), .int .i64 F.most, .int .i64 F.h0, .int .i64 F.h1, .int .i64 F.h2, .int .i64 F.h3, .slice (some ⟨g, 0, none⟩) F.items.length c, .int .i64 F.fm, .int .i64 F.fx, .slice pa F.pages.length pc] : Array Value)[j]? := fun j => KA.out.box.cell j
      have lBa := KA.out.box.lt
      obtain ⟨a2, c2, e2, hA2⟩ := KA.out.row.items (by unfold maxLen; omega)
      obtain ⟨b2, o2, ea2, hb2, hI2⟩ := hA2.item n (by omega)
      injection e2 with q1 q2 q3
      rw [← q1] at ea2
      cases ea2
      rw [hit2, Nat.zero_add] at hI2
      obtain ⟨i0, i1, i2, i3, i4, i5, i6, i7, i8⟩ := hI2
      simp only at i0 i1 i2 i3 i4 i5 i6 i7 i8
      have V4 := FA.out.tb U4 hn4
      have V5 := FA.out.tb U5 hn5
      have hOwa : OwnH W.heap.size wa hv hs := hOwf.fr FA.out hap1
      have y5 := fun j => V5.cell j
      have m5 := V5.lt
      have HPA : Hid (PagesAt wa pa F.pages) := KA.out.pages wa (Nat.le_refl _) (fun _ _ _ => rfl)
      have HVAL : Hid _ := fun wx (hx : Below wa.heap.size wa wx) => hval pa pc wx (HPA.out.later hx)
      have kS : ∀ wx, Below wa.heap.size wa wx → (fun wx : World => (∀ j, wx.cell? ⟨B, j, none⟩ = (#[.int .i64 F.clock, .int .i64 F.cas, .int .i64 (F.uses + 1), .int .i64 F.most, .int .i64 F.h0, .int .i64 F.h1, .int .i64 F.h2, .int .i64 F.h3, .slice (some ⟨g, 0, none⟩) F.items.length c, .int .i64 F.fm, .int .i64 F.fx, .slice pa F.pages.length pc] : Array Value)[j]?) ∧ (wx.cell? ⟨g, n * 9, none⟩ = some (.string it.key) ∧ wx.cell? ⟨g, n * 9 + 1, none⟩ = some (.int .i64 it.flags) ∧ wx.cell? ⟨g, n * 9 + 2, none⟩ = some (.int .i64 it.until_) ∧ wx.cell? ⟨g, n * 9 + 3, none⟩ = some (.int .i64 it.cas) ∧ wx.cell? ⟨g, n * 9 + 4, none⟩ = some (.int .i64 (F.uses + 1)) ∧ wx.cell? ⟨g, n * 9 + 5, none⟩ = some (.string it.value) ∧ wx.cell? ⟨g, n * 9 + 6, none⟩ = some (.bool it.far) ∧ wx.cell? ⟨g, n * 9 + 7, none⟩ = some (.int .i64 it.page) ∧ wx.cell? ⟨g, n * 9 + 8, none⟩ = some (.int .i64 it.at_)) ∧ (∀ j, wx.cell? ⟨wt.heap.size, j, none⟩ = (#[.int .i64 1, .int .i64 0, hv] : Array Value)[j]?)) wx := fun wx hx => ⟨fun j => by rw [hx.cell (p := ⟨B, j, none⟩) lBa]; exact yB j, ⟨by rw [hx.cell (p := ⟨g, n * 9, none⟩) hb2]; exact i0, by rw [hx.cell (p := ⟨g, n * 9 + 1, none⟩) hb2]; exact i1, by rw [hx.cell (p := ⟨g, n * 9 + 2, none⟩) hb2]; exact i2, by rw [hx.cell (p := ⟨g, n * 9 + 3, none⟩) hb2]; exact i3, by rw [hx.cell (p := ⟨g, n * 9 + 4, none⟩) hb2]; exact i4, by rw [hx.cell (p := ⟨g, n * 9 + 5, none⟩) hb2]; exact i5, by rw [hx.cell (p := ⟨g, n * 9 + 6, none⟩) hb2]; exact i6, by rw [hx.cell (p := ⟨g, n * 9 + 7, none⟩) hb2]; exact i7, by rw [hx.cell (p := ⟨g, n * 9 + 8, none⟩) hb2]; exact i8⟩, fun j => by rw [hx.cell (p := ⟨wt.heap.size, j, none⟩) m5]; exact y5 j⟩
      clear hval hA2 q1 q2 q3
      have HWS2 := HWS.out
      go_wp2_with fail
      refine wp_region_last (S := (fun wx : World => (∀ j, wx.cell? ⟨B, j, none⟩ = (#[.int .i64 F.clock, .int .i64 F.cas, .int .i64 (F.uses + 1), .int .i64 F.most, .int .i64 F.h0, .int .i64 F.h1, .int .i64 F.h2, .int .i64 F.h3, .slice (some ⟨g, 0, none⟩) F.items.length c, .int .i64 F.fm, .int .i64 F.fx, .slice pa F.pages.length pc] : Array Value)[j]?) ∧ (wx.cell? ⟨g, n * 9, none⟩ = some (.string it.key) ∧ wx.cell? ⟨g, n * 9 + 1, none⟩ = some (.int .i64 it.flags) ∧ wx.cell? ⟨g, n * 9 + 2, none⟩ = some (.int .i64 it.until_) ∧ wx.cell? ⟨g, n * 9 + 3, none⟩ = some (.int .i64 it.cas) ∧ wx.cell? ⟨g, n * 9 + 4, none⟩ = some (.int .i64 (F.uses + 1)) ∧ wx.cell? ⟨g, n * 9 + 5, none⟩ = some (.string it.value) ∧ wx.cell? ⟨g, n * 9 + 6, none⟩ = some (.bool it.far) ∧ wx.cell? ⟨g, n * 9 + 7, none⟩ = some (.int .i64 it.page) ∧ wx.cell? ⟨g, n * 9 + 8, none⟩ = some (.int .i64 it.at_)) ∧ (∀ j, wx.cell? ⟨wt.heap.size, j, none⟩ = (#[.int .i64 1, .int .i64 0, hv] : Array Value)[j]?))) 26 _ (by kernel_rfl) (by rfl) (by rfl) (by rfl) (by kernel_rfl) ?_
      have hS0 := kS wa.drew (Below.drew (Below.refl wa.heap.size wa))
      simp only [sIB, sZB, sSB]
      refine wpAnyH_take (i := 0) (v := ?tv701) rfl (by kernel_rfl) (by kernel_rfl) (by kernel_rfl) (fun _ _ _ h => h) (Or.inl ⟨by rfl, ?th701⟩) (by assumption) ?tr701
      case th701 => (intro w hSw; (try dsimp only at hSw); go_simp; try with_reducible rfl)
      try simp only [Act.put, sIB, sZB, sSB]
      refine wpAnyH_take (i := 1) (v := ?tv702) rfl (by kernel_rfl) (by kernel_rfl) (by kernel_rfl) (fun _ _ _ h => h) (Or.inl ⟨by rfl, ?th702⟩) (by assumption) ?tr702
      case th702 => (intro w hSw; (try dsimp only at hSw); go_simp; try with_reducible rfl)
      try simp only [Act.put, sIB, sZB, sSB]
      refine wpAnyH_take (i := 2) (v := ?tv703) rfl (by kernel_rfl) (by kernel_rfl) (by kernel_rfl) (fun _ _ _ h => h) (Or.inl ⟨by rfl, ?th703⟩) (by assumption) ?tr703
      case th703 => (intro w hSw; (try dsimp only at hSw); go_simp; try with_reducible rfl)
      try simp only [Act.put, sIB, sZB, sSB]
      refine wpAnyH_take (i := 3) (v := ?tv704) rfl (by kernel_rfl) (by kernel_rfl) (by kernel_rfl) (fun _ _ _ h => h) (Or.inl ⟨by rfl, ?th704⟩) (by assumption) ?tr704
      case th704 => (intro w hSw; (try dsimp only at hSw); go_simp; try with_reducible rfl)
      try simp only [Act.put, sIB, sZB, sSB]
      refine wpAnyH_take (i := 4) (v := ?tv705) rfl (by kernel_rfl) (by kernel_rfl) (by kernel_rfl) (fun _ _ _ h => h) (Or.inl ⟨by rfl, ?th705⟩) (by assumption) ?tr705
      case th705 => (intro w hSw; (try dsimp only at hSw); go_simp; try with_reducible rfl)
      try simp only [Act.put, sIB, sZB, sSB]
      refine wpAnyH_take (i := 5) (v := ?tv706) rfl (by kernel_rfl) (by kernel_rfl) (by kernel_rfl) (fun _ _ _ h => h) (Or.inl ⟨by rfl, ?th706⟩) (by assumption) ?tr706
      case th706 => (intro w hSw; (try dsimp only at hSw); go_simp; try with_reducible rfl)
      try simp only [Act.put, sIB, sZB, sSB]
      refine wpAnyH_take (i := 6) (v := ?tv707) rfl (by kernel_rfl) (by kernel_rfl) (by kernel_rfl) (fun _ _ _ h => h) (Or.inl ⟨by rfl, ?th707⟩) (by assumption) ?tr707
      case th707 => (intro w hSw; (try dsimp only at hSw); go_simp; try with_reducible rfl)
      try simp only [Act.put, sIB, sZB, sSB]
      refine wpAnyH_take (i := 7) (v := ?tv708) rfl (by kernel_rfl) (by kernel_rfl) (by kernel_rfl) (fun _ _ _ h => h) (Or.inl ⟨by rfl, ?th708⟩) (by assumption) ?tr708
      case th708 => (intro w hSw; (try dsimp only at hSw); go_simp; try with_reducible rfl)
      try simp only [Act.put, sIB, sZB, sSB]
      refine wpAnyH_take (i := 8) (v := ?tv709) rfl (by kernel_rfl) (by kernel_rfl) (by kernel_rfl) (fun _ _ _ h => h) (Or.inl ⟨by rfl, ?th709⟩) (by assumption) ?tr709
      case th709 => (intro w hSw; (try dsimp only at hSw); go_simp; try with_reducible rfl)
      try simp only [Act.put, sIB, sZB, sSB]
      refine wpAnyH_take (i := 9) (v := ?tv710) rfl (by kernel_rfl) (by kernel_rfl) (by kernel_rfl) (fun _ _ _ h => h) (Or.inl ⟨by rfl, ?th710⟩) (by assumption) ?tr710
      case th710 => (intro w hSw; (try dsimp only at hSw); go_simp; try with_reducible rfl)
      try simp only [Act.put, sIB, sZB, sSB]
      refine wpAnyH_take (i := 10) (v := ?tv711) rfl (by kernel_rfl) (by kernel_rfl) (by kernel_rfl) (fun _ _ _ h => h) (Or.inl ⟨by rfl, ?th711⟩) (by assumption) ?tr711
      case th711 => (intro w hSw; (try dsimp only at hSw); go_simp; try with_reducible rfl)
      try simp only [Act.put, sIB, sZB, sSB]
      refine wpAnyH_take (i := 11) (v := ?tv712) rfl (by kernel_rfl) (by kernel_rfl) (by kernel_rfl) (fun _ _ _ h => h) (Or.inl ⟨by rfl, ?th712⟩) (by assumption) ?tr712
      case th712 => (intro w hSw; (try dsimp only at hSw); go_simp; try with_reducible rfl)
      try simp only [Act.put, sIB, sZB, sSB]
      refine wpAnyH_take (i := 12) (v := ?tv713) rfl (by kernel_rfl) (by kernel_rfl) (by kernel_rfl) (fun _ _ _ h => h) (Or.inl ⟨by rfl, ?th713⟩) (by assumption) ?tr713
      case th713 => (intro w hSw; (try dsimp only at hSw); go_simp; try with_reducible rfl)
      try simp only [Act.put, sIB, sZB, sSB]
      refine wpAnyH_take (i := 13) (v := ?tv714) rfl (by kernel_rfl) (by kernel_rfl) (by kernel_rfl) (fun _ _ _ h => h) (Or.inl ⟨by rfl, ?th714⟩) (by assumption) ?tr714
      case th714 => (intro w hSw; (try dsimp only at hSw); go_simp; try with_reducible rfl)
      try simp only [Act.put, sIB, sZB, sSB]
      refine wpAnyH_take (i := 14) (v := ?tv715) rfl (by kernel_rfl) (by kernel_rfl) (by kernel_rfl) (fun _ _ _ h => h) (Or.inl ⟨by rfl, ?th715⟩) (by assumption) ?tr715
      case th715 => (intro w hSw; (try dsimp only at hSw); go_simp; try with_reducible rfl)
      try simp only [Act.put, sIB, sZB, sSB]
      refine wpAnyH_take (i := 15) (v := ?tv716) rfl (by kernel_rfl) (by kernel_rfl) (by kernel_rfl) (fun _ _ _ h => h) (Or.inl ⟨by rfl, ?th716⟩) (by assumption) ?tr716
      case th716 => (intro w hSw; (try dsimp only at hSw); go_simp; try with_reducible rfl)
      try simp only [Act.put, sIB, sZB, sSB]
      refine wpAnyH_take (i := 16) (v := ?tv717) rfl (by kernel_rfl) (by kernel_rfl) (by kernel_rfl) (fun _ _ _ h => h) (Or.inl ⟨by rfl, ?th717⟩) (by assumption) ?tr717
      case th717 => (intro w hSw; (try dsimp only at hSw); go_simp; try with_reducible rfl)
      try simp only [Act.put, sIB, sZB, sSB]
      refine wpAnyH_take (i := 17) (v := ?tv718) rfl (by kernel_rfl) (by kernel_rfl) (by kernel_rfl) (fun _ _ _ h => h) (Or.inl ⟨by rfl, ?th718⟩) (by assumption) ?tr718
      case th718 => (intro w hSw; (try dsimp only at hSw); go_simp; try with_reducible rfl)
      try simp only [Act.put, sIB, sZB, sSB]
      refine wpAnyH_take (i := 18) (v := ?tv719) rfl (by kernel_rfl) (by kernel_rfl) (by kernel_rfl) (fun _ _ _ h => h) (Or.inl ⟨by rfl, ?th719⟩) (by assumption) ?tr719
      case th719 => (intro w hSw; (try dsimp only at hSw); go_simp; try with_reducible rfl)
      try simp only [Act.put, sIB, sZB, sSB]
      refine wpAnyH_take (i := 19) (v := ?tv720) rfl (by kernel_rfl) (by kernel_rfl) (by kernel_rfl) (fun _ _ _ h => h) (Or.inl ⟨by rfl, ?th720⟩) (by assumption) ?tr720
      case th720 => (intro w hSw; (try dsimp only at hSw); go_simp; try with_reducible rfl)
      try simp only [Act.put, sIB, sZB, sSB]
      refine wpAnyH_take (i := 20) (v := ?tv721) rfl (by kernel_rfl) (by kernel_rfl) (by kernel_rfl) (fun _ _ _ h => h) (Or.inl ⟨by rfl, ?th721⟩) (by assumption) ?tr721
      case th721 => (intro w hSw; (try dsimp only at hSw); go_simp; try with_reducible rfl)
      try simp only [Act.put, sIB, sZB, sSB]
      refine wpAnyH_ready (rs := [21]) (by kernel_rfl) (by simp) ?_
      refine AllReadyH.cons rfl (fun K hK => ?_) AllReadyH.nil
      go_simp
      refine (HVAL.out _ (Below.drew (Below.refl wa.heap.size wa))).mono ?_
      rintro e wc722 ⟨rfl, hbc722⟩
      have Bc722 : Below wa.heap.size wa wc722 := below_thru (Below.drew (Below.refl wa.heap.size wa)) hbc722
      have hSc722 := kS _ Bc722
      refine hK.out _ _ hSc722 ?_
      intro hSd722
      clear hK K
      try simp only [Act.put, sIB, sZB, sSB]
      refine wpAnyH_take (i := 22) (v := ?tv723) rfl (by kernel_rfl) (by kernel_rfl) (by kernel_rfl) (fun _ _ _ h => h) (Or.inl ⟨by rfl, ?th723⟩) (by assumption) ?tr723
      case th723 => (intro w hSw; (try dsimp only at hSw); go_simp; try with_reducible rfl)
      try simp only [Act.put, sIB, sZB, sSB]
      refine wpAnyH_ready (rs := [23]) (by kernel_rfl) (by simp) ?_
      refine AllReadyH.cons rfl (fun K hK => ?_) AllReadyH.nil
      go_simp
      have Bc724 := below_al Bc722 (.cells #[.string it.key, .int .i64 it.flags, .int .i64 it.cas, .string V] 49)
      have hSc724 := kS _ Bc724
      refine hK.out _ _ hSc724 ?_
      intro hSd724
      clear hK K
      try simp only [Act.put, sIB, sZB, sSB]
      refine wpAnyH_ready (rs := [24]) (by kernel_rfl) (by simp) ?_
      refine AllReadyH.cons rfl (fun K hK => ?_) AllReadyH.nil
      have hOk := (hOwa.later Bc722).later (below_al (Below.refl _ _) ((.cells #[.string it.key, .int .i64 it.flags, .int .i64 it.cas, .string V] 49)))
      have hBK : ((wc722.alloc (.cells #[.string it.key, .int .i64 it.flags, .int .i64 it.cas, .string V] 49))).heap[wc722.heap.size]? = some (.cells (hitCells ⟨it.key, it.flags, it.cas, V⟩).toArray 49 (0, 0)) := (TB.new 49 wc722 #[.string it.key, .int .i64 it.flags, .int .i64 it.cas, .string V])
      have hsz1 := Below.size Bc724
      have hsz2 : ((wc722.alloc (.cells #[.string it.key, .int .i64 it.flags, .int .i64 it.cas, .string V] 49))).heap.size = wc722.heap.size + 1 := by simp
      have hvB : some B ≠ hv.ownBlock := fun e => hap1 B e.symm k1.boxO
      have hvg : some g ≠ hv.ownBlock := fun e => hap1 g e.symm (k1.rowO g rfl).1
      have hv5 : some wt.heap.size ≠ hv.ownBlock := fun e => by have := (hOwa.lt e.symm).1; omega
      have hv4 : some w.heap.size ≠ hv.ownBlock := fun e => by have := (hOwa.lt e.symm).1; have := HWT.out; omega
      have HBel : Hid (Below wa.heap.size wa _) := Bc724
      have s1 := Nat.lt_of_lt_of_le lBa (Below.size HBel.out)
      have s2 := Nat.lt_of_lt_of_le hb2 (Below.size HBel.out)
      have s3 := Nat.lt_of_lt_of_le m5 (Below.size HBel.out)
      have hSk := kS _ HBel.out
      refine append_hit _ rfl (.tmp 32) (.tmp 54) rfl W.heap.size hv hs rfl hOk ⟨it.key, it.flags, it.cas, V⟩ _ rfl hBK (by have := KA.out.box.lt; omega) (by omega) ?_
      rintro g2 cap2 wp hO2 hg2 hat2 hlt2
      have hSc725 := (show (fun wx : World => (∀ j, wx.cell? ⟨B, j, none⟩ = (#[.int .i64 F.clock, .int .i64 F.cas, .int .i64 (F.uses + 1), .int .i64 F.most, .int .i64 F.h0, .int .i64 F.h1, .int .i64 F.h2, .int .i64 F.h3, .slice (some ⟨g, 0, none⟩) F.items.length c, .int .i64 F.fm, .int .i64 F.fx, .slice pa F.pages.length pc] : Array Value)[j]?) ∧ (wx.cell? ⟨g, n * 9, none⟩ = some (.string it.key) ∧ wx.cell? ⟨g, n * 9 + 1, none⟩ = some (.int .i64 it.flags) ∧ wx.cell? ⟨g, n * 9 + 2, none⟩ = some (.int .i64 it.until_) ∧ wx.cell? ⟨g, n * 9 + 3, none⟩ = some (.int .i64 it.cas) ∧ wx.cell? ⟨g, n * 9 + 4, none⟩ = some (.int .i64 (F.uses + 1)) ∧ wx.cell? ⟨g, n * 9 + 5, none⟩ = some (.string it.value) ∧ wx.cell? ⟨g, n * 9 + 6, none⟩ = some (.bool it.far) ∧ wx.cell? ⟨g, n * 9 + 7, none⟩ = some (.int .i64 it.page) ∧ wx.cell? ⟨g, n * 9 + 8, none⟩ = some (.int .i64 it.at_)) ∧ (∀ j, wx.cell? ⟨wt.heap.size, j, none⟩ = (#[.int .i64 1, .int .i64 0, hv] : Array Value)[j]?)) wp from ⟨fun j => by rw [hg2.cell_far ⟨B, j, none⟩ s1 hvB]; exact hSk.1 j, ⟨by rw [hg2.cell_far ⟨g, n * 9, none⟩ s2 hvg]; exact hSk.2.1.1, by rw [hg2.cell_far ⟨g, n * 9 + 1, none⟩ s2 hvg]; exact hSk.2.1.2.1, by rw [hg2.cell_far ⟨g, n * 9 + 2, none⟩ s2 hvg]; exact hSk.2.1.2.2.1, by rw [hg2.cell_far ⟨g, n * 9 + 3, none⟩ s2 hvg]; exact hSk.2.1.2.2.2.1, by rw [hg2.cell_far ⟨g, n * 9 + 4, none⟩ s2 hvg]; exact hSk.2.1.2.2.2.2.1, by rw [hg2.cell_far ⟨g, n * 9 + 5, none⟩ s2 hvg]; exact hSk.2.1.2.2.2.2.2.1, by rw [hg2.cell_far ⟨g, n * 9 + 6, none⟩ s2 hvg]; exact hSk.2.1.2.2.2.2.2.2.1, by rw [hg2.cell_far ⟨g, n * 9 + 7, none⟩ s2 hvg]; exact hSk.2.1.2.2.2.2.2.2.2.1, by rw [hg2.cell_far ⟨g, n * 9 + 8, none⟩ s2 hvg]; exact hSk.2.1.2.2.2.2.2.2.2.2⟩, fun j => by rw [hg2.cell_far ⟨wt.heap.size, j, none⟩ s3 hv5]; exact hSk.2.2 j⟩)
      refine hK.out _ _ hSc725 ?_
      intro hSd725
      clear hK K
      try simp only [Act.put, sIB, sZB, sSB]
      refine wpAnyH_take (i := 25) (v := ?tv726) rfl (by kernel_rfl) (by kernel_rfl) (by kernel_rfl) (fun _ _ _ h => h) (Or.inl ⟨by rfl, ?th726⟩) (by assumption) ?tr726
      case th726 => (intro w hSw; (try dsimp only at hSw); go_simp; try with_reducible rfl)
      try simp only [Act.put, sIB, sZB, sSB]
      refine wpAnyH_ready (rs := [26]) (by kernel_rfl) (by simp) ?_
      refine AllReadyH.cons rfl (fun K hK => ?_) AllReadyH.nil
      go_simp
      refine hK.out _ _ hSd725 ?_
      intro hSl727
      clear hK K
      try simp only [Act.put, sIB, sZB, sSB]
      refine wpAnyH_done (by kernel_rfl) ?_ _
      refine LastPost.step rfl (fun K hK => ?_)
      have T5p := grown_tb hg2 (V5.later HBel.out) (Ne.symm hv5)
      have T4p := grown_tb hg2 (V4.later HBel.out) (Ne.symm hv4)
      have x5 := fun j => T5p.cell j
      have z5 := fun j => T5p.frozen j
      have l5 := T5p.lt
      have hsz3 := hg2.size
      have hI3 : Hid (GInv O w W B wt.heap.size P1 (wp.setCell ⟨wt.heap.size, 2, none⟩ (.slice (some ⟨g2, 0, none⟩) (hs.length + 1) cap2))) := by
       unfold Hid
       rw [hst2.out, hHit.out]
       have t1 : StO O1 wp B (askS F n) := StO.fr (StO.later ⟨_, pa, pc, Op, KA.out⟩ HBel.out) (Fr.of_grown (O := fun b => hv.ownBlock = some b) hg2 (fun g hg => Or.inl hg)) (fun b hb e => hap1 b e hb)
       have t2 := T5p.set 2 (.slice (some ⟨g2, 0, none⟩) (hs.length + 1) cap2)
       simp only [sIB, sZB, sSB] at t2
       have q1 : ∀ x, O1 x → O x ∨ W.heap.size ≤ x := fun x hx => (k2 x hx).elim (ho' x) (fun q => Or.inr (Nat.le_trans hsz q))
       have q2 : ∀ x, O1 x → O x ∨ w.heap.size ≤ x := fun x hx => (q1 x hx).imp id (fun q => Nat.le_trans AW.size q)
       have q3 := k1.lt
       have q4 := FA.out.size
       have q5 := k3.size
       refine ⟨⟨O1, _, StO.fr t1 ((Fr.refl (fun b => b = wt.heap.size) wp).set 2 _ (Or.inl rfl)) (fun b hb e => hn5 (e ▸ hb)), q1, t2, hO2.kept fun g hg => heap_setCell_other _ _ _ _ (show g ≠ wt.heap.size from fun e => by have := (hO2.lt hg).1; omega), fun g hg e => ?_⟩, ?_, T4p.far ⟨wt.heap.size, 2, none⟩ _ (show w.heap.size ≠ wt.heap.size by have := HWT.out; omega), ?_⟩
       · cases hg
         rcases hat2 with q | q
         · exact hap1 _ q e
         · have : g2 < wf.heap.size := q3 _ e
           have := Below.size HBel.out
           omega
       · refine (((((hFr.trans k3 (fun b hb => (ho' b hb).imp id (fun q => Nat.le_trans AW.size q))).trans FA.out q2).trans (Fr.of_below (O := O) HBel.out) (fun b hb => Or.inl hb)).trans (Fr.of_grown (O := fun b => hv.ownBlock = some b) hg2 (fun g hg => Or.inl hg)) (fun b hb => Or.inr (Nat.le_trans AW.size (hOwa.lt hb).1)))).set 2 _ (Or.inr (Nat.le_of_lt HWT.out))
       · have := Below.size HBel.out
         show W.heap.size ≤ (wp.setCell _ _).heap.size
         simp [World.setCell]
         omega
      clear hSk hg2
      go_simp
      refine hK _ _ ?_
      go_wp2_with fail
      refine ⟨⟨k + 1, hlk, by simp, ?_⟩, by simp [intOf]; omega⟩
      rw [hP1]
      exact hI3.out
  · have hltz : ¬ (k : Int) < (keys.length : Int) := by omega
    have hke : k = keys.length := by omega
    subst hke
    obtain ⟨⟨O', hv, hSt, ho', T5r, hOw, hap⟩, hFr, T4r, hsz⟩ := hI
    have hno4' : ¬ O' w.heap.size := out_of ho' hno4 T4w.lt
    have x5 := fun j => T5r.cell j
    have l5 := T5r.lt
    have x4 := fun j => T4r.cell j
    have z4 := fun j => T4r.frozen j
    have l4 := T4r.lt
    have hne45 : w.heap.size ≠ wt.heap.size := by have := HWT.out; omega
    obtain ⟨ha, hc, rfl⟩ := hOw.form
    have hend : Hid (OwnH w.heap.size (((wr.setCell ⟨w.heap.size, 0, none⟩ (.int .i64 1)).setCell ⟨w.heap.size, 1, none⟩ (.int .i64 0)).setCell ⟨w.heap.size, 2, none⟩ (.slice ha (getK s keys keys.length).2.length hc)) (.slice ha (getK s keys keys.length).2.length hc) (getK s keys keys.length).2) := by
     have hOw2 : OwnH W.heap.size (((wr.setCell ⟨w.heap.size, 0, none⟩ (.int .i64 1)).setCell ⟨w.heap.size, 1, none⟩ (.int .i64 0)).setCell ⟨w.heap.size, 2, none⟩ (.slice ha (getK s keys keys.length).2.length hc)) (.slice ha (getK s keys keys.length).2.length hc) (getK s keys keys.length).2 := hOw.kept fun g hg => by
      have hgl := (hOw.lt hg).1
      have := HWS.out
      have := HWT.out
      iterate 3 rw [heap_setCell_other _ _ _ _ (show g ≠ w.heap.size by omega)]
     exact World.ownsRow.mono hOw2 AW.size
    have hpo : Hid (StPost O w B (getK s keys keys.length).1 (((wr.setCell ⟨w.heap.size, 0, none⟩ (.int .i64 1)).setCell ⟨w.heap.size, 1, none⟩ (.int .i64 0)).setCell ⟨w.heap.size, 2, none⟩ (.slice ha (getK s keys keys.length).2.length hc))) := by
     have hQ : StQ O w W B (getK s keys keys.length).1 wr := ⟨⟨O', hSt, ho'⟩, hFr⟩
     exact StQ.post (StQ.set (StQ.set (StQ.set hQ (Nat.le_refl _) T4w.lt hlt 0 _) (Nat.le_refl _) T4w.lt hlt 1 _) (Nat.le_refl _) T4w.lt hlt 2 _) AW.size
    clear hSt hOw hap hFr T5r T4r
    go_wp2_with fail
    refine bodyPost_ret (v := .agg #[.int .i64 1, .int .i64 0, .slice ha (getK s keys keys.length).2.length hc]) (by simp [results, Tryz.results57, go_sem, x4, l4]) rfl ⟨_, rfl, hend.out, hpo.out⟩

end Go.Proofs.YtdblegdgmjakfaaGreatDoor
