/- Parts of the proof. -/
import Derived.Test.YtdblegdgmjakfaaGreatDoorMJ11
import Derived.Deep.RegionHeld3
namespace Go.Proofs.YtdblegdgmjakfaaGreatDoor
open Go.ChangeShapes Go.WideShapes Go.ChangeAt Go.RowKit
set_option linter.unusedVariables false
set_option linter.unusedSimpArgs false

/- store.moveToFlash: an item's value goes to the flash. -/

set_option maxHeartbeats 80000000 in
set_option maxRecDepth 100000 in
theorem move_any (O : Nat → Prop) (s : StoreR) (B i : Nat) (w : World) (h : StO O w B s) (hl : s.items.length ≤ 1000) (hi : i < s.items.length) (hv : (s.items.getD i default).value.size ≤ maxLen) :
 Calls Tryz.prog 155 #[.pointer (some ⟨B, 0, none⟩), .int .i64 i] w fun e w' => e = .returned (.bool (moveS s i).2) ∧ StPost O w B (moveS s i).1 w' := by
 have hS := h
 obtain ⟨iv, pa, pc, Op, h⟩ := h
 obtain ⟨g, cap, e0, cur, hcur, hcap, hcm, hcs, hct⟩ := h.row.block (by omega)
 subst e0
 have hT : TB 62 w g cur := hcur
 have hrc := fun t (ht : t < 9) => row_cells hcs hcap hct i t hi ht
 have c5 : w.cell? ⟨g, i * 9 + 5, none⟩ = some (.string (s.items.getD i default).value) := by rw [hT.cell]; exact hrc 5 (by omega)
 have lg := hT.lt
 have x := fun j => h.box.cell j
 have hlB := h.box.lt
 have hz0 : (0 : Int) ≤ (i : Int) := Int.natCast_nonneg _
 have hz1 : (i : Int) < (s.items.length : Int) := by omega
 have hgB : g ≠ B := (h.rowO g rfl).2
 have E : Hid (moveS s i = moveS s i) := rfl
 conv at E => arg 1; rhs; unfold moveS
 generalize moveS s i = R at *
 unfold stCells at x
 have hPA : PagesAt w pa s.pages := h.pages w (Nat.le_refl _) (fun _ _ _ => rfl)
 generalize hit : s.items.getD i default = it at *
 unfold maxLen at hv
 by_cases h24 : it.value.size < 24
 · have E2 : Hid (R = (s, false)) := (show R = (s, false) by rw [E.out, if_pos h24])
   have h24z : (it.value.size : Int) < 24 := by omega
   clear E hrc hct
   go_enter Tryz.func155, Tryz.ntmps155
   go_wp2_with fail
   go_ret
   rw [E2.out]
   exact ⟨rfl, StPost.same hS (Below.refl _ _)⟩
 · have h24z : ¬ (it.value.size : Int) < 24 := by omega
   have kS : ∀ wx, Below w.heap.size w wx → (∀ j, wx.cell? ⟨B, j, none⟩ = (#[.int .i64 s.clock, .int .i64 s.cas, .int .i64 s.uses, .int .i64 s.most, .int .i64 s.h0, .int .i64 s.h1, .int .i64 s.h2, .int .i64 s.h3, .slice (some ⟨g, 0, none⟩) s.items.length cap, .int .i64 s.fm, .int .i64 s.fx, .slice pa s.pages.length pc] : Array Value)[j]?) ∧ wx.cell? ⟨g, i * 9 + 5, none⟩ = some (.string it.value) ∧ Below w.heap.size w wx := fun wx hx => ⟨fun j => by rw [hx.cell (p := ⟨B, j, none⟩) hlB]; exact x j, by rw [hx.cell (p := ⟨g, i * 9 + 5, none⟩) lg]; exact c5, hx⟩
   obtain ⟨m, r, k, hrk, hap⟩ := append_anyway s.fm s.fx s.pages pa pc it.value hv
   have HCT : Hid (cur.toList.take (s.items.length * 9) = s.items.flatMap itemCells) := hct
   have HRK : Hid _ := hrk
   clear hrc hct hrk
   go_enter Tryz.func155, Tryz.ntmps155
   go_wp2_with fail
   refine region_rel (fun a' wx => ∃ (bf ba bg : Nat) (fa : Option Addr) (fc : Nat), a' = { tmps := #[.pointer (some ⟨B, 0, none⟩), .int .i64 i, undef, undef, .bool false, .pointer (some ⟨g, i * 9, none⟩), .pointer (some ⟨bf, 0, none⟩), .pointer (some ⟨ba, 0, none⟩), .pointer (some ⟨bg, 0, none⟩), .int .i64 k, .pointer (some ⟨B, 0, none⟩), .pointer (some ⟨B, 0, none⟩), .pointer (some ⟨B, 8, none⟩), .slice (some ⟨g, 0, none⟩) s.items.length cap, .int .i64 i, .pointer (some ⟨g, i * 9, none⟩), .pointer (some ⟨g, i * 9, none⟩), .pointer (some ⟨g, i * 9, none⟩), .pointer (some ⟨g, i * 9 + 5, none⟩), .string it.value, .int .i64 it.value.size, .bool false, .tuple #[.agg #[.int .i64 m, .int .i64 r.fx, .slice fa r.pages.length fc], .agg #[.int .i64 r.page, .int .i64 r.at_], .int .i64 r.gone, .int .i64 k], .pointer (some ⟨B, 0, none⟩), .pointer (some ⟨B, 0, none⟩), .pointer (some ⟨B, 9, none⟩), .agg #[.int .i64 s.fm, .int .i64 s.fx, .slice pa s.pages.length pc], .pointer (some ⟨g, i * 9, none⟩), .pointer (some ⟨g, i * 9, none⟩), .pointer (some ⟨g, i * 9 + 5, none⟩), .string it.value, .tuple #[.agg #[.int .i64 m, .int .i64 r.fx, .slice fa r.pages.length fc], .agg #[.int .i64 r.page, .int .i64 r.at_], .int .i64 r.gone, .int .i64 k], .agg #[.int .i64 m, .int .i64 r.fx, .slice fa r.pages.length fc], .agg #[.int .i64 r.page, .int .i64 r.at_], .int .i64 r.gone, .int .i64 k, undef, undef, undef, undef, undef, undef, undef, undef, undef, undef, undef, undef, undef, undef, undef, undef, undef, undef, undef, undef, undef, undef, undef, undef, undef], defers := [] } ∧ MvR w wx bf ba bg fa fc m r) ?_ ?_
   · refine wp_region_held_drew (S := (fun wx => (∀ j, wx.cell? ⟨B, j, none⟩ = (#[.int .i64 s.clock, .int .i64 s.cas, .int .i64 s.uses, .int .i64 s.most, .int .i64 s.h0, .int .i64 s.h1, .int .i64 s.h2, .int .i64 s.h3, .slice (some ⟨g, 0, none⟩) s.items.length cap, .int .i64 s.fm, .int .i64 s.fx, .slice pa s.pages.length pc] : Array Value)[j]?) ∧ wx.cell? ⟨g, i * 9 + 5, none⟩ = some (.string it.value) ∧ Below w.heap.size w wx)) (by kernel_rfl) (kS _ (Below.drew (Below.refl w.heap.size w))) (fun hS0 => ?_)
     refine use_rest (α := Nat × Nat × Nat × Option Addr × Nat) (fun x wb => MvB w wb x.1 x.2.1 x.2.2.1 x.2.2.2.1 r) (fun x => { tmps := #[.pointer (some ⟨B, 0, none⟩), .int .i64 i, undef, undef, .bool false, .pointer (some ⟨g, i * 9, none⟩), .pointer (some ⟨x.1, 0, none⟩), .pointer (some ⟨x.2.1, 0, none⟩), .pointer (some ⟨x.2.2.1, 0, none⟩), undef, .pointer (some ⟨B, 0, none⟩), .pointer (some ⟨B, 0, none⟩), .pointer (some ⟨B, 8, none⟩), .slice (some ⟨g, 0, none⟩) s.items.length cap, .int .i64 i, .pointer (some ⟨g, i * 9, none⟩), .pointer (some ⟨g, i * 9, none⟩), .pointer (some ⟨g, i * 9, none⟩), .pointer (some ⟨g, i * 9 + 5, none⟩), .string it.value, .int .i64 it.value.size, .bool false, .tuple #[.agg #[.int .i64 m, .int .i64 r.fx, .slice x.2.2.2.1 r.pages.length x.2.2.2.2], .agg #[.int .i64 r.page, .int .i64 r.at_], .int .i64 r.gone, .int .i64 k], .pointer (some ⟨B, 0, none⟩), .pointer (some ⟨B, 0, none⟩), .pointer (some ⟨B, 9, none⟩), .agg #[.int .i64 s.fm, .int .i64 s.fx, .slice pa s.pages.length pc], .pointer (some ⟨g, i * 9, none⟩), .pointer (some ⟨g, i * 9, none⟩), .pointer (some ⟨g, i * 9 + 5, none⟩), .string it.value, .tuple #[.agg #[.int .i64 m, .int .i64 r.fx, .slice x.2.2.2.1 r.pages.length x.2.2.2.2], .agg #[.int .i64 r.page, .int .i64 r.at_], .int .i64 r.gone, .int .i64 k], .agg #[.int .i64 m, .int .i64 r.fx, .slice x.2.2.2.1 r.pages.length x.2.2.2.2], .agg #[.int .i64 r.page, .int .i64 r.at_], .int .i64 r.gone, .int .i64 k, undef, undef, undef, undef, undef, undef, undef, undef, undef, undef, undef, undef, undef, undef, undef, undef, undef, undef, undef, undef, undef, undef, undef, undef, undef], defers := [] }) #[true, true, true, true, true, true, true, true, true, true, true, true, true, true, true, true, true, false, false, false, false] 4 ?hr (fun hrest => ?_)
     case hr =>
      rintro ⟨bf, ba, bg, fa, fc⟩ wb hM
      dsimp only at hM ⊢
      obtain ⟨Tf, Ta, Tg, hb, nf, na, ng, q1, q2, q3, n1, n2, p1, p2, o1, o2, o3, hp⟩ := hM
      have HP : Hid (PgIn (fun b => n1 ≤ b ∧ b < n2) wb fa r.pages) := hp
      have p1' : Hid (w.heap.size ≤ n1) := p1
      have p2' : Hid (n2 ≤ wb.heap.size) := p2
      clear hp p1 p2
      have xf := fun j => Tf.cell j
      have zf := fun j => Tf.frozen j
      have lf := Tf.lt
      have xa := fun j => Ta.cell j
      have za := fun j => Ta.frozen j
      have la := Ta.lt
      have xg := fun j => Tg.cell j
      have zg := fun j => Tg.frozen j
      have lg2 := Tg.lt
      have q1' := Ne.symm q1
      have q2' := Ne.symm q2
      have q3' := Ne.symm q3
      refine wpAnyH_ready (rs := [17]) (by kernel_rfl) (by simp) ?_
      refine AllReadyH.cons rfl (fun K hK => ?_) AllReadyH.nil
      go_simp
      refine hK.out _ _ (kS _ (below_st (below_st (below_st hb _ nf) _ nf) _ nf)) ?_
      intro hSd17
      clear hK K
      try simp only [Act.put, sIB, sZB, sSB]
      refine wpAnyH_ready (rs := [18]) (by kernel_rfl) (by simp) ?_
      refine AllReadyH.cons rfl (fun K hK => ?_) AllReadyH.nil
      go_simp
      refine hK.out _ _ (kS _ (below_st (below_st (below_st (below_st (below_st hb _ nf) _ nf) _ nf) _ na) _ na)) ?_
      intro hSd18
      clear hK K
      try simp only [Act.put, sIB, sZB, sSB]
      refine wpAnyH_ready (rs := [19]) (by kernel_rfl) (by simp) ?_
      refine AllReadyH.cons rfl (fun K hK => ?_) AllReadyH.nil
      go_simp
      refine hK.out _ _ (kS _ (below_st (below_st (below_st (below_st (below_st (below_st hb _ nf) _ nf) _ nf) _ na) _ na) _ ng)) ?_
      intro hSd19
      clear hK K
      try simp only [Act.put, sIB, sZB, sSB]
      refine wpAnyH_take (i := 20) (v := ?tv420) rfl (by kernel_rfl) (by kernel_rfl) (by kernel_rfl) (fun _ _ _ h => h) (Or.inl ⟨by rfl, ?th420⟩) (by assumption) ?tr420
      case th420 => (intro w hSw; (try dsimp only at hSw); go_simp; try with_reducible rfl)
      try simp only [Act.put, sIB, sZB, sSB]
      refine wpAnyH_done (by kernel_rfl) ?_ _
      exact ⟨bf, ba, bg, fa, fc, rfl, MvR.of (n1 := n1) (n2 := n2) Tf Ta Tg hb p1'.out p2'.out HP.out nf na ng q1 q2 q3 o1 o2 o3⟩
     refine wpAnyH_take (i := 0) (v := ?tv401) rfl (by kernel_rfl) (by kernel_rfl) (by kernel_rfl) (fun _ _ _ h => h) (Or.inl ⟨by rfl, ?th401⟩) (by assumption) ?tr401
     case th401 => (intro w hSw; (try dsimp only at hSw); go_simp; try with_reducible rfl)
     try simp only [Act.put, sIB, sZB, sSB]
     refine wpAnyH_take (i := 1) (v := ?tv402) rfl (by kernel_rfl) (by kernel_rfl) (by kernel_rfl) (fun _ _ _ h => h) (Or.inl ⟨by rfl, ?th402⟩) (by assumption) ?tr402
     case th402 => (intro w hSw; (try dsimp only at hSw); go_simp; try with_reducible rfl)
     try simp only [Act.put, sIB, sZB, sSB]
     refine wpAnyH_take (i := 2) (v := ?tv403) rfl (by kernel_rfl) (by kernel_rfl) (by kernel_rfl) (fun _ _ _ h => h) (Or.inl ⟨by rfl, ?th403⟩) (by assumption) ?tr403
     case th403 => (intro w hSw; (try dsimp only at hSw); go_simp; try with_reducible rfl)
     try simp only [Act.put, sIB, sZB, sSB]
     refine wpAnyH_take (i := 3) (v := ?tv404) rfl (by kernel_rfl) (by kernel_rfl) (by kernel_rfl) (fun _ _ _ h => h) (Or.inl ⟨by rfl, ?th404⟩) (by assumption) ?tr404
     case th404 => (intro w hSw; (try dsimp only at hSw); go_simp; try with_reducible rfl)
     try simp only [Act.put, sIB, sZB, sSB]
     refine wpAnyH_take (i := 4) (v := ?tv405) rfl (by kernel_rfl) (by kernel_rfl) (by kernel_rfl) (fun _ _ _ h => h) (Or.inl ⟨by rfl, ?th405⟩) (by assumption) ?tr405
     case th405 => (intro w hSw; (try dsimp only at hSw); go_simp; try with_reducible rfl)
     try simp only [Act.put, sIB, sZB, sSB]
     refine wpAnyH_take (i := 5) (v := ?tv406) rfl (by kernel_rfl) (by kernel_rfl) (by kernel_rfl) (fun _ _ _ h => h) (Or.inl ⟨by rfl, ?th406⟩) (by assumption) ?tr406
     case th406 => (intro w hSw; (try dsimp only at hSw); go_simp; try with_reducible rfl)
     try simp only [Act.put, sIB, sZB, sSB]
     refine wpAnyH_take (i := 6) (v := ?tv407) rfl (by kernel_rfl) (by kernel_rfl) (by kernel_rfl) (fun _ _ _ h => h) (Or.inl ⟨by rfl, ?th407⟩) (by assumption) ?tr407
     case th407 => (intro w hSw; (try dsimp only at hSw); go_simp; try with_reducible rfl)
     try simp only [Act.put, sIB, sZB, sSB]
     refine wpAnyH_take (i := 7) (v := ?tv408) rfl (by kernel_rfl) (by kernel_rfl) (by kernel_rfl) (fun _ _ _ h => h) (Or.inl ⟨by rfl, ?th408⟩) (by assumption) ?tr408
     case th408 => (intro w hSw; (try dsimp only at hSw); go_simp; try with_reducible rfl)
     try simp only [Act.put, sIB, sZB, sSB]
     refine wpAnyH_ready (rs := [8, 14, 15, 16]) (by kernel_rfl) (by simp) ?_
     refine AllReadyH.cons rfl (fun K hK => ?_) (AllReadyH.cons rfl (fun K hK => ?_) (AllReadyH.cons rfl (fun K hK => ?_) (AllReadyH.cons rfl (fun K hK => ?_) AllReadyH.nil)))
     · go_simp
       refine (hap _ (hPA.later (Below.drew (Below.refl w.heap.size w)))).mono ?_
       rintro e wc409 ⟨fa, fc, rfl, hPF, hbc409⟩
       have Bc409 : Below w.heap.size w wc409 := below_thru (Below.drew (Below.refl w.heap.size w)) hbc409
       have hSc409 := kS _ Bc409
       refine hK.out _ _ hSc409 ?_
       intro hSd409
       clear hK K
       try simp only [Act.put, sIB, sZB, sSB]
       refine wpAnyH_take (i := 9) (v := ?tv410) rfl (by kernel_rfl) (by kernel_rfl) (by kernel_rfl) (fun _ _ _ h => h) (Or.inl ⟨by rfl, ?th410⟩) (by assumption) ?tr410
       case th410 => (intro w hSw; (try dsimp only at hSw); go_simp; try with_reducible rfl)
       try simp only [Act.put, sIB, sZB, sSB]
       refine wpAnyH_take (i := 10) (v := ?tv411) rfl (by kernel_rfl) (by kernel_rfl) (by kernel_rfl) (fun _ _ _ h => h) (Or.inl ⟨by rfl, ?th411⟩) (by assumption) ?tr411
       case th411 => (intro w hSw; (try dsimp only at hSw); go_simp; try with_reducible rfl)
       try simp only [Act.put, sIB, sZB, sSB]
       refine wpAnyH_take (i := 11) (v := ?tv412) rfl (by kernel_rfl) (by kernel_rfl) (by kernel_rfl) (fun _ _ _ h => h) (Or.inl ⟨by rfl, ?th412⟩) (by assumption) ?tr412
       case th412 => (intro w hSw; (try dsimp only at hSw); go_simp; try with_reducible rfl)
       try simp only [Act.put, sIB, sZB, sSB]
       refine wpAnyH_take (i := 12) (v := ?tv413) rfl (by kernel_rfl) (by kernel_rfl) (by kernel_rfl) (fun _ _ _ h => h) (Or.inl ⟨by rfl, ?th413⟩) (by assumption) ?tr413
       case th413 => (intro w hSw; (try dsimp only at hSw); go_simp; try with_reducible rfl)
       try simp only [Act.put, sIB, sZB, sSB]
       refine wpAnyH_take (i := 13) (v := ?tv414) rfl (by kernel_rfl) (by kernel_rfl) (by kernel_rfl) (fun _ _ _ h => h) (Or.inl ⟨by rfl, ?th414⟩) (by assumption) ?tr414
       case th414 => (intro w hSw; (try dsimp only at hSw); go_simp; try with_reducible rfl)
       try simp only [Act.put, sIB, sZB, sSB]
       refine wpAnyH_ready (rs := [14, 15, 16]) (by kernel_rfl) (by simp) ?_
       refine AllReadyH.cons rfl (fun K hK => ?_) (AllReadyH.cons rfl (fun K hK => ?_) (AllReadyH.cons rfl (fun K hK => ?_) AllReadyH.nil))
       · go_simp
         have Bc415 := below_al Bc409 (.cells #[.int .i64 0, .int .i64 0, .slice none 0 0] 27)
         have hSc415 := kS _ Bc415
         refine hK.out _ _ hSc415 ?_
         intro hSd415
         clear hK K
         try simp only [Act.put, sIB, sZB, sSB]
         refine wpAnyH_ready (rs := [15, 16]) (by kernel_rfl) (by simp) ?_
         refine AllReadyH.cons rfl (fun K hK => ?_) (AllReadyH.cons rfl (fun K hK => ?_) AllReadyH.nil)
         · go_simp
           have Bc416 := below_al Bc415 (.cells #[.int .i64 0, .int .i64 0] 60)
           have hSc416 := kS _ Bc416
           refine hK.out _ _ hSc416 ?_
           intro hSd416
           clear hK K
           try simp only [Act.put, sIB, sZB, sSB]
           refine wpAnyH_ready (rs := [16]) (by kernel_rfl) (by simp) ?_
           refine AllReadyH.cons rfl (fun K hK => ?_) AllReadyH.nil
           go_simp
           have Bc417 := below_al Bc416 (.cells #[.int .i64 0] 3)
           have hSc417 := kS _ Bc417
           refine hK.out _ _ hSc417 ?_
           intro hSd417
           clear hK K
           try simp only [Act.put, sIB, sZB, sSB]
           have hn1 := Nat.le_trans (show w.heap.size ≤ _ from Nat.le_of_eq (by first | rfl | (simp; done))) (Below.size hbc409)
           have hPG : PgIn (fun b => w.heap.size ≤ b ∧ b < wc409.heap.size) wc409 fa r.pages := fun w2 h1 h2 => hPF w2 h1 fun b q1 q2 => h2 b ⟨Nat.le_trans (Nat.le_of_eq (by first | rfl | (simp; done))) q1, q2⟩ q2
           have hMB : MvB w _ wc409.heap.size (wc409.heap.size + 1) (wc409.heap.size + 1 + 1) fa r := ⟨(((TB.new2 (w := wc409) (by first | rfl | (simp; done))).alloc _).alloc _), ((TB.new2 (w := (wc409.alloc (.cells #[.int .i64 0, .int .i64 0, .slice none 0 0] 27))) (by first | rfl | (simp; done))).alloc _), (TB.new2 (w := ((wc409.alloc (.cells #[.int .i64 0, .int .i64 0, .slice none 0 0] 27)).alloc (.cells #[.int .i64 0, .int .i64 0] 60))) (by first | rfl | (simp; done))), Bc417, by omega, by omega, by omega, by omega, by omega, by omega, ⟨w.heap.size, wc409.heap.size, by omega, by first | exact Nat.le_refl _ | (simp; done) | (simp; omega), by omega, by omega, by omega, (((hPG.al _).al _).al _)⟩⟩
           exact hrest.out (wc409.heap.size, (wc409.heap.size + 1), (wc409.heap.size + 1 + 1), fa, fc) _ hMB
         · go_simp
           have Bc418 := below_al Bc415 (.cells #[.int .i64 0] 3)
           have hSc418 := kS _ Bc418
           refine hK.out _ _ hSc418 ?_
           intro hSd418
           clear hK K
           try simp only [Act.put, sIB, sZB, sSB]
           refine wpAnyH_ready (rs := [15]) (by kernel_rfl) (by simp) ?_
           refine AllReadyH.cons rfl (fun K hK => ?_) AllReadyH.nil
           go_simp
           have Bc419 := below_al Bc418 (.cells #[.int .i64 0, .int .i64 0] 60)
           have hSc419 := kS _ Bc419
           refine hK.out _ _ hSc419 ?_
           intro hSd419
           clear hK K
           try simp only [Act.put, sIB, sZB, sSB]
           have hn1 := Nat.le_trans (show w.heap.size ≤ _ from Nat.le_of_eq (by first | rfl | (simp; done))) (Below.size hbc409)
           have hPG : PgIn (fun b => w.heap.size ≤ b ∧ b < wc409.heap.size) wc409 fa r.pages := fun w2 h1 h2 => hPF w2 h1 fun b q1 q2 => h2 b ⟨Nat.le_trans (Nat.le_of_eq (by first | rfl | (simp; done))) q1, q2⟩ q2
           have hMB : MvB w _ wc409.heap.size (wc409.heap.size + 1 + 1) (wc409.heap.size + 1) fa r := ⟨(((TB.new2 (w := wc409) (by first | rfl | (simp; done))).alloc _).alloc _), (TB.new2 (w := ((wc409.alloc (.cells #[.int .i64 0, .int .i64 0, .slice none 0 0] 27)).alloc (.cells #[.int .i64 0] 3))) (by first | rfl | (simp; done))), ((TB.new2 (w := (wc409.alloc (.cells #[.int .i64 0, .int .i64 0, .slice none 0 0] 27))) (by first | rfl | (simp; done))).alloc _), Bc419, by omega, by omega, by omega, by omega, by omega, by omega, ⟨w.heap.size, wc409.heap.size, by omega, by first | exact Nat.le_refl _ | (simp; done) | (simp; omega), by omega, by omega, by omega, (((hPG.al _).al _).al _)⟩⟩
           exact hrest.out (wc409.heap.size, (wc409.heap.size + 1 + 1), (wc409.heap.size + 1), fa, fc) _ hMB
       · go_simp
         have Bc420 := below_al Bc409 (.cells #[.int .i64 0, .int .i64 0] 60)
         have hSc420 := kS _ Bc420
         refine hK.out _ _ hSc420 ?_
         intro hSd420
         clear hK K
         try simp only [Act.put, sIB, sZB, sSB]
         refine wpAnyH_ready (rs := [14, 16]) (by kernel_rfl) (by simp) ?_
         refine AllReadyH.cons rfl (fun K hK => ?_) (AllReadyH.cons rfl (fun K hK => ?_) AllReadyH.nil)
         · go_simp
           have Bc421 := below_al Bc420 (.cells #[.int .i64 0, .int .i64 0, .slice none 0 0] 27)
           have hSc421 := kS _ Bc421
           refine hK.out _ _ hSc421 ?_
           intro hSd421
           clear hK K
           try simp only [Act.put, sIB, sZB, sSB]
           refine wpAnyH_ready (rs := [16]) (by kernel_rfl) (by simp) ?_
           refine AllReadyH.cons rfl (fun K hK => ?_) AllReadyH.nil
           go_simp
           have Bc422 := below_al Bc421 (.cells #[.int .i64 0] 3)
           have hSc422 := kS _ Bc422
           refine hK.out _ _ hSc422 ?_
           intro hSd422
           clear hK K
           try simp only [Act.put, sIB, sZB, sSB]
           have hn1 := Nat.le_trans (show w.heap.size ≤ _ from Nat.le_of_eq (by first | rfl | (simp; done))) (Below.size hbc409)
           have hPG : PgIn (fun b => w.heap.size ≤ b ∧ b < wc409.heap.size) wc409 fa r.pages := fun w2 h1 h2 => hPF w2 h1 fun b q1 q2 => h2 b ⟨Nat.le_trans (Nat.le_of_eq (by first | rfl | (simp; done))) q1, q2⟩ q2
           have hMB : MvB w _ (wc409.heap.size + 1) wc409.heap.size (wc409.heap.size + 1 + 1) fa r := ⟨((TB.new2 (w := (wc409.alloc (.cells #[.int .i64 0, .int .i64 0] 60))) (by first | rfl | (simp; done))).alloc _), (((TB.new2 (w := wc409) (by first | rfl | (simp; done))).alloc _).alloc _), (TB.new2 (w := ((wc409.alloc (.cells #[.int .i64 0, .int .i64 0] 60)).alloc (.cells #[.int .i64 0, .int .i64 0, .slice none 0 0] 27))) (by first | rfl | (simp; done))), Bc422, by omega, by omega, by omega, by omega, by omega, by omega, ⟨w.heap.size, wc409.heap.size, by omega, by first | exact Nat.le_refl _ | (simp; done) | (simp; omega), by omega, by omega, by omega, (((hPG.al _).al _).al _)⟩⟩
           exact hrest.out ((wc409.heap.size + 1), wc409.heap.size, (wc409.heap.size + 1 + 1), fa, fc) _ hMB
         · go_simp
           have Bc423 := below_al Bc420 (.cells #[.int .i64 0] 3)
           have hSc423 := kS _ Bc423
           refine hK.out _ _ hSc423 ?_
           intro hSd423
           clear hK K
           try simp only [Act.put, sIB, sZB, sSB]
           refine wpAnyH_ready (rs := [14]) (by kernel_rfl) (by simp) ?_
           refine AllReadyH.cons rfl (fun K hK => ?_) AllReadyH.nil
           go_simp
           have Bc424 := below_al Bc423 (.cells #[.int .i64 0, .int .i64 0, .slice none 0 0] 27)
           have hSc424 := kS _ Bc424
           refine hK.out _ _ hSc424 ?_
           intro hSd424
           clear hK K
           try simp only [Act.put, sIB, sZB, sSB]
           have hn1 := Nat.le_trans (show w.heap.size ≤ _ from Nat.le_of_eq (by first | rfl | (simp; done))) (Below.size hbc409)
           have hPG : PgIn (fun b => w.heap.size ≤ b ∧ b < wc409.heap.size) wc409 fa r.pages := fun w2 h1 h2 => hPF w2 h1 fun b q1 q2 => h2 b ⟨Nat.le_trans (Nat.le_of_eq (by first | rfl | (simp; done))) q1, q2⟩ q2
           have hMB : MvB w _ (wc409.heap.size + 1 + 1) wc409.heap.size (wc409.heap.size + 1) fa r := ⟨(TB.new2 (w := ((wc409.alloc (.cells #[.int .i64 0, .int .i64 0] 60)).alloc (.cells #[.int .i64 0] 3))) (by first | rfl | (simp; done))), (((TB.new2 (w := wc409) (by first | rfl | (simp; done))).alloc _).alloc _), ((TB.new2 (w := (wc409.alloc (.cells #[.int .i64 0, .int .i64 0] 60))) (by first | rfl | (simp; done))).alloc _), Bc424, by omega, by omega, by omega, by omega, by omega, by omega, ⟨w.heap.size, wc409.heap.size, by omega, by first | exact Nat.le_refl _ | (simp; done) | (simp; omega), by omega, by omega, by omega, (((hPG.al _).al _).al _)⟩⟩
           exact hrest.out ((wc409.heap.size + 1 + 1), wc409.heap.size, (wc409.heap.size + 1), fa, fc) _ hMB
       · go_simp
         have Bc425 := below_al Bc409 (.cells #[.int .i64 0] 3)
         have hSc425 := kS _ Bc425
         refine hK.out _ _ hSc425 ?_
         intro hSd425
         clear hK K
         try simp only [Act.put, sIB, sZB, sSB]
         refine wpAnyH_ready (rs := [14, 15]) (by kernel_rfl) (by simp) ?_
         refine AllReadyH.cons rfl (fun K hK => ?_) (AllReadyH.cons rfl (fun K hK => ?_) AllReadyH.nil)
         · go_simp
           have Bc426 := below_al Bc425 (.cells #[.int .i64 0, .int .i64 0, .slice none 0 0] 27)
           have hSc426 := kS _ Bc426
           refine hK.out _ _ hSc426 ?_
           intro hSd426
           clear hK K
           try simp only [Act.put, sIB, sZB, sSB]
           refine wpAnyH_ready (rs := [15]) (by kernel_rfl) (by simp) ?_
           refine AllReadyH.cons rfl (fun K hK => ?_) AllReadyH.nil
           go_simp
           have Bc427 := below_al Bc426 (.cells #[.int .i64 0, .int .i64 0] 60)
           have hSc427 := kS _ Bc427
           refine hK.out _ _ hSc427 ?_
           intro hSd427
           clear hK K
           try simp only [Act.put, sIB, sZB, sSB]
           have hn1 := Nat.le_trans (show w.heap.size ≤ _ from Nat.le_of_eq (by first | rfl | (simp; done))) (Below.size hbc409)
           have hPG : PgIn (fun b => w.heap.size ≤ b ∧ b < wc409.heap.size) wc409 fa r.pages := fun w2 h1 h2 => hPF w2 h1 fun b q1 q2 => h2 b ⟨Nat.le_trans (Nat.le_of_eq (by first | rfl | (simp; done))) q1, q2⟩ q2
           have hMB : MvB w _ (wc409.heap.size + 1) (wc409.heap.size + 1 + 1) wc409.heap.size fa r := ⟨((TB.new2 (w := (wc409.alloc (.cells #[.int .i64 0] 3))) (by first | rfl | (simp; done))).alloc _), (TB.new2 (w := ((wc409.alloc (.cells #[.int .i64 0] 3)).alloc (.cells #[.int .i64 0, .int .i64 0, .slice none 0 0] 27))) (by first | rfl | (simp; done))), (((TB.new2 (w := wc409) (by first | rfl | (simp; done))).alloc _).alloc _), Bc427, by omega, by omega, by omega, by omega, by omega, by omega, ⟨w.heap.size, wc409.heap.size, by omega, by first | exact Nat.le_refl _ | (simp; done) | (simp; omega), by omega, by omega, by omega, (((hPG.al _).al _).al _)⟩⟩
           exact hrest.out ((wc409.heap.size + 1), (wc409.heap.size + 1 + 1), wc409.heap.size, fa, fc) _ hMB
         · go_simp
           have Bc428 := below_al Bc425 (.cells #[.int .i64 0, .int .i64 0] 60)
           have hSc428 := kS _ Bc428
           refine hK.out _ _ hSc428 ?_
           intro hSd428
           clear hK K
           try simp only [Act.put, sIB, sZB, sSB]
           refine wpAnyH_ready (rs := [14]) (by kernel_rfl) (by simp) ?_
           refine AllReadyH.cons rfl (fun K hK => ?_) AllReadyH.nil
           go_simp
           have Bc429 := below_al Bc428 (.cells #[.int .i64 0, .int .i64 0, .slice none 0 0] 27)
           have hSc429 := kS _ Bc429
           refine hK.out _ _ hSc429 ?_
           intro hSd429
           clear hK K
           try simp only [Act.put, sIB, sZB, sSB]
           have hn1 := Nat.le_trans (show w.heap.size ≤ _ from Nat.le_of_eq (by first | rfl | (simp; done))) (Below.size hbc409)
           have hPG : PgIn (fun b => w.heap.size ≤ b ∧ b < wc409.heap.size) wc409 fa r.pages := fun w2 h1 h2 => hPF w2 h1 fun b q1 q2 => h2 b ⟨Nat.le_trans (Nat.le_of_eq (by first | rfl | (simp; done))) q1, q2⟩ q2
           have hMB : MvB w _ (wc409.heap.size + 1 + 1) (wc409.heap.size + 1) wc409.heap.size fa r := ⟨(TB.new2 (w := ((wc409.alloc (.cells #[.int .i64 0] 3)).alloc (.cells #[.int .i64 0, .int .i64 0] 60))) (by first | rfl | (simp; done))), ((TB.new2 (w := (wc409.alloc (.cells #[.int .i64 0] 3))) (by first | rfl | (simp; done))).alloc _), (((TB.new2 (w := wc409) (by first | rfl | (simp; done))).alloc _).alloc _), Bc429, by omega, by omega, by omega, by omega, by omega, by omega, ⟨w.heap.size, wc409.heap.size, by omega, by first | exact Nat.le_refl _ | (simp; done) | (simp; omega), by omega, by omega, by omega, (((hPG.al _).al _).al _)⟩⟩
           exact hrest.out ((wc409.heap.size + 1 + 1), (wc409.heap.size + 1), wc409.heap.size, fa, fc) _ hMB
     · go_simp
       have Bc430 := below_al (Below.drew (Below.refl w.heap.size w)) (.cells #[.int .i64 0, .int .i64 0, .slice none 0 0] 27)
       have hSc430 := kS _ Bc430
       refine hK.out _ _ hSc430 ?_
       intro hSd430
       clear hK K
       try simp only [Act.put, sIB, sZB, sSB]
       refine wpAnyH_ready (rs := [8, 15, 16]) (by kernel_rfl) (by simp) ?_
       refine AllReadyH.cons rfl (fun K hK => ?_) (AllReadyH.cons rfl (fun K hK => ?_) (AllReadyH.cons rfl (fun K hK => ?_) AllReadyH.nil))
       · go_simp
         refine (hap _ (hPA.later Bc430)).mono ?_
         rintro e wc431 ⟨fa, fc, rfl, hPF, hbc431⟩
         have Bc431 : Below w.heap.size w wc431 := below_thru Bc430 hbc431
         have hSc431 := kS _ Bc431
         refine hK.out _ _ hSc431 ?_
         intro hSd431
         clear hK K
         try simp only [Act.put, sIB, sZB, sSB]
         refine wpAnyH_take (i := 9) (v := ?tv432) rfl (by kernel_rfl) (by kernel_rfl) (by kernel_rfl) (fun _ _ _ h => h) (Or.inl ⟨by rfl, ?th432⟩) (by assumption) ?tr432
         case th432 => (intro w hSw; (try dsimp only at hSw); go_simp; try with_reducible rfl)
         try simp only [Act.put, sIB, sZB, sSB]
         refine wpAnyH_take (i := 10) (v := ?tv433) rfl (by kernel_rfl) (by kernel_rfl) (by kernel_rfl) (fun _ _ _ h => h) (Or.inl ⟨by rfl, ?th433⟩) (by assumption) ?tr433
         case th433 => (intro w hSw; (try dsimp only at hSw); go_simp; try with_reducible rfl)
         try simp only [Act.put, sIB, sZB, sSB]
         refine wpAnyH_take (i := 11) (v := ?tv434) rfl (by kernel_rfl) (by kernel_rfl) (by kernel_rfl) (fun _ _ _ h => h) (Or.inl ⟨by rfl, ?th434⟩) (by assumption) ?tr434
         case th434 => (intro w hSw; (try dsimp only at hSw); go_simp; try with_reducible rfl)
         try simp only [Act.put, sIB, sZB, sSB]
         refine wpAnyH_take (i := 12) (v := ?tv435) rfl (by kernel_rfl) (by kernel_rfl) (by kernel_rfl) (fun _ _ _ h => h) (Or.inl ⟨by rfl, ?th435⟩) (by assumption) ?tr435
         case th435 => (intro w hSw; (try dsimp only at hSw); go_simp; try with_reducible rfl)
         try simp only [Act.put, sIB, sZB, sSB]
         refine wpAnyH_take (i := 13) (v := ?tv436) rfl (by kernel_rfl) (by kernel_rfl) (by kernel_rfl) (fun _ _ _ h => h) (Or.inl ⟨by rfl, ?th436⟩) (by assumption) ?tr436
         case th436 => (intro w hSw; (try dsimp only at hSw); go_simp; try with_reducible rfl)
         try simp only [Act.put, sIB, sZB, sSB]
         refine wpAnyH_ready (rs := [15, 16]) (by kernel_rfl) (by simp) ?_
         refine AllReadyH.cons rfl (fun K hK => ?_) (AllReadyH.cons rfl (fun K hK => ?_) AllReadyH.nil)
         · go_simp
           have Bc437 := below_al Bc431 (.cells #[.int .i64 0, .int .i64 0] 60)
           have hSc437 := kS _ Bc437
           refine hK.out _ _ hSc437 ?_
           intro hSd437
           clear hK K
           try simp only [Act.put, sIB, sZB, sSB]
           refine wpAnyH_ready (rs := [16]) (by kernel_rfl) (by simp) ?_
           refine AllReadyH.cons rfl (fun K hK => ?_) AllReadyH.nil
           go_simp
           have Bc438 := below_al Bc437 (.cells #[.int .i64 0] 3)
           have hSc438 := kS _ Bc438
           refine hK.out _ _ hSc438 ?_
           intro hSd438
           clear hK K
           try simp only [Act.put, sIB, sZB, sSB]
           have hn1 := Nat.le_trans (show (w.heap.size + 1) ≤ _ from Nat.le_of_eq (by first | rfl | (simp; done))) (Below.size hbc431)
           have hPG : PgIn (fun b => (w.heap.size + 1) ≤ b ∧ b < wc431.heap.size) wc431 fa r.pages := fun w2 h1 h2 => hPF w2 h1 fun b q1 q2 => h2 b ⟨Nat.le_trans (Nat.le_of_eq (by first | rfl | (simp; done))) q1, q2⟩ q2
           have hMB : MvB w _ w.heap.size wc431.heap.size (wc431.heap.size + 1) fa r := ⟨((((TB.new2 (w := w.drew) (by first | rfl | (simp; done))).later hbc431).alloc _).alloc _), ((TB.new2 (w := wc431) (by first | rfl | (simp; done))).alloc _), (TB.new2 (w := (wc431.alloc (.cells #[.int .i64 0, .int .i64 0] 60))) (by first | rfl | (simp; done))), Bc438, by omega, by omega, by omega, by omega, by omega, by omega, ⟨(w.heap.size + 1), wc431.heap.size, by omega, by first | exact Nat.le_refl _ | (simp; done) | (simp; omega), by omega, by omega, by omega, ((hPG.al _).al _)⟩⟩
           exact hrest.out (w.heap.size, wc431.heap.size, (wc431.heap.size + 1), fa, fc) _ hMB
         · go_simp
           have Bc439 := below_al Bc431 (.cells #[.int .i64 0] 3)
           have hSc439 := kS _ Bc439
           refine hK.out _ _ hSc439 ?_
           intro hSd439
           clear hK K
           try simp only [Act.put, sIB, sZB, sSB]
           refine wpAnyH_ready (rs := [15]) (by kernel_rfl) (by simp) ?_
           refine AllReadyH.cons rfl (fun K hK => ?_) AllReadyH.nil
           go_simp
           have Bc440 := below_al Bc439 (.cells #[.int .i64 0, .int .i64 0] 60)
           have hSc440 := kS _ Bc440
           refine hK.out _ _ hSc440 ?_
           intro hSd440
           clear hK K
           try simp only [Act.put, sIB, sZB, sSB]
           have hn1 := Nat.le_trans (show (w.heap.size + 1) ≤ _ from Nat.le_of_eq (by first | rfl | (simp; done))) (Below.size hbc431)
           have hPG : PgIn (fun b => (w.heap.size + 1) ≤ b ∧ b < wc431.heap.size) wc431 fa r.pages := fun w2 h1 h2 => hPF w2 h1 fun b q1 q2 => h2 b ⟨Nat.le_trans (Nat.le_of_eq (by first | rfl | (simp; done))) q1, q2⟩ q2
           have hMB : MvB w _ w.heap.size (wc431.heap.size + 1) wc431.heap.size fa r := ⟨((((TB.new2 (w := w.drew) (by first | rfl | (simp; done))).later hbc431).alloc _).alloc _), (TB.new2 (w := (wc431.alloc (.cells #[.int .i64 0] 3))) (by first | rfl | (simp; done))), ((TB.new2 (w := wc431) (by first | rfl | (simp; done))).alloc _), Bc440, by omega, by omega, by omega, by omega, by omega, by omega, ⟨(w.heap.size + 1), wc431.heap.size, by omega, by first | exact Nat.le_refl _ | (simp; done) | (simp; omega), by omega, by omega, by omega, ((hPG.al _).al _)⟩⟩
           exact hrest.out (w.heap.size, (wc431.heap.size + 1), wc431.heap.size, fa, fc) _ hMB
       · go_simp
         have Bc441 := below_al Bc430 (.cells #[.int .i64 0, .int .i64 0] 60)
         have hSc441 := kS _ Bc441
         refine hK.out _ _ hSc441 ?_
         intro hSd441
         clear hK K
         try simp only [Act.put, sIB, sZB, sSB]
         refine wpAnyH_ready (rs := [8, 16]) (by kernel_rfl) (by simp) ?_
         refine AllReadyH.cons rfl (fun K hK => ?_) (AllReadyH.cons rfl (fun K hK => ?_) AllReadyH.nil)
         · go_simp
           refine (hap _ (hPA.later Bc441)).mono ?_
           rintro e wc442 ⟨fa, fc, rfl, hPF, hbc442⟩
           have Bc442 : Below w.heap.size w wc442 := below_thru Bc441 hbc442
           have hSc442 := kS _ Bc442
           refine hK.out _ _ hSc442 ?_
           intro hSd442
           clear hK K
           try simp only [Act.put, sIB, sZB, sSB]
           refine wpAnyH_take (i := 9) (v := ?tv443) rfl (by kernel_rfl) (by kernel_rfl) (by kernel_rfl) (fun _ _ _ h => h) (Or.inl ⟨by rfl, ?th443⟩) (by assumption) ?tr443
           case th443 => (intro w hSw; (try dsimp only at hSw); go_simp; try with_reducible rfl)
           try simp only [Act.put, sIB, sZB, sSB]
           refine wpAnyH_take (i := 10) (v := ?tv444) rfl (by kernel_rfl) (by kernel_rfl) (by kernel_rfl) (fun _ _ _ h => h) (Or.inl ⟨by rfl, ?th444⟩) (by assumption) ?tr444
           case th444 => (intro w hSw; (try dsimp only at hSw); go_simp; try with_reducible rfl)
           try simp only [Act.put, sIB, sZB, sSB]
           refine wpAnyH_take (i := 11) (v := ?tv445) rfl (by kernel_rfl) (by kernel_rfl) (by kernel_rfl) (fun _ _ _ h => h) (Or.inl ⟨by rfl, ?th445⟩) (by assumption) ?tr445
           case th445 => (intro w hSw; (try dsimp only at hSw); go_simp; try with_reducible rfl)
           try simp only [Act.put, sIB, sZB, sSB]
           refine wpAnyH_take (i := 12) (v := ?tv446) rfl (by kernel_rfl) (by kernel_rfl) (by kernel_rfl) (fun _ _ _ h => h) (Or.inl ⟨by rfl, ?th446⟩) (by assumption) ?tr446
           case th446 => (intro w hSw; (try dsimp only at hSw); go_simp; try with_reducible rfl)
           try simp only [Act.put, sIB, sZB, sSB]
           refine wpAnyH_take (i := 13) (v := ?tv447) rfl (by kernel_rfl) (by kernel_rfl) (by kernel_rfl) (fun _ _ _ h => h) (Or.inl ⟨by rfl, ?th447⟩) (by assumption) ?tr447
           case th447 => (intro w hSw; (try dsimp only at hSw); go_simp; try with_reducible rfl)
           try simp only [Act.put, sIB, sZB, sSB]
           refine wpAnyH_ready (rs := [16]) (by kernel_rfl) (by simp) ?_
           refine AllReadyH.cons rfl (fun K hK => ?_) AllReadyH.nil
           go_simp
           have Bc448 := below_al Bc442 (.cells #[.int .i64 0] 3)
           have hSc448 := kS _ Bc448
           refine hK.out _ _ hSc448 ?_
           intro hSd448
           clear hK K
           try simp only [Act.put, sIB, sZB, sSB]
           have hn1 := Nat.le_trans (show (w.heap.size + 1 + 1) ≤ _ from Nat.le_of_eq (by first | rfl | (simp; done))) (Below.size hbc442)
           have hPG : PgIn (fun b => (w.heap.size + 1 + 1) ≤ b ∧ b < wc442.heap.size) wc442 fa r.pages := fun w2 h1 h2 => hPF w2 h1 fun b q1 q2 => h2 b ⟨Nat.le_trans (Nat.le_of_eq (by first | rfl | (simp; done))) q1, q2⟩ q2
           have hMB : MvB w _ w.heap.size (w.heap.size + 1) wc442.heap.size fa r := ⟨((((TB.new2 (w := w.drew) (by first | rfl | (simp; done))).alloc _).later hbc442).alloc _), (((TB.new2 (w := (w.drew.alloc (.cells #[.int .i64 0, .int .i64 0, .slice none 0 0] 27))) (by first | rfl | (simp; done))).later hbc442).alloc _), (TB.new2 (w := wc442) (by first | rfl | (simp; done))), Bc448, by omega, by omega, by omega, by omega, by omega, by omega, ⟨(w.heap.size + 1 + 1), wc442.heap.size, by omega, by first | exact Nat.le_refl _ | (simp; done) | (simp; omega), by omega, by omega, by omega, (hPG.al _)⟩⟩
           exact hrest.out (w.heap.size, (w.heap.size + 1), wc442.heap.size, fa, fc) _ hMB
         · go_simp
           have Bc449 := below_al Bc441 (.cells #[.int .i64 0] 3)
           have hSc449 := kS _ Bc449
           refine hK.out _ _ hSc449 ?_
           intro hSd449
           clear hK K
           try simp only [Act.put, sIB, sZB, sSB]
           refine wpAnyH_ready (rs := [8]) (by kernel_rfl) (by simp) ?_
           refine AllReadyH.cons rfl (fun K hK => ?_) AllReadyH.nil
           go_simp
           refine (hap _ (hPA.later Bc449)).mono ?_
           rintro e wc450 ⟨fa, fc, rfl, hPF, hbc450⟩
           have Bc450 : Below w.heap.size w wc450 := below_thru Bc449 hbc450
           have hSc450 := kS _ Bc450
           refine hK.out _ _ hSc450 ?_
           intro hSd450
           clear hK K
           try simp only [Act.put, sIB, sZB, sSB]
           refine wpAnyH_take (i := 9) (v := ?tv451) rfl (by kernel_rfl) (by kernel_rfl) (by kernel_rfl) (fun _ _ _ h => h) (Or.inl ⟨by rfl, ?th451⟩) (by assumption) ?tr451
           case th451 => (intro w hSw; (try dsimp only at hSw); go_simp; try with_reducible rfl)
           try simp only [Act.put, sIB, sZB, sSB]
           refine wpAnyH_take (i := 10) (v := ?tv452) rfl (by kernel_rfl) (by kernel_rfl) (by kernel_rfl) (fun _ _ _ h => h) (Or.inl ⟨by rfl, ?th452⟩) (by assumption) ?tr452
           case th452 => (intro w hSw; (try dsimp only at hSw); go_simp; try with_reducible rfl)
           try simp only [Act.put, sIB, sZB, sSB]
           refine wpAnyH_take (i := 11) (v := ?tv453) rfl (by kernel_rfl) (by kernel_rfl) (by kernel_rfl) (fun _ _ _ h => h) (Or.inl ⟨by rfl, ?th453⟩) (by assumption) ?tr453
           case th453 => (intro w hSw; (try dsimp only at hSw); go_simp; try with_reducible rfl)
           try simp only [Act.put, sIB, sZB, sSB]
           refine wpAnyH_take (i := 12) (v := ?tv454) rfl (by kernel_rfl) (by kernel_rfl) (by kernel_rfl) (fun _ _ _ h => h) (Or.inl ⟨by rfl, ?th454⟩) (by assumption) ?tr454
           case th454 => (intro w hSw; (try dsimp only at hSw); go_simp; try with_reducible rfl)
           try simp only [Act.put, sIB, sZB, sSB]
           refine wpAnyH_take (i := 13) (v := ?tv455) rfl (by kernel_rfl) (by kernel_rfl) (by kernel_rfl) (fun _ _ _ h => h) (Or.inl ⟨by rfl, ?th455⟩) (by assumption) ?tr455
           case th455 => (intro w hSw; (try dsimp only at hSw); go_simp; try with_reducible rfl)
           try simp only [Act.put, sIB, sZB, sSB]
           have hn1 := Nat.le_trans (show (w.heap.size + 1 + 1 + 1) ≤ _ from Nat.le_of_eq (by first | rfl | (simp; done))) (Below.size hbc450)
           have hPG : PgIn (fun b => (w.heap.size + 1 + 1 + 1) ≤ b ∧ b < wc450.heap.size) wc450 fa r.pages := fun w2 h1 h2 => hPF w2 h1 fun b q1 q2 => h2 b ⟨Nat.le_trans (Nat.le_of_eq (by first | rfl | (simp; done))) q1, q2⟩ q2
           have hMB : MvB w _ w.heap.size (w.heap.size + 1) (w.heap.size + 1 + 1) fa r := ⟨((((TB.new2 (w := w.drew) (by first | rfl | (simp; done))).alloc _).alloc _).later hbc450), (((TB.new2 (w := (w.drew.alloc (.cells #[.int .i64 0, .int .i64 0, .slice none 0 0] 27))) (by first | rfl | (simp; done))).alloc _).later hbc450), ((TB.new2 (w := ((w.drew.alloc (.cells #[.int .i64 0, .int .i64 0, .slice none 0 0] 27)).alloc (.cells #[.int .i64 0, .int .i64 0] 60))) (by first | rfl | (simp; done))).later hbc450), Bc450, by omega, by omega, by omega, by omega, by omega, by omega, ⟨(w.heap.size + 1 + 1 + 1), wc450.heap.size, by omega, by first | exact Nat.le_refl _ | (simp; done) | (simp; omega), by omega, by omega, by omega, hPG⟩⟩
           exact hrest.out (w.heap.size, (w.heap.size + 1), (w.heap.size + 1 + 1), fa, fc) _ hMB
       · go_simp
         have Bc456 := below_al Bc430 (.cells #[.int .i64 0] 3)
         have hSc456 := kS _ Bc456
         refine hK.out _ _ hSc456 ?_
         intro hSd456
         clear hK K
         try simp only [Act.put, sIB, sZB, sSB]
         refine wpAnyH_ready (rs := [8, 15]) (by kernel_rfl) (by simp) ?_
         refine AllReadyH.cons rfl (fun K hK => ?_) (AllReadyH.cons rfl (fun K hK => ?_) AllReadyH.nil)
         · go_simp
           refine (hap _ (hPA.later Bc456)).mono ?_
           rintro e wc457 ⟨fa, fc, rfl, hPF, hbc457⟩
           have Bc457 : Below w.heap.size w wc457 := below_thru Bc456 hbc457
           have hSc457 := kS _ Bc457
           refine hK.out _ _ hSc457 ?_
           intro hSd457
           clear hK K
           try simp only [Act.put, sIB, sZB, sSB]
           refine wpAnyH_take (i := 9) (v := ?tv458) rfl (by kernel_rfl) (by kernel_rfl) (by kernel_rfl) (fun _ _ _ h => h) (Or.inl ⟨by rfl, ?th458⟩) (by assumption) ?tr458
           case th458 => (intro w hSw; (try dsimp only at hSw); go_simp; try with_reducible rfl)
           try simp only [Act.put, sIB, sZB, sSB]
           refine wpAnyH_take (i := 10) (v := ?tv459) rfl (by kernel_rfl) (by kernel_rfl) (by kernel_rfl) (fun _ _ _ h => h) (Or.inl ⟨by rfl, ?th459⟩) (by assumption) ?tr459
           case th459 => (intro w hSw; (try dsimp only at hSw); go_simp; try with_reducible rfl)
           try simp only [Act.put, sIB, sZB, sSB]
           refine wpAnyH_take (i := 11) (v := ?tv460) rfl (by kernel_rfl) (by kernel_rfl) (by kernel_rfl) (fun _ _ _ h => h) (Or.inl ⟨by rfl, ?th460⟩) (by assumption) ?tr460
           case th460 => (intro w hSw; (try dsimp only at hSw); go_simp; try with_reducible rfl)
           try simp only [Act.put, sIB, sZB, sSB]
           refine wpAnyH_take (i := 12) (v := ?tv461) rfl (by kernel_rfl) (by kernel_rfl) (by kernel_rfl) (fun _ _ _ h => h) (Or.inl ⟨by rfl, ?th461⟩) (by assumption) ?tr461
           case th461 => (intro w hSw; (try dsimp only at hSw); go_simp; try with_reducible rfl)
           try simp only [Act.put, sIB, sZB, sSB]
           refine wpAnyH_take (i := 13) (v := ?tv462) rfl (by kernel_rfl) (by kernel_rfl) (by kernel_rfl) (fun _ _ _ h => h) (Or.inl ⟨by rfl, ?th462⟩) (by assumption) ?tr462
           case th462 => (intro w hSw; (try dsimp only at hSw); go_simp; try with_reducible rfl)
           try simp only [Act.put, sIB, sZB, sSB]
           refine wpAnyH_ready (rs := [15]) (by kernel_rfl) (by simp) ?_
           refine AllReadyH.cons rfl (fun K hK => ?_) AllReadyH.nil
           go_simp
           have Bc463 := below_al Bc457 (.cells #[.int .i64 0, .int .i64 0] 60)
           have hSc463 := kS _ Bc463
           refine hK.out _ _ hSc463 ?_
           intro hSd463
           clear hK K
           try simp only [Act.put, sIB, sZB, sSB]
           have hn1 := Nat.le_trans (show (w.heap.size + 1 + 1) ≤ _ from Nat.le_of_eq (by first | rfl | (simp; done))) (Below.size hbc457)
           have hPG : PgIn (fun b => (w.heap.size + 1 + 1) ≤ b ∧ b < wc457.heap.size) wc457 fa r.pages := fun w2 h1 h2 => hPF w2 h1 fun b q1 q2 => h2 b ⟨Nat.le_trans (Nat.le_of_eq (by first | rfl | (simp; done))) q1, q2⟩ q2
           have hMB : MvB w _ w.heap.size wc457.heap.size (w.heap.size + 1) fa r := ⟨((((TB.new2 (w := w.drew) (by first | rfl | (simp; done))).alloc _).later hbc457).alloc _), (TB.new2 (w := wc457) (by first | rfl | (simp; done))), (((TB.new2 (w := (w.drew.alloc (.cells #[.int .i64 0, .int .i64 0, .slice none 0 0] 27))) (by first | rfl | (simp; done))).later hbc457).alloc _), Bc463, by omega, by omega, by omega, by omega, by omega, by omega, ⟨(w.heap.size + 1 + 1), wc457.heap.size, by omega, by first | exact Nat.le_refl _ | (simp; done) | (simp; omega), by omega, by omega, by omega, (hPG.al _)⟩⟩
           exact hrest.out (w.heap.size, wc457.heap.size, (w.heap.size + 1), fa, fc) _ hMB
         · go_simp
           have Bc464 := below_al Bc456 (.cells #[.int .i64 0, .int .i64 0] 60)
           have hSc464 := kS _ Bc464
           refine hK.out _ _ hSc464 ?_
           intro hSd464
           clear hK K
           try simp only [Act.put, sIB, sZB, sSB]
           refine wpAnyH_ready (rs := [8]) (by kernel_rfl) (by simp) ?_
           refine AllReadyH.cons rfl (fun K hK => ?_) AllReadyH.nil
           go_simp
           refine (hap _ (hPA.later Bc464)).mono ?_
           rintro e wc465 ⟨fa, fc, rfl, hPF, hbc465⟩
           have Bc465 : Below w.heap.size w wc465 := below_thru Bc464 hbc465
           have hSc465 := kS _ Bc465
           refine hK.out _ _ hSc465 ?_
           intro hSd465
           clear hK K
           try simp only [Act.put, sIB, sZB, sSB]
           refine wpAnyH_take (i := 9) (v := ?tv466) rfl (by kernel_rfl) (by kernel_rfl) (by kernel_rfl) (fun _ _ _ h => h) (Or.inl ⟨by rfl, ?th466⟩) (by assumption) ?tr466
           case th466 => (intro w hSw; (try dsimp only at hSw); go_simp; try with_reducible rfl)
           try simp only [Act.put, sIB, sZB, sSB]
           refine wpAnyH_take (i := 10) (v := ?tv467) rfl (by kernel_rfl) (by kernel_rfl) (by kernel_rfl) (fun _ _ _ h => h) (Or.inl ⟨by rfl, ?th467⟩) (by assumption) ?tr467
           case th467 => (intro w hSw; (try dsimp only at hSw); go_simp; try with_reducible rfl)
           try simp only [Act.put, sIB, sZB, sSB]
           refine wpAnyH_take (i := 11) (v := ?tv468) rfl (by kernel_rfl) (by kernel_rfl) (by kernel_rfl) (fun _ _ _ h => h) (Or.inl ⟨by rfl, ?th468⟩) (by assumption) ?tr468
           case th468 => (intro w hSw; (try dsimp only at hSw); go_simp; try with_reducible rfl)
           try simp only [Act.put, sIB, sZB, sSB]
           refine wpAnyH_take (i := 12) (v := ?tv469) rfl (by kernel_rfl) (by kernel_rfl) (by kernel_rfl) (fun _ _ _ h => h) (Or.inl ⟨by rfl, ?th469⟩) (by assumption) ?tr469
           case th469 => (intro w hSw; (try dsimp only at hSw); go_simp; try with_reducible rfl)
           try simp only [Act.put, sIB, sZB, sSB]
           refine wpAnyH_take (i := 13) (v := ?tv470) rfl (by kernel_rfl) (by kernel_rfl) (by kernel_rfl) (fun _ _ _ h => h) (Or.inl ⟨by rfl, ?th470⟩) (by assumption) ?tr470
           case th470 => (intro w hSw; (try dsimp only at hSw); go_simp; try with_reducible rfl)
           try simp only [Act.put, sIB, sZB, sSB]
           have hn1 := Nat.le_trans (show (w.heap.size + 1 + 1 + 1) ≤ _ from Nat.le_of_eq (by first | rfl | (simp; done))) (Below.size hbc465)
           have hPG : PgIn (fun b => (w.heap.size + 1 + 1 + 1) ≤ b ∧ b < wc465.heap.size) wc465 fa r.pages := fun w2 h1 h2 => hPF w2 h1 fun b q1 q2 => h2 b ⟨Nat.le_trans (Nat.le_of_eq (by first | rfl | (simp; done))) q1, q2⟩ q2
           have hMB : MvB w _ w.heap.size (w.heap.size + 1 + 1) (w.heap.size + 1) fa r := ⟨((((TB.new2 (w := w.drew) (by first | rfl | (simp; done))).alloc _).alloc _).later hbc465), ((TB.new2 (w := ((w.drew.alloc (.cells #[.int .i64 0, .int .i64 0, .slice none 0 0] 27)).alloc (.cells #[.int .i64 0] 3))) (by first | rfl | (simp; done))).later hbc465), (((TB.new2 (w := (w.drew.alloc (.cells #[.int .i64 0, .int .i64 0, .slice none 0 0] 27))) (by first | rfl | (simp; done))).alloc _).later hbc465), Bc465, by omega, by omega, by omega, by omega, by omega, by omega, ⟨(w.heap.size + 1 + 1 + 1), wc465.heap.size, by omega, by first | exact Nat.le_refl _ | (simp; done) | (simp; omega), by omega, by omega, by omega, hPG⟩⟩
           exact hrest.out (w.heap.size, (w.heap.size + 1 + 1), (w.heap.size + 1), fa, fc) _ hMB
     · go_simp
       have Bc471 := below_al (Below.drew (Below.refl w.heap.size w)) (.cells #[.int .i64 0, .int .i64 0] 60)
       have hSc471 := kS _ Bc471
       refine hK.out _ _ hSc471 ?_
       intro hSd471
       clear hK K
       try simp only [Act.put, sIB, sZB, sSB]
       refine wpAnyH_ready (rs := [8, 14, 16]) (by kernel_rfl) (by simp) ?_
       refine AllReadyH.cons rfl (fun K hK => ?_) (AllReadyH.cons rfl (fun K hK => ?_) (AllReadyH.cons rfl (fun K hK => ?_) AllReadyH.nil))
       · go_simp
         refine (hap _ (hPA.later Bc471)).mono ?_
         rintro e wc472 ⟨fa, fc, rfl, hPF, hbc472⟩
         have Bc472 : Below w.heap.size w wc472 := below_thru Bc471 hbc472
         have hSc472 := kS _ Bc472
         refine hK.out _ _ hSc472 ?_
         intro hSd472
         clear hK K
         try simp only [Act.put, sIB, sZB, sSB]
         refine wpAnyH_take (i := 9) (v := ?tv473) rfl (by kernel_rfl) (by kernel_rfl) (by kernel_rfl) (fun _ _ _ h => h) (Or.inl ⟨by rfl, ?th473⟩) (by assumption) ?tr473
         case th473 => (intro w hSw; (try dsimp only at hSw); go_simp; try with_reducible rfl)
         try simp only [Act.put, sIB, sZB, sSB]
         refine wpAnyH_take (i := 10) (v := ?tv474) rfl (by kernel_rfl) (by kernel_rfl) (by kernel_rfl) (fun _ _ _ h => h) (Or.inl ⟨by rfl, ?th474⟩) (by assumption) ?tr474
         case th474 => (intro w hSw; (try dsimp only at hSw); go_simp; try with_reducible rfl)
         try simp only [Act.put, sIB, sZB, sSB]
         refine wpAnyH_take (i := 11) (v := ?tv475) rfl (by kernel_rfl) (by kernel_rfl) (by kernel_rfl) (fun _ _ _ h => h) (Or.inl ⟨by rfl, ?th475⟩) (by assumption) ?tr475
         case th475 => (intro w hSw; (try dsimp only at hSw); go_simp; try with_reducible rfl)
         try simp only [Act.put, sIB, sZB, sSB]
         refine wpAnyH_take (i := 12) (v := ?tv476) rfl (by kernel_rfl) (by kernel_rfl) (by kernel_rfl) (fun _ _ _ h => h) (Or.inl ⟨by rfl, ?th476⟩) (by assumption) ?tr476
         case th476 => (intro w hSw; (try dsimp only at hSw); go_simp; try with_reducible rfl)
         try simp only [Act.put, sIB, sZB, sSB]
         refine wpAnyH_take (i := 13) (v := ?tv477) rfl (by kernel_rfl) (by kernel_rfl) (by kernel_rfl) (fun _ _ _ h => h) (Or.inl ⟨by rfl, ?th477⟩) (by assumption) ?tr477
         case th477 => (intro w hSw; (try dsimp only at hSw); go_simp; try with_reducible rfl)
         try simp only [Act.put, sIB, sZB, sSB]
         refine wpAnyH_ready (rs := [14, 16]) (by kernel_rfl) (by simp) ?_
         refine AllReadyH.cons rfl (fun K hK => ?_) (AllReadyH.cons rfl (fun K hK => ?_) AllReadyH.nil)
         · go_simp
           have Bc478 := below_al Bc472 (.cells #[.int .i64 0, .int .i64 0, .slice none 0 0] 27)
           have hSc478 := kS _ Bc478
           refine hK.out _ _ hSc478 ?_
           intro hSd478
           clear hK K
           try simp only [Act.put, sIB, sZB, sSB]
           refine wpAnyH_ready (rs := [16]) (by kernel_rfl) (by simp) ?_
           refine AllReadyH.cons rfl (fun K hK => ?_) AllReadyH.nil
           go_simp
           have Bc479 := below_al Bc478 (.cells #[.int .i64 0] 3)
           have hSc479 := kS _ Bc479
           refine hK.out _ _ hSc479 ?_
           intro hSd479
           clear hK K
           try simp only [Act.put, sIB, sZB, sSB]
           have hn1 := Nat.le_trans (show (w.heap.size + 1) ≤ _ from Nat.le_of_eq (by first | rfl | (simp; done))) (Below.size hbc472)
           have hPG : PgIn (fun b => (w.heap.size + 1) ≤ b ∧ b < wc472.heap.size) wc472 fa r.pages := fun w2 h1 h2 => hPF w2 h1 fun b q1 q2 => h2 b ⟨Nat.le_trans (Nat.le_of_eq (by first | rfl | (simp; done))) q1, q2⟩ q2
           have hMB : MvB w _ wc472.heap.size w.heap.size (wc472.heap.size + 1) fa r := ⟨((TB.new2 (w := wc472) (by first | rfl | (simp; done))).alloc _), ((((TB.new2 (w := w.drew) (by first | rfl | (simp; done))).later hbc472).alloc _).alloc _), (TB.new2 (w := (wc472.alloc (.cells #[.int .i64 0, .int .i64 0, .slice none 0 0] 27))) (by first | rfl | (simp; done))), Bc479, by omega, by omega, by omega, by omega, by omega, by omega, ⟨(w.heap.size + 1), wc472.heap.size, by omega, by first | exact Nat.le_refl _ | (simp; done) | (simp; omega), by omega, by omega, by omega, ((hPG.al _).al _)⟩⟩
           exact hrest.out (wc472.heap.size, w.heap.size, (wc472.heap.size + 1), fa, fc) _ hMB
         · go_simp
           have Bc480 := below_al Bc472 (.cells #[.int .i64 0] 3)
           have hSc480 := kS _ Bc480
           refine hK.out _ _ hSc480 ?_
           intro hSd480
           clear hK K
           try simp only [Act.put, sIB, sZB, sSB]
           refine wpAnyH_ready (rs := [14]) (by kernel_rfl) (by simp) ?_
           refine AllReadyH.cons rfl (fun K hK => ?_) AllReadyH.nil
           go_simp
           have Bc481 := below_al Bc480 (.cells #[.int .i64 0, .int .i64 0, .slice none 0 0] 27)
           have hSc481 := kS _ Bc481
           refine hK.out _ _ hSc481 ?_
           intro hSd481
           clear hK K
           try simp only [Act.put, sIB, sZB, sSB]
           have hn1 := Nat.le_trans (show (w.heap.size + 1) ≤ _ from Nat.le_of_eq (by first | rfl | (simp; done))) (Below.size hbc472)
           have hPG : PgIn (fun b => (w.heap.size + 1) ≤ b ∧ b < wc472.heap.size) wc472 fa r.pages := fun w2 h1 h2 => hPF w2 h1 fun b q1 q2 => h2 b ⟨Nat.le_trans (Nat.le_of_eq (by first | rfl | (simp; done))) q1, q2⟩ q2
           have hMB : MvB w _ (wc472.heap.size + 1) w.heap.size wc472.heap.size fa r := ⟨(TB.new2 (w := (wc472.alloc (.cells #[.int .i64 0] 3))) (by first | rfl | (simp; done))), ((((TB.new2 (w := w.drew) (by first | rfl | (simp; done))).later hbc472).alloc _).alloc _), ((TB.new2 (w := wc472) (by first | rfl | (simp; done))).alloc _), Bc481, by omega, by omega, by omega, by omega, by omega, by omega, ⟨(w.heap.size + 1), wc472.heap.size, by omega, by first | exact Nat.le_refl _ | (simp; done) | (simp; omega), by omega, by omega, by omega, ((hPG.al _).al _)⟩⟩
           exact hrest.out ((wc472.heap.size + 1), w.heap.size, wc472.heap.size, fa, fc) _ hMB
       · go_simp
         have Bc482 := below_al Bc471 (.cells #[.int .i64 0, .int .i64 0, .slice none 0 0] 27)
         have hSc482 := kS _ Bc482
         refine hK.out _ _ hSc482 ?_
         intro hSd482
         clear hK K
         try simp only [Act.put, sIB, sZB, sSB]
         refine wpAnyH_ready (rs := [8, 16]) (by kernel_rfl) (by simp) ?_
         refine AllReadyH.cons rfl (fun K hK => ?_) (AllReadyH.cons rfl (fun K hK => ?_) AllReadyH.nil)
         · go_simp
           refine (hap _ (hPA.later Bc482)).mono ?_
           rintro e wc483 ⟨fa, fc, rfl, hPF, hbc483⟩
           have Bc483 : Below w.heap.size w wc483 := below_thru Bc482 hbc483
           have hSc483 := kS _ Bc483
           refine hK.out _ _ hSc483 ?_
           intro hSd483
           clear hK K
           try simp only [Act.put, sIB, sZB, sSB]
           refine wpAnyH_take (i := 9) (v := ?tv484) rfl (by kernel_rfl) (by kernel_rfl) (by kernel_rfl) (fun _ _ _ h => h) (Or.inl ⟨by rfl, ?th484⟩) (by assumption) ?tr484
           case th484 => (intro w hSw; (try dsimp only at hSw); go_simp; try with_reducible rfl)
           try simp only [Act.put, sIB, sZB, sSB]
           refine wpAnyH_take (i := 10) (v := ?tv485) rfl (by kernel_rfl) (by kernel_rfl) (by kernel_rfl) (fun _ _ _ h => h) (Or.inl ⟨by rfl, ?th485⟩) (by assumption) ?tr485
           case th485 => (intro w hSw; (try dsimp only at hSw); go_simp; try with_reducible rfl)
           try simp only [Act.put, sIB, sZB, sSB]
           refine wpAnyH_take (i := 11) (v := ?tv486) rfl (by kernel_rfl) (by kernel_rfl) (by kernel_rfl) (fun _ _ _ h => h) (Or.inl ⟨by rfl, ?th486⟩) (by assumption) ?tr486
           case th486 => (intro w hSw; (try dsimp only at hSw); go_simp; try with_reducible rfl)
           try simp only [Act.put, sIB, sZB, sSB]
           refine wpAnyH_take (i := 12) (v := ?tv487) rfl (by kernel_rfl) (by kernel_rfl) (by kernel_rfl) (fun _ _ _ h => h) (Or.inl ⟨by rfl, ?th487⟩) (by assumption) ?tr487
           case th487 => (intro w hSw; (try dsimp only at hSw); go_simp; try with_reducible rfl)
           try simp only [Act.put, sIB, sZB, sSB]
           refine wpAnyH_take (i := 13) (v := ?tv488) rfl (by kernel_rfl) (by kernel_rfl) (by kernel_rfl) (fun _ _ _ h => h) (Or.inl ⟨by rfl, ?th488⟩) (by assumption) ?tr488
           case th488 => (intro w hSw; (try dsimp only at hSw); go_simp; try with_reducible rfl)
           try simp only [Act.put, sIB, sZB, sSB]
           refine wpAnyH_ready (rs := [16]) (by kernel_rfl) (by simp) ?_
           refine AllReadyH.cons rfl (fun K hK => ?_) AllReadyH.nil
           go_simp
           have Bc489 := below_al Bc483 (.cells #[.int .i64 0] 3)
           have hSc489 := kS _ Bc489
           refine hK.out _ _ hSc489 ?_
           intro hSd489
           clear hK K
           try simp only [Act.put, sIB, sZB, sSB]
           have hn1 := Nat.le_trans (show (w.heap.size + 1 + 1) ≤ _ from Nat.le_of_eq (by first | rfl | (simp; done))) (Below.size hbc483)
           have hPG : PgIn (fun b => (w.heap.size + 1 + 1) ≤ b ∧ b < wc483.heap.size) wc483 fa r.pages := fun w2 h1 h2 => hPF w2 h1 fun b q1 q2 => h2 b ⟨Nat.le_trans (Nat.le_of_eq (by first | rfl | (simp; done))) q1, q2⟩ q2
           have hMB : MvB w _ (w.heap.size + 1) w.heap.size wc483.heap.size fa r := ⟨(((TB.new2 (w := (w.drew.alloc (.cells #[.int .i64 0, .int .i64 0] 60))) (by first | rfl | (simp; done))).later hbc483).alloc _), ((((TB.new2 (w := w.drew) (by first | rfl | (simp; done))).alloc _).later hbc483).alloc _), (TB.new2 (w := wc483) (by first | rfl | (simp; done))), Bc489, by omega, by omega, by omega, by omega, by omega, by omega, ⟨(w.heap.size + 1 + 1), wc483.heap.size, by omega, by first | exact Nat.le_refl _ | (simp; done) | (simp; omega), by omega, by omega, by omega, (hPG.al _)⟩⟩
           exact hrest.out ((w.heap.size + 1), w.heap.size, wc483.heap.size, fa, fc) _ hMB
         · go_simp
           have Bc490 := below_al Bc482 (.cells #[.int .i64 0] 3)
           have hSc490 := kS _ Bc490
           refine hK.out _ _ hSc490 ?_
           intro hSd490
           clear hK K
           try simp only [Act.put, sIB, sZB, sSB]
           refine wpAnyH_ready (rs := [8]) (by kernel_rfl) (by simp) ?_
           refine AllReadyH.cons rfl (fun K hK => ?_) AllReadyH.nil
           go_simp
           refine (hap _ (hPA.later Bc490)).mono ?_
           rintro e wc491 ⟨fa, fc, rfl, hPF, hbc491⟩
           have Bc491 : Below w.heap.size w wc491 := below_thru Bc490 hbc491
           have hSc491 := kS _ Bc491
           refine hK.out _ _ hSc491 ?_
           intro hSd491
           clear hK K
           try simp only [Act.put, sIB, sZB, sSB]
           refine wpAnyH_take (i := 9) (v := ?tv492) rfl (by kernel_rfl) (by kernel_rfl) (by kernel_rfl) (fun _ _ _ h => h) (Or.inl ⟨by rfl, ?th492⟩) (by assumption) ?tr492
           case th492 => (intro w hSw; (try dsimp only at hSw); go_simp; try with_reducible rfl)
           try simp only [Act.put, sIB, sZB, sSB]
           refine wpAnyH_take (i := 10) (v := ?tv493) rfl (by kernel_rfl) (by kernel_rfl) (by kernel_rfl) (fun _ _ _ h => h) (Or.inl ⟨by rfl, ?th493⟩) (by assumption) ?tr493
           case th493 => (intro w hSw; (try dsimp only at hSw); go_simp; try with_reducible rfl)
           try simp only [Act.put, sIB, sZB, sSB]
           refine wpAnyH_take (i := 11) (v := ?tv494) rfl (by kernel_rfl) (by kernel_rfl) (by kernel_rfl) (fun _ _ _ h => h) (Or.inl ⟨by rfl, ?th494⟩) (by assumption) ?tr494
           case th494 => (intro w hSw; (try dsimp only at hSw); go_simp; try with_reducible rfl)
           try simp only [Act.put, sIB, sZB, sSB]
           refine wpAnyH_take (i := 12) (v := ?tv495) rfl (by kernel_rfl) (by kernel_rfl) (by kernel_rfl) (fun _ _ _ h => h) (Or.inl ⟨by rfl, ?th495⟩) (by assumption) ?tr495
           case th495 => (intro w hSw; (try dsimp only at hSw); go_simp; try with_reducible rfl)
           try simp only [Act.put, sIB, sZB, sSB]
           refine wpAnyH_take (i := 13) (v := ?tv496) rfl (by kernel_rfl) (by kernel_rfl) (by kernel_rfl) (fun _ _ _ h => h) (Or.inl ⟨by rfl, ?th496⟩) (by assumption) ?tr496
           case th496 => (intro w hSw; (try dsimp only at hSw); go_simp; try with_reducible rfl)
           try simp only [Act.put, sIB, sZB, sSB]
           have hn1 := Nat.le_trans (show (w.heap.size + 1 + 1 + 1) ≤ _ from Nat.le_of_eq (by first | rfl | (simp; done))) (Below.size hbc491)
           have hPG : PgIn (fun b => (w.heap.size + 1 + 1 + 1) ≤ b ∧ b < wc491.heap.size) wc491 fa r.pages := fun w2 h1 h2 => hPF w2 h1 fun b q1 q2 => h2 b ⟨Nat.le_trans (Nat.le_of_eq (by first | rfl | (simp; done))) q1, q2⟩ q2
           have hMB : MvB w _ (w.heap.size + 1) w.heap.size (w.heap.size + 1 + 1) fa r := ⟨(((TB.new2 (w := (w.drew.alloc (.cells #[.int .i64 0, .int .i64 0] 60))) (by first | rfl | (simp; done))).alloc _).later hbc491), ((((TB.new2 (w := w.drew) (by first | rfl | (simp; done))).alloc _).alloc _).later hbc491), ((TB.new2 (w := ((w.drew.alloc (.cells #[.int .i64 0, .int .i64 0] 60)).alloc (.cells #[.int .i64 0, .int .i64 0, .slice none 0 0] 27))) (by first | rfl | (simp; done))).later hbc491), Bc491, by omega, by omega, by omega, by omega, by omega, by omega, ⟨(w.heap.size + 1 + 1 + 1), wc491.heap.size, by omega, by first | exact Nat.le_refl _ | (simp; done) | (simp; omega), by omega, by omega, by omega, hPG⟩⟩
           exact hrest.out ((w.heap.size + 1), w.heap.size, (w.heap.size + 1 + 1), fa, fc) _ hMB
       · go_simp
         have Bc497 := below_al Bc471 (.cells #[.int .i64 0] 3)
         have hSc497 := kS _ Bc497
         refine hK.out _ _ hSc497 ?_
         intro hSd497
         clear hK K
         try simp only [Act.put, sIB, sZB, sSB]
         refine wpAnyH_ready (rs := [8, 14]) (by kernel_rfl) (by simp) ?_
         refine AllReadyH.cons rfl (fun K hK => ?_) (AllReadyH.cons rfl (fun K hK => ?_) AllReadyH.nil)
         · go_simp
           refine (hap _ (hPA.later Bc497)).mono ?_
           rintro e wc498 ⟨fa, fc, rfl, hPF, hbc498⟩
           have Bc498 : Below w.heap.size w wc498 := below_thru Bc497 hbc498
           have hSc498 := kS _ Bc498
           refine hK.out _ _ hSc498 ?_
           intro hSd498
           clear hK K
           try simp only [Act.put, sIB, sZB, sSB]
           refine wpAnyH_take (i := 9) (v := ?tv499) rfl (by kernel_rfl) (by kernel_rfl) (by kernel_rfl) (fun _ _ _ h => h) (Or.inl ⟨by rfl, ?th499⟩) (by assumption) ?tr499
           case th499 => (intro w hSw; (try dsimp only at hSw); go_simp; try with_reducible rfl)
           try simp only [Act.put, sIB, sZB, sSB]
           refine wpAnyH_take (i := 10) (v := ?tv500) rfl (by kernel_rfl) (by kernel_rfl) (by kernel_rfl) (fun _ _ _ h => h) (Or.inl ⟨by rfl, ?th500⟩) (by assumption) ?tr500
           case th500 => (intro w hSw; (try dsimp only at hSw); go_simp; try with_reducible rfl)
           try simp only [Act.put, sIB, sZB, sSB]
           refine wpAnyH_take (i := 11) (v := ?tv501) rfl (by kernel_rfl) (by kernel_rfl) (by kernel_rfl) (fun _ _ _ h => h) (Or.inl ⟨by rfl, ?th501⟩) (by assumption) ?tr501
           case th501 => (intro w hSw; (try dsimp only at hSw); go_simp; try with_reducible rfl)
           try simp only [Act.put, sIB, sZB, sSB]
           refine wpAnyH_take (i := 12) (v := ?tv502) rfl (by kernel_rfl) (by kernel_rfl) (by kernel_rfl) (fun _ _ _ h => h) (Or.inl ⟨by rfl, ?th502⟩) (by assumption) ?tr502
           case th502 => (intro w hSw; (try dsimp only at hSw); go_simp; try with_reducible rfl)
           try simp only [Act.put, sIB, sZB, sSB]
           refine wpAnyH_take (i := 13) (v := ?tv503) rfl (by kernel_rfl) (by kernel_rfl) (by kernel_rfl) (fun _ _ _ h => h) (Or.inl ⟨by rfl, ?th503⟩) (by assumption) ?tr503
           case th503 => (intro w hSw; (try dsimp only at hSw); go_simp; try with_reducible rfl)
           try simp only [Act.put, sIB, sZB, sSB]
           refine wpAnyH_ready (rs := [14]) (by kernel_rfl) (by simp) ?_
           refine AllReadyH.cons rfl (fun K hK => ?_) AllReadyH.nil
           go_simp
           have Bc504 := below_al Bc498 (.cells #[.int .i64 0, .int .i64 0, .slice none 0 0] 27)
           have hSc504 := kS _ Bc504
           refine hK.out _ _ hSc504 ?_
           intro hSd504
           clear hK K
           try simp only [Act.put, sIB, sZB, sSB]
           have hn1 := Nat.le_trans (show (w.heap.size + 1 + 1) ≤ _ from Nat.le_of_eq (by first | rfl | (simp; done))) (Below.size hbc498)
           have hPG : PgIn (fun b => (w.heap.size + 1 + 1) ≤ b ∧ b < wc498.heap.size) wc498 fa r.pages := fun w2 h1 h2 => hPF w2 h1 fun b q1 q2 => h2 b ⟨Nat.le_trans (Nat.le_of_eq (by first | rfl | (simp; done))) q1, q2⟩ q2
           have hMB : MvB w _ wc498.heap.size w.heap.size (w.heap.size + 1) fa r := ⟨(TB.new2 (w := wc498) (by first | rfl | (simp; done))), ((((TB.new2 (w := w.drew) (by first | rfl | (simp; done))).alloc _).later hbc498).alloc _), (((TB.new2 (w := (w.drew.alloc (.cells #[.int .i64 0, .int .i64 0] 60))) (by first | rfl | (simp; done))).later hbc498).alloc _), Bc504, by omega, by omega, by omega, by omega, by omega, by omega, ⟨(w.heap.size + 1 + 1), wc498.heap.size, by omega, by first | exact Nat.le_refl _ | (simp; done) | (simp; omega), by omega, by omega, by omega, (hPG.al _)⟩⟩
           exact hrest.out (wc498.heap.size, w.heap.size, (w.heap.size + 1), fa, fc) _ hMB
         · go_simp
           have Bc505 := below_al Bc497 (.cells #[.int .i64 0, .int .i64 0, .slice none 0 0] 27)
           have hSc505 := kS _ Bc505
           refine hK.out _ _ hSc505 ?_
           intro hSd505
           clear hK K
           try simp only [Act.put, sIB, sZB, sSB]
           refine wpAnyH_ready (rs := [8]) (by kernel_rfl) (by simp) ?_
           refine AllReadyH.cons rfl (fun K hK => ?_) AllReadyH.nil
           go_simp
           refine (hap _ (hPA.later Bc505)).mono ?_
           rintro e wc506 ⟨fa, fc, rfl, hPF, hbc506⟩
           have Bc506 : Below w.heap.size w wc506 := below_thru Bc505 hbc506
           have hSc506 := kS _ Bc506
           refine hK.out _ _ hSc506 ?_
           intro hSd506
           clear hK K
           try simp only [Act.put, sIB, sZB, sSB]
           refine wpAnyH_take (i := 9) (v := ?tv507) rfl (by kernel_rfl) (by kernel_rfl) (by kernel_rfl) (fun _ _ _ h => h) (Or.inl ⟨by rfl, ?th507⟩) (by assumption) ?tr507
           case th507 => (intro w hSw; (try dsimp only at hSw); go_simp; try with_reducible rfl)
           try simp only [Act.put, sIB, sZB, sSB]
           refine wpAnyH_take (i := 10) (v := ?tv508) rfl (by kernel_rfl) (by kernel_rfl) (by kernel_rfl) (fun _ _ _ h => h) (Or.inl ⟨by rfl, ?th508⟩) (by assumption) ?tr508
           case th508 => (intro w hSw; (try dsimp only at hSw); go_simp; try with_reducible rfl)
           try simp only [Act.put, sIB, sZB, sSB]
           refine wpAnyH_take (i := 11) (v := ?tv509) rfl (by kernel_rfl) (by kernel_rfl) (by kernel_rfl) (fun _ _ _ h => h) (Or.inl ⟨by rfl, ?th509⟩) (by assumption) ?tr509
           case th509 => (intro w hSw; (try dsimp only at hSw); go_simp; try with_reducible rfl)
           try simp only [Act.put, sIB, sZB, sSB]
           refine wpAnyH_take (i := 12) (v := ?tv510) rfl (by kernel_rfl) (by kernel_rfl) (by kernel_rfl) (fun _ _ _ h => h) (Or.inl ⟨by rfl, ?th510⟩) (by assumption) ?tr510
           case th510 => (intro w hSw; (try dsimp only at hSw); go_simp; try with_reducible rfl)
           try simp only [Act.put, sIB, sZB, sSB]
           refine wpAnyH_take (i := 13) (v := ?tv511) rfl (by kernel_rfl) (by kernel_rfl) (by kernel_rfl) (fun _ _ _ h => h) (Or.inl ⟨by rfl, ?th511⟩) (by assumption) ?tr511
           case th511 => (intro w hSw; (try dsimp only at hSw); go_simp; try with_reducible rfl)
           try simp only [Act.put, sIB, sZB, sSB]
           have hn1 := Nat.le_trans (show (w.heap.size + 1 + 1 + 1) ≤ _ from Nat.le_of_eq (by first | rfl | (simp; done))) (Below.size hbc506)
           have hPG : PgIn (fun b => (w.heap.size + 1 + 1 + 1) ≤ b ∧ b < wc506.heap.size) wc506 fa r.pages := fun w2 h1 h2 => hPF w2 h1 fun b q1 q2 => h2 b ⟨Nat.le_trans (Nat.le_of_eq (by first | rfl | (simp; done))) q1, q2⟩ q2
           have hMB : MvB w _ (w.heap.size + 1 + 1) w.heap.size (w.heap.size + 1) fa r := ⟨((TB.new2 (w := ((w.drew.alloc (.cells #[.int .i64 0, .int .i64 0] 60)).alloc (.cells #[.int .i64 0] 3))) (by first | rfl | (simp; done))).later hbc506), ((((TB.new2 (w := w.drew) (by first | rfl | (simp; done))).alloc _).alloc _).later hbc506), (((TB.new2 (w := (w.drew.alloc (.cells #[.int .i64 0, .int .i64 0] 60))) (by first | rfl | (simp; done))).alloc _).later hbc506), Bc506, by omega, by omega, by omega, by omega, by omega, by omega, ⟨(w.heap.size + 1 + 1 + 1), wc506.heap.size, by omega, by first | exact Nat.le_refl _ | (simp; done) | (simp; omega), by omega, by omega, by omega, hPG⟩⟩
           exact hrest.out ((w.heap.size + 1 + 1), w.heap.size, (w.heap.size + 1), fa, fc) _ hMB
     · go_simp
       have Bc512 := below_al (Below.drew (Below.refl w.heap.size w)) (.cells #[.int .i64 0] 3)
       have hSc512 := kS _ Bc512
       refine hK.out _ _ hSc512 ?_
       intro hSd512
       clear hK K
       try simp only [Act.put, sIB, sZB, sSB]
       refine wpAnyH_ready (rs := [8, 14, 15]) (by kernel_rfl) (by simp) ?_
       refine AllReadyH.cons rfl (fun K hK => ?_) (AllReadyH.cons rfl (fun K hK => ?_) (AllReadyH.cons rfl (fun K hK => ?_) AllReadyH.nil))
       · go_simp
         refine (hap _ (hPA.later Bc512)).mono ?_
         rintro e wc513 ⟨fa, fc, rfl, hPF, hbc513⟩
         have Bc513 : Below w.heap.size w wc513 := below_thru Bc512 hbc513
         have hSc513 := kS _ Bc513
         refine hK.out _ _ hSc513 ?_
         intro hSd513
         clear hK K
         try simp only [Act.put, sIB, sZB, sSB]
         refine wpAnyH_take (i := 9) (v := ?tv514) rfl (by kernel_rfl) (by kernel_rfl) (by kernel_rfl) (fun _ _ _ h => h) (Or.inl ⟨by rfl, ?th514⟩) (by assumption) ?tr514
         case th514 => (intro w hSw; (try dsimp only at hSw); go_simp; try with_reducible rfl)
         try simp only [Act.put, sIB, sZB, sSB]
         refine wpAnyH_take (i := 10) (v := ?tv515) rfl (by kernel_rfl) (by kernel_rfl) (by kernel_rfl) (fun _ _ _ h => h) (Or.inl ⟨by rfl, ?th515⟩) (by assumption) ?tr515
         case th515 => (intro w hSw; (try dsimp only at hSw); go_simp; try with_reducible rfl)
         try simp only [Act.put, sIB, sZB, sSB]
         refine wpAnyH_take (i := 11) (v := ?tv516) rfl (by kernel_rfl) (by kernel_rfl) (by kernel_rfl) (fun _ _ _ h => h) (Or.inl ⟨by rfl, ?th516⟩) (by assumption) ?tr516
         case th516 => (intro w hSw; (try dsimp only at hSw); go_simp; try with_reducible rfl)
         try simp only [Act.put, sIB, sZB, sSB]
         refine wpAnyH_take (i := 12) (v := ?tv517) rfl (by kernel_rfl) (by kernel_rfl) (by kernel_rfl) (fun _ _ _ h => h) (Or.inl ⟨by rfl, ?th517⟩) (by assumption) ?tr517
         case th517 => (intro w hSw; (try dsimp only at hSw); go_simp; try with_reducible rfl)
         try simp only [Act.put, sIB, sZB, sSB]
         refine wpAnyH_take (i := 13) (v := ?tv518) rfl (by kernel_rfl) (by kernel_rfl) (by kernel_rfl) (fun _ _ _ h => h) (Or.inl ⟨by rfl, ?th518⟩) (by assumption) ?tr518
         case th518 => (intro w hSw; (try dsimp only at hSw); go_simp; try with_reducible rfl)
         try simp only [Act.put, sIB, sZB, sSB]
         refine wpAnyH_ready (rs := [14, 15]) (by kernel_rfl) (by simp) ?_
         refine AllReadyH.cons rfl (fun K hK => ?_) (AllReadyH.cons rfl (fun K hK => ?_) AllReadyH.nil)
         · go_simp
           have Bc519 := below_al Bc513 (.cells #[.int .i64 0, .int .i64 0, .slice none 0 0] 27)
           have hSc519 := kS _ Bc519
           refine hK.out _ _ hSc519 ?_
           intro hSd519
           clear hK K
           try simp only [Act.put, sIB, sZB, sSB]
           refine wpAnyH_ready (rs := [15]) (by kernel_rfl) (by simp) ?_
           refine AllReadyH.cons rfl (fun K hK => ?_) AllReadyH.nil
           go_simp
           have Bc520 := below_al Bc519 (.cells #[.int .i64 0, .int .i64 0] 60)
           have hSc520 := kS _ Bc520
           refine hK.out _ _ hSc520 ?_
           intro hSd520
           clear hK K
           try simp only [Act.put, sIB, sZB, sSB]
           have hn1 := Nat.le_trans (show (w.heap.size + 1) ≤ _ from Nat.le_of_eq (by first | rfl | (simp; done))) (Below.size hbc513)
           have hPG : PgIn (fun b => (w.heap.size + 1) ≤ b ∧ b < wc513.heap.size) wc513 fa r.pages := fun w2 h1 h2 => hPF w2 h1 fun b q1 q2 => h2 b ⟨Nat.le_trans (Nat.le_of_eq (by first | rfl | (simp; done))) q1, q2⟩ q2
           have hMB : MvB w _ wc513.heap.size (wc513.heap.size + 1) w.heap.size fa r := ⟨((TB.new2 (w := wc513) (by first | rfl | (simp; done))).alloc _), (TB.new2 (w := (wc513.alloc (.cells #[.int .i64 0, .int .i64 0, .slice none 0 0] 27))) (by first | rfl | (simp; done))), ((((TB.new2 (w := w.drew) (by first | rfl | (simp; done))).later hbc513).alloc _).alloc _), Bc520, by omega, by omega, by omega, by omega, by omega, by omega, ⟨(w.heap.size + 1), wc513.heap.size, by omega, by first | exact Nat.le_refl _ | (simp; done) | (simp; omega), by omega, by omega, by omega, ((hPG.al _).al _)⟩⟩
           exact hrest.out (wc513.heap.size, (wc513.heap.size + 1), w.heap.size, fa, fc) _ hMB
         · go_simp
           have Bc521 := below_al Bc513 (.cells #[.int .i64 0, .int .i64 0] 60)
           have hSc521 := kS _ Bc521
           refine hK.out _ _ hSc521 ?_
           intro hSd521
           clear hK K
           try simp only [Act.put, sIB, sZB, sSB]
           refine wpAnyH_ready (rs := [14]) (by kernel_rfl) (by simp) ?_
           refine AllReadyH.cons rfl (fun K hK => ?_) AllReadyH.nil
           go_simp
           have Bc522 := below_al Bc521 (.cells #[.int .i64 0, .int .i64 0, .slice none 0 0] 27)
           have hSc522 := kS _ Bc522
           refine hK.out _ _ hSc522 ?_
           intro hSd522
           clear hK K
           try simp only [Act.put, sIB, sZB, sSB]
           have hn1 := Nat.le_trans (show (w.heap.size + 1) ≤ _ from Nat.le_of_eq (by first | rfl | (simp; done))) (Below.size hbc513)
           have hPG : PgIn (fun b => (w.heap.size + 1) ≤ b ∧ b < wc513.heap.size) wc513 fa r.pages := fun w2 h1 h2 => hPF w2 h1 fun b q1 q2 => h2 b ⟨Nat.le_trans (Nat.le_of_eq (by first | rfl | (simp; done))) q1, q2⟩ q2
           have hMB : MvB w _ (wc513.heap.size + 1) wc513.heap.size w.heap.size fa r := ⟨(TB.new2 (w := (wc513.alloc (.cells #[.int .i64 0, .int .i64 0] 60))) (by first | rfl | (simp; done))), ((TB.new2 (w := wc513) (by first | rfl | (simp; done))).alloc _), ((((TB.new2 (w := w.drew) (by first | rfl | (simp; done))).later hbc513).alloc _).alloc _), Bc522, by omega, by omega, by omega, by omega, by omega, by omega, ⟨(w.heap.size + 1), wc513.heap.size, by omega, by first | exact Nat.le_refl _ | (simp; done) | (simp; omega), by omega, by omega, by omega, ((hPG.al _).al _)⟩⟩
           exact hrest.out ((wc513.heap.size + 1), wc513.heap.size, w.heap.size, fa, fc) _ hMB
       · go_simp
         have Bc523 := below_al Bc512 (.cells #[.int .i64 0, .int .i64 0, .slice none 0 0] 27)
         have hSc523 := kS _ Bc523
         refine hK.out _ _ hSc523 ?_
         intro hSd523
         clear hK K
         try simp only [Act.put, sIB, sZB, sSB]
         refine wpAnyH_ready (rs := [8, 15]) (by kernel_rfl) (by simp) ?_
         refine AllReadyH.cons rfl (fun K hK => ?_) (AllReadyH.cons rfl (fun K hK => ?_) AllReadyH.nil)
         · go_simp
           refine (hap _ (hPA.later Bc523)).mono ?_
           rintro e wc524 ⟨fa, fc, rfl, hPF, hbc524⟩
           have Bc524 : Below w.heap.size w wc524 := below_thru Bc523 hbc524
           have hSc524 := kS _ Bc524
           refine hK.out _ _ hSc524 ?_
           intro hSd524
           clear hK K
           try simp only [Act.put, sIB, sZB, sSB]
           refine wpAnyH_take (i := 9) (v := ?tv525) rfl (by kernel_rfl) (by kernel_rfl) (by kernel_rfl) (fun _ _ _ h => h) (Or.inl ⟨by rfl, ?th525⟩) (by assumption) ?tr525
           case th525 => (intro w hSw; (try dsimp only at hSw); go_simp; try with_reducible rfl)
           try simp only [Act.put, sIB, sZB, sSB]
           refine wpAnyH_take (i := 10) (v := ?tv526) rfl (by kernel_rfl) (by kernel_rfl) (by kernel_rfl) (fun _ _ _ h => h) (Or.inl ⟨by rfl, ?th526⟩) (by assumption) ?tr526
           case th526 => (intro w hSw; (try dsimp only at hSw); go_simp; try with_reducible rfl)
           try simp only [Act.put, sIB, sZB, sSB]
           refine wpAnyH_take (i := 11) (v := ?tv527) rfl (by kernel_rfl) (by kernel_rfl) (by kernel_rfl) (fun _ _ _ h => h) (Or.inl ⟨by rfl, ?th527⟩) (by assumption) ?tr527
           case th527 => (intro w hSw; (try dsimp only at hSw); go_simp; try with_reducible rfl)
           try simp only [Act.put, sIB, sZB, sSB]
           refine wpAnyH_take (i := 12) (v := ?tv528) rfl (by kernel_rfl) (by kernel_rfl) (by kernel_rfl) (fun _ _ _ h => h) (Or.inl ⟨by rfl, ?th528⟩) (by assumption) ?tr528
           case th528 => (intro w hSw; (try dsimp only at hSw); go_simp; try with_reducible rfl)
           try simp only [Act.put, sIB, sZB, sSB]
           refine wpAnyH_take (i := 13) (v := ?tv529) rfl (by kernel_rfl) (by kernel_rfl) (by kernel_rfl) (fun _ _ _ h => h) (Or.inl ⟨by rfl, ?th529⟩) (by assumption) ?tr529
           case th529 => (intro w hSw; (try dsimp only at hSw); go_simp; try with_reducible rfl)
           try simp only [Act.put, sIB, sZB, sSB]
           refine wpAnyH_ready (rs := [15]) (by kernel_rfl) (by simp) ?_
           refine AllReadyH.cons rfl (fun K hK => ?_) AllReadyH.nil
           go_simp
           have Bc530 := below_al Bc524 (.cells #[.int .i64 0, .int .i64 0] 60)
           have hSc530 := kS _ Bc530
           refine hK.out _ _ hSc530 ?_
           intro hSd530
           clear hK K
           try simp only [Act.put, sIB, sZB, sSB]
           have hn1 := Nat.le_trans (show (w.heap.size + 1 + 1) ≤ _ from Nat.le_of_eq (by first | rfl | (simp; done))) (Below.size hbc524)
           have hPG : PgIn (fun b => (w.heap.size + 1 + 1) ≤ b ∧ b < wc524.heap.size) wc524 fa r.pages := fun w2 h1 h2 => hPF w2 h1 fun b q1 q2 => h2 b ⟨Nat.le_trans (Nat.le_of_eq (by first | rfl | (simp; done))) q1, q2⟩ q2
           have hMB : MvB w _ (w.heap.size + 1) wc524.heap.size w.heap.size fa r := ⟨(((TB.new2 (w := (w.drew.alloc (.cells #[.int .i64 0] 3))) (by first | rfl | (simp; done))).later hbc524).alloc _), (TB.new2 (w := wc524) (by first | rfl | (simp; done))), ((((TB.new2 (w := w.drew) (by first | rfl | (simp; done))).alloc _).later hbc524).alloc _), Bc530, by omega, by omega, by omega, by omega, by omega, by omega, ⟨(w.heap.size + 1 + 1), wc524.heap.size, by omega, by first | exact Nat.le_refl _ | (simp; done) | (simp; omega), by omega, by omega, by omega, (hPG.al _)⟩⟩
           exact hrest.out ((w.heap.size + 1), wc524.heap.size, w.heap.size, fa, fc) _ hMB
         · go_simp
           have Bc531 := below_al Bc523 (.cells #[.int .i64 0, .int .i64 0] 60)
           have hSc531 := kS _ Bc531
           refine hK.out _ _ hSc531 ?_
           intro hSd531
           clear hK K
           try simp only [Act.put, sIB, sZB, sSB]
           refine wpAnyH_ready (rs := [8]) (by kernel_rfl) (by simp) ?_
           refine AllReadyH.cons rfl (fun K hK => ?_) AllReadyH.nil
           go_simp
           refine (hap _ (hPA.later Bc531)).mono ?_
           rintro e wc532 ⟨fa, fc, rfl, hPF, hbc532⟩
           have Bc532 : Below w.heap.size w wc532 := below_thru Bc531 hbc532
           have hSc532 := kS _ Bc532
           refine hK.out _ _ hSc532 ?_
           intro hSd532
           clear hK K
           try simp only [Act.put, sIB, sZB, sSB]
           refine wpAnyH_take (i := 9) (v := ?tv533) rfl (by kernel_rfl) (by kernel_rfl) (by kernel_rfl) (fun _ _ _ h => h) (Or.inl ⟨by rfl, ?th533⟩) (by assumption) ?tr533
           case th533 => (intro w hSw; (try dsimp only at hSw); go_simp; try with_reducible rfl)
           try simp only [Act.put, sIB, sZB, sSB]
           refine wpAnyH_take (i := 10) (v := ?tv534) rfl (by kernel_rfl) (by kernel_rfl) (by kernel_rfl) (fun _ _ _ h => h) (Or.inl ⟨by rfl, ?th534⟩) (by assumption) ?tr534
           case th534 => (intro w hSw; (try dsimp only at hSw); go_simp; try with_reducible rfl)
           try simp only [Act.put, sIB, sZB, sSB]
           refine wpAnyH_take (i := 11) (v := ?tv535) rfl (by kernel_rfl) (by kernel_rfl) (by kernel_rfl) (fun _ _ _ h => h) (Or.inl ⟨by rfl, ?th535⟩) (by assumption) ?tr535
           case th535 => (intro w hSw; (try dsimp only at hSw); go_simp; try with_reducible rfl)
           try simp only [Act.put, sIB, sZB, sSB]
           refine wpAnyH_take (i := 12) (v := ?tv536) rfl (by kernel_rfl) (by kernel_rfl) (by kernel_rfl) (fun _ _ _ h => h) (Or.inl ⟨by rfl, ?th536⟩) (by assumption) ?tr536
           case th536 => (intro w hSw; (try dsimp only at hSw); go_simp; try with_reducible rfl)
           try simp only [Act.put, sIB, sZB, sSB]
           refine wpAnyH_take (i := 13) (v := ?tv537) rfl (by kernel_rfl) (by kernel_rfl) (by kernel_rfl) (fun _ _ _ h => h) (Or.inl ⟨by rfl, ?th537⟩) (by assumption) ?tr537
           case th537 => (intro w hSw; (try dsimp only at hSw); go_simp; try with_reducible rfl)
           try simp only [Act.put, sIB, sZB, sSB]
           have hn1 := Nat.le_trans (show (w.heap.size + 1 + 1 + 1) ≤ _ from Nat.le_of_eq (by first | rfl | (simp; done))) (Below.size hbc532)
           have hPG : PgIn (fun b => (w.heap.size + 1 + 1 + 1) ≤ b ∧ b < wc532.heap.size) wc532 fa r.pages := fun w2 h1 h2 => hPF w2 h1 fun b q1 q2 => h2 b ⟨Nat.le_trans (Nat.le_of_eq (by first | rfl | (simp; done))) q1, q2⟩ q2
           have hMB : MvB w _ (w.heap.size + 1) (w.heap.size + 1 + 1) w.heap.size fa r := ⟨(((TB.new2 (w := (w.drew.alloc (.cells #[.int .i64 0] 3))) (by first | rfl | (simp; done))).alloc _).later hbc532), ((TB.new2 (w := ((w.drew.alloc (.cells #[.int .i64 0] 3)).alloc (.cells #[.int .i64 0, .int .i64 0, .slice none 0 0] 27))) (by first | rfl | (simp; done))).later hbc532), ((((TB.new2 (w := w.drew) (by first | rfl | (simp; done))).alloc _).alloc _).later hbc532), Bc532, by omega, by omega, by omega, by omega, by omega, by omega, ⟨(w.heap.size + 1 + 1 + 1), wc532.heap.size, by omega, by first | exact Nat.le_refl _ | (simp; done) | (simp; omega), by omega, by omega, by omega, hPG⟩⟩
           exact hrest.out ((w.heap.size + 1), (w.heap.size + 1 + 1), w.heap.size, fa, fc) _ hMB
       · go_simp
         have Bc538 := below_al Bc512 (.cells #[.int .i64 0, .int .i64 0] 60)
         have hSc538 := kS _ Bc538
         refine hK.out _ _ hSc538 ?_
         intro hSd538
         clear hK K
         try simp only [Act.put, sIB, sZB, sSB]
         refine wpAnyH_ready (rs := [8, 14]) (by kernel_rfl) (by simp) ?_
         refine AllReadyH.cons rfl (fun K hK => ?_) (AllReadyH.cons rfl (fun K hK => ?_) AllReadyH.nil)
         · go_simp
           refine (hap _ (hPA.later Bc538)).mono ?_
           rintro e wc539 ⟨fa, fc, rfl, hPF, hbc539⟩
           have Bc539 : Below w.heap.size w wc539 := below_thru Bc538 hbc539
           have hSc539 := kS _ Bc539
           refine hK.out _ _ hSc539 ?_
           intro hSd539
           clear hK K
           try simp only [Act.put, sIB, sZB, sSB]
           refine wpAnyH_take (i := 9) (v := ?tv540) rfl (by kernel_rfl) (by kernel_rfl) (by kernel_rfl) (fun _ _ _ h => h) (Or.inl ⟨by rfl, ?th540⟩) (by assumption) ?tr540
           case th540 => (intro w hSw; (try dsimp only at hSw); go_simp; try with_reducible rfl)
           try simp only [Act.put, sIB, sZB, sSB]
           refine wpAnyH_take (i := 10) (v := ?tv541) rfl (by kernel_rfl) (by kernel_rfl) (by kernel_rfl) (fun _ _ _ h => h) (Or.inl ⟨by rfl, ?th541⟩) (by assumption) ?tr541
           case th541 => (intro w hSw; (try dsimp only at hSw); go_simp; try with_reducible rfl)
           try simp only [Act.put, sIB, sZB, sSB]
           refine wpAnyH_take (i := 11) (v := ?tv542) rfl (by kernel_rfl) (by kernel_rfl) (by kernel_rfl) (fun _ _ _ h => h) (Or.inl ⟨by rfl, ?th542⟩) (by assumption) ?tr542
           case th542 => (intro w hSw; (try dsimp only at hSw); go_simp; try with_reducible rfl)
           try simp only [Act.put, sIB, sZB, sSB]
           refine wpAnyH_take (i := 12) (v := ?tv543) rfl (by kernel_rfl) (by kernel_rfl) (by kernel_rfl) (fun _ _ _ h => h) (Or.inl ⟨by rfl, ?th543⟩) (by assumption) ?tr543
           case th543 => (intro w hSw; (try dsimp only at hSw); go_simp; try with_reducible rfl)
           try simp only [Act.put, sIB, sZB, sSB]
           refine wpAnyH_take (i := 13) (v := ?tv544) rfl (by kernel_rfl) (by kernel_rfl) (by kernel_rfl) (fun _ _ _ h => h) (Or.inl ⟨by rfl, ?th544⟩) (by assumption) ?tr544
           case th544 => (intro w hSw; (try dsimp only at hSw); go_simp; try with_reducible rfl)
           try simp only [Act.put, sIB, sZB, sSB]
           refine wpAnyH_ready (rs := [14]) (by kernel_rfl) (by simp) ?_
           refine AllReadyH.cons rfl (fun K hK => ?_) AllReadyH.nil
           go_simp
           have Bc545 := below_al Bc539 (.cells #[.int .i64 0, .int .i64 0, .slice none 0 0] 27)
           have hSc545 := kS _ Bc545
           refine hK.out _ _ hSc545 ?_
           intro hSd545
           clear hK K
           try simp only [Act.put, sIB, sZB, sSB]
           have hn1 := Nat.le_trans (show (w.heap.size + 1 + 1) ≤ _ from Nat.le_of_eq (by first | rfl | (simp; done))) (Below.size hbc539)
           have hPG : PgIn (fun b => (w.heap.size + 1 + 1) ≤ b ∧ b < wc539.heap.size) wc539 fa r.pages := fun w2 h1 h2 => hPF w2 h1 fun b q1 q2 => h2 b ⟨Nat.le_trans (Nat.le_of_eq (by first | rfl | (simp; done))) q1, q2⟩ q2
           have hMB : MvB w _ wc539.heap.size (w.heap.size + 1) w.heap.size fa r := ⟨(TB.new2 (w := wc539) (by first | rfl | (simp; done))), (((TB.new2 (w := (w.drew.alloc (.cells #[.int .i64 0] 3))) (by first | rfl | (simp; done))).later hbc539).alloc _), ((((TB.new2 (w := w.drew) (by first | rfl | (simp; done))).alloc _).later hbc539).alloc _), Bc545, by omega, by omega, by omega, by omega, by omega, by omega, ⟨(w.heap.size + 1 + 1), wc539.heap.size, by omega, by first | exact Nat.le_refl _ | (simp; done) | (simp; omega), by omega, by omega, by omega, (hPG.al _)⟩⟩
           exact hrest.out (wc539.heap.size, (w.heap.size + 1), w.heap.size, fa, fc) _ hMB
         · go_simp
           have Bc546 := below_al Bc538 (.cells #[.int .i64 0, .int .i64 0, .slice none 0 0] 27)
           have hSc546 := kS _ Bc546
           refine hK.out _ _ hSc546 ?_
           intro hSd546
           clear hK K
           try simp only [Act.put, sIB, sZB, sSB]
           refine wpAnyH_ready (rs := [8]) (by kernel_rfl) (by simp) ?_
           refine AllReadyH.cons rfl (fun K hK => ?_) AllReadyH.nil
           go_simp
           refine (hap _ (hPA.later Bc546)).mono ?_
           rintro e wc547 ⟨fa, fc, rfl, hPF, hbc547⟩
           have Bc547 : Below w.heap.size w wc547 := below_thru Bc546 hbc547
           have hSc547 := kS _ Bc547
           refine hK.out _ _ hSc547 ?_
           intro hSd547
           clear hK K
           try simp only [Act.put, sIB, sZB, sSB]
           refine wpAnyH_take (i := 9) (v := ?tv548) rfl (by kernel_rfl) (by kernel_rfl) (by kernel_rfl) (fun _ _ _ h => h) (Or.inl ⟨by rfl, ?th548⟩) (by assumption) ?tr548
           case th548 => (intro w hSw; (try dsimp only at hSw); go_simp; try with_reducible rfl)
           try simp only [Act.put, sIB, sZB, sSB]
           refine wpAnyH_take (i := 10) (v := ?tv549) rfl (by kernel_rfl) (by kernel_rfl) (by kernel_rfl) (fun _ _ _ h => h) (Or.inl ⟨by rfl, ?th549⟩) (by assumption) ?tr549
           case th549 => (intro w hSw; (try dsimp only at hSw); go_simp; try with_reducible rfl)
           try simp only [Act.put, sIB, sZB, sSB]
           refine wpAnyH_take (i := 11) (v := ?tv550) rfl (by kernel_rfl) (by kernel_rfl) (by kernel_rfl) (fun _ _ _ h => h) (Or.inl ⟨by rfl, ?th550⟩) (by assumption) ?tr550
           case th550 => (intro w hSw; (try dsimp only at hSw); go_simp; try with_reducible rfl)
           try simp only [Act.put, sIB, sZB, sSB]
           refine wpAnyH_take (i := 12) (v := ?tv551) rfl (by kernel_rfl) (by kernel_rfl) (by kernel_rfl) (fun _ _ _ h => h) (Or.inl ⟨by rfl, ?th551⟩) (by assumption) ?tr551
           case th551 => (intro w hSw; (try dsimp only at hSw); go_simp; try with_reducible rfl)
           try simp only [Act.put, sIB, sZB, sSB]
           refine wpAnyH_take (i := 13) (v := ?tv552) rfl (by kernel_rfl) (by kernel_rfl) (by kernel_rfl) (fun _ _ _ h => h) (Or.inl ⟨by rfl, ?th552⟩) (by assumption) ?tr552
           case th552 => (intro w hSw; (try dsimp only at hSw); go_simp; try with_reducible rfl)
           try simp only [Act.put, sIB, sZB, sSB]
           have hn1 := Nat.le_trans (show (w.heap.size + 1 + 1 + 1) ≤ _ from Nat.le_of_eq (by first | rfl | (simp; done))) (Below.size hbc547)
           have hPG : PgIn (fun b => (w.heap.size + 1 + 1 + 1) ≤ b ∧ b < wc547.heap.size) wc547 fa r.pages := fun w2 h1 h2 => hPF w2 h1 fun b q1 q2 => h2 b ⟨Nat.le_trans (Nat.le_of_eq (by first | rfl | (simp; done))) q1, q2⟩ q2
           have hMB : MvB w _ (w.heap.size + 1 + 1) (w.heap.size + 1) w.heap.size fa r := ⟨((TB.new2 (w := ((w.drew.alloc (.cells #[.int .i64 0] 3)).alloc (.cells #[.int .i64 0, .int .i64 0] 60))) (by first | rfl | (simp; done))).later hbc547), (((TB.new2 (w := (w.drew.alloc (.cells #[.int .i64 0] 3))) (by first | rfl | (simp; done))).alloc _).later hbc547), ((((TB.new2 (w := w.drew) (by first | rfl | (simp; done))).alloc _).alloc _).later hbc547), Bc547, by omega, by omega, by omega, by omega, by omega, by omega, ⟨(w.heap.size + 1 + 1 + 1), wc547.heap.size, by omega, by first | exact Nat.le_refl _ | (simp; done) | (simp; omega), by omega, by omega, by omega, hPG⟩⟩
           exact hrest.out ((w.heap.size + 1 + 1), (w.heap.size + 1), w.heap.size, fa, fc) _ hMB
   · rintro a' wx ⟨bf, ba, bg, fa, fc, rfl, hM⟩
     rcases HRK.out with ⟨hr, hm, hrr, hk⟩ | ⟨hr, hk⟩
     · subst hm hk
       have E2 : Hid (R = ({ s with fx := r.fx, pages := r.pages, items := (s.items.set i { it with value := ByteArray.empty, far := true, page := r.page, at_ := r.at_ }).filter fun x => !(goneP r.gone x) }, true)) := by
        have e := E.out
        rw [if_neg h24, if_pos hr, ← hrr] at e
        exact e
       clear E hrr HRK hap hr
       obtain ⟨Tf, Ta, Tg, hBw, ⟨n1, n2, hn1, hn2, hP⟩, nf, na, ng⟩ := hM
       have h1 := h.later hBw
       have y := fun j => h1.box.cell j
       have fy := fun j => h1.box.frozen j
       have ly := h1.box.lt
       have Tx : TB 62 wx g cur := hT.later hBw
       have lgx := Tx.lt
       have fgx := fun j => Tx.frozen j
       have cf := fun j => Tf.cell j
       have ca := fun j => Ta.cell j
       have lf := Tf.lt
       have la := Ta.lt
       have lg2 := Tg.lt
       have e1 : ¬ bf = B := by omega
       have e2 : ¬ ba = B := by omega
       have e3 : ¬ bg = B := by omega
       have e4 : ¬ ba = g := by omega
       have e5 : ¬ bg = g := by omega
       have e6 : ¬ B = g := fun e => hgB e.symm
       have hz : ∀ t, t < 9 → (wx.cell? ⟨g, i * 9 + t, none⟩).isSome = true := fun t ht => (row_there Tx _ (by omega)).1
       obtain ⟨z5, k5⟩ := Option.isSome_iff_exists.1 (hz 5 (by omega))
       obtain ⟨z6, k6⟩ := Option.isSome_iff_exists.1 (hz 6 (by omega))
       obtain ⟨z7, k7⟩ := Option.isSome_iff_exists.1 (hz 7 (by omega))
       obtain ⟨z8, k8⟩ := Option.isSome_iff_exists.1 (hz 8 (by omega))
       have h2 : Hid _ := h1.flash r.fx r.pages fa fc n1 n2 hP (fun b hb => by have := h.lt b hb; omega) hn2
       have F2 : Hid (Fr O w (((wx.setCell ⟨B, 9, none⟩ (.int .i64 s.fm)).setCell ⟨B, 10, none⟩ (.int .i64 r.fx)).setCell ⟨B, 11, none⟩ (.slice fa r.pages.length fc))) := (((Fr.of_below hBw).set 9 _ (Or.inl h.boxO)).set 10 _ (Or.inl h.boxO)).set 11 _ (Or.inl h.boxO)
       have T2 : TB 62 (((wx.setCell ⟨B, 9, none⟩ (.int .i64 s.fm)).setCell ⟨B, 10, none⟩ (.int .i64 r.fx)).setCell ⟨B, 11, none⟩ (.slice fa r.pages.length fc)) g cur := ((Tx.far ⟨B, 9, none⟩ _ hgB).far ⟨B, 10, none⟩ _ hgB).far ⟨B, 11, none⟩ _ hgB
       have G2 : TB 3 (((wx.setCell ⟨B, 9, none⟩ (.int .i64 s.fm)).setCell ⟨B, 10, none⟩ (.int .i64 r.fx)).setCell ⟨B, 11, none⟩ (.slice fa r.pages.length fc)) bg #[.int .i64 r.gone] := ((Tg.far ⟨B, 9, none⟩ _ e3).far ⟨B, 10, none⟩ _ e3).far ⟨B, 11, none⟩ _ e3
       unfold stCells at y
       go_wp2_with fail
       go_region
       go_wp2_with fail
       have T3 := ((((T2.set (i * 9 + 5) (.string ByteArray.empty)).set (i * 9 + 6) (.bool true)).set (i * 9 + 7) (.int .i64 r.page)).set (i * 9 + 7 + 1) (.int .i64 r.at_)).drew
       have G3 := ((((G2.far ⟨g, i * 9 + 5, none⟩ (.string ByteArray.empty) e5).far ⟨g, i * 9 + 6, none⟩ (.bool true) e5).far ⟨g, i * 9 + 7, none⟩ (.int .i64 r.page) e5).far ⟨g, i * 9 + 7 + 1, none⟩ (.int .i64 r.at_) e5).drew
       have F3 := fr_row4 (n := s.items.length) (c := cap) (g := g) (((wx.setCell ⟨B, 9, none⟩ (.int .i64 s.fm)).setCell ⟨B, 10, none⟩ (.int .i64 r.fx)).setCell ⟨B, 11, none⟩ (.slice fa r.pages.length fc)) (i * 9 + 5) (i * 9 + 6) (i * 9 + 7) (i * 9 + 7 + 1) (.string ByteArray.empty) (.bool true) (.int .i64 r.page) (.int .i64 r.at_)
       have hR3 := RowIt.far (w := wx) hcs hcap hcm HCT.out hi r.page r.at_ T3
       rw [hit] at hR3
       have h3 := h2.out.rows _ hR3 F3
       have hl3 : (s.items.set i { it with value := ByteArray.empty, far := true, page := r.page, at_ := r.at_ }).length ≤ 1000 := by rw [List.length_set]; exact hl
       refine (delM_any (goneP r.gone) 3 bg #[.int .i64 r.gone] (move1_any r.gone bg) _ _ _ hR3 G3 (fun e => e5 (by simpa [Value.ownBlock] using e.symm)) hl3).mono ?_
       rintro e w4 ⟨iv', rfl, hR4, hg4, hv4⟩
       have h4 := h3.items (w' := w4) (O' := fun b => O b ∨ (n1 ≤ b ∧ b < n2)) _ hR4 (Fr.of_grown hg4 (fun g hg => Or.inl hg)) (fun g hg => Or.inl (by rw [← hv4]; exact hg)) (fun b hb => hb) (fun g hg => (h3.rowO g (by rw [← hv4]; exact hg)).1) (fun b hb => Nat.lt_of_lt_of_le (h3.lt b hb) hg4.size)
       have hF4 : Fr O w w4 := (F2.out.trans (F3.mono (O' := O) (fun b hb => Or.inl (h.rowO b hb).1)) (fun b hb => Or.inl hb)).trans (Fr.of_grown hg4 (fun g hg => Or.inl hg)) (fun b hb => Or.inl (h.rowO b hb).1)
       have T4 := grown_tb hg4 h3.box (fun e => (h3.rowO _ e).2 rfl)
       have x4 := fun j => T4.cell j
       have f4 := fun j => T4.frozen j
       have l4 := T4.lt
       obtain ⟨va, vn, vc, rfl⟩ : ∃ va vn vc, iv' = .slice va vn vc := by
        rcases hR4.2 with ⟨h0, _⟩ | ⟨g, cap, cur, hv, _⟩
        · exact ⟨none, 0, 0, h0⟩
        · exact ⟨_, _, _, hv⟩
       have hend : Hid (StPost O w B R.1 (w4.setCell ⟨B, 8, none⟩ (.slice va vn vc))) := by
        rw [E2.out]
        exact ⟨⟨_, ⟨_, _, _, _, h4⟩, fun b hb => hb.elim Or.inl fun e => Or.inr (by omega)⟩, hF4.set 8 _ (Or.inl h.boxO)⟩
       have hret : R.2 = true := by rw [E2.out]
       clear h4 hF4 T4 h3 F3 hR3 T3 G3 hR4 hg4 T2 G2 F2 h2 h1 y fy k5 k6 k7 k8 hz Tx Tf Ta Tg hP E2
       unfold stCells at x4
       go_wp2_with fail
       go_ret
       exact ⟨by rw [hret]; rfl, hend.out⟩
     · have E2 : Hid (R = (s, false)) := (show R = (s, false) by rw [E.out, if_neg h24, if_neg hr])
       have hbw := hM.b
       have hk1 : (k == 0) = false := by simp [hk]
       have hk2 : (k != 0) = true := by simp [hk]
       clear E HRK hap hM
       go_wp2_with fail
       go_ret
       rw [E2.out]
       exact ⟨rfl, StPost.same hS hbw⟩

end Go.Proofs.YtdblegdgmjakfaaGreatDoor
