/- At every store and number store.Tick answers what dovecoteref.TickedOf answers; the listed table holds what the program's text lays in it (the card ties it). -/
import Derived.Test.YtojbhnoiiikdfaaDoorSOpenK
import Derived.Test.YtojbhnoiiikdfaaDoorSSame
import Derived.Test.YtojbhnoiiikdfaaDoorTickP
import Derived.Test.YtojbhnoiiikdfaaDoorTickR
import Derived.Test.YtojbhnoiiikdfaaDoorFValsW
import Derived.Test.YtojbhnoiiikdfaaDoorTie
import Derived.Test.YtojbhnoiiikdfaaDoorCards
import Derived.Lay
import Derived.Lib.LaidTab
import Derived.Stop.LaidErr
import Derived.Stop.Joined
import Derived.SevenTiedAt
namespace Go.Proofs.YtojbhnoiiikdfaaDoor.StoreTicks
open Go.ChangeShapes Go.WideShapes Go.ChangeAt Go.RowKit
set_option linter.unusedVariables false

theorem own : ownKnob Tryd.prog.godebug = none := by kernel_rfl
theorem laidOut : laidOutB Tryd.prog = true := by kernel_rfl
theorem gChunks : Tryd.prog.globalNamed "dovecote/store.chunks" = some 0 := by kernel_rfl
theorem tChunks : (Tryd.prog.globals[0]?).map (·.type) = some 22 := by kernel_rfl

theorem laidC {W : World} (h : laidMetH Tryd.prog Rows.storeTicksRow.laid W) : LaidC W := by
  rw [MakeChecks.laidMetH_plain _ _ _ (by kernel_rfl)] at h
  have hb : Lib.TabIs Tryd.prog W "dovecote/store.chunks" .i64 [32, 64, 128, 256] := Lib.tabIs_of_head gChunks tChunks Tryd.underlying22 Tryd.underlying3 (by kernel_rfl) (by kernel_rfl) h
  have c0 := hb.cell gChunks 0 (by decide)
  exact ⟨World.block_lt_of_cell? _ _ c0, c0, hb.cell gChunks 1 (by decide), hb.cell gChunks 2 (by decide), hb.cell gChunks 3 (by decide)⟩

set_option maxHeartbeats 2000000 in
set_option maxRecDepth 100000 in
theorem walk (s : StoreR) (ia : Option Addr) (ic : Nat) (pa : Option Addr) (pc : Nat) (n : Int) (w : World) (hS : StoreIn w s ia pa) (hok : ItemsOk s.items) (hL : LaidC w) :
    Calls Tryd.prog 3 #[storeV s ia ic pa pc, .int .i64 n] w fun e w' => e = .returned (.bool true) ∧ Below w.heap.size w w' := by
  have hvi : VIn := fun l a c w h1 h2 h3 h4 => valuesIn_vals l a c w h1 h2 h3 h4
  have hc1 := fun (w1 : World) (hb : Below w.heap.size w w1) => tick_any s ia ic pa pc n w1 (hS.later hb) hok (hL.later hb)
  have hc2 := fun (w1 : World) (hb : Below w.heap.size w w1) => ticked_any s ia ic pa pc n w1 (hS.later hb) hok hvi
  unfold TickPost at hc1 hc2
  generalize tickS s n = t at *
  generalize tickN s n = RN at *
  clear hS hok hL hvi
  have hsm := fun (ja ka : Option Addr) (jc kc : Nat) (qa ra : Option Addr) (qc rc : Nat) (w1 : World) (h1 : StoreIn w1 t ja qa) (h2 : StoreIn w1 t ka ra) => sameStore_same t ja ka jc kc qa ra qc rc w1 h1 h2
  obtain ⟨clock, scas, uses, most, h0, h1, h2, h3, items, fm, fx, pages⟩ := s
  obtain ⟨tclock, tcas, tuses, tmost, t0, t1, t2, t3, titems, tfm, tfx, tpages⟩ := t
  unfold storeV at *
  simp only at *
  have hB0 : Below w.heap.size w (w.alloc (.cells #[.int .i64 clock, .int .i64 scas, .int .i64 uses, .int .i64 most, .int .i64 h0, .int .i64 h1, .int .i64 h2, .int .i64 h3, .slice ia items.length ic, .int .i64 fm, .int .i64 fx, .slice pa pages.length pc] 28)) := (Below.refl _ _).alloc (Nat.le_refl _) _
  have U0 := TB.new 28 w #[.int .i64 clock, .int .i64 scas, .int .i64 uses, .int .i64 most, .int .i64 h0, .int .i64 h1, .int .i64 h2, .int .i64 h3, .slice ia items.length ic, .int .i64 fm, .int .i64 fx, .slice pa pages.length pc]
  go_enter Tryd.func3, Tryd.ntmps3
  go_wp2_with fail
  refine (hc1 _ hB0).mono ?_
  rintro e w1 ⟨ja, jc, qa, qc, rfl, hF1, hb1⟩
  have hI1 := hF1 w1 (Nat.le_refl _) (fun _ _ _ => rfl)
  have V0 := U0.later hb1
  have x0 := fun j => V0.cell j
  have l0 := V0.lt
  have hB1 := hB0.trans (hb1.mono hB0.size)
  have hB2 : Below w.heap.size w (w1.alloc (.cells #[.int .i64 tclock, .int .i64 tcas, .int .i64 tuses, .int .i64 tmost, .int .i64 t0, .int .i64 t1, .int .i64 t2, .int .i64 t3, .slice ja titems.length jc, .int .i64 tfm, .int .i64 tfx, .slice qa tpages.length qc] 28)) := hB1.alloc hB1.size _
  have hbA : Below w1.heap.size w1 (w1.alloc (.cells #[.int .i64 tclock, .int .i64 tcas, .int .i64 tuses, .int .i64 tmost, .int .i64 t0, .int .i64 t1, .int .i64 t2, .int .i64 t3, .slice ja titems.length jc, .int .i64 tfm, .int .i64 tfx, .slice qa tpages.length qc] 28)) := (Below.refl _ _).alloc (Nat.le_refl _) _
  have X0 := TB.new 28 w1 #[.int .i64 tclock, .int .i64 tcas, .int .i64 tuses, .int .i64 tmost, .int .i64 t0, .int .i64 t1, .int .i64 t2, .int .i64 t3, .slice ja titems.length jc, .int .i64 tfm, .int .i64 tfx, .slice qa tpages.length qc]
  clear U0 V0
  go_wp2_with fail
  refine (hc2 _ hB2).mono ?_
  rintro e w2 ⟨ka, kc, ra, rc, rfl, hF2, hb2⟩
  have hI2 := hF2 w2 (Nat.le_refl _) (fun _ _ _ => rfl)
  have hJ1 := (hI1.later hbA).later hb2
  have Y0 := X0.later hb2
  have y0 := fun j => Y0.cell j
  have m0 := Y0.lt
  have hB3 := hB2.trans (hb2.mono hB2.size)
  have hbC : Below w2.heap.size w2 (w2.alloc (.cells #[.int .i64 tclock, .int .i64 tcas, .int .i64 tuses, .int .i64 tmost, .int .i64 t0, .int .i64 t1, .int .i64 t2, .int .i64 t3, .slice ka titems.length kc, .int .i64 tfm, .int .i64 tfx, .slice ra tpages.length rc] 28)) := (Below.refl _ _).alloc (Nat.le_refl _) _
  have hB4 := hB3.trans (hbC.mono hB3.size)
  have hQ1 := hJ1.later hbC
  have hQ2 := hI2.later hbC
  clear X0 Y0 hF1 hF2 x0
  go_wp2_with fail
  refine (hsm ja ka jc kc qa ra qc rc _ hQ1 hQ2).mono ?_
  rintro e w3 ⟨rfl, hb3⟩
  go_wp2
  go_ret
  exact ⟨rfl, hB4.trans (hb3.mono hB4.size)⟩

set_option maxRecDepth 100000 in
theorem lifted (os : Os) (started : os.Started) (H : Type) (enc : TypeId × Value → H) :
    ReturnsInHanded {} Tryd.checked os 3 .any (fun w args => (Rows.storeTicksSpec.pre enc Tryd.prog Tryd.f3 Rows.storeTicksRow.domain false w args ∧ laidMetH Tryd.prog Rows.storeTicksRow.laid w) ∧ sizedMet enc Tryd.prog Tryd.f3 (OpenSpec.ofChange Rows.storeTicksSpec) false w args)
      (Rows.storeTicksSpec.post enc Tryd.prog Tryd.f3 false true false false) := by
  refine returnsInHanded_of_change_and (C := Tryd.checked) (X := fun w _ => laidMetH Tryd.prog Rows.storeTicksRow.laid w) (fun _ _ _ hh h => h.of_heap hh) own started (by kernel_rfl) Tryd.func3
    (ChangeSpec.witness_shaped (enc := enc) (C := Tryd.checked) (os := os) (X := fun w _ => laidMetH Tryd.prog Rows.storeTicksRow.laid w) false (World.laidAll Tryd.prog os Rows.storeTicksRow.laid)
      #[.agg #[.int .i64 0, .int .i64 0, .int .i64 0, .int .i64 0, .int .i64 0, .int .i64 0, .int .i64 0, .int .i64 0, .slice none 0 0, .int .i64 0, .int .i64 0, .slice none 0 0], .int .i64 0] 8 (World.laidAll_os _ _ _)
      (World.shaped_of_ZipB (by kernel_rfl) (by kernel_rfl)) (by kernel_rfl) (by kernel_rfl) (by kernel_rfl)
      (by rw [MakeChecks.laidMetH_plain _ _ _ (by kernel_rfl)]; exact laidMet_laidAll _ (by kernel_rfl) (by kernel_rfl))) ?_
  intro W base args ds gs before hval0 hW hc _ hL _
  have hval : ∀ (j : Nat) t v, Tryd.f3.params[j]? = some t → args[j]? = some v → Value.okWide Tryd.prog W .any base t v := hval0
  have hW' := hW
  obtain ⟨p, q, hA0, hV, rfl, hfz, hnd⟩ := hW
  have hA : DataW.TrodAll enc Tryd.prog W 0 (fun _ => true) true Tryd.f3.params.toList args.toList ds p := hA0
  rw [Tryd.params3] at hA hval
  obtain ⟨v0, vs0, d0, ds0, p0, q0, hargs0, rfl, rfl, h0, r0⟩ := trodAll_cons hA
  obtain ⟨v1, vs1, d1, ds1, p1, q1, hargs1, rfl, rfl, h1, r1⟩ := trodAll_cons r0
  obtain ⟨rfl, rfl, rfl⟩ := trodAll_nil r1
  obtain rfl : args = #[v0, v1] := by cases args; simp_all
  obtain ⟨rfl, rfl⟩ := trodVars_none hV
  have k0 := h0
  have k1 := h1
  have lt1 : ∀ x ∈ p1, x.block < W.heap.size := by obtain ⟨m, hm⟩ := k1; exact DataW.trod_lt m _ _ _ hm
  have lt0 : ∀ x ∈ p0, x.block < W.heap.size := by obtain ⟨m, hm⟩ := k0; exact DataW.trod_lt m _ _ _ hm
  obtain ⟨s, ia, ic, pa, pc, rfl, hS, hok⟩ := open_storeO (hval 0 28 v0 rfl rfl) h0
  obtain ⟨a1, rfl, rfl, rfl, w1⟩ := open_int Tryd.underlying3 (hval 1 3 v1 rfl rfl) h1
  clear hA0 hval0
  refine (walk s ia ic pa pc a1 W hS hok (laidC hL)).mono fun e W' ⟨he, bel⟩ => ?_
  subst he
  exact ⟨_, rfl, _, _, _, [], _, [], hW', trodAll_mk1 (shut_bool Tryd.underlying4 _), (trodAll_cons_mk (Below.trod laidOut (by kernel_rfl) (of_decide_eq_true (by kernel_rfl)) k0 bel lt0) (trodAll_cons_mk (Below.trod laidOut (by kernel_rfl) (of_decide_eq_true (by kernel_rfl)) k1 bel lt1) trodAll_mk0)), rfl, bel.frame _, fun h => by cases h⟩

theorem row_holds : Rows.StoreTicksSaid :=
  OpenClaim.holds_of_wide 3 Tryd.f3 rfl rfl rfl rfl rfl rfl rfl ⟨rfl, rfl, rfl, rfl, rfl⟩ rfl rfl rfl rfl rfl (by kernel_rfl) Tryd.func3 (by kernel_rfl)
    (of_decide_eq_true (by kernel_rfl)) (by unfold Func.isWrapper; first | (rw [if_pos (by decide +kernel)]; kernel_rfl) | (rw [if_neg (by decide +kernel)]; exact ⟨rfl, rfl⟩))
    (fun os started H enc _ => lifted os started H enc)

theorem card_holds : Rows.StoreTicksCardSaid :=
  Claim7.holds_tied_plain_at .later [] _ _ _ _
    row_holds (fun _ h => by cases h) (by kernel_rfl) (fun _ h => by cases h) storeTicks_row_tie rfl ⟨rfl, rfl⟩ (by kernel_rfl) rfl
    (fun f fn hf hfn => by
      obtain rfl : f = 3 := Option.some.inj ((show Tryd.prog.funcNamed "dovecote/dovecotelaw.StoreTicks" = some 3 by kernel_rfl).symm.trans hf) |>.symm
      obtain rfl : fn = Tryd.f3 := (Option.some.inj (Tryd.func3.symm.trans hfn)).symm
      exact ⟨by kernel_rfl, fun j t ht => by
        rw [Tryd.params3] at ht
        have hm : t ∈ [28, 3] := by simpa using Array.mem_of_getElem? ht
        have hall : ([28, 3].all fun u => !Tryd.prog.wantsStandIn u) = true := by kernel_rfl
        exact (show Tryd.prog.wantsStandIn t = false by simpa using List.all_eq_true.1 hall t hm)⟩)
    (by kernel_rfl)
end Go.Proofs.YtojbhnoiiikdfaaDoor.StoreTicks

namespace Go.Proofs.YtojbhnoiiikdfaaDoor
theorem storeTicks_holds : Rows.StoreTicksCardSaid := StoreTicks.card_holds
#print axioms storeTicks_holds
end Go.Proofs.YtojbhnoiiikdfaaDoor
