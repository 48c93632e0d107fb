/- At every row of raw things and every raw thing: what is deleted, or flushed, is not found; the listed tables hold what the program's text lays in them (the card ties it). -/
import Derived.Test.YtdblegdgmjakfaaGreatDoorMJ35
import Derived.Test.YtdblegdgmjakfaaGreatDoorTie
import Derived.Test.YtdblegdgmjakfaaGreatDoorCards
import Derived.Lay
import Derived.Lib.LaidTab
import Derived.Stop.LaidErr
import Derived.Stop.Joined
import Derived.SevenTiedAt
namespace Go.Proofs.YtdblegdgmjakfaaGreatDoor.DeletesGo
open Go.ChangeShapes Go.WideShapes Go.ChangeAt Go.RowKit
set_option linter.unusedVariables false

theorem own : ownKnob Tryz.prog.godebug = none := by kernel_rfl
theorem laidOut : laidOutB Tryz.prog = true := by kernel_rfl
theorem gChunks : Tryz.prog.globalNamed "dovecote/store.chunks" = some 0 := by kernel_rfl
theorem tChunks : (Tryz.prog.globals[0]?).map (·.type) = some 23 := by kernel_rfl
theorem gPow : Tryz.prog.globalNamed "internal/strconv.uint64pow10" = some 2 := by kernel_rfl
theorem tPow : (Tryz.prog.globals[2]?).map (·.type) = some 166 := by kernel_rfl

theorem laidC {W : World} (h : laidMetH Tryz.prog Rows.deletesGoRow.laid W) : LaidC W ∧ LaidT W := by
 rw [MakeChecks.laidMetH_plain _ _ _ (by kernel_rfl)] at h
 have hp := h.tail.tail
 have hch := hp.tail
 have hb : Lib.TabIs Tryz.prog W "dovecote/store.chunks" .i64 [32, 64, 128, 256] := Lib.tabIs_of_head gChunks tChunks Tryz.underlying23 Tryz.underlying3 (by kernel_rfl) (by kernel_rfl) hch
 have c0 := hb.cell gChunks 0 (by decide)
 exact ⟨⟨World.block_lt_of_cell? _ _ c0, c0, hb.cell gChunks 1 (by decide), hb.cell gChunks 2 (by decide), hb.cell gChunks 3 (by decide)⟩, Lib.tabIs_of_head gPow tPow Tryz.underlying166 Tryz.underlying128 (by kernel_rfl) (by kernel_rfl) hp⟩

set_option maxRecDepth 100000 in
theorem lifted (os : Os) (started : os.Started) (H : Type) (enc : TypeId × Value → H) :
 ReturnsInHanded {} Tryz.checked os 11 .any (fun w args => (Rows.deletesGoSpec.pre enc Tryz.prog Tryz.f11 Rows.deletesGoRow.domain false w args ∧ laidMetH Tryz.prog Rows.deletesGoRow.laid w) ∧ sizedMet enc Tryz.prog Tryz.f11 (OpenSpec.ofChange Rows.deletesGoSpec) false w args)
  (Rows.deletesGoSpec.post enc Tryz.prog Tryz.f11 false true false false) := by
 refine returnsInHanded_of_change_and (C := Tryz.checked) (X := fun w _ => laidMetH Tryz.prog Rows.deletesGoRow.laid w) (fun _ _ _ hh h => h.of_heap hh) own started (by kernel_rfl) Tryz.func11
  (ChangeSpec.witness_shaped (enc := enc) (C := Tryz.checked) (os := os) (X := fun w _ => laidMetH Tryz.prog Rows.deletesGoRow.laid w) false (World.laidAll Tryz.prog os Rows.deletesGoRow.laid)
    #[.slice none 0 0, .agg #[.int .i64 0, .int .i64 0, .int .i64 0, .int .i64 0]] 8 (World.laidAll_os _ _ _)
    (World.shaped_of_ZipB (by kernel_rfl) (by kernel_rfl)) (by kernel_rfl) (by kernel_rfl) (by kernel_rfl)
    (by rw [MakeChecks.laidMetH_plain _ _ _ (by kernel_rfl)]; exact laidMet_laidAll _ (by kernel_rfl) (by kernel_rfl))) ?_
 intro W base args ds gs before hval0 hW hc _ hL _
 have hval : ∀ (j : Nat) t v, Tryz.f11.params[j]? = some t → args[j]? = some v → Value.okWide Tryz.prog W .any base t v := hval0
 have hW' := hW
 obtain ⟨p, q, hA0, hV, rfl, hfz, hnd⟩ := hW
 have hA : DataW.TrodAll enc Tryz.prog W 0 (fun _ => true) true Tryz.f11.params.toList args.toList ds p := hA0
 rw [Tryz.params11] at hA hval
 obtain ⟨v0, vs0, d0, ds0, p0, q0, hargs0, rfl, rfl, h0, r0X⟩ := trodAll_cons hA
 obtain ⟨v1, vs1, d1, ds1, p1, q1, hargs1, rfl, rfl, h1, r1X⟩ := trodAll_cons r0X
 obtain ⟨rfl, rfl, rfl⟩ := trodAll_nil r1X
 obtain rfl : args = #[v0, v1] := by cases args; simp_all
 obtain ⟨rfl, rfl⟩ := trodVars_none hV
 have k0 := h0
 have lt0 : ∀ x ∈ p0, x.block < W.heap.size := by obtain ⟨m, hm⟩ := k0; exact DataW.trod_lt m _ _ _ hm
 have k1 := h1
 have lt1 : ∀ x ∈ p1, x.block < W.heap.size := by obtain ⟨m, hm⟩ := k1; exact DataW.trod_lt m _ _ _ hm
 obtain ⟨ra0, l0, rc0, rfl, wr0, wo0⟩ := open_raws (hval 0 22 v0 rfl rfl) h0
 obtain ⟨r1, rfl, wo1⟩ := open_raw1 (hval 1 38 v1 rfl rfl) h1
 clear hA0 hval0
 refine (deletes_go l0 ra0 rc0 r1 W wr0 wo0 wo1 (laidC hL).1 (laidC hL).2).mono fun e W' ⟨he, bel⟩ => ?_
 subst he
 exact ⟨_, rfl, _, _, _, [], _, [], hW', trodAll_mk1 (shut_bool Tryz.underlying4 _), (trodAll_cons_mk (Below.trod laidOut (by kernel_rfl) (of_decide_eq_true (by kernel_rfl)) k0 bel lt0) (trodAll_cons_mk (Below.trod laidOut (by kernel_rfl) (of_decide_eq_true (by kernel_rfl)) k1 bel lt1) trodAll_mk0)), rfl, bel.frame _, fun h => by cases h⟩

theorem row_holds : Rows.DeletesGoSaid :=
 OpenClaim.holds_of_wide 11 Tryz.f11 rfl rfl rfl rfl rfl rfl rfl ⟨rfl, rfl, rfl, rfl, rfl⟩ rfl rfl rfl rfl rfl (by kernel_rfl) Tryz.func11 (by kernel_rfl)
  (of_decide_eq_true (by kernel_rfl)) (by unfold Func.isWrapper; first | (rw [if_pos (by decide +kernel)]; kernel_rfl) | (rw [if_neg (by decide +kernel)]; exact ⟨rfl, rfl⟩))
  (fun os started H enc _ => lifted os started H enc)

theorem card_holds : Rows.DeletesGoCardSaid :=
 Claim7.holds_tied_plain_at .later [] _ _ _ _
  row_holds (fun _ h => by cases h) (by kernel_rfl) (fun _ h => by cases h) deletesGo_row_tie rfl ⟨rfl, rfl⟩ (by kernel_rfl) rfl
  (fun f fn hf hfn => by
    obtain rfl : f = 11 := Option.some.inj ((show Tryz.prog.funcNamed "dovecote/dovecotekeep.DeletesGo" = some 11 by kernel_rfl).symm.trans hf) |>.symm
    obtain rfl : fn = Tryz.f11 := (Option.some.inj (Tryz.func11.symm.trans hfn)).symm
    exact ⟨by kernel_rfl, fun j t ht => by
     rw [Tryz.params11] at ht
     have hm : t ∈ [22, 38] := by simpa using Array.mem_of_getElem? ht
     have hall : ([22, 38].all fun u => !Tryz.prog.wantsStandIn u) = true := by kernel_rfl
     exact (show Tryz.prog.wantsStandIn t = false by simpa using List.all_eq_true.1 hall t hm)⟩)
  (by kernel_rfl)
end Go.Proofs.YtdblegdgmjakfaaGreatDoor.DeletesGo

namespace Go.Proofs.YtdblegdgmjakfaaGreatDoor
theorem deletesGo_holds : Rows.DeletesGoCardSaid := DeletesGo.card_holds
#print axioms deletesGo_holds
end Go.Proofs.YtdblegdgmjakfaaGreatDoor
