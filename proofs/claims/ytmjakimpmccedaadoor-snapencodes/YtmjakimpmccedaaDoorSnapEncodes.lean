/- At every store snap.Encode answers what dovecoteref.StoreBytes answers; the listed table holds what the program's text lays in it (the card ties it). -/
import Derived.Test.YtmjakimpmccedaaDoorSOpenK
import Derived.Test.YtmjakimpmccedaaDoorSnapK
import Derived.Test.YtmjakimpmccedaaDoorFValsW
import Derived.Test.YtmjakimpmccedaaDoorTie
import Derived.Test.YtmjakimpmccedaaDoorCards
import Derived.Lay
import Derived.Lib.LaidTab
import Derived.Stop.LaidErr
import Derived.Stop.Joined
import Derived.SevenTiedAt
namespace Go.Proofs.YtmjakimpmccedaaDoor.SnapEncodes
open Go.ChangeShapes Go.WideShapes Go.ChangeAt Go.RowKit
set_option linter.unusedVariables false

theorem own : ownKnob Tryd.prog.godebug = none := by kernel_rfl
theorem laidOut : laidOutB Tryd.prog = true := by kernel_rfl
theorem gChunks : Tryd.prog.globalNamed "dovecote/store.chunks" = some 0 := by kernel_rfl
theorem tChunks : (Tryd.prog.globals[0]?).map (·.type) = some 22 := by kernel_rfl

theorem laidC {W : World} (h : laidMetH Tryd.prog Rows.snapEncodesRow.laid W) : LaidC W := by
  rw [MakeChecks.laidMetH_plain _ _ _ (by kernel_rfl)] at h
  have hb : Lib.TabIs Tryd.prog W "dovecote/store.chunks" .i64 [32, 64, 128, 256] := Lib.tabIs_of_head gChunks tChunks Tryd.underlying22 Tryd.underlying3 (by kernel_rfl) (by kernel_rfl) h
  have c0 := hb.cell gChunks 0 (by decide)
  exact ⟨World.block_lt_of_cell? _ _ c0, c0, hb.cell gChunks 1 (by decide), hb.cell gChunks 2 (by decide), hb.cell gChunks 3 (by decide)⟩

theorem encL_len (s : StoreR) (hok : ItemsOk s.items) : (encL s).length ≤ maxLen := by
  unfold encL
  split
  · rename_i h
    have := storeX_len s (fit_of s h hok)
    unfold encS
    rw [List.length_append, List.length_append, seal_len]
    have : mark3.length = 3 := rfl
    unfold maxLen
    omega
  · simp

set_option maxHeartbeats 1000000 in
set_option maxRecDepth 100000 in
theorem walk (s : StoreR) (ia : Option Addr) (ic : Nat) (pa : Option Addr) (pc : Nat) (w : World) (hS : StoreIn w s ia pa) (hok : ItemsOk s.items) (hL : LaidC w) :
    Calls Tryd.prog 3 #[storeV s ia ic pa pc] w fun e w' => e = .returned (.bool true) ∧ Below w.heap.size w w' := by
  have hvi : VIn := fun l a c w h1 h2 h3 h4 => valuesIn_vals l a c w h1 h2 h3 h4
  have hc1 := fun (w1 : World) (hb : Below w.heap.size w w1) => encode_store s ia ic pa pc w1 (hS.later hb) hok (hL.later hb)
  have hc2 := fun (w1 : World) (hb : Below w.heap.size w w1) => storeBytes_any s ia ic pa pc w1 (hS.later hb) hok hvi
  have hlm := encL_len s hok
  unfold EncPost at hc1 hc2
  generalize encL s = L at *
  generalize codeN (storeB s) = N at *
  clear hS hok hL hvi
  obtain ⟨clock, scas, uses, most, h0, h1, h2, h3, items, fm, fx, pages⟩ := s
  unfold storeV at *
  simp only at *
  have hB0 : Below w.heap.size w (w.alloc (.cells #[.int .i64 clock, .int .i64 scas, .int .i64 uses, .int .i64 most, .int .i64 h0, .int .i64 h1, .int .i64 h2, .int .i64 h3, .slice ia items.length ic, .int .i64 fm, .int .i64 fx, .slice pa pages.length pc] 28)) := (Below.refl _ _).alloc (Nat.le_refl _) _
  have T0 := TB.new 28 w #[.int .i64 clock, .int .i64 scas, .int .i64 uses, .int .i64 most, .int .i64 h0, .int .i64 h1, .int .i64 h2, .int .i64 h3, .slice ia items.length ic, .int .i64 fm, .int .i64 fx, .slice pa pages.length pc]
  go_enter Tryd.func3, Tryd.ntmps3
  go_wp2_with fail
  refine (hc1 _ hB0).mono ?_
  rintro e w1 ⟨v1, rfl, hR1, hb1⟩
  have T1 := T0.later hb1
  have x1 := fun j => T1.cell j
  have l1 := T1.lt
  have hB1 := hB0.trans (hb1.mono hB0.size)
  go_wp2_with fail
  refine (hc2 _ hB1).mono ?_
  rintro e w2 ⟨v2, rfl, hR2, hb2⟩
  obtain ⟨a1, c1, rfl, hA1⟩ := (hR1.below hb2).bytes hlm
  obtain ⟨a2, c2, rfl, hA2⟩ := hR2.bytes hlm
  have cv1 := conv_bytes hA1 c1
  have cv2 := conv_bytes hA2 c2
  have g2 : ((strB L).toList == (strB L).toList) = true := by simp
  clear hc1 hc2 x1 l1 T0 T1 hR1 hR2
  go_wp2
  go_ret
  exact ⟨rfl, hB1.trans (hb2.mono hB1.size)⟩

set_option maxRecDepth 100000 in
theorem lifted (os : Os) (started : os.Started) (H : Type) (enc : TypeId × Value → H) :
    ReturnsInHanded {} Tryd.checked os 3 .any (fun w args => (Rows.snapEncodesSpec.pre enc Tryd.prog Tryd.f3 Rows.snapEncodesRow.domain false w args ∧ laidMetH Tryd.prog Rows.snapEncodesRow.laid w) ∧ sizedMet enc Tryd.prog Tryd.f3 (OpenSpec.ofChange Rows.snapEncodesSpec) false w args)
      (Rows.snapEncodesSpec.post enc Tryd.prog Tryd.f3 false true false false) := by
  refine returnsInHanded_of_change_and (C := Tryd.checked) (X := fun w _ => laidMetH Tryd.prog Rows.snapEncodesRow.laid w) (fun _ _ _ hh h => h.of_heap hh) own started (by kernel_rfl) Tryd.func3
    (ChangeSpec.witness_shaped (enc := enc) (C := Tryd.checked) (os := os) (X := fun w _ => laidMetH Tryd.prog Rows.snapEncodesRow.laid w) false (World.laidAll Tryd.prog os Rows.snapEncodesRow.laid)
      #[.agg #[.int .i64 0, .int .i64 0, .int .i64 0, .int .i64 0, .int .i64 0, .int .i64 0, .int .i64 0, .int .i64 0, .slice none 0 0, .int .i64 0, .int .i64 0, .slice none 0 0]] 8 (World.laidAll_os _ _ _)
      (World.shaped_of_ZipB (by kernel_rfl) (by kernel_rfl)) (by kernel_rfl) (by kernel_rfl) (by kernel_rfl)
      (by rw [MakeChecks.laidMetH_plain _ _ _ (by kernel_rfl)]; exact laidMet_laidAll _ (by kernel_rfl) (by kernel_rfl))) ?_
  intro W base args ds gs before hval0 hW hc _ hL _
  have hval : ∀ (j : Nat) t v, Tryd.f3.params[j]? = some t → args[j]? = some v → Value.okWide Tryd.prog W .any base t v := hval0
  have hW' := hW
  obtain ⟨p, q, hA0, hV, rfl, hfz, hnd⟩ := hW
  have hA : DataW.TrodAll enc Tryd.prog W 0 (fun _ => true) true Tryd.f3.params.toList args.toList ds p := hA0
  rw [Tryd.params3] at hA hval
  obtain ⟨v0, vs0, d0, ds0, p0, q0, hargs0, rfl, rfl, h0, r0⟩ := trodAll_cons hA
  obtain ⟨rfl, rfl, rfl⟩ := trodAll_nil r0
  obtain rfl : args = #[v0] := by cases args; simp_all
  obtain ⟨rfl, rfl⟩ := trodVars_none hV
  have k0 := h0
  have lt0 : ∀ x ∈ p0, x.block < W.heap.size := by obtain ⟨m, hm⟩ := k0; exact DataW.trod_lt m _ _ _ hm
  obtain ⟨s, ia, ic, pa, pc, rfl, hS, hok⟩ := open_storeO (hval 0 28 v0 rfl rfl) h0
  clear hA0 hval0
  refine (walk s ia ic pa pc W hS hok (laidC hL)).mono fun e W' ⟨he, bel⟩ => ?_
  subst he
  exact ⟨_, rfl, _, _, _, [], _, [], hW', trodAll_mk1 (shut_bool Tryd.underlying4 _), (trodAll_cons_mk (Below.trod laidOut (by kernel_rfl) (of_decide_eq_true (by kernel_rfl)) k0 bel lt0) trodAll_mk0), rfl, bel.frame _, fun h => by cases h⟩

theorem row_holds : Rows.SnapEncodesSaid :=
  OpenClaim.holds_of_wide 3 Tryd.f3 rfl rfl rfl rfl rfl rfl rfl ⟨rfl, rfl, rfl, rfl, rfl⟩ rfl rfl rfl rfl rfl (by kernel_rfl) Tryd.func3 (by kernel_rfl)
    (of_decide_eq_true (by kernel_rfl)) (by unfold Func.isWrapper; first | (rw [if_pos (by decide +kernel)]; kernel_rfl) | (rw [if_neg (by decide +kernel)]; exact ⟨rfl, rfl⟩))
    (fun os started H enc _ => lifted os started H enc)

theorem card_holds : Rows.SnapEncodesCardSaid :=
  Claim7.holds_tied_plain_at .later [] _ _ _ _
    row_holds (fun _ h => by cases h) (by kernel_rfl) (fun _ h => by cases h) snapEncodes_row_tie rfl ⟨rfl, rfl⟩ (by kernel_rfl) rfl
    (fun f fn hf hfn => by
      obtain rfl : f = 3 := Option.some.inj ((show Tryd.prog.funcNamed "dovecote/dovecotelaw.SnapEncodes" = some 3 by kernel_rfl).symm.trans hf) |>.symm
      obtain rfl : fn = Tryd.f3 := (Option.some.inj (Tryd.func3.symm.trans hfn)).symm
      exact ⟨by kernel_rfl, fun j t ht => by
        rw [Tryd.params3] at ht
        have hm : t ∈ [28] := by simpa using Array.mem_of_getElem? ht
        have hall : ([28].all fun u => !Tryd.prog.wantsStandIn u) = true := by kernel_rfl
        exact (show Tryd.prog.wantsStandIn t = false by simpa using List.all_eq_true.1 hall t hm)⟩)
    (by kernel_rfl)
end Go.Proofs.YtmjakimpmccedaaDoor.SnapEncodes

namespace Go.Proofs.YtmjakimpmccedaaDoor
theorem snapEncodes_holds : Rows.SnapEncodesCardSaid := SnapEncodes.card_holds
#print axioms snapEncodes_holds
end Go.Proofs.YtmjakimpmccedaaDoor
