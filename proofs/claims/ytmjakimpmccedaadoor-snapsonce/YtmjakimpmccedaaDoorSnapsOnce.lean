/- Of all bytes: what snap.Decode takes is what snap.Encode gives of the store that it answers, and what it does not take is answered by no item; the listed table holds what the program's text lays in it (the card ties it). -/
import Derived.Test.YtmjakimpmccedaaDoorFOpen
import Derived.Test.YtmjakimpmccedaaDoorSnapY
import Derived.Test.YtmjakimpmccedaaDoorTie
import Derived.Test.YtmjakimpmccedaaDoorCards
import Derived.Lay
import Derived.Lib.LaidTab
import Derived.Stop.LaidErr
import Derived.Stop.Joined
import Derived.SevenTiedAt
namespace Go.Proofs.YtmjakimpmccedaaDoor.SnapsOnce
open Go.ChangeShapes Go.WideShapes Go.ChangeAt Go.RowKit
set_option linter.unusedVariables false

theorem own : ownKnob Tryd.prog.godebug = none := by kernel_rfl
theorem laidOut : laidOutB Tryd.prog = true := by kernel_rfl
theorem gChunks : Tryd.prog.globalNamed "dovecote/store.chunks" = some 0 := by kernel_rfl
theorem tChunks : (Tryd.prog.globals[0]?).map (·.type) = some 22 := by kernel_rfl

theorem laidC {W : World} (h : laidMetH Tryd.prog Rows.snapsOnceRow.laid W) : LaidC W := by
  rw [MakeChecks.laidMetH_plain _ _ _ (by kernel_rfl)] at h
  have hb : Lib.TabIs Tryd.prog W "dovecote/store.chunks" .i64 [32, 64, 128, 256] := Lib.tabIs_of_head gChunks tChunks Tryd.underlying22 Tryd.underlying3 (by kernel_rfl) (by kernel_rfl) h
  have c0 := hb.cell gChunks 0 (by decide)
  exact ⟨World.block_lt_of_cell? _ _ c0, c0, hb.cell gChunks 1 (by decide), hb.cell gChunks 2 (by decide), hb.cell gChunks 3 (by decide)⟩

set_option maxHeartbeats 1000000 in
set_option maxRecDepth 100000 in
theorem walk (l : List UInt8) (a : Option Addr) (c : Nat) (w : World) (hA : BytesAt w a l) (hlc : l.length ≤ c) (hcm : c ≤ maxLen) (hL : LaidC w) :
    Calls Tryd.prog 5 #[.slice a l.length c] w fun e w' => e = .returned (.bool true) ∧ Below w.heap.size w w' := by
  have hdec := decode_any l a c w hA hlc hcm hL
  unfold DecPost at hdec
  by_cases he : decE l = 0
  · obtain ⟨hb, hen⟩ := dec_back l he
    have hok : ItemsOk (decS l).items := by
      have hS : decS l = (readR (bodyL l)).1 := by unfold decS; rw [if_pos he]
      rw [hS]
      exact storeR_ok ⟨bodyL l, 0⟩
    have hc2 := fun (ia : Option Addr) (ic : Nat) (pa : Option Addr) (pc : Nat) (w1 : World) (hS : StoreIn w1 (decS l) ia pa) (hL1 : LaidC w1) => encode_store (decS l) ia ic pa pc w1 hS hok hL1
    unfold EncPost encL at hc2
    rw [hb, if_pos rfl, hen, show codeN true = 0 from rfl] at hc2
    rw [he] at hdec
    have cvb := fun w1 (hb : Below w.heap.size w w1) => conv_bytes (hA.later hb) c
    have hlm := hA.1
    generalize decS l = s at *
    clear hb hen hok he
    obtain ⟨clock, scas, uses, most, h0, h1, h2, h3, items, fm, fx, pages⟩ := s
    unfold storeV at *
    simp only at *
    go_enter Tryd.func5, Tryd.ntmps5
    go_wp2_with fail
    refine hdec.mono ?_
    rintro e w1 ⟨ia, ic, pa, pc, rfl, hF1, hb1⟩
    have A2 : Below w1.heap.size w1 (w1.alloc (.cells #[.int .i64 clock, .int .i64 scas, .int .i64 uses, .int .i64 most, .int .i64 h0, .int .i64 h1, .int .i64 h2, .int .i64 h3, .slice ia items.length ic, .int .i64 fm, .int .i64 fx, .slice pa pages.length pc] 28)) := (Below.refl _ _).alloc (Nat.le_refl _) _
    have hB2 := hb1.trans (A2.mono hb1.size)
    have hI2 := hF1 _ A2.size (fun b _ hl => A2.block b hl)
    have hcall := hc2 ia ic pa pc _ hI2 (hL.later hB2)
    clear hc2 hdec
    go_wp2_with fail
    refine hcall.mono ?_
    rintro e w2 ⟨v2, rfl, hR2, hb2⟩
    obtain ⟨a2, c2, rfl, hA2⟩ := hR2.bytes hlm
    have hB3 := hB2.trans (hb2.mono hB2.size)
    have cv2 := conv_bytes hA2 c2
    have cv1 := cvb w2 hB3
    have g2 : ((strB l).toList == (strB l).toList) = true := by simp
    clear cvb hcall
    go_wp2
    go_ret
    exact ⟨rfl, hB3⟩
  · have hS : decS l = nilS := by unfold decS; rw [if_neg he]
    rw [hS] at hdec
    have heb : (decE l != 0) = true := by simp [he]
    generalize decE l = E at *
    unfold storeV nilS at hdec
    simp only at hdec
    clear he hS
    go_enter Tryd.func5, Tryd.ntmps5
    go_wp2_with fail
    refine hdec.mono ?_
    rintro e w1 ⟨ia, ic, pa, pc, rfl, hF1, hb1⟩
    go_wp2
    go_ret
    exact ⟨rfl, hb1.alloc hb1.size _⟩

set_option maxRecDepth 100000 in
theorem lifted (os : Os) (started : os.Started) (H : Type) (enc : TypeId × Value → H) :
    ReturnsInHanded {} Tryd.checked os 5 .any (fun w args => (Rows.snapsOnceSpec.pre enc Tryd.prog Tryd.f5 Rows.snapsOnceRow.domain false w args ∧ laidMetH Tryd.prog Rows.snapsOnceRow.laid w) ∧ sizedMet enc Tryd.prog Tryd.f5 (OpenSpec.ofChange Rows.snapsOnceSpec) false w args)
      (Rows.snapsOnceSpec.post enc Tryd.prog Tryd.f5 false true false false) := by
  refine returnsInHanded_of_change_and (C := Tryd.checked) (X := fun w _ => laidMetH Tryd.prog Rows.snapsOnceRow.laid w) (fun _ _ _ hh h => h.of_heap hh) own started (by kernel_rfl) Tryd.func5
    (ChangeSpec.witness_shaped (enc := enc) (C := Tryd.checked) (os := os) (X := fun w _ => laidMetH Tryd.prog Rows.snapsOnceRow.laid w) false (World.laidAll Tryd.prog os Rows.snapsOnceRow.laid)
      #[.slice none 0 0] 8 (World.laidAll_os _ _ _)
      (World.shaped_of_ZipB (by kernel_rfl) (by kernel_rfl)) (by kernel_rfl) (by kernel_rfl) (by kernel_rfl)
      (by rw [MakeChecks.laidMetH_plain _ _ _ (by kernel_rfl)]; exact laidMet_laidAll _ (by kernel_rfl) (by kernel_rfl))) ?_
  intro W base args ds gs before hval0 hW hc _ hL _
  have hval : ∀ (j : Nat) t v, Tryd.f5.params[j]? = some t → args[j]? = some v → Value.okWide Tryd.prog W .any base t v := hval0
  have hW' := hW
  obtain ⟨p, q, hA0, hV, rfl, hfz, hnd⟩ := hW
  have hA : DataW.TrodAll enc Tryd.prog W 0 (fun _ => true) true Tryd.f5.params.toList args.toList ds p := hA0
  rw [Tryd.params5] at hA hval
  obtain ⟨v0, vs0, d0, ds0, p0, q0, hargs0, rfl, rfl, h0, r0⟩ := trodAll_cons hA
  obtain ⟨rfl, rfl, rfl⟩ := trodAll_nil r0
  obtain rfl : args = #[v0] := by cases args; simp_all
  obtain ⟨rfl, rfl⟩ := trodVars_none hV
  have k0 := h0
  have lt0 : ∀ x ∈ p0, x.block < W.heap.size := by obtain ⟨m, hm⟩ := k0; exact DataW.trod_lt m _ _ _ hm
  obtain ⟨a', len', cap', rfl⟩ := okWide_slice Tryd.underlying29 (hval 0 29 v0 rfl rfl)
  obtain ⟨m0, hm0⟩ := h0
  obtain ⟨a, l, c, hsl, hBy, hlc, hcm⟩ := open_bytes (c := .slice a' len' cap') hm0
  cases hsl
  clear hA0 hval0
  refine (walk l _ _ W hBy hlc hcm (laidC hL)).mono fun e W' ⟨he, bel⟩ => ?_
  subst he
  exact ⟨_, rfl, _, _, _, [], _, [], hW', trodAll_mk1 (shut_bool Tryd.underlying4 _), (trodAll_cons_mk (Below.trod laidOut (by kernel_rfl) (of_decide_eq_true (by kernel_rfl)) k0 bel lt0) trodAll_mk0), rfl, bel.frame _, fun h => by cases h⟩

theorem row_holds : Rows.SnapsOnceSaid :=
  OpenClaim.holds_of_wide 5 Tryd.f5 rfl rfl rfl rfl rfl rfl rfl ⟨rfl, rfl, rfl, rfl, rfl⟩ rfl rfl rfl rfl rfl (by kernel_rfl) Tryd.func5 (by kernel_rfl)
    (of_decide_eq_true (by kernel_rfl)) (by unfold Func.isWrapper; first | (rw [if_pos (by decide +kernel)]; kernel_rfl) | (rw [if_neg (by decide +kernel)]; exact ⟨rfl, rfl⟩))
    (fun os started H enc _ => lifted os started H enc)

theorem card_holds : Rows.SnapsOnceCardSaid :=
  Claim7.holds_tied_plain_at .later [] _ _ _ _
    row_holds (fun _ h => by cases h) (by kernel_rfl) (fun _ h => by cases h) snapsOnce_row_tie rfl ⟨rfl, rfl⟩ (by kernel_rfl) rfl
    (fun f fn hf hfn => by
      obtain rfl : f = 5 := Option.some.inj ((show Tryd.prog.funcNamed "dovecote/dovecotekeep.SnapsOnce" = some 5 by kernel_rfl).symm.trans hf) |>.symm
      obtain rfl : fn = Tryd.f5 := (Option.some.inj (Tryd.func5.symm.trans hfn)).symm
      exact ⟨by kernel_rfl, fun j t ht => by
        rw [Tryd.params5] at ht
        have hm : t ∈ [29] := by simpa using Array.mem_of_getElem? ht
        have hall : ([29].all fun u => !Tryd.prog.wantsStandIn u) = true := by kernel_rfl
        exact (show Tryd.prog.wantsStandIn t = false by simpa using List.all_eq_true.1 hall t hm)⟩)
    (by kernel_rfl)
end Go.Proofs.YtmjakimpmccedaaDoor.SnapsOnce

namespace Go.Proofs.YtmjakimpmccedaaDoor
theorem snapsOnce_holds : Rows.SnapsOnceCardSaid := SnapsOnce.card_holds
#print axioms snapsOnce_holds
end Go.Proofs.YtmjakimpmccedaaDoor
