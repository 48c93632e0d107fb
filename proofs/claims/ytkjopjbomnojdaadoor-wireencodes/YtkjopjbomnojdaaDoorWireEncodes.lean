/- At every request wire.Encode answers what dovecoteref.RequestText answers, and the request reads behind the call as it did; the four listed tables hold what the program's text lays in them (the card ties them). -/
import Derived.Test.YtkjopjbomnojdaaDoorReqText2
import Derived.Test.YtkjopjbomnojdaaDoorLaid
import Derived.Test.YtkjopjbomnojdaaDoorTie
import Derived.Test.YtkjopjbomnojdaaDoorCards
import Derived.SevenTiedAt
namespace Go.Proofs.YtkjopjbomnojdaaDoor.WireEncodes
open Go.ChangeShapes Go.WideShapes Go.ChangeAt Go.RowKit
set_option linter.unusedVariables false

theorem own : ownKnob Tryd.prog.godebug = none := by kernel_rfl
theorem laidOut : laidOutB Tryd.prog = true := by kernel_rfl
theorem gNames : Tryd.prog.globalNamed "dovecote/wire.names" = some 1 := by kernel_rfl
theorem tNames : (Tryd.prog.globals[1]?).map (·.type) = some 60 := by kernel_rfl
theorem gPow : Tryd.prog.globalNamed "internal/strconv.uint64pow10" = some 4 := by kernel_rfl
theorem tPow : (Tryd.prog.globals[4]?).map (·.type) = some 120 := by kernel_rfl

theorem laidW {W : World} (h : laidMetH Tryd.prog Rows.wireEncodesRow.laid W) : LaidW W := by
  rw [MakeChecks.laidMetH_plain _ _ _ (by kernel_rfl)] at h
  have h2 := h.tail.tail
  have h3 := h2.tail
  refine ⟨?_, ?_⟩
  · exact strsIs_of_head (l := nameL) gNames tNames Tryd.underlying60 Tryd.underlying9 (by kernel_rfl) h3
  · exact Lib.tabIs_of_head gPow tPow Tryd.underlying120 Tryd.underlying107 (by kernel_rfl) (by kernel_rfl) h2

theorem walk (kind : Int) (key : ByteArray) (ka : Option Addr) (kn kc : Nat) (keys : List ByteArray) (flags exp nn : Int) (value : ByteArray) (quiet : Bool) (w : World) (hL : LaidW w) (hK : StrsAt w ka kn keys) (hk : key.size ≤ maxLen) (hv : value.size ≤ maxLen) :
    Calls Tryd.prog 3 #[.agg #[.int .i64 kind, .string key, .slice ka kn kc, .int .i64 flags, .int .i64 exp, .int .i64 nn, .string value, .bool quiet]] w fun e w' => e = .returned (.bool true) ∧ Below w.heap.size w w' := by
  have hc1 := fun (w1 : World) (hb : Below w.heap.size w w1) => encode_any kind key ka kn kc keys flags exp nn value quiet w1 (hL.later hb) (hK.later hb) hk hv
  have hc2 := fun (w1 : World) (hb : Below w.heap.size w w1) => reqText_any kind key ka kn kc keys flags exp nn value quiet w1 (hK.later hb) hk hv
  generalize encN kind key keys flags exp nn value quiet = E at *
  generalize encS kind key keys flags exp nn value quiet = T at *
  have e1 : (E == E) = true := by simp
  have e2 : (T.toList == T.toList) = true := by simp
  have hB0 : Below w.heap.size w (w.alloc (.cells #[.int .i64 kind, .string key, .slice ka kn kc, .int .i64 flags, .int .i64 exp, .int .i64 nn, .string value, .bool quiet] 24)) := (Below.refl _ _).alloc (Nat.le_refl _) _
  go_enter Tryd.func3, Tryd.ntmps3
  go_wp2_with fail
  refine (hc1 _ hB0).mono ?_
  rintro e w1 ⟨rfl, hb⟩
  obtain ⟨q1, q2⟩ := bcell hb
  have hz := bsize hb
  have hB : Below w.heap.size w w1 := hB0.trans (hb.mono (by simp))
  go_wp2_with fail
  refine (hc2 _ hB).mono ?_
  rintro e w2 ⟨rfl, hb2⟩
  go_wp2
  go_ret
  exact ⟨by simp, hB.trans (hb2.mono (by omega))⟩

set_option maxRecDepth 100000 in
theorem lifted (os : Os) (started : os.Started) (H : Type) (enc : TypeId × Value → H) :
    ReturnsInHanded {} Tryd.checked os 3 .any (fun w args => (Rows.wireEncodesSpec.pre enc Tryd.prog Tryd.f3 Rows.wireEncodesRow.domain false w args ∧ laidMetH Tryd.prog Rows.wireEncodesRow.laid w) ∧ sizedMet enc Tryd.prog Tryd.f3 (OpenSpec.ofChange Rows.wireEncodesSpec) false w args)
      (Rows.wireEncodesSpec.post enc Tryd.prog Tryd.f3 false true false false) := by
  refine returnsInHanded_of_change_and (C := Tryd.checked) (X := fun w _ => laidMetH Tryd.prog Rows.wireEncodesRow.laid w) (fun _ _ _ hh h => h.of_heap hh) own started (by kernel_rfl) Tryd.func3
    (ChangeSpec.witness_shaped (enc := enc) (C := Tryd.checked) (os := os) (X := fun w _ => laidMetH Tryd.prog Rows.wireEncodesRow.laid w) false (World.laidAll Tryd.prog os Rows.wireEncodesRow.laid)
      #[.agg #[.int .i64 0, .string ByteArray.empty, .slice none 0 0, .int .i64 0, .int .i64 0, .int .i64 0, .string ByteArray.empty, .bool false]] 8 (World.laidAll_os _ _ _)
      (World.shaped_of_ZipB (by kernel_rfl) (by kernel_rfl)) (by kernel_rfl) (by kernel_rfl) (by kernel_rfl)
      (by rw [MakeChecks.laidMetH_plain _ _ _ (by kernel_rfl)]; exact laidMet_laidAll _ (by kernel_rfl) (by kernel_rfl))) ?_
  intro W base args ds gs before hval0 hW hc _ hL _
  have hval : ∀ (j : Nat) t v, Tryd.f3.params[j]? = some t → args[j]? = some v → Value.okWide Tryd.prog W .any base t v := hval0
  have hW' := hW
  obtain ⟨p, q, hA0, hV, rfl, hfz, hnd⟩ := hW
  have hA : DataW.TrodAll enc Tryd.prog W 0 (fun _ => true) true Tryd.f3.params.toList args.toList ds p := hA0
  rw [Tryd.params3] at hA hval
  obtain ⟨v0, vs0, d0, ds0, p0, q0, hargs, rfl, rfl, h0, r0⟩ := trodAll_cons hA
  obtain ⟨rfl, rfl, rfl⟩ := trodAll_nil r0
  obtain rfl : args = #[v0] := by cases args; simp_all
  obtain ⟨rfl, rfl⟩ := trodVars_none hV
  have k0 := h0
  have lt0 : ∀ x ∈ p0, x.block < W.heap.size := by obtain ⟨m, hm⟩ := k0; exact DataW.trod_lt m _ _ _ hm
  obtain ⟨kind, key, ka, kn, kc, keys, flags, exp, nn, value, quiet, rfl, hK, hk, hv, _, _, _, _⟩ := open_req (hval 0 24 v0 rfl rfl) h0
  clear hA0 hval0
  refine (walk kind key ka kn kc keys flags exp nn value quiet W (laidW hL) hK hk hv).mono fun e W' ⟨he, bel⟩ => ?_
  subst he
  exact ⟨_, rfl, _, _, _, [], _, [], hW', trodAll_mk1 (shut_bool Tryd.underlying4 _), (trodAll_cons_mk (Below.trod laidOut (by kernel_rfl) (of_decide_eq_true (by kernel_rfl)) k0 bel lt0) trodAll_mk0), rfl, bel.frame _, fun h => by cases h⟩

theorem row_holds : Rows.WireEncodesSaid :=
  OpenClaim.holds_of_wide 3 Tryd.f3 rfl rfl rfl rfl rfl rfl rfl ⟨rfl, rfl, rfl, rfl, rfl⟩ rfl rfl rfl rfl rfl (by kernel_rfl) Tryd.func3 (by kernel_rfl)
    (of_decide_eq_true (by kernel_rfl)) (by unfold Func.isWrapper; first | (rw [if_pos (by decide +kernel)]; kernel_rfl) | (rw [if_neg (by decide +kernel)]; exact ⟨rfl, rfl⟩))
    (fun os started H enc _ => lifted os started H enc)

theorem card_holds : Rows.WireEncodesCardSaid :=
  Claim7.holds_tied_plain_at .later [] _ _ _ _
    row_holds (fun _ h => by cases h) (by kernel_rfl) (fun _ h => by cases h) wireEncodes_row_tie rfl ⟨rfl, rfl⟩ (by kernel_rfl) rfl
    (fun f fn hf hfn => by
      obtain rfl : f = 3 := Option.some.inj ((show Tryd.prog.funcNamed "dovecote/dovecotelaw.WireEncodes" = some 3 by kernel_rfl).symm.trans hf) |>.symm
      obtain rfl : fn = Tryd.f3 := (Option.some.inj (Tryd.func3.symm.trans hfn)).symm
      exact ⟨by kernel_rfl, fun j t ht => by
        rw [Tryd.params3] at ht
        have hm : t ∈ [24] := by simpa using Array.mem_of_getElem? ht
        have hall : ([24].all fun u => !Tryd.prog.wantsStandIn u) = true := by kernel_rfl
        exact (show Tryd.prog.wantsStandIn t = false by simpa using List.all_eq_true.1 hall t hm)⟩)
    (by kernel_rfl)
end Go.Proofs.YtkjopjbomnojdaaDoor.WireEncodes

namespace Go.Proofs.YtkjopjbomnojdaaDoor
theorem wireEncodes_holds : Rows.WireEncodesCardSaid := WireEncodes.card_holds
#print axioms wireEncodes_holds
end Go.Proofs.YtkjopjbomnojdaaDoor
