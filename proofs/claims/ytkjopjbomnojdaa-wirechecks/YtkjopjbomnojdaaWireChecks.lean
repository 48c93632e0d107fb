/- At every request wire.Check answers what dovecoteref.RequestFault answers, and the request reads behind the call as it did; no condition. -/
import Derived.Test.YtkjopjbomnojdaaFault
import Derived.Test.YtkjopjbomnojdaaOpenReq
namespace Go.Proofs.Ytkjopjbomnojdaa.WireChecks
open Go.ChangeShapes Go.WideShapes Go.ChangeAt Go.RowKit
set_option linter.unusedVariables false

theorem own : ownKnob Try.prog.godebug = none := by kernel_rfl
theorem laidOut : laidOutB Try.prog = true := by kernel_rfl

theorem walk (kind : Int) (key : ByteArray) (ka : Option Addr) (kn kc : Nat) (keys : List ByteArray) (flags exp nn : Int) (value : ByteArray) (quiet : Bool) (w : World) (hK : StrsAt w ka kn keys) (hk : key.size ≤ maxLen) (hv : value.size ≤ maxLen) :
    Calls Try.prog 4 #[.agg #[.int .i64 kind, .string key, .slice ka kn kc, .int .i64 flags, .int .i64 exp, .int .i64 nn, .string value, .bool quiet]] w fun e w' => e = .returned (.bool true) ∧ Below w.heap.size w w' := by
  have hc1 := fun (w1 : World) (hb : Below w.heap.size w w1) => check_any kind key ka kn kc keys flags exp nn value quiet w1 (hK.later hb) hk hv
  have hc2 := fun (w1 : World) (hb : Below w.heap.size w w1) => fault_any kind key ka kn kc keys flags exp nn value quiet w1 (hK.later hb) hk hv
  generalize checkN kind key keys flags exp nn value quiet = E at *
  have e1 : (E == E) = true := by simp
  go_enter Try.func4, Try.ntmps4
  go_wp2_with fail
  refine (hc1 _ ((Below.refl _ _).alloc (Nat.le_refl _) _)).mono ?_
  rintro e w1 ⟨rfl, hb⟩
  obtain ⟨q1, q2⟩ := bcell hb
  have hz := bsize hb
  have hB : Below w.heap.size w w1 := ((Below.refl _ _).alloc (Nat.le_refl _) _).trans (hb.mono (by simp))
  go_wp2_with fail
  refine (hc2 _ hB).mono ?_
  rintro e w2 ⟨rfl, hb2⟩
  go_wp2
  go_ret
  exact ⟨by simp, hB.trans (hb2.mono (by omega))⟩

set_option maxRecDepth 100000 in
theorem lifted (os : Os) (started : os.Started) (H : Type) (enc : TypeId × Value → H) :
    ReturnsInHanded {} Try.checked os 4 .any (Rows.wireChecksSpec.pre6 enc Try.prog Try.f4 Rows.wireChecksRow.domain false) (Rows.wireChecksSpec.post enc Try.prog Try.f4 false true false false) := by
  refine returnsInHanded_of_change (C := Try.checked) own started (by kernel_rfl) Try.func4
    (ChangeSpec.witness6 (enc := enc) (C := Try.checked) false ⟨#[], #[.agg #[.int .i64 0, .string ByteArray.empty, .slice none 0 0, .int .i64 0, .int .i64 0, .int .i64 0, .string ByteArray.empty, .bool false]], []⟩ 8 (by kernel_rfl) (by kernel_rfl) (by kernel_rfl) (by kernel_rfl)) ?_
  intro W base args ds gs before hval0 hW hcnd _
  have hval : ∀ (j : Nat) t v, Try.f4.params[j]? = some t → args[j]? = some v → Value.okWide Try.prog W .any base t v := hval0
  have hW' := hW
  obtain ⟨p, q, hA0, hV, rfl, hfz, hnd⟩ := hW
  have hA : DataW.TrodAll enc Try.prog W 0 (fun _ => true) true Try.f4.params.toList args.toList ds p := hA0
  rw [Try.params4] at hA hval
  obtain ⟨v0, vs0, d0, ds0, p0, q0, hargs, rfl, rfl, h0, r0⟩ := trodAll_cons hA
  obtain ⟨rfl, rfl, rfl⟩ := trodAll_nil r0
  obtain rfl : args = #[v0] := by cases args; simp_all
  obtain ⟨rfl, rfl⟩ := trodVars_none hV
  have k0 := h0
  have lt0 : ∀ x ∈ p0, x.block < W.heap.size := by obtain ⟨m, hm⟩ := k0; exact DataW.trod_lt m _ _ _ hm
  obtain ⟨kind, key, ka, kn, kc, keys, flags, exp, nn, value, quiet, rfl, hK, hk, hv, _, _, _, _⟩ := open_req (hval 0 25 v0 rfl rfl) h0
  clear hA0 hval0
  refine (walk kind key ka kn kc keys flags exp nn value quiet W hK hk hv).mono fun e W' ⟨he, bel⟩ => ?_
  subst he
  exact ⟨_, rfl, _, _, _, [], _, [], hW', trodAll_mk1 (shut_bool Try.underlying4 _), (trodAll_cons_mk (Below.trod laidOut (by kernel_rfl) (of_decide_eq_true (by kernel_rfl)) k0 bel lt0) trodAll_mk0), rfl, bel.frame _, fun h => by cases h⟩

theorem over : Rows.wireChecksRow.holds Try.pinned (OpenSpec.ofChange Rows.wireChecksSpec) :=
  OpenClaim.holds_of_wide 4 Try.f4 rfl rfl rfl rfl rfl rfl rfl ⟨rfl, rfl, rfl, rfl, rfl⟩ rfl rfl rfl rfl rfl (by kernel_rfl) Try.func4 (by kernel_rfl)
    (of_decide_eq_true (by kernel_rfl)) (by unfold Func.isWrapper; first | (rw [if_pos (by decide +kernel)]; kernel_rfl) | (rw [if_neg (by decide +kernel)]; exact ⟨rfl, rfl⟩))
    (fun os started H enc _ => lifted os started H enc)
end Go.Proofs.Ytkjopjbomnojdaa.WireChecks

namespace Go.Proofs.Ytkjopjbomnojdaa
theorem wireChecks_holds : Rows.WireChecksSaid := WireChecks.over
#print axioms wireChecks_holds
end Go.Proofs.Ytkjopjbomnojdaa
