/- At every flash flash.Check answers OK where dovecoteref.FlashMay takes it, and ErrState elsewhere, and the flash reads behind the call as it did; no condition. -/
import Derived.Test.YtidkdkdibkapoabFMay
import Derived.Test.YtidkdkdibkapoabFValsW
import Derived.Test.YtidkdkdibkapoabFOpen
namespace Go.Proofs.Ytidkdkdibkapoab.FlashChecks
open Go.ChangeShapes Go.WideShapes Go.ChangeAt Go.RowKit
open Go.ChangeMaps (open_string shut_string)
set_option linter.unusedVariables false

theorem own : ownKnob Try.prog.godebug = none := by kernel_rfl
theorem laidOut : laidOutB Try.prog = true := by kernel_rfl

set_option maxHeartbeats 1000000 in
theorem walk (m x : Int) (ps : List PageR) (a : Option Addr) (c : Nat) (w : World) (hA : PagesAt w a ps) :
    Calls Try.prog 4 #[.agg #[.int .i64 m, .int .i64 x, .slice a ps.length c]] w fun e w' => e = .returned (.bool true) ∧ Below w.heap.size w w' := by
  have hc1 := fun (w1 : World) (hb : Below w.heap.size w w1) => fcheck_any m x ps a c w1 (hA.later hb)
  have hc2 := fun (w1 : World) (hb : Below w.heap.size w w1) => may_any m x ps a c w1 (hA.later hb) (fun l a c w h1 h2 h3 h4 => valuesIn_any l a c w h1 h2 h3 h4)
  have hB0 : Below w.heap.size w (w.alloc (.cells #[.int .i64 m, .int .i64 x, .slice a ps.length c] 24)) := (Below.refl _ _).alloc (Nat.le_refl _) _
  cases hR : mayB m x ps
  · rw [hR] at hc1 hc2
    simp only [Bool.false_eq_true, if_false] at hc1
    go_enter Try.func4, Try.ntmps4
    go_wp2_with fail
    refine (hc1 _ hB0).mono ?_
    rintro e w1 ⟨rfl, hb1⟩
    obtain ⟨q1, q2⟩ := bcell hb1
    have hz := bsize hb1
    have hB1 := hB0.trans (hb1.mono hB0.size)
    go_wp2_with fail
    refine (hc2 _ hB1).mono ?_
    rintro e w2 ⟨rfl, hb2⟩
    go_wp2
    go_ret
    exact ⟨rfl, hB1.trans (hb2.mono hB1.size)⟩
  · rw [hR] at hc1 hc2
    simp only [if_true] at hc1
    go_enter Try.func4, Try.ntmps4
    go_wp2_with fail
    refine (hc1 _ hB0).mono ?_
    rintro e w1 ⟨rfl, hb1⟩
    obtain ⟨q1, q2⟩ := bcell hb1
    have hz := bsize hb1
    have hB1 := hB0.trans (hb1.mono hB0.size)
    go_wp2_with fail
    refine (hc2 _ hB1).mono ?_
    rintro e w2 ⟨rfl, hb2⟩
    go_wp2
    go_ret
    exact ⟨rfl, hB1.trans (hb2.mono hB1.size)⟩

set_option maxRecDepth 100000 in
theorem lifted (os : Os) (started : os.Started) (H : Type) (enc : TypeId × Value → H) :
    ReturnsInHanded {} Try.checked os 4 .any (Rows.flashChecksSpec.pre6 enc Try.prog Try.f4 Rows.flashChecksRow.domain false) (Rows.flashChecksSpec.post enc Try.prog Try.f4 false true false false) := by
  refine returnsInHanded_of_change (C := Try.checked) own started (by kernel_rfl) Try.func4
    (ChangeSpec.witness6 (enc := enc) (C := Try.checked) false ⟨#[], #[.agg #[.int .i64 0, .int .i64 0, .slice none 0 0]], []⟩ 8 (by kernel_rfl) (by kernel_rfl) (by kernel_rfl) (by kernel_rfl)) ?_
  intro W base args ds gs before hval0 hW hcnd _
  have hval : ∀ (j : Nat) t v, Try.f4.params[j]? = some t → args[j]? = some v → Value.okWide Try.prog W .any base t v := hval0
  have hW' := hW
  obtain ⟨p, q, hA0, hV, rfl, hfz, hnd⟩ := hW
  have hA : DataW.TrodAll enc Try.prog W 0 (fun _ => true) true Try.f4.params.toList args.toList ds p := hA0
  rw [Try.params4] at hA hval
  obtain ⟨v0, vs0, d0, ds0, p0, q0, hargs, rfl, rfl, h0, r0⟩ := trodAll_cons hA
  obtain ⟨rfl, rfl, rfl⟩ := trodAll_nil r0
  obtain rfl : args = #[v0] := by cases args; simp_all
  obtain ⟨rfl, rfl⟩ := trodVars_none hV
  have k0 := h0
  have lt0 : ∀ x ∈ p0, x.block < W.heap.size := by obtain ⟨m, hm⟩ := k0; exact DataW.trod_lt m _ _ _ hm
  obtain ⟨m, x, a, ps, c, rfl, hP, _, _⟩ := open_flash (hval 0 24 v0 rfl rfl) h0
  clear hA0 hval0
  refine (walk m x ps a c W hP).mono fun e W' ⟨he, bel⟩ => ?_
  subst he
  exact ⟨_, rfl, _, _, _, [], _, [], hW', trodAll_mk1 (shut_bool Try.underlying4 _), (trodAll_cons_mk (Below.trod laidOut (by kernel_rfl) (of_decide_eq_true (by kernel_rfl)) k0 bel lt0) trodAll_mk0), rfl, bel.frame _, fun h => by cases h⟩

theorem over : Rows.flashChecksRow.holds Try.pinned (OpenSpec.ofChange Rows.flashChecksSpec) :=
  OpenClaim.holds_of_wide 4 Try.f4 rfl rfl rfl rfl rfl rfl rfl ⟨rfl, rfl, rfl, rfl, rfl⟩ rfl rfl rfl rfl rfl (by kernel_rfl) Try.func4 (by kernel_rfl)
    (of_decide_eq_true (by kernel_rfl)) (by unfold Func.isWrapper; first | (rw [if_pos (by decide +kernel)]; kernel_rfl) | (rw [if_neg (by decide +kernel)]; exact ⟨rfl, rfl⟩))
    (fun os started H enc _ => lifted os started H enc)
end Go.Proofs.Ytidkdkdibkapoab.FlashChecks

namespace Go.Proofs.Ytidkdkdibkapoab
theorem flashChecks_holds : Rows.FlashChecksSaid := FlashChecks.over
#print axioms flashChecks_holds
end Go.Proofs.Ytidkdkdibkapoab
