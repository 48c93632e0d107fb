/- At every text wire.Next answers what dovecoteref.NextOf answers, and the text reads behind the call as it did; the four listed tables hold what the program's text lays in them (the card ties them). -/
import Derived.Test.YtkjfkonekajffaaDoorLineOfR
import Derived.Test.YtkjfkonekajffaaDoorSame
import Derived.Test.YtkjfkonekajffaaDoorLaid
import Derived.Test.YtkjfkonekajffaaDoorTie
import Derived.Test.YtkjfkonekajffaaDoorCards
import Derived.SevenTiedAt
import Derived.HandedShaped
namespace Go.Proofs.YtkjfkonekajffaaDoor.WireNext
open Go.ChangeShapes Go.WideShapes Go.ChangeAt Go.RowKit
open Go.ChangeMaps (open_string shut_string)
set_option linter.unusedVariables false

theorem own : ownKnob Tryd.prog.godebug = none := by kernel_rfl
theorem laidOut : laidOutB Tryd.prog = true := by kernel_rfl
theorem gNames : Tryd.prog.globalNamed "dovecote/wire.names" = some 1 := by kernel_rfl
theorem tNames : (Tryd.prog.globals[1]?).map (·.type) = some 78 := by kernel_rfl
theorem gBehind : Tryd.prog.globalNamed "dovecote/wire.behindName" = some 0 := by kernel_rfl
theorem tBehind : (Tryd.prog.globals[0]?).map (·.type) = some 72 := by kernel_rfl

theorem laidN {W : World} (h : laidMetH Tryd.prog Rows.wireNextRow.laid W) (hsh : W.ShapedOpen Tryd.prog) : LaidN W := by
  rw [MakeChecks.laidMetH_plain _ _ _ (by kernel_rfl)] at h
  have h2 := h.tail
  have h3 := h2.tail
  have hb : Lib.TabIs Tryd.prog W "dovecote/wire.behindName" .i64 behindL := Lib.tabIs_of_head gBehind tBehind Tryd.underlying72 Tryd.underlying3 (by kernel_rfl) (by kernel_rfl) h2
  obtain ⟨m, hm⟩ := Tryd.laysM146.s1_3 W hsh
  have hc0 := hb.cell gBehind 0 (by decide)
  exact ⟨strsIs_of_head (l := nameL) gNames tNames Tryd.underlying78 Tryd.underlying9 (by kernel_rfl) h3, ⟨World.block_lt_of_cell? _ _ hc0, fun k hk => hb.cell gBehind k hk⟩, World.block_lt_of_cell? _ _ hm, m, hm⟩

set_option maxHeartbeats 1000000 in
set_option maxRecDepth 100000 in
theorem walk (s : ByteArray) (w : World) (hL : LaidN w) (hs : s.size ≤ maxLen) :
    Calls Tryd.prog 3 #[.string s] w fun e w' => e = .returned (.bool true) ∧ Below w.heap.size w w' := by
  have hc1 := next_any s w hL hs
  have hc2 := fun (w1 : World) => nextOf_any lineOf_any s w1 hs
  generalize nextD s = X at *
  obtain ⟨xk, xy, xs, xf, xe, xn, xv, xq, xm⟩ := X
  have e1 : (xm == xm) = true := by simp
  go_enter Tryd.func3, Tryd.ntmps3
  go_wp2_with fail
  refine hc1.mono ?_
  rintro e w1 ⟨a, c, rfl, hS1, hb1⟩
  simp only at *
  have hB1 : Below w1.heap.size w1 (w1.alloc (.cells #[.int .i64 xk, .string xy, .slice a xs.length c, .int .i64 xf, .int .i64 xe, .int .i64 xn, .string xv, .bool xq] 24)) := (Below.refl _ _).alloc (Nat.le_refl _) _
  have hRa := RB.new w1 #[.int .i64 xk, .string xy, .slice a xs.length c, .int .i64 xf, .int .i64 xe, .int .i64 xn, .string xv, .bool xq]
  go_wp2_with fail
  refine (hc2 _).mono ?_
  rintro e w2 ⟨a2, c2, rfl, hS2, hb2⟩
  simp only at *
  have hb12 := hB1.trans (hb2.mono hB1.size)
  have hB2 := hb1.trans (hb12.mono hb1.size)
  have hRa2 := hRa.later hb2
  have k1 := fun j => hRa2.cell j
  have hz : w1.heap.size < w2.heap.size := hRa2.lt
  have hB3 : Below w2.heap.size w2 (w2.alloc (.cells #[.int .i64 xk, .string xy, .slice a2 xs.length c2, .int .i64 xf, .int .i64 xe, .int .i64 xn, .string xv, .bool xq] 24)) := (Below.refl _ _).alloc (Nat.le_refl _) _
  have hsr := sameReq_same xk xy xs xf xe xn xv xq a a2 c c2 _ ((hS1.later hb12).later hB3) (hS2.later hB3)
  clear hc1 hc2
  go_wp2_with fail
  refine hsr.mono ?_
  rintro e w4 ⟨rfl, hb4⟩
  go_wp2
  go_ret
  exact ⟨rfl, (hB2.trans (hB3.mono hB2.size)).trans (hb4.mono (hB2.trans (hB3.mono hB2.size)).size)⟩

set_option maxRecDepth 100000 in
theorem lifted (os : Os) (started : os.Started) (H : Type) (enc : TypeId × Value → H) :
    ReturnsInHanded {} Tryd.checked os 3 .any (fun w args => (Rows.wireNextSpec.pre enc Tryd.prog Tryd.f3 Rows.wireNextRow.domain false w args ∧ laidMetH Tryd.prog Rows.wireNextRow.laid w) ∧ sizedMet enc Tryd.prog Tryd.f3 (OpenSpec.ofChange Rows.wireNextSpec) false w args)
      (Rows.wireNextSpec.post enc Tryd.prog Tryd.f3 false true false false) := by
  refine returnsInHanded_of_calls (C := Tryd.checked) own started (by kernel_rfl)
    (ChangeSpec.witness_shaped (enc := enc) (C := Tryd.checked) (os := os) (X := fun w _ => laidMetH Tryd.prog Rows.wireNextRow.laid w) false (World.laidAll Tryd.prog os Rows.wireNextRow.laid)
      #[.string ByteArray.empty] 8 (World.laidAll_os _ _ _)
      (World.shaped_of_ZipB (by kernel_rfl) (by kernel_rfl)) (by kernel_rfl) (by kernel_rfl) (by kernel_rfl)
      (by rw [MakeChecks.laidMetH_plain _ _ _ (by kernel_rfl)]; exact laidMet_laidAll _ (by kernel_rfl) (by kernel_rfl))) ?_
  intro w tape i _ hsh _ hok hpre hholds
  obtain ⟨_, _, _, fn', hfn', _, _, _, _, hval0⟩ := hok
  obtain rfl : fn' = Tryd.f3 := Option.some.inj (hfn'.symm.trans Tryd.func3)
  obtain ⟨⟨⟨ds, gs, before, hw, hc⟩, hx⟩, _⟩ := hpre
  have hW := DataW.Whole.of_heap (w' := w.forCall tape i) (by rfl) hw
  have hL : laidMetH Tryd.prog Rows.wireNextRow.laid (w.forCall tape i) := hx.of_heap (by rfl)
  generalize i.args = args at *
  generalize w.forCall tape i = W at *
  have hval : ∀ (j : Nat) t v, Tryd.f3.params[j]? = some t → args[j]? = some v → Value.okWide Tryd.prog W .any w.heap.size t v := hval0
  have hW' := hW
  obtain ⟨p, q, hA0, hV, rfl, hfz, hnd⟩ := hW
  have hA : DataW.TrodAll enc Tryd.prog W 0 (fun _ => true) true Tryd.f3.params.toList args.toList ds p := hA0
  rw [Tryd.params3] at hA hval
  obtain ⟨v0, vs0, d0, ds0, p0, q0, hargs, rfl, rfl, h0, r0⟩ := trodAll_cons hA
  obtain ⟨rfl, rfl, rfl⟩ := trodAll_nil r0
  obtain rfl : args = #[v0] := by cases args; simp_all
  obtain ⟨rfl, rfl⟩ := trodVars_none hV
  have k0 := h0
  have lt0 : ∀ x ∈ p0, x.block < W.heap.size := by obtain ⟨m, hm⟩ := k0; exact DataW.trod_lt m _ _ _ hm
  obtain ⟨a0, rfl, rfl, rfl, w0⟩ := open_string Tryd.underlying9 (hval 0 9 v0 rfl rfl) h0
  clear hA0 hval0
  refine (walk a0 W (laidN hL hsh) w0).mono fun e W' ⟨he, bel⟩ => ?_
  subst he
  exact ChangeSpec.post_blind (⟨_, _, _, [], _, [], hW', trodAll_mk1 (shut_bool Tryd.underlying4 _), (trodAll_cons_mk (Below.trod laidOut (by kernel_rfl) (of_decide_eq_true (by kernel_rfl)) k0 bel lt0) trodAll_mk0), rfl, bel.frame _, fun h => by cases h⟩)

theorem row_holds : Rows.WireNextSaid :=
  OpenClaim.holds_of_wide 3 Tryd.f3 rfl rfl rfl rfl rfl rfl rfl ⟨rfl, rfl, rfl, rfl, rfl⟩ rfl rfl rfl rfl rfl (by kernel_rfl) Tryd.func3 (by kernel_rfl)
    (of_decide_eq_true (by kernel_rfl)) (by unfold Func.isWrapper; first | (rw [if_pos (by decide +kernel)]; kernel_rfl) | (rw [if_neg (by decide +kernel)]; exact ⟨rfl, rfl⟩))
    (fun os started H enc _ => lifted os started H enc)

theorem card_holds : Rows.WireNextCardSaid :=
  Claim7.holds_tied_plain_at .later [] _ _ _ _
    row_holds (fun _ h => by cases h) (by kernel_rfl) (fun _ h => by cases h) wireNext_row_tie rfl ⟨rfl, rfl⟩ (by kernel_rfl) rfl
    (fun f fn hf hfn => by
      obtain rfl : f = 3 := Option.some.inj ((show Tryd.prog.funcNamed "dovecote/dovecotelaw.WireNext" = some 3 by kernel_rfl).symm.trans hf) |>.symm
      obtain rfl : fn = Tryd.f3 := (Option.some.inj (Tryd.func3.symm.trans hfn)).symm
      exact ⟨by kernel_rfl, fun j t ht => by
        rw [Tryd.params3] at ht
        have hm : t ∈ [9] := by simpa using Array.mem_of_getElem? ht
        have hall : ([9].all fun u => !Tryd.prog.wantsStandIn u) = true := by kernel_rfl
        exact (show Tryd.prog.wantsStandIn t = false by simpa using List.all_eq_true.1 hall t hm)⟩)
    (by kernel_rfl)
end Go.Proofs.YtkjfkonekajffaaDoor.WireNext

namespace Go.Proofs.YtkjfkonekajffaaDoor
theorem wireNext_holds : Rows.WireNextCardSaid := WireNext.card_holds
#print axioms wireNext_holds
end Go.Proofs.YtkjfkonekajffaaDoor
