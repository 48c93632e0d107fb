/- At every raw request, every text behind it and every cut: what wire.Encode wrote of the request wire.Next reads as that request, whatever follows, and cut short there is none yet; the listed tables hold what the program's text lays in them (the card ties them). -/
import Derived.Test.YtkjfkonekajffaaDoorReqBack
import Derived.Test.YtkjfkonekajffaaDoorKReqA
import Derived.Test.YtkjfkonekajffaaDoorWf
import Derived.Test.YtkjfkonekajffaaDoorLaid
import Derived.Test.YtkjfkonekajffaaDoorTie
import Derived.Test.YtkjfkonekajffaaDoorCards
import Derived.SevenTiedAt
import Derived.HandedShaped
import Derived.SizedLaws
namespace Go.Proofs.YtkjfkonekajffaaDoor.RequestsBack
open Go.ChangeShapes Go.WideShapes Go.ChangeAt Go.RowKit
open Go.ChangeMaps (open_string shut_string)
set_option linter.unusedVariables false

theorem own : ownKnob Tryd.prog.godebug = none := by kernel_rfl
theorem laidOut : laidOutB Tryd.prog = true := by kernel_rfl
theorem gNames : Tryd.prog.globalNamed "dovecote/wire.names" = some 1 := by kernel_rfl
theorem tNames : (Tryd.prog.globals[1]?).map (·.type) = some 78 := by kernel_rfl
theorem gBehind : Tryd.prog.globalNamed "dovecote/wire.behindName" = some 0 := by kernel_rfl
theorem tBehind : (Tryd.prog.globals[0]?).map (·.type) = some 72 := by kernel_rfl
theorem gPow : Tryd.prog.globalNamed "internal/strconv.uint64pow10" = some 3 := by kernel_rfl
theorem tPow : (Tryd.prog.globals[3]?).map (·.type) = some 107 := by kernel_rfl

theorem laidT {W : World} (h : laidMetH Tryd.prog Rows.requestsBackRow.laid W) (hsh : W.ShapedOpen Tryd.prog) : LaidA W := by
  rw [MakeChecks.laidMetH_plain _ _ _ (by kernel_rfl)] at h
  have hp := h.tail.tail
  have h2 := hp.tail.tail
  have h3 := h2.tail
  have hb : Lib.TabIs Tryd.prog W "dovecote/wire.behindName" .i64 behindL := Lib.tabIs_of_head gBehind tBehind Tryd.underlying72 Tryd.underlying3 (by kernel_rfl) (by kernel_rfl) h2
  obtain ⟨m, hm⟩ := Tryd.laysM146.s1_3 W hsh
  have hc0 := hb.cell gBehind 0 (by decide)
  have hn := strsIs_of_head (l := nameL) gNames tNames Tryd.underlying78 Tryd.underlying9 (by kernel_rfl) h3
  have hN : LaidN W := ⟨hn, ⟨World.block_lt_of_cell? _ _ hc0, fun k hk => hb.cell gBehind k hk⟩, World.block_lt_of_cell? _ _ hm, m, hm⟩
  exact ⟨hN, hn, Lib.tabIs_of_head gPow tPow Tryd.underlying107 Tryd.underlying83 (by kernel_rfl) (by kernel_rfl) hp⟩

set_option maxRecDepth 100000 in
theorem lifted (os : Os) (started : os.Started) (H : Type) (enc : TypeId × Value → H) :
    ReturnsInHanded {} Tryd.checked os 4 .any (fun w args => (Rows.requestsBackSpec.pre enc Tryd.prog Tryd.f4 Rows.requestsBackRow.domain false w args ∧ laidMetH Tryd.prog Rows.requestsBackRow.laid w) ∧ sizedMet enc Tryd.prog Tryd.f4 (OpenSpec.ofChange Rows.requestsBackSpec) false w args)
      (Rows.requestsBackSpec.post enc Tryd.prog Tryd.f4 false true false false) := by
  refine returnsInHanded_of_calls (C := Tryd.checked) own started (by kernel_rfl)
    (ChangeSpec.witness_shaped (enc := enc) (C := Tryd.checked) (os := os) (X := fun w _ => laidMetH Tryd.prog Rows.requestsBackRow.laid w) false (World.laidAll Tryd.prog os Rows.requestsBackRow.laid)
      #[.agg #[.int .i64 0, .int .i64 0, .int .i64 0, .int .i64 0], .string ByteArray.empty, .int .i64 0] 8 (World.laidAll_os _ _ _)
      (World.shaped_of_ZipB (by kernel_rfl) (by kernel_rfl)) (by kernel_rfl) (by kernel_rfl) (by kernel_rfl)
      (by rw [MakeChecks.laidMetH_plain _ _ _ (by kernel_rfl)]; exact laidMet_laidAll _ (by kernel_rfl) (by kernel_rfl))) ?_
  intro w tape i _ hsh _ hok hpre hholds
  obtain ⟨_, _, _, fn', hfn', _, _, _, _, hval0⟩ := hok
  obtain rfl : fn' = Tryd.f4 := Option.some.inj (hfn'.symm.trans Tryd.func4)
  obtain ⟨⟨⟨ds, gs, before, hw, hc⟩, hx⟩, _, dsz, gsz, bz, hwz0, hsz0⟩ := hpre
  have hW := DataW.Whole.of_heap (w' := w.forCall tape i) (by rfl) hw
  have hWz := DataW.Whole.of_heap (w' := w.forCall tape i) (by rfl) hwz0
  have hL : laidMetH Tryd.prog Rows.requestsBackRow.laid (w.forCall tape i) := hx.of_heap (by rfl)
  generalize i.args = args at *
  generalize w.forCall tape i = W at *
  have hval : ∀ (j : Nat) t v, Tryd.f4.params[j]? = some t → args[j]? = some v → Value.okWide Tryd.prog W .any w.heap.size t v := hval0
  have hW' := hW
  obtain ⟨p, q, hA0, hV, rfl, hfz, hnd⟩ := hW
  obtain ⟨pz, qz, hAz0, hVz, rfl, hfzz, hndz⟩ := hWz
  have hA : DataW.TrodAll enc Tryd.prog W 0 (fun _ => true) true Tryd.f4.params.toList args.toList ds p := hA0
  have hAz : DataW.TrodAll enc Tryd.prog W 0 (fun _ => true) true Tryd.f4.params.toList args.toList dsz pz := hAz0
  have hsz : (DataW.weightsEach Tryd.prog (Tryd.f4.params.toList ++ (OpenSpec.ofChange Rows.requestsBackSpec).bare.plain.varTypes Tryd.prog) (dsz ++ gsz)).all (· ≤ reachBytes) = true := hsz0
  rw [Tryd.params4] at hA hval hAz hsz
  obtain ⟨v0, vs0, d0, ds0, p0, q0, hargs0, rfl, rfl, h0, r0⟩ := trodAll_cons hA
  obtain ⟨v1, vs1, d1, ds1, p1, q1, hargs1, rfl, rfl, h1, r1⟩ := trodAll_cons r0
  obtain ⟨v2, vs2, d2, ds2, p2, q2, hargs2, rfl, rfl, h2, r2⟩ := trodAll_cons r1
  obtain ⟨rfl, rfl, rfl⟩ := trodAll_nil r2
  obtain rfl : args = #[v0, v1, v2] := by cases args; simp_all
  obtain ⟨rfl, rfl⟩ := trodVars_none hV
  have k0 := h0
  have lt0 : ∀ x ∈ p0, x.block < W.heap.size := by obtain ⟨m, hm⟩ := k0; exact DataW.trod_lt m _ _ _ hm
  have k1 := h1
  have lt1 : ∀ x ∈ p1, x.block < W.heap.size := by obtain ⟨m, hm⟩ := k1; exact DataW.trod_lt m _ _ _ hm
  have k2 := h2
  have lt2 : ∀ x ∈ p2, x.block < W.heap.size := by obtain ⟨m, hm⟩ := k2; exact DataW.trod_lt m _ _ _ hm
  obtain ⟨rk, ra, rb, rc, rfl, wk, wa, wb, wc⟩ := open_raw (hval 0 30 v0 rfl rfl) h0
  obtain ⟨a1, rfl, rfl, rfl, w1⟩ := open_string Tryd.underlying9 (hval 1 9 v1 rfl rfl) h1
  obtain ⟨a2, rfl, rfl, rfl, w2⟩ := open_int Tryd.underlying3 (hval 2 3 v2 rfl rfl) h2
  obtain ⟨vz0, vsz0, dz0, dsz0, pz0, qz0, hargsz0, rfl, rfl, hz0, rz0⟩ := trodAll_cons hAz
  obtain ⟨vz1, vsz1, dz1, dsz1, pz1, qz1, hargsz1, rfl, rfl, hz1, rz1⟩ := trodAll_cons rz0
  obtain ⟨vz2, vsz2, dz2, dsz2, pz2, qz2, hargsz2, rfl, rfl, hz2, rz2⟩ := trodAll_cons rz1
  obtain ⟨rfl, rfl, rfl⟩ := trodAll_nil rz2
  simp only [List.cons.injEq] at hargsz0
  have sz1 : a1.size ≤ 140737488351232 := by
    have e0 : vz1 = .string a1 := by simp_all
    rw [e0] at hz1
    obtain ⟨fz, hfz1⟩ := hz1
    obtain ⟨sx, ex, ey, _⟩ := DataW.trod_string Tryd.underlying9 hfz1
    have e1 : dz1 = .lit (.string a1.data.toList) := by
      have e4 : [Value.string a1] = [Value.string sx] := ex
      have e3 : a1 = sx := by simpa using e4
      rw [e3]; exact congrArg Prod.fst ey
    exact sized_string hsz (j := 1) rfl (by rw [e1]; rfl)
  clear hA0 hval0
  refine (back_walk (reqR rk ra rb rc) rk ra rb rc a2 a1 W (laidT hL hsh) sz1 (i64_of_wf w2) (fun w1 => request_any rk ra rb rc w1 wk wa wb wc) (reqR_ok rk ra rb rc).1 (reqR_ok rk ra rb rc).2).mono fun e W' ⟨he, bel⟩ => ?_
  subst he
  exact ChangeSpec.post_blind (⟨_, _, _, [], _, [], hW', trodAll_mk1 (shut_bool Tryd.underlying4 _), (trodAll_cons_mk (Below.trod laidOut (by kernel_rfl) (of_decide_eq_true (by kernel_rfl)) k0 bel lt0) (trodAll_cons_mk (Below.trod laidOut (by kernel_rfl) (of_decide_eq_true (by kernel_rfl)) k1 bel lt1) (trodAll_cons_mk (Below.trod laidOut (by kernel_rfl) (of_decide_eq_true (by kernel_rfl)) k2 bel lt2) trodAll_mk0))), rfl, bel.frame _, fun h => by cases h⟩)

theorem row_holds : Rows.RequestsBackSaid :=
  OpenClaim.holds_of_wide 4 Tryd.f4 rfl rfl rfl rfl rfl rfl rfl ⟨rfl, rfl, rfl, rfl, rfl⟩ rfl rfl rfl rfl rfl (by kernel_rfl) Tryd.func4 (by kernel_rfl)
    (of_decide_eq_true (by kernel_rfl)) (by unfold Func.isWrapper; first | (rw [if_pos (by decide +kernel)]; kernel_rfl) | (rw [if_neg (by decide +kernel)]; exact ⟨rfl, rfl⟩))
    (fun os started H enc _ => lifted os started H enc)

theorem card_holds : Rows.RequestsBackCardSaid :=
  Claim7.holds_tied_plain_at .later [] _ _ _ _
    row_holds (fun _ h => by cases h) (by kernel_rfl) (fun _ h => by cases h) requestsBack_row_tie rfl ⟨rfl, rfl⟩ (by kernel_rfl) rfl
    (fun f fn hf hfn => by
      obtain rfl : f = 4 := Option.some.inj ((show Tryd.prog.funcNamed "dovecote/dovecotekeep.RequestsBack" = some 4 by kernel_rfl).symm.trans hf) |>.symm
      obtain rfl : fn = Tryd.f4 := (Option.some.inj (Tryd.func4.symm.trans hfn)).symm
      exact ⟨by kernel_rfl, fun j t ht => by
        rw [Tryd.params4] at ht
        have hm : t ∈ [30, 9, 3] := by simpa using Array.mem_of_getElem? ht
        have hall : ([30, 9, 3].all fun u => !Tryd.prog.wantsStandIn u) = true := by kernel_rfl
        exact (show Tryd.prog.wantsStandIn t = false by simpa using List.all_eq_true.1 hall t hm)⟩)
    (by kernel_rfl)
end Go.Proofs.YtkjfkonekajffaaDoor.RequestsBack

namespace Go.Proofs.YtkjfkonekajffaaDoor
theorem requestsBack_holds : Rows.RequestsBackCardSaid := RequestsBack.card_holds
#print axioms requestsBack_holds
end Go.Proofs.YtkjfkonekajffaaDoor
