/- At every reply wire.Print answers what dovecoteref.ReplyText answers, and the reply reads behind the call as it did; the four listed tables hold what the program's text lays in them (the card ties them). -/
import Derived.Test.YtdgmifkdfjpcgaaDoorRepTextH
import Derived.Test.YtdgmifkdfjpcgaaDoorLaid
import Derived.Test.YtdgmifkdfjpcgaaDoorTie
import Derived.Test.YtdgmifkdfjpcgaaDoorCards
import Derived.SevenTiedAt
namespace Go.Proofs.YtdgmifkdfjpcgaaDoor.WirePrints
open Go.ChangeShapes Go.WideShapes Go.ChangeAt Go.RowKit
set_option linter.unusedVariables false

theorem own : ownKnob Tryd.prog.godebug = none := by kernel_rfl
theorem laidOut : laidOutB Tryd.prog = true := by kernel_rfl
theorem gSays : Tryd.prog.globalNamed "dovecote/wire.says" = some 0 := by kernel_rfl
theorem tSays : (Tryd.prog.globals[0]?).map (·.type) = some 60 := by kernel_rfl
theorem gPow : Tryd.prog.globalNamed "internal/strconv.uint64pow10" = some 4 := by kernel_rfl
theorem tPow : (Tryd.prog.globals[4]?).map (·.type) = some 120 := by kernel_rfl

theorem laidP {W : World} (h : laidMetH Tryd.prog Rows.wirePrintsRow.laid W) : LaidP W := by
  rw [MakeChecks.laidMetH_plain _ _ _ (by kernel_rfl)] at h
  have h2 := h.tail.tail
  have h3 := h2.tail
  refine ⟨?_, ?_⟩
  · exact strsIs_of_head (l := sayL) gSays tSays Tryd.underlying60 Tryd.underlying9 (by kernel_rfl) h3
  · exact Lib.tabIs_of_head gPow tPow Tryd.underlying120 Tryd.underlying107 (by kernel_rfl) (by kernel_rfl) h2

theorem repText_any (kind nn : Int) (l : List HitR) (a : Option Addr) (c : Nat) (w : World) (hH : HitsAt w a l) (hn0 : -9223372036854775808 ≤ nn) (hn1 : nn ≤ 9223372036854775807) :
    Calls Tryd.prog 13 #[.agg #[.int .i64 kind, .int .i64 nn, .slice a l.length c]] w (REPS kind nn l w) := by
  cases h : inB kind 1 12
  · exact repText_no kind nn l a c w hH.1 h
  · by_cases hbad : 10 < l.length ∨ (0 < l.length ∧ kind ≠ 1) ∨ (nn ≠ 0 ∧ kind ≠ 7)
    · exact repText_bad kind nn l a c w hH.1 h hbad
    · by_cases h1 : kind = 1
      · subst h1
        have h0 : nn = 0 := by
          by_cases h0 : nn = 0
          · exact h0
          · exact absurd (Or.inr (Or.inr ⟨h0, by decide⟩)) hbad
        subst h0
        exact repText_hits l a c w hH (by by_cases h10 : 10 < l.length; exact absurd (Or.inl h10) hbad; omega)
      · have hl : l = [] := by
          rcases Nat.eq_zero_or_pos l.length with h' | h'
          · exact List.length_eq_zero_iff.1 h'
          · exact absurd (Or.inr (Or.inl ⟨h', h1⟩)) hbad
        subst hl
        refine repText_say kind nn a c w h h1 hn0 hn1 ?_
        by_cases h7 : kind = 7
        · exact Or.inr h7
        · refine Or.inl ?_
          by_cases h0 : nn = 0
          · exact h0
          · exact absurd (Or.inr (Or.inr ⟨h0, h7⟩)) hbad

theorem walk (kind nn : Int) (l : List HitR) (a : Option Addr) (c : Nat) (w : World) (hL : LaidP w) (hH : HitsAt w a l) (hn0 : -9223372036854775808 ≤ nn) (hn1 : nn ≤ 9223372036854775807) :
    Calls Tryd.prog 5 #[.agg #[.int .i64 kind, .int .i64 nn, .slice a l.length c]] w fun e w' => e = .returned (.bool true) ∧ Below w.heap.size w w' := by
  have hc1 := fun (w1 : World) (hb : Below w.heap.size w w1) => print_any kind nn l a c w1 (hL.later hb) (hH.later hb) hn0 hn1
  have hc2 := fun (w1 : World) (hb : Below w.heap.size w w1) => repText_any kind nn l a c w1 (hH.later hb) hn0 hn1
  unfold REPS at hc2
  generalize printN kind nn l = E at *
  generalize printS kind nn l = T at *
  have e1 : (E == E) = true := by simp
  have e2 : (T.toList == T.toList) = true := by simp
  have hB0 : Below w.heap.size w (w.alloc (.cells #[.int .i64 kind, .int .i64 nn, .slice a l.length c] 35)) := (Below.refl _ _).alloc (Nat.le_refl _) _
  go_enter Tryd.func5, Tryd.ntmps5
  go_wp2_with fail
  refine (hc1 _ hB0).mono ?_
  rintro e w1 ⟨rfl, hb⟩
  obtain ⟨q1, q2⟩ := bcell hb
  have hz := bsize hb
  have hB : Below w.heap.size w w1 := hB0.trans (hb.mono (by simp))
  go_wp2_with fail
  refine (hc2 _ hB).mono ?_
  rintro e w2 ⟨rfl, hb2⟩
  go_wp2
  go_ret
  exact ⟨by simp, hB.trans (hb2.mono (by omega))⟩

set_option maxRecDepth 100000 in
theorem lifted (os : Os) (started : os.Started) (H : Type) (enc : TypeId × Value → H) :
    ReturnsInHanded {} Tryd.checked os 5 .any (fun w args => (Rows.wirePrintsSpec.pre enc Tryd.prog Tryd.f5 Rows.wirePrintsRow.domain false w args ∧ laidMetH Tryd.prog Rows.wirePrintsRow.laid w) ∧ sizedMet enc Tryd.prog Tryd.f5 (OpenSpec.ofChange Rows.wirePrintsSpec) false w args)
      (Rows.wirePrintsSpec.post enc Tryd.prog Tryd.f5 false true false false) := by
  refine returnsInHanded_of_change_and (C := Tryd.checked) (X := fun w _ => laidMetH Tryd.prog Rows.wirePrintsRow.laid w) (fun _ _ _ hh h => h.of_heap hh) own started (by kernel_rfl) Tryd.func5
    (ChangeSpec.witness_shaped (enc := enc) (C := Tryd.checked) (os := os) (X := fun w _ => laidMetH Tryd.prog Rows.wirePrintsRow.laid w) false (World.laidAll Tryd.prog os Rows.wirePrintsRow.laid)
      #[.agg #[.int .i64 0, .int .i64 0, .slice none 0 0]] 8 (World.laidAll_os _ _ _)
      (World.shaped_of_ZipB (by kernel_rfl) (by kernel_rfl)) (by kernel_rfl) (by kernel_rfl) (by kernel_rfl)
      (by rw [MakeChecks.laidMetH_plain _ _ _ (by kernel_rfl)]; exact laidMet_laidAll _ (by kernel_rfl) (by kernel_rfl))) ?_
  intro W base args ds gs before hval0 hW hc _ hL _
  have hval : ∀ (j : Nat) t v, Tryd.f5.params[j]? = some t → args[j]? = some v → Value.okWide Tryd.prog W .any base t v := hval0
  have hW' := hW
  obtain ⟨p, q, hA0, hV, rfl, hfz, hnd⟩ := hW
  have hA : DataW.TrodAll enc Tryd.prog W 0 (fun _ => true) true Tryd.f5.params.toList args.toList ds p := hA0
  rw [Tryd.params5] at hA hval
  obtain ⟨v0, vs0, d0, ds0, p0, q0, hargs, rfl, rfl, h0, r0⟩ := trodAll_cons hA
  obtain ⟨rfl, rfl, rfl⟩ := trodAll_nil r0
  obtain rfl : args = #[v0] := by cases args; simp_all
  obtain ⟨rfl, rfl⟩ := trodVars_none hV
  have k0 := h0
  have lt0 : ∀ x ∈ p0, x.block < W.heap.size := by obtain ⟨m, hm⟩ := k0; exact DataW.trod_lt m _ _ _ hm
  obtain ⟨kind, nn, a, l, c, rfl, hH, _, hn0, hn1⟩ := open_reply (hval 0 35 v0 rfl rfl) h0
  clear hA0 hval0
  refine (walk kind nn l a c W (laidP hL) hH hn0 hn1).mono fun e W' ⟨he, bel⟩ => ?_
  subst he
  exact ⟨_, rfl, _, _, _, [], _, [], hW', trodAll_mk1 (shut_bool Tryd.underlying4 _), (trodAll_cons_mk (Below.trod laidOut (by kernel_rfl) (of_decide_eq_true (by kernel_rfl)) k0 bel lt0) trodAll_mk0), rfl, bel.frame _, fun h => by cases h⟩

theorem row_holds : Rows.WirePrintsSaid :=
  OpenClaim.holds_of_wide 5 Tryd.f5 rfl rfl rfl rfl rfl rfl rfl ⟨rfl, rfl, rfl, rfl, rfl⟩ rfl rfl rfl rfl rfl (by kernel_rfl) Tryd.func5 (by kernel_rfl)
    (of_decide_eq_true (by kernel_rfl)) (by unfold Func.isWrapper; first | (rw [if_pos (by decide +kernel)]; kernel_rfl) | (rw [if_neg (by decide +kernel)]; exact ⟨rfl, rfl⟩))
    (fun os started H enc _ => lifted os started H enc)

theorem card_holds : Rows.WirePrintsCardSaid :=
  Claim7.holds_tied_plain_at .later [] _ _ _ _
    row_holds (fun _ h => by cases h) (by kernel_rfl) (fun _ h => by cases h) wirePrints_row_tie rfl ⟨rfl, rfl⟩ (by kernel_rfl) rfl
    (fun f fn hf hfn => by
      obtain rfl : f = 5 := Option.some.inj ((show Tryd.prog.funcNamed "dovecote/dovecotelaw.WirePrints" = some 5 by kernel_rfl).symm.trans hf) |>.symm
      obtain rfl : fn = Tryd.f5 := (Option.some.inj (Tryd.func5.symm.trans hfn)).symm
      exact ⟨by kernel_rfl, fun j t ht => by
        rw [Tryd.params5] at ht
        have hm : t ∈ [35] := by simpa using Array.mem_of_getElem? ht
        have hall : ([35].all fun u => !Tryd.prog.wantsStandIn u) = true := by kernel_rfl
        exact (show Tryd.prog.wantsStandIn t = false by simpa using List.all_eq_true.1 hall t hm)⟩)
    (by kernel_rfl)
end Go.Proofs.YtdgmifkdfjpcgaaDoor.WirePrints

namespace Go.Proofs.YtdgmifkdfjpcgaaDoor
theorem wirePrints_holds : Rows.WirePrintsCardSaid := WirePrints.card_holds
#print axioms wirePrints_holds
end Go.Proofs.YtdgmifkdfjpcgaaDoor
