/- At every store store.Copy answers a store that dovecotelaw.sameStore holds for the same as the one that came in, and that one reads behind the call as it did; no condition. -/
import Derived.Test.YtdgmifkdfjpcgadSCopyW
import Derived.Test.YtdgmifkdfjpcgadSOpen
namespace Go.Proofs.Ytdgmifkdfjpcgad.StoreCopies
open Go.ChangeShapes Go.WideShapes Go.ChangeAt Go.RowKit
set_option linter.unusedVariables false
set_option linter.unusedSimpArgs false

theorem own : ownKnob Try.prog.godebug = none := by kernel_rfl
theorem laidOut : laidOutB Try.prog = true := by kernel_rfl

set_option maxHeartbeats 1000000 in
set_option maxRecDepth 100000 in
theorem walk (s : StoreR) (ia : Option Addr) (ic : Nat) (pa : Option Addr) (pc : Nat) (w : World) (hS : StoreIn w s ia pa) (hn : s.items.length * 88 ≤ 140737488351232) (hks : ∀ j, j < s.items.length → (s.items.getD j default).key.size ≤ 281474976710656 ∧ (s.items.getD j default).value.size ≤ 281474976710656)
    (hpn : s.pages.length * 32 ≤ 140737488351232) (hbs : ∀ j, j < s.pages.length → (s.pages.getD j default).bs.length ≤ 140737488351232) :
    Calls Try.prog 3 #[storeV s ia ic pa pc] w fun e w' => e = .returned (.bool true) ∧ Below w.heap.size w w' := by
  have hc1 := fun (w1 : World) (hb : Below w.heap.size w w1) => scopy_any s ia ic pa pc w1 (hS.later hb) hn hks hpn hbs
  have hs1 := fun (ja qa : Option Addr) (jc qc : Nat) (w2 : World) (h1 : StoreIn w2 s ja qa) (h2 : StoreIn w2 s ia pa) => sameStore_same s ja ia jc ic qa pa qc pc w2 h1 h2
  obtain ⟨clock, scas, uses, most, h0, h1, h2, h3, items, fm, fx, pages⟩ := s
  unfold SCopyPost storeV at *
  simp only at *
  have hB0 : Below w.heap.size w (w.alloc (.cells #[.int .i64 clock, .int .i64 scas, .int .i64 uses, .int .i64 most, .int .i64 h0, .int .i64 h1, .int .i64 h2, .int .i64 h3, .slice ia items.length ic, .int .i64 fm, .int .i64 fx, .slice pa pages.length pc] 28)) := (Below.refl _ _).alloc (Nat.le_refl _) _
  go_enter Try.func3, Try.ntmps3
  go_wp2_with fail
  refine (hc1 _ hB0).mono ?_
  rintro e w1 ⟨ja, jc, qa, qc, rfl, hS1, hb1⟩
  obtain ⟨q1, q2⟩ := bcell hb1
  have hz := bsize hb1
  have hB1 : Below w.heap.size w w1 := hB0.trans (hb1.mono hB0.size)
  have hB2 : ∀ o, Below w1.heap.size w1 (w1.alloc o) := fun o => (Below.refl _ _).alloc (Nat.le_refl _) _
  have hn1 : w1.heap.size ≠ w.heap.size := by omega
  have hn2 : w.heap.size ≠ w1.heap.size := by omega
  go_wp2_with fail
  refine (hs1 _ _ _ _ _ (hS1.later (hB2 _)) ((hS.later hB1).later (hB2 _))).mono ?_
  rintro e w2 ⟨rfl, hb2⟩
  go_wp2
  go_ret
  exact ⟨rfl, hB1.trans (((hB2 _).trans (hb2.mono (hB2 _).size)).mono hB1.size)⟩

set_option maxRecDepth 100000 in
theorem lifted (os : Os) (started : os.Started) (H : Type) (enc : TypeId × Value → H) :
    ReturnsInHanded {} Try.checked os 3 .any (Rows.storeCopiesSpec.pre6 enc Try.prog Try.f3 Rows.storeCopiesRow.domain false) (Rows.storeCopiesSpec.post enc Try.prog Try.f3 false true false false) := by
  refine returnsInHanded_of_change_sized (C := Try.checked) own started (by kernel_rfl) Try.func3
    (ChangeSpec.witness6 (enc := enc) (C := Try.checked) false ⟨#[], #[.agg #[.int .i64 0, .int .i64 0, .int .i64 0, .int .i64 0, .int .i64 0, .int .i64 0, .int .i64 0, .int .i64 0, .slice none 0 0, .int .i64 0, .int .i64 0, .slice none 0 0]], []⟩ 8 (by kernel_rfl) (by kernel_rfl) (by kernel_rfl) (by kernel_rfl)) ?_
  intro W base args ds gs before hval0 hW hcnd hsz _
  have hval : ∀ (j : Nat) t v, Try.f3.params[j]? = some t → args[j]? = some v → Value.okWide Try.prog W .any base t v := hval0
  have hW' := hW
  obtain ⟨p, q, hA0, hV, rfl, hfz, hnd⟩ := hW
  have hA : DataW.TrodAll enc Try.prog W 0 (fun _ => true) true Try.f3.params.toList args.toList ds p := hA0
  rw [Try.params3] at hA hval
  obtain ⟨v0, vs0, d0, ds0, p0, q0, hargs, rfl, rfl, h0, r0⟩ := trodAll_cons hA
  obtain ⟨rfl, rfl, rfl⟩ := trodAll_nil r0
  obtain rfl : args = #[v0] := by cases args; simp_all
  obtain ⟨rfl, rfl⟩ := trodVars_none hV
  have k0 := h0
  have lt0 : ∀ x ∈ p0, x.block < W.heap.size := by obtain ⟨m, hm⟩ := k0; exact DataW.trod_lt m _ _ _ hm
  obtain ⟨s, ia, ic, pa, pc, rfl, hS, z1, z2, z3, z4⟩ := open_store reachBytes (hval 0 28 v0 rfl rfl) h0 fun k hk => by
    have := List.all_eq_true.1 hsz k (DataW.weights_mem_each (j := 0) rfl rfl k hk)
    simpa using this
  clear hA0 hval0
  have hR : reachBytes ≤ 140737488351232 := by decide
  have hR2 : reachBytes ≤ 281474976710656 := by decide
  refine (walk s ia ic pa pc W hS (Nat.le_trans z1 hR) (fun j hj => ⟨Nat.le_trans (z2 j hj).1 hR2, Nat.le_trans (z2 j hj).2 hR2⟩) (Nat.le_trans z3 hR) fun j hj => Nat.le_trans (z4 j hj) hR).mono fun e W' ⟨he, bel⟩ => ?_
  subst he
  exact ⟨_, rfl, _, _, _, [], _, [], hW', trodAll_mk1 (shut_bool Try.underlying4 _), (trodAll_cons_mk (Below.trod laidOut (by kernel_rfl) (of_decide_eq_true (by kernel_rfl)) k0 bel lt0) trodAll_mk0), rfl, bel.frame _, fun h => by cases h⟩

theorem over : Rows.storeCopiesRow.holds Try.pinned (OpenSpec.ofChange Rows.storeCopiesSpec) :=
  OpenClaim.holds_of_wide 3 Try.f3 rfl rfl rfl rfl rfl rfl rfl ⟨rfl, rfl, rfl, rfl, rfl⟩ rfl rfl rfl rfl rfl (by kernel_rfl) Try.func3 (by kernel_rfl)
    (of_decide_eq_true (by kernel_rfl)) (by unfold Func.isWrapper; first | (rw [if_pos (by decide +kernel)]; kernel_rfl) | (rw [if_neg (by decide +kernel)]; exact ⟨rfl, rfl⟩))
    (fun os started H enc _ => lifted os started H enc)
end Go.Proofs.Ytdgmifkdfjpcgad.StoreCopies

namespace Go.Proofs.Ytdgmifkdfjpcgad
theorem storeCopies_holds : Rows.StoreCopiesSaid := StoreCopies.over
#print axioms storeCopies_holds
end Go.Proofs.Ytdgmifkdfjpcgad
