/- dovecotelaw.sameStore at two that are the same. -/
import Derived.Test.YtogpkbhjobhodaaDoorSItems
import Derived.Deep.RegionHeld3
import Derived.Deep.DeepCutAuto
namespace Go.Proofs.YtogpkbhjobhodaaDoor
open Go.ChangeShapes Go.WideShapes Go.ChangeAt Go.RowKit
set_option linter.unusedVariables false

theorem eqArr4 (a b c d : Int) (w : World) : (Op.equalIn 10000 23 (.agg #[.int .i64 a, .int .i64 b, .int .i64 c, .int .i64 d]) (.agg #[.int .i64 a, .int .i64 b, .int .i64 c, .int .i64 d])).run Tryd.prog w = .ok true w := by
  have u3 := Tryd.underlying3
  have a3 := Tryd.isAgg3
  have z3 := Tryd.sizeOf3
  rw [show (10000 : Nat) = 9999 + 1 from rfl, Op.equalIn]
  simp only [Sem.run_bind, run_underlying Tryd.underlying23, Result.andThen_ok]
  simp only [Std.Legacy.Range.forIn_eq_forIn_range', Std.Legacy.Range.size, Nat.sub_zero, Nat.add_sub_cancel, Nat.div_one, List.range'_succ, List.range'_zero, List.forIn_cons, List.forIn_nil]
  go_simp

theorem eqPlace (a b : Int) (d : Nat) (w : World) : (Op.equalIn (d + 2) 47 (.agg #[.int .i64 a, .int .i64 b]) (.agg #[.int .i64 a, .int .i64 b])).run Tryd.prog w = .ok true w := by
  have u3 := Tryd.underlying3
  have a3 := Tryd.isAgg3
  have z3 := Tryd.sizeOf3
  have hS : Tryd.prog.underlying 47 = some (.struct (Tryd.prog.fieldsOf 47)) := by kernel_rfl
  rw [show d + 2 = (d + 1) + 1 from rfl, run_equalIn_agg w (d + 1) 47 _ _ hS (by kernel_rfl)]
  simp only [Program.fieldsOf, Tryd.underlying47]
  go_simp

theorem eqItem (it : ItemR) (w : World) : (Op.equalIn 10000 49 (.agg #[.string it.key, .int .i64 it.flags, .int .i64 it.until_, .int .i64 it.cas, .int .i64 it.used, .string it.value, .bool it.far, .int .i64 it.page, .int .i64 it.at_]) (.agg #[.string it.key, .int .i64 it.flags, .int .i64 it.until_, .int .i64 it.cas, .int .i64 it.used, .string it.value, .bool it.far, .int .i64 it.page, .int .i64 it.at_])).run Tryd.prog w = .ok true w := by
  have u3 := Tryd.underlying3
  have a3 := Tryd.isAgg3
  have z3 := Tryd.sizeOf3
  have us := Tryd.underlying9
  have ast := Tryd.isAgg9
  have zs := Tryd.sizeOf9
  have ub := Tryd.underlying4
  have ab := Tryd.isAgg4
  have zb := Tryd.sizeOf4
  have up := Tryd.underlying47
  have ap := Tryd.isAgg47
  have zp := Tryd.sizeOf47
  have hS : Tryd.prog.underlying 49 = some (.struct (Tryd.prog.fieldsOf 49)) := by kernel_rfl
  have ep := eqPlace it.page it.at_ 9997
  rw [show (10000 : Nat) = 9999 + 1 from rfl, run_equalIn_agg w 9999 49 _ _ hS (by kernel_rfl)]
  simp only [Program.fieldsOf, Tryd.underlying49]
  go_simp


set_option maxHeartbeats 2000000 in
set_option maxRecDepth 100000 in
theorem sameStore_same (s : StoreR) (ia ja : Option Addr) (ic jc : Nat) (pa qa : Option Addr) (pc qc : Nat) (w : World) (hA : StoreIn w s ia pa) (hB : StoreIn w s ja qa) :
    Calls Tryd.prog 6 #[storeV s ia ic pa pc, storeV s ja jc qa qc] w fun e w' => e = .returned (.bool true) ∧ Below w.heap.size w w' := by
  have hsf := fun w1 hb => sameFlash_same s.fm s.fx s.pages pa qa pc qc w1 (hA.2.later hb) (hB.2.later hb)
  obtain ⟨⟨hmax, hmA⟩, _⟩ := hA
  obtain ⟨⟨_, hmB⟩, _⟩ := hB
  unfold maxLen at hmax
  unfold storeV
  obtain ⟨clock, cas, uses, most, h0, h1, h2, h3, items, fm, fx, pages⟩ := s
  simp only at *
  have e1 : (clock != clock) = false := by simp
  have e2 : (cas != cas) = false := by simp
  have e3 : (uses != uses) = false := by simp
  have e4 : (most != most) = false := by simp
  have e5 : ∀ n : Int, (n == n) = true := by simp
  have hB0 : ∀ o1 o2, Below w.heap.size w ((w.alloc o1).alloc o2) := fun o1 o2 => ((Below.refl _ _).alloc (Nat.le_refl _) _).alloc (by simp) _
  have hq4 := eqArr4 h0 h1 h2 h3
  go_enter Tryd.func6, Tryd.ntmps6
  go_wp2_with fail
  refine (hsf _ (hB0 _ _)).mono ?_
  rintro e W1 ⟨rfl, hb1⟩
  obtain ⟨q1, q2⟩ := bcell hb1
  have hWs : w.heap.size + 1 < W1.heap.size := by have := hb1.size; simp at this; omega
  have hWb : Below w.heap.size w W1 := (hB0 _ _).trans (hb1.mono (hB0 _ _).size)
  have c2 : W1.cell? ⟨w.heap.size, 8, none⟩ = some (.slice ia items.length ic) := by rw [q1 _ _ (by simp; omega)]; simp [go_sem]
  have d2 : W1.cell? ⟨w.heap.size + 1, 8, none⟩ = some (.slice ja items.length jc) := by rw [q1 _ _ (by simp)]; simp [go_sem]
  clear q1 q2 hb1 hsf
  go_wp2_with fail
  go_loopw [5] (fun i wr => ∃ k : Nat, k ≤ items.length ∧ i = .int .i64 k ∧ Below W1.heap.size W1 wr) (fun i _ => items.length - (intOf i).toNat)
  case atStart => exact ⟨0, Nat.zero_le _, rfl, Below.refl _ _⟩
  case round =>
    obtain ⟨k, hk, rfl, hb⟩ := hrel
    have f1 : wr.cell? ⟨w.heap.size, 8, none⟩ = some (.slice ia items.length ic) := by rw [hb.cell (p := ⟨w.heap.size, 8, none⟩) (by show w.heap.size < _; omega)]; exact c2
    have f2 : wr.cell? ⟨w.heap.size + 1, 8, none⟩ = some (.slice ja items.length jc) := by rw [hb.cell (p := ⟨w.heap.size + 1, 8, none⟩) hWs]; exact d2
    have hbw : Below w.heap.size w wr := hWb.trans (hb.mono hWb.size)
    clear hWb c2 d2
    by_cases hlt : k < items.length
    · have hltz : (k : Int) < (items.length : Int) := by omega
      have hk0 : (0 : Int) ≤ (k : Int) := Int.natCast_nonneg _
      rcases hmA with hmA | ⟨b1, o1, rfl, hl1, hc1⟩
      · omega
      rcases hmB with hmB | ⟨b2, o2, rfl, hl2, hc2⟩
      · omega
      obtain ⟨n0, n1, n2, n3, n4, n5, n6, n7, n8⟩ := (hc1 k hlt).later hl1 hbw
      obtain ⟨m0, m1, m2, m3, m4, m5, m6, m7, m8⟩ := (hc2 k hlt).later hl2 hbw
      clear hc1 hc2
      generalize items.getD k default = it at *
      have eqI := eqItem it
      go_wp2_with fail
      go_quiet (fail)
      go_wp2
      refine ⟨⟨k + 1, by omega, by simp, hb.trans ((drewN_below wr nq).mono hb.size)⟩, by simp [intOf]; omega⟩
    · have hltz : ¬ (k : Int) < (items.length : Int) := by omega
      go_wp2
      go_ret
      exact ⟨rfl, hbw⟩
end Go.Proofs.YtogpkbhjobhodaaDoor
