/- dovecotekeep.StoreGood. -/
import Derived.Test.YtdblegdgmjakfaaGreatDoorMH31
import Derived.Test.YtdblegdgmjakfaaGreatDoorMH13
import Derived.Deep.RegionHeld3
namespace Go.Proofs.YtdblegdgmjakfaaGreatDoor
open Go.ChangeShapes Go.WideShapes Go.ChangeAt Go.RowKit
set_option linter.unusedVariables false
set_option linter.unusedSimpArgs false

def heldSum (s : StoreR) (k : Nat) : Int := (if 0 < k then s.h0 else 0) + (if 1 < k then s.h1 else 0) + (if 2 < k then s.h2 else 0) + (if 3 < k then s.h3 else 0)

set_option maxHeartbeats 4000000 in
set_option maxRecDepth 100000 in
theorem store_good (l : List RawR) (ra : Option Addr) (rc : Nat) (pg fr : Int) (w : World) (hR : RawsAt w ra l) (hok : RawsOk l) (hpg : -9223372036854775808 ≤ pg ∧ pg ≤ 9223372036854775807) (hfr : -9223372036854775808 ≤ fr ∧ fr ≤ 9223372036854775807) (hL : LaidC w) (hT : LaidT w) :
    Calls Tryz.prog 3 #[.slice ra l.length rc, .int .i64 pg, .int .i64 fr] w fun e w' => e = .returned (.bool true) ∧ Below w.heap.size w w' := by
  have hp1 := fun w1 => picked_any pg 12 w1 hpg.1 hpg.2 (by decide) (by decide)
  have hp2 := fun w1 => picked_any fr 6 w1 hfr.1 hfr.2 (by decide) (by decide)
  obtain ⟨a0, a1⟩ := pickN_range pg 12 (by decide)
  obtain ⟨b0, b1⟩ := pickN_range fr 6 (by decide)
  have hpl := played_any l ra rc (pickN pg 12) (pickN fr 6) 80 w hR hok a0 (by omega) b0 (by omega) (by omega) hL hT
  have hgd := pl_play (newS_pl a0 (by omega : pickN pg 12 ≤ 40) b0 (by omega : pickN fr 6 ≤ 20)) l (min 80 l.length) (by omega) (by omega)
  generalize pickN pg 12 = p at *
  generalize pickN fr 6 = m at *
  have hG := hgd.gd
  obtain ⟨q1, q2, q3, q4, q5⟩ := hG.parts
  obtain ⟨⟨x0, y0⟩, ⟨x1, y1⟩, ⟨x2, y2⟩, ⟨x3, y3⟩, hsum⟩ := heldB_iff.1 q2
  obtain ⟨m1, m2, m3, m4, m5⟩ := mayB_facts.1 q3
  have hc := counts_facts q1
  generalize play (newS p m) l (min 80 l.length) = s at *
  have hz := fun w1 hb => scheck_any zeroS none 0 none 0 w1 ⟨items_none _ _, pages_none _ _⟩ (fun j hj => absurd hj (Nat.not_lt_zero j)) (hL.later hb)
  have hzb : storeB zeroS = false := by decide
  have hz8 : codeN (storeB zeroS) = 8 := by rw [hzb]; rfl
  have hchk := fun (ia : Option Addr) (ic : Nat) (pa : Option Addr) (pc : Nat) (w1 : World) (hS : StoreIn w1 s ia pa) (hb : Below w.heap.size w w1) => scheck_any s ia ic pa pc w1 hS hG.ok (hL.later hb)
  rw [hG.b] at hchk
  have hc0 : codeN true = 0 := rfl
  rw [hc0] at hchk
  rw [hz8] at hz
  have hpl := hpl
  unfold storeV zeroS at *
  simp only [List.length_nil] at hz
  go_enter Tryz.func3, Tryz.ntmps3
  go_wp2_with (go_at_call_of 13 (Value.int .i64 pg); refine (hp1 _).mono ?_; rintro e wp ⟨rfl, hwp⟩; obtain rfl := hwp.symm)
  refine (hp2 _).mono ?_
  rintro e wp ⟨rfl, hwp⟩
  obtain rfl := hwp.symm
  go_wp2_with fail
  refine hpl.mono ?_
  rintro e w1 ⟨ia, ic, pa, pc, rv, rfl, hSI, hB⟩
  unfold storeV
  have T := TB.new 29 w1 #[.int .i64 s.clock, .int .i64 s.cas, .int .i64 s.uses, .int .i64 s.most, .int .i64 s.h0, .int .i64 s.h1, .int .i64 s.h2, .int .i64 s.h3, .slice ia s.items.length ic, .int .i64 s.fm, .int .i64 s.fx, .slice pa s.pages.length pc]
  have B1 : Below w.heap.size w (w1.alloc (.cells #[.int .i64 s.clock, .int .i64 s.cas, .int .i64 s.uses, .int .i64 s.most, .int .i64 s.h0, .int .i64 s.h1, .int .i64 s.h2, .int .i64 s.h3, .slice ia s.items.length ic, .int .i64 s.fm, .int .i64 s.fx, .slice pa s.pages.length pc] 29)) := below_al hB _
  have hSI1 : StoreIn (w1.alloc (.cells #[.int .i64 s.clock, .int .i64 s.cas, .int .i64 s.uses, .int .i64 s.most, .int .i64 s.h0, .int .i64 s.h1, .int .i64 s.h2, .int .i64 s.h3, .slice ia s.items.length ic, .int .i64 s.fm, .int .i64 s.fx, .slice pa s.pages.length pc] 29)) s ia pa := hSI.later ((Below.refl _ _).alloc (Nat.le_refl _) _)
  clear hpl hp1 hp2
  go_wp2_with fail
  generalize hws : (w1.alloc (.cells #[.int .i64 s.clock, .int .i64 s.cas, .int .i64 s.uses, .int .i64 s.most, .int .i64 s.h0, .int .i64 s.h1, .int .i64 s.h2, .int .i64 s.h3, .slice ia s.items.length ic, .int .i64 s.fm, .int .i64 s.fx, .slice pa s.pages.length pc] 29)) = ws at *
  clear hws
  have xx := fun j => T.cell j
  have lx := T.lt
  have w0 : IntKind.i64.wrap (0 + s.h0) = heldSum s 1 := by simp only [IntKind.wrap_i64, heldSum]; simp; omega
  have w1' : IntKind.i64.wrap (heldSum s 1 + s.h1) = heldSum s 2 := by simp only [IntKind.wrap_i64, heldSum]; simp; omega
  have w2' : IntKind.i64.wrap (heldSum s 2 + s.h2) = heldSum s 3 := by simp only [IntKind.wrap_i64, heldSum]; simp; omega
  have w3' : IntKind.i64.wrap (heldSum s 3 + s.h3) = heldSum s 4 := by simp only [IntKind.wrap_i64, heldSum]; simp; omega
  have hle : heldSum s 4 ≤ s.most := by simp only [heldSum]; simp; omega
  have i0 : ∀ w, (Instr.index 23 (.agg #[.int .i64 s.h0, .int .i64 s.h1, .int .i64 s.h2, .int .i64 s.h3]) (.int .i64 0)).run Tryz.prog w = .ok (.int .i64 s.h0) w := fun w => idx4_at s.h0 s.h1 s.h2 s.h3 0 s.h0 (by omega) rfl w
  have i1 : ∀ w, (Instr.index 23 (.agg #[.int .i64 s.h0, .int .i64 s.h1, .int .i64 s.h2, .int .i64 s.h3]) (.int .i64 1)).run Tryz.prog w = .ok (.int .i64 s.h1) w := fun w => idx4_at s.h0 s.h1 s.h2 s.h3 1 s.h1 (by omega) rfl w
  have i2 : ∀ w, (Instr.index 23 (.agg #[.int .i64 s.h0, .int .i64 s.h1, .int .i64 s.h2, .int .i64 s.h3]) (.int .i64 2)).run Tryz.prog w = .ok (.int .i64 s.h2) w := fun w => idx4_at s.h0 s.h1 s.h2 s.h3 2 s.h2 (by omega) rfl w
  have i3 : ∀ w, (Instr.index 23 (.agg #[.int .i64 s.h0, .int .i64 s.h1, .int .i64 s.h2, .int .i64 s.h3]) (.int .i64 3)).run Tryz.prog w = .ok (.int .i64 s.h3) w := fun w => idx4_at s.h0 s.h1 s.h2 s.h3 3 s.h3 (by omega) rfl w
  have hd0 : heldSum s 0 = 0 := by simp [heldSum]
  go_loopw [10, 25] (fun h i wr => ∃ k : Nat, k ≤ 4 ∧ i = .int .i64 k ∧ h = .int .i64 (heldSum s k) ∧ wr = ws) (fun _ i _ => 4 - (intOf i).toNat)
  case atStart => exact ⟨0, by omega, rfl, by simp [heldSum], rfl⟩
  case round =>
    obtain ⟨k, hk, rfl, rfl, hwr⟩ := hrel
    obtain rfl := hwr.symm
    have hks : k = 0 ∨ k = 1 ∨ k = 2 ∨ k = 3 ∨ k = 4 := by omega
    clear hk
    rcases hks with rfl | rfl | rfl | rfl | rfl
    · go_wp2_with fail
      exact ⟨⟨1, by omega, by simp, by simp [heldSum], trivial⟩, by simp [intOf]⟩
    · go_wp2_with fail
      exact ⟨⟨2, by omega, by simp, by simp [heldSum], trivial⟩, by simp [intOf]⟩
    · go_wp2_with fail
      exact ⟨⟨3, by omega, by simp, by simp [heldSum], trivial⟩, by simp [intOf]⟩
    · go_wp2_with fail
      exact ⟨⟨4, by omega, by simp, by simp [heldSum], trivial⟩, by simp [intOf]⟩
    · go_wp2_with fail
      refine (hchk ia ic pa pc _ hSI1 B1).mono ?_
      rintro e w3 ⟨rfl, hb3⟩
      have T3 := T.later hb3
      have x3 := fun j => T3.cell j
      have l3 := T3.lt
      have B3 := below_thru B1 hb3
      go_wp2_with fail
      refine (hz _ B3).mono ?_
      rintro e w4 ⟨rfl, hb4⟩
      go_wp2_with fail
      go_ret
      exact ⟨rfl, below_thru B3 hb4⟩
end Go.Proofs.YtdblegdgmjakfaaGreatDoor
