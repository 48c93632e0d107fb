/- The walk of dovecoteref.FlashRead. -/
import Derived.Test.YtogpkbhjobhodaaDoorFReadR
namespace Go.Proofs.YtogpkbhjobhodaaDoor
open Go.ChangeShapes Go.WideShapes Go.ChangeAt Go.RowKit
set_option linter.unusedVariables false
set_option linter.unusedSimpArgs false

theorem cell_lt {W : World} {b o : Nat} {v : Value} (h : W.cell? ⟨b, o, none⟩ = some v) : b < W.heap.size := by
  rcases Nat.lt_or_ge b W.heap.size with h' | h'
  · exact h'
  · simp [World.cell?, Array.getElem?_eq_none h'] at h

def VIn : Prop := ∀ (l : List UInt8) (a : Option Addr) (c : Nat) (w : World), BytesAt w a l → l.length ≤ 256 → l.length ≤ c → c ≤ maxLen → Calls Tryd.prog 45 #[.slice a l.length c] w fun e w' =>
  ∃ u v, e = .returned (.tuple #[u, v, .bool (recsB l)]) ∧ Below w.heap.size w w' ∧ (recsB l = true → ∃ vs os, OwnS w w' u vs ∧ OwnI w w' v os ∧ vs.length = os.length ∧ vs.length ≤ 256 ∧ valsAt 0 l = os.zip vs)

set_option maxHeartbeats 4000000 in
set_option maxRecDepth 100000 in
theorem flashRead_any (m x : Int) (ps : List PageR) (a : Option Addr) (c : Nat) (n p : Int) (w : World) (hP : PagesAt w a ps) (hvi : VIn) :
    Calls Tryd.prog 30 #[.agg #[.int .i64 m, .int .i64 x, .slice a ps.length c], .agg #[.int .i64 n, .int .i64 p]] w fun e w' => e = .returned (.tuple #[.string (readS m x ps n p), .int .i64 (readN m x ps n p)]) ∧ Below w.heap.size w w' := by
  have hB0 : ∀ o1 o2, Below w.heap.size w ((w.alloc o1).alloc o2) := fun o1 o2 => ((Below.refl _ _).alloc (Nat.le_refl _) _).alloc (by simp) _
  have hc1 := fun (w1 : World) (hb : Below w.heap.size w w1) => may_any m x ps a c w1 (hP.later hb) (fun l a c w h1 h2 h3 h4 => (hvi l a c w h1 h2 h3 h4).mono fun e w' ⟨u, v, g1, g2, _⟩ => ⟨u, v, g1, g2⟩)
  have RS : Hid (readS m x ps n p = if mayB m x ps = true then findS ps n p else ⟨#[]⟩) := rfl
  have RN : Hid (readN m x ps n p = if mayB m x ps = true then findN ps n p else 8) := rfl
  generalize readS m x ps n p = S at *
  generalize readN m x ps n p = N at *
  cases hR : mayB m x ps
  · rw [hR] at hc1 RS RN
    have RS' : Hid (S = ⟨#[]⟩) := RS.out
    have RN' : Hid (N = 8) := RN.out
    clear RS RN
    go_enter Tryd.func30, Tryd.ntmps30
    go_wp2_with fail
    refine (hc1 _ (hB0 _ _)).mono ?_
    rintro e w1 ⟨rfl, hb1⟩
    go_wp2
    go_ret2
    exact ⟨ret_tuple RS'.out.symm RN'.out.symm, (hB0 _ _).trans (hb1.mono (hB0 _ _).size)⟩
  · have hby := may_bytes hR
    rw [hR] at hc1 RS RN
    have RS' : Hid (S = findS ps n p) := RS.out
    have RN' : Hid (N = findN ps n p) := RN.out
    have hmax := hP.1
    unfold maxLen at hmax
    clear RS RN
    go_enter Tryd.func30, Tryd.ntmps30
    go_wp2_with fail
    refine (hc1 _ (hB0 _ _)).mono ?_
    rintro e w1 ⟨rfl, hb1⟩
    obtain ⟨q1, q2⟩ := bcell hb1
    have hz0 : w.heap.size < w1.heap.size := by have := hb1.size; simp at this; omega
    have hz1 : w.heap.size + 1 < w1.heap.size := by have := hb1.size; simp at this; omega
    have hB1 : Below w.heap.size w w1 := (hB0 _ _).trans (hb1.mono (hB0 _ _).size)
    have k1 : w1.cell? ⟨w.heap.size, 2, none⟩ = some (.slice a ps.length c) := by rw [q1 _ _ (by simp; omega)]; simp [go_sem]
    have k2 : w1.cell? ⟨w.heap.size + 1, 0, none⟩ = some (.int .i64 n) := by rw [q1 _ _ (by simp)]; simp [go_sem]
    have k3 : w1.cell? ⟨w.heap.size + 1, 1, none⟩ = some (.int .i64 p) := by rw [q1 _ _ (by simp)]; simp [go_sem]
    clear q1 q2 hb1 hc1
    go_wp2_with fail
    go_loopw [6] (fun i wr => ∃ k : Nat, k ≤ ps.length ∧ i = .int .i64 k ∧ Hid (k ≤ pageI ps n) ∧ Below w1.heap.size w1 wr) (fun i _ => ps.length - (intOf i).toNat)
    case atStart => exact ⟨0, Nat.zero_le _, rfl, Nat.zero_le _, Below.refl _ _⟩
    case round =>
      obtain ⟨k, hk, rfl, A, hb⟩ := hrel
      have hbw : Below w.heap.size w wr := hB1.trans (hb.mono hB1.size)
      have k1r : wr.cell? ⟨w.heap.size, 2, none⟩ = some (.slice a ps.length c) := by rw [hb.cell (p := ⟨w.heap.size, 2, none⟩) hz0]; exact k1
      have k2r : wr.cell? ⟨w.heap.size + 1, 0, none⟩ = some (.int .i64 n) := by rw [hb.cell (p := ⟨w.heap.size + 1, 0, none⟩) hz1]; exact k2
      have k3r : wr.cell? ⟨w.heap.size + 1, 1, none⟩ = some (.int .i64 p) := by rw [hb.cell (p := ⟨w.heap.size + 1, 1, none⟩) hz1]; exact k3
      have hz1r : w.heap.size + 1 < wr.heap.size := Nat.lt_of_lt_of_le hz1 hb.size
      by_cases hlt : k < ps.length
      · have hltz : (k : Int) < (ps.length : Int) := by omega
        have hk0 : (0 : Int) ≤ (k : Int) := Int.natCast_nonneg _
        obtain ⟨_, hmem⟩ := hP
        rcases hmem with hmem | ⟨b, off, rfl, hlb, hc⟩
        · omega
        obtain ⟨aa, cc, c0, c1, c2, c3, c4⟩ := (hc k hlt).later hlb hbw
        obtain ⟨y1, y2, y3⟩ := hby k hlt
        clear hc hby
        by_cases hq : (ps.getD k default).num = n
        · have C := pageI_here hlt A.out hq
          have RS2 : Hid (S = (valO (valsAt 0 (ps.getD k default).bs) p).getD ⟨#[]⟩) := by unfold Hid; rw [RS'.out]; unfold findS; rw [C, if_pos hlt]
          have RN2 : Hid (N = if (valO (valsAt 0 (ps.getD k default).bs) p).isSome = true then 0 else 2) := by unfold Hid; rw [RN'.out]; unfold findN; rw [C, if_pos hlt]
          have hvc := fun w2 (hb2 : Below wr.heap.size wr w2) => hvi (ps.getD k default).bs aa cc w2 (c2.later hb2) y2 c3 c4
          clear RS' RN' C
          generalize ps.getD k default = y at *
          obtain ⟨num, bs⟩ := y
          simp only at *
          subst hq
          have hnn : (num != num) = false := by simp
          rw [y3] at hvc
          go_wp2_with fail
          go_quiet (fail)
          go_wp2_with fail
          refine (hvc _ (drewN_below _ _)).mono ?_
          rintro e w2 ⟨u, v, rfl, hb2, hvl⟩
          obtain ⟨vs, os, hS, hI, hlen, h256, hz⟩ := hvl trivial
          obtain ⟨ua, uc, rfl, hu⟩ := hS.form
          obtain ⟨va, vc, rfl, hv⟩ := hI.form
          rw [hz] at RS2 RN2
          have hB2 : Below wr.heap.size wr w2 := (drewN_below wr nq).trans (hb2.mono (Nat.le_refl _))
          have k3w : w2.cell? ⟨w.heap.size + 1, 1, none⟩ = some (.int .i64 p) := by rw [hB2.cell (p := ⟨w.heap.size + 1, 1, none⟩) hz1r]; exact k3r
          have hBw2 : Below w.heap.size w w2 := hbw.trans (hB2.mono hbw.size)
          have hz12 : w.heap.size + 1 < w2.heap.size := Nat.lt_of_lt_of_le hz1r hB2.size
          clear hvc hS hI hz hvl hvi hB2 k3r k2r k1r k1 k2 k3 hb hbw c0 c1 c2 c3 c4 hz1r hb2
          go_wp2_with fail
          go_loopw [10] (fun i wq => ∃ j : Nat, j ≤ vs.length ∧ i = .int .i64 j ∧ Hid (∀ t, t < j → os.getD t 0 ≠ p) ∧ Below w2.heap.size w2 wq) (fun i _ => vs.length - (intOf i).toNat)
          case atStart => exact ⟨0, Nat.zero_le _, rfl, fun t ht => absurd ht (Nat.not_lt_zero _), Below.refl _ _⟩
          case round =>
            obtain ⟨j, hj, rfl, A2, hb⟩ := hrel
            have k3q := hb.cell (p := ⟨w.heap.size + 1, 1, none⟩) hz12
            rw [k3w] at k3q
            by_cases hjl : j < vs.length
            · have hjz : (j : Int) < (vs.length : Int) := by omega
              have hjz2 : (j : Int) < (os.length : Int) := by omega
              have hj0 : (0 : Int) ≤ (j : Int) := Int.natCast_nonneg _
              rcases hu with hu | ⟨g, rfl, hgc⟩
              · omega
              rcases hv with hv | ⟨g', rfl, hgc'⟩
              · omega
              have d1 := hgc j hjl
              have d2 := hgc' j (by omega)
              have d3 := hb.cell (p := ⟨g, 0 + j, none⟩) (cell_lt d1)
              have d4 := hb.cell (p := ⟨g', 0 + j, none⟩) (cell_lt d2)
              rw [d1, Nat.zero_add] at d3
              rw [d2, Nat.zero_add] at d4
              by_cases hpe : os.getD j 0 = p
              · have H := valO_hit p os vs j (by omega) hlen A2.out hpe
                have RS3 : Hid (S = vs.getD j ByteArray.empty) := by unfold Hid; rw [RS2.out, H]; rfl
                have RN3 : Hid (N = 0) := by unfold Hid; rw [RN2.out, H]; rfl
                clear H RS2 RN2 hgc hgc' d1 d2
                generalize vs.getD j ByteArray.empty = V at *
                generalize os.getD j 0 = O at *
                have hbe : (O == p) = true := by simp [hpe]
                clear hpe
                go_wp2_with fail
                go_quiet (fail)
                go_wp2
                go_ret2
                exact ⟨ret_tuple RS3.out.symm RN3.out.symm, hBw2.trans ((hb.trans ((drewN_below wr nq).mono hb.size)).mono hBw2.size)⟩
              · have D2 : Hid (∀ t, t < j + 1 → os.getD t 0 ≠ p) := by
                  show ∀ t, t < j + 1 → os.getD t 0 ≠ p
                  intro t ht
                  by_cases e : t = j
                  · subst e; exact hpe
                  · exact A2.out t (by omega)
                clear hgc hgc' d1 d2
                generalize vs.getD j ByteArray.empty = V at *
                generalize os.getD j 0 = O at *
                have hbe : (O == p) = false := by simp [hpe]
                clear hpe
                go_wp2_with fail
                go_quiet (fail)
                go_wp2
                go_roundw
                case rel => exact ⟨j + 1, by omega, by go_num, D2, hb.trans ((drewN_below wr nq).mono hb.size)⟩
                case measure => simp [intOf]; omega
            · have hjz : ¬ (j : Int) < (vs.length : Int) := by omega
              have H := valO_miss p os vs hlen (fun t ht => A2.out t (by omega))
              have RS3 : Hid (S = ⟨#[]⟩) := by unfold Hid; rw [RS2.out, H]; rfl
              have RN3 : Hid (N = 2) := by unfold Hid; rw [RN2.out, H]; rfl
              clear H RS2 RN2 hu hv
              go_wp2
              go_ret2
              exact ⟨ret_tuple RS3.out.symm RN3.out.symm, hBw2.trans (hb.mono hBw2.size)⟩
        · have D : Hid (k + 1 ≤ pageI ps n) := pageI_next hlt A.out hq
          generalize ps.getD k default = y at *
          obtain ⟨num, bs⟩ := y
          simp only at *
          have hnn : (num != n) = true := by simp [hq]
          have hnn2 : (num == n) = false := by simp [hq]
          clear hq
          go_wp2_with fail
          go_quiet (fail)
          go_wp2
          go_roundw
          case rel => exact ⟨k + 1, by omega, by go_num, D, hb.trans ((drewN_below wr nq).mono hb.size)⟩
          case measure => simp [intOf]; omega
      · have hltz : ¬ (k : Int) < (ps.length : Int) := by omega
        have C : ¬ pageI ps n < ps.length := by have := A.out; omega
        have RS2 : Hid (S = ⟨#[]⟩) := by unfold Hid; rw [RS'.out]; unfold findS; rw [if_neg C]
        have RN2 : Hid (N = 6) := by unfold Hid; rw [RN'.out]; unfold findN; rw [if_neg C]
        clear C
        go_wp2
        go_ret2
        exact ⟨ret_tuple RS2.out.symm RN2.out.symm, hbw⟩
end Go.Proofs.YtogpkbhjobhodaaDoor
