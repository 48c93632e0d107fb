/- The contract of the reader's number. -/
import Derived.Test.YtogpkbhjobhodaaDoorSnapD
namespace Go.Proofs.YtogpkbhjobhodaaDoor
open Go.ChangeShapes Go.WideShapes Go.ChangeAt Go.RowKit
set_option linter.unusedVariables false
set_option linter.unusedSimpArgs false

def NumPost (m B : Nat) (p : RS × Nat) (w : World) (e : Ending) (w' : World) : Prop := e = .returned (.int .i64 (p.2 : Int)) ∧ RdAt m w' B p.1 ∧ Only B w w'

theorem take_one (st : RS) (b : UInt8) (r : List UInt8) (h : st.left = b :: r) : takeR 1 st = (⟨r, st.e⟩, [b]) := by
  unfold takeR
  rw [h]
  simp
theorem take_nil (st : RS) (h : st.left = []) : takeR 1 st = (refuseR 5 st, []) := by
  unfold takeR
  rw [h]
  simp

theorem num_lt (acc z k : Nat) (hk : k < 6) (ha : acc < 128 ^ k) : acc + z % 128 * 128 ^ k < 128 ^ (k + 1) := by
  have h1 : z % 128 < 128 := Nat.mod_lt _ (by decide)
  generalize z % 128 = y at *
  have : y * 128 ^ k ≤ 127 * 128 ^ k := Nat.mul_le_mul_right _ (by omega)
  rw [Nat.pow_succ]
  omega
theorem num_wrap (acc z k : Nat) (hk : k < 6) (ha : acc < 128 ^ k) : wrap64 ((acc : Int) + wrap64 ((z : Int) % 128 * 2 ^ (7 * k))) = ((acc + z % 128 * 128 ^ k : Nat) : Int) := by
  have h1 : z % 128 < 128 := Nat.mod_lt _ (by decide)
  have hz : (z : Int) % 128 = ((z % 128 : Nat) : Int) := by omega
  rw [hz]
  generalize z % 128 = y at *
  have hk' : k = 0 ∨ k = 1 ∨ k = 2 ∨ k = 3 ∨ k = 4 ∨ k = 5 := by omega
  rcases hk' with rfl | rfl | rfl | rfl | rfl | rfl <;> simp only [wrap64] at * <;> omega

set_option maxHeartbeats 2000000 in
set_option maxRecDepth 100000 in
theorem number_any (m : Nat) (st : RS) (B : Nat) (w : World) (h : RdAt m w B st) :
    Calls Tryd.prog 33 #[.pointer (some ⟨B, 0, none⟩)] w (NumPost m B (numR st) w) := by
  unfold NumPost
  have EN : Hid (numR st = numF 7 0 0 st) := rfl
  generalize numR st = N at *
  go_enter Tryd.func33, Tryd.ntmps33
  go_wp2_with fail
  go_loopw [3, 6] (fun n i wr => ∃ (k acc : Nat) (s1 : RS), k ≤ 6 ∧ i = .int .i64 k ∧ n = .int .i64 acc ∧ acc < 128 ^ k ∧ Hid (N = numF (7 - k) k acc s1) ∧ RdAt m wr B s1 ∧ Only B w wr) (fun _ i _ => 7 - (intOf i).toNat)
  case atStart => exact ⟨0, 0, st, by omega, rfl, rfl, by simp, EN, h, Only.refl _ _⟩
  case round =>
    obtain ⟨k, acc, s1, hk, rfl, rfl, hacc, EK, hR, hO⟩ := hrel
    have hk7 : (k : Int) < 7 := by omega
    have hk0 : (0 : Int) ≤ (k : Int) := by omega
    have hta := take_any m 1 s1 B wr hR (by omega)
    unfold BytPost at hta
    cases hl : s1.left with
    | nil =>
      have E2 : Hid (N = (refuseR 5 s1, 0)) := by
        unfold Hid
        rw [EK.out, show 7 - k = (6 - k) + 1 by omega, numF, hl]
      rw [take_nil s1 hl] at hta
      clear EK EN
      go_wp2_with fail
      refine hta.mono ?_
      rintro e w1 ⟨a, c, rfl, hA, h1, h2, h3, hR1, hO1⟩
      go_wp2
      go_ret
      exact ⟨by rw [E2.out]; rfl, by rw [E2.out]; exact hR1, hO.trans hO1⟩
    | cons b r =>
      rw [take_one s1 b r hl] at hta
      have hstep : N = if k = 6 ∨ b.toNat = 0 ∧ 0 < k then (refuseR 4 ⟨r, s1.e⟩, 0) else if b.toNat < 128 then (⟨r, s1.e⟩, acc + b.toNat % 128 * 128 ^ k) else numF (7 - (k + 1)) (k + 1) (acc + b.toNat % 128 * 128 ^ k) ⟨r, s1.e⟩ := by
        rw [EK.out, show 7 - k = (6 - k) + 1 by omega, numF, hl, show 7 - (k + 1) = 6 - k by omega]
      have hbd := b.toNat_lt
      clear EK EN
      go_wp2_with fail
      refine hta.mono ?_
      rintro e w1 ⟨a, c, rfl, hA, h1, h2, h3, hR1, hO1⟩
      have hOw := hO.trans hO1
      obtain ⟨_, hA⟩ := hA
      rcases hA with hA | ⟨g, o, rfl, hg, hc⟩
      · simp at hA
      have hc0 := hc 0 (by simp)
      simp only [List.getD_cons_zero, Nat.add_zero] at hc0
      have href := refuse_any m 4 ⟨r, s1.e⟩ B w1 hR1
      clear hc hta hl
      generalize b.toNat = z at *
      by_cases hbad : k = 6 ∨ z = 0 ∧ 0 < k
      · rw [if_pos hbad] at hstep
        have E2 : Hid (N = (refuseR 4 ⟨r, s1.e⟩, 0)) := hstep
        clear hstep
        by_cases hk6 : k = 6
        · have b6 : ((k : Int) == 6) = true := by simp; omega
          go_wp2_with fail
          refine href.mono ?_
          rintro e w2 ⟨rfl, hR2, hO2⟩
          go_wp2
          go_ret
          exact ⟨by rw [E2.out]; rfl, by rw [E2.out]; exact hR2, hOw.trans hO2⟩
        · have b6 : ((k : Int) == 6) = false := by simp; omega
          have bz : ((z : Int) == 0) = true := by simp; omega
          have bk : (0 : Int) < (k : Int) := by omega
          go_wp2_with fail
          refine href.mono ?_
          rintro e w2 ⟨rfl, hR2, hO2⟩
          go_wp2
          go_ret
          exact ⟨by rw [E2.out]; rfl, by rw [E2.out]; exact hR2, hOw.trans hO2⟩
      · rw [if_neg hbad] at hstep
        have hk6 : k < 6 := by omega
        have b6 : ((k : Int) == 6) = false := by simp; omega
        have hnw : Hid (wrap64 ((acc : Int) + wrap64 ((z : Int) % 128 * 2 ^ (7 * k))) = ((acc + z % 128 * 128 ^ k : Nat) : Int)) := num_wrap acc z k hk6 hacc
        have hnl := num_lt acc z k hk6 hacc
        by_cases hz0 : z = 0
        · have hk00 : k = 0 := by omega
          subst hz0 hk00
          rw [if_pos (by omega)] at hstep
          have E2 : Hid (N = (⟨r, s1.e⟩, acc + 0 % 128 * 128 ^ 0)) := hstep
          have ha0 : acc = 0 := by simpa using hacc
          subst ha0
          clear hstep hnl hnw
          go_wp2
          go_ret
          exact ⟨by rw [E2.out]; rfl, by rw [E2.out]; exact hR1, hOw⟩
        · have bz : ((z : Int) == 0) = false := by simp; omega
          by_cases hz : z < 128
          · have hzz : (z : Int) < 128 := by omega
            rw [if_pos hz] at hstep
            have E2 : Hid (N = (⟨r, s1.e⟩, acc + z % 128 * 128 ^ k)) := hstep
            clear hstep hnl
            go_wp2_with fail
            go_ret
            exact ⟨ret_i64 (by rw [E2.out]; exact hnw.out), by rw [E2.out]; exact hR1, hOw⟩
          · have hzz : ¬ (z : Int) < 128 := by omega
            rw [if_neg hz] at hstep
            have E2 : Hid (N = numF (7 - (k + 1)) (k + 1) (acc + z % 128 * 128 ^ k) ⟨r, s1.e⟩) := hstep
            clear hstep
            generalize acc + z % 128 * 128 ^ k = acc2 at *
            go_wp2_with fail
            go_roundw
            case rel => exact ⟨k + 1, acc2, ⟨r, s1.e⟩, by omega, by go_num, by rw [hnw.out], hnl, E2, hR1, hOw⟩
            case measure => simp [intOf]; omega

set_option maxHeartbeats 400000 in
theorem count_any (m most : Nat) (st : RS) (B : Nat) (w : World) (h : RdAt m w B st) :
    Calls Tryd.prog 35 #[.pointer (some ⟨B, 0, none⟩), .int .i64 (most : Int)] w (NumPost m B (countR most st) w) := by
  have hn := number_any m st B w h
  have EC : Hid (countR most st = if most < (numR st).2 then (refuseR 1 (numR st).1, 0) else numR st) := rfl
  unfold NumPost at *
  generalize countR most st = C at *
  generalize numR st = N at *
  obtain ⟨s1, k⟩ := N
  simp only at *
  by_cases hlt : most < k
  · have hz : (most : Int) < (k : Int) := by omega
    rw [if_pos hlt] at EC
    go_enter Tryd.func35, Tryd.ntmps35
    go_wp2_with fail
    refine hn.mono ?_
    rintro e w1 ⟨rfl, hR1, hO1⟩
    go_wp2_with fail
    refine (refuse_any m 1 s1 B w1 hR1).mono ?_
    rintro e w2 ⟨rfl, hR2, hO2⟩
    go_wp2
    go_ret
    exact ⟨by rw [EC.out]; rfl, by rw [EC.out]; exact hR2, hO1.trans hO2⟩
  · have hz : ¬ (most : Int) < (k : Int) := by omega
    rw [if_neg hlt] at EC
    go_enter Tryd.func35, Tryd.ntmps35
    go_wp2_with fail
    refine hn.mono ?_
    rintro e w1 ⟨rfl, hR1, hO1⟩
    go_wp2
    go_ret
    exact ⟨by rw [EC.out]; rfl, by rw [EC.out]; exact hR1, hO1⟩

theorem count_le (most : Nat) (st : RS) : (countR most st).2 ≤ most := by
  unfold countR
  split
  · simp
  · omega

set_option maxHeartbeats 400000 in
theorem rtext_any (m most : Nat) (st : RS) (B : Nat) (w : World) (h : RdAt m w B st) (hm : most ≤ 1000) :
    Calls Tryd.prog 48 #[.pointer (some ⟨B, 0, none⟩), .int .i64 (most : Int)] w (BytPost m B (textR most st) w) := by
  have hn := count_any m most st B w h
  have hle := count_le most st
  unfold NumPost at hn
  unfold textR
  generalize countR most st = C at *
  obtain ⟨s1, k⟩ := C
  simp only at *
  go_enter Tryd.func48, Tryd.ntmps48
  go_wp2_with fail
  refine hn.mono ?_
  rintro e w1 ⟨rfl, hR1, hO1⟩
  go_wp2_with fail
  refine (take_any m k s1 B w1 hR1 (by omega)).mono ?_
  rintro e w2 ⟨a, c, rfl, q1, q2, q3, q4, q5, q6⟩
  go_wp2
  go_ret
  exact ⟨a, c, rfl, q1, q2, q3, q4, q5, hO1.trans q6⟩

set_option maxHeartbeats 400000 in
theorem yes_any (m : Nat) (st : RS) (B : Nat) (w : World) (h : RdAt m w B st) :
    Calls Tryd.prog 49 #[.pointer (some ⟨B, 0, none⟩)] w fun e w' => e = .returned (.bool (yesR st).2) ∧ RdAt m w' B (yesR st).1 ∧ Only B w w' := by
  have hn := number_any m st B w h
  unfold NumPost at hn
  unfold yesR
  generalize numR st = C at *
  obtain ⟨s1, k⟩ := C
  simp only at *
  by_cases hlt : 1 < k
  · have hz : (1 : Int) < (k : Int) := by omega
    have hb : ((k : Int) == 1) = false := by simp; omega
    have hd : decide (k = 1) = false := by simp; omega
    rw [if_pos hlt, hd]
    go_enter Tryd.func49, Tryd.ntmps49
    go_wp2_with fail
    refine hn.mono ?_
    rintro e w1 ⟨rfl, hR1, hO1⟩
    go_wp2_with fail
    refine (refuse_any m 4 s1 B w1 hR1).mono ?_
    rintro e w2 ⟨rfl, hR2, hO2⟩
    go_wp2
    go_ret
    exact ⟨rfl, hR2, hO1.trans hO2⟩
  · have hz : ¬ (1 : Int) < (k : Int) := by omega
    have hb : ((k : Int) == 1) = decide (k = 1) := by
      by_cases h1 : k = 1
      · subst h1; rfl
      · rw [decide_eq_false h1]; simp; omega
    rw [if_neg hlt]
    generalize decide (k = 1) = D at *
    go_enter Tryd.func49, Tryd.ntmps49
    go_wp2_with fail
    refine hn.mono ?_
    rintro e w1 ⟨rfl, hR1, hO1⟩
    go_wp2
    go_ret
    exact ⟨rfl, hR1, hO1⟩
end Go.Proofs.YtogpkbhjobhodaaDoor
