/- The contract of dovecoteref.RequestText: what wire.Encode answers, at every request. -/
import Derived.Test.YtkjopjbomnojdaaDoorReqText
import Derived.Test.YtkjopjbomnojdaaDoorFault
import Derived.Deep.RegionHeld3
import Derived.Deep.DeepCutAuto
namespace Go.Proofs.YtkjopjbomnojdaaDoor
open Go.ChangeShapes Go.WideShapes Go.ChangeAt Go.RowKit
set_option linter.unusedVariables false

theorem boxW (kind : Int) (key : ByteArray) (ka : Option Addr) (kn kc : Nat) (keys : List ByteArray) (flags exp nn : Int) (value : ByteArray) (quiet : Bool) {w wx : World} (h : Below (w.alloc (.cells #[.int .i64 kind, .string key, .slice ka keys.length kc, .int .i64 flags, .int .i64 exp, .int .i64 nn, .string value, .bool quiet] 24)).heap.size (w.alloc (.cells #[.int .i64 kind, .string key, .slice ka keys.length kc, .int .i64 flags, .int .i64 exp, .int .i64 nn, .string value, .bool quiet] 24)) wx) :
    wx.cell? ⟨w.heap.size, 3, none⟩ = some (.int .i64 flags) ∧ wx.cell? ⟨w.heap.size, 4, none⟩ = some (.int .i64 exp) ∧ wx.cell? ⟨w.heap.size, 6, none⟩ = some (.string value) := by
  refine ⟨?_, ?_, ?_⟩
  · rw [h.cell (p := ⟨w.heap.size, 3, none⟩) (by simp)]; simp
  · rw [h.cell (p := ⟨w.heap.size, 4, none⟩) (by simp)]; simp
  · rw [h.cell (p := ⟨w.heap.size, 6, none⟩) (by simp)]; simp

set_option maxHeartbeats 4000000 in
set_option maxRecDepth 100000 in
theorem reqText_ok (kind : Int) (key : ByteArray) (ka : Option Addr) (kn kc : Nat) (keys : List ByteArray) (flags exp nn : Int) (value : ByteArray) (quiet : Bool) (w : World) (hK : StrsAt w ka keys.length keys) (hk : key.size ≤ maxLen) (hv : value.size ≤ maxLen) (h0 : checkN kind key keys flags exp nn value quiet = 0) (h13 : ¬ kind = 13) :
    Calls Tryd.prog 8 #[.agg #[.int .i64 kind, .string key, .slice ka keys.length kc, .int .i64 flags, .int .i64 exp, .int .i64 nn, .string value, .bool quiet]] w fun e w' => e = .returned (.tuple #[.string (textS kind key keys flags exp nn value quiet), .int .i64 0]) ∧ Below w.heap.size w w' := by
  have hc1 := fun (w1 : World) (hb : Below w.heap.size w w1) => fault_any kind key ka keys.length kc keys flags exp nn value quiet w1 (hK.later hb) hk hv
  have hB0 : Below w.heap.size w (w.alloc (.cells #[.int .i64 kind, .string key, .slice ka keys.length kc, .int .i64 flags, .int .i64 exp, .int .i64 nn, .string value, .bool quiet] 24)) := (Below.refl _ _).alloc (Nat.le_refl _) _
  obtain ⟨r1, r2, r3, r4, f0, f1, e0, e1, n0, n1, v1⟩ := check_ok _ _ _ _ _ _ _ _ h0
  obtain ⟨k1, k2, k3⟩ := keys_ok _ _ _ r3
  have ke := key_empty _ _ _ r3
  rw [h0] at hc1
  have h13' : (kind == 13) = false := by simp [h13]
  have dz1 := decS_size flags (by omega) (by omega)
  have dz2 := decS_size exp (by omega) (by omega)
  have dz3 := decS_size (value.size : Int) (by omega) (by omega)
  have dz4 := decS_size nn (by omega) (by omega)
  obtain ⟨T2, D2⟩ : ∃ t, Hid (t = wordsS (nameS kind.toNat) keys) := ⟨_, rfl⟩
  obtain ⟨T3, D3⟩ : ∃ t, Hid (t = wordsS T2 (if inB kind 2 11 = true then [key] else [])) := ⟨_, rfl⟩
  obtain ⟨T4, D4⟩ : ∃ t, Hid (t = wordsS T3 (if inB kind 2 7 = true then [decS flags, decS exp, decS value.size] else [])) := ⟨_, rfl⟩
  obtain ⟨T5, D5⟩ : ∃ t, Hid (t = wordsS T4 (if hasNB kind = true then [decS nn] else [])) := ⟨_, rfl⟩
  obtain ⟨T6, D6⟩ : ∃ t, Hid (t = wordsS T5 (if kind = 11 then [decS exp] else [])) := ⟨_, rfl⟩
  obtain ⟨T7, D7⟩ : ∃ t, Hid (t = wordsS T6 (if quiet = true then [quietS] else [])) := ⟨_, rfl⟩
  have DT : Hid (textS kind key keys flags exp nn value quiet = if inB kind 2 7 = true then (T7 ++ nlS) ++ (value ++ nlS) else T7 ++ nlS) := by
    have : wordsS (nameS kind.toNat) (tailL kind key keys flags exp nn value quiet) = T7 := by
      unfold tailL
      rw [wordsS_append, wordsS_append, wordsS_append, wordsS_append, wordsS_append, D7.out, D6.out, D5.out, D4.out, D3.out, D2.out]
    unfold Hid textS
    rw [this]
  generalize textS kind key keys flags exp nn value quiet = TS at *
  have z2 : T2.size ≤ 230 := by
    have := wordsS_size keys (nameS kind.toNat) k2
    have := name_size kind.toNat
    rw [D2.out]
    omega
  have z3 : T3.size ≤ 251 := by
    rw [D3.out]
    split
    · have := wordsS_size [key] T2 (by simpa using k3); simp at this; omega
    · simp [wordsS]; omega
  have z4 : T4.size ≤ 314 := by
    rw [D4.out]
    split
    · have := wordsS_size [decS flags, decS exp, decS value.size] T3 (by simp; omega); simp at this; omega
    · simp [wordsS]; omega
  have z5 : T5.size ≤ 335 := by
    rw [D5.out]
    split
    · have := wordsS_size [decS nn] T4 (by simp; omega); simp at this; omega
    · simp [wordsS]; omega
  have z6 : T6.size ≤ 356 := by
    rw [D6.out]
    split
    · have := wordsS_size [decS exp] T5 (by simp; omega); simp at this; omega
    · simp [wordsS]; omega
  have z7 : T7.size ≤ 377 := by
    rw [D7.out]
    split
    · have := wordsS_size [quietS] T6 (by simp; decide); simp at this; omega
    · simp [wordsS]; omega
  have nz := name_size kind.toNat
  have r12 : kind ≤ 12 := by omega
  clear h13 r4 h0
  go_enter Tryd.func8, Tryd.ntmps8
  go_wp2_with fail
  refine (hc1 _ hB0).mono ?_
  rintro e w1 ⟨rfl, hB⟩
  obtain ⟨q1, q2⟩ := bcell hB
  have hz := bsize hB
  clear hc1
  go_wp2_with fail
  refine (nameOf_any kind _ (by omega) (by omega)).mono ?_
  rintro e w2 ⟨rfl, hb2⟩
  have hB2 : Below (w.alloc (.cells #[.int .i64 kind, .string key, .slice ka keys.length kc, .int .i64 flags, .int .i64 exp, .int .i64 nn, .string value, .bool quiet] 24)).heap.size (w.alloc (.cells #[.int .i64 kind, .string key, .slice ka keys.length kc, .int .i64 flags, .int .i64 exp, .int .i64 nn, .string value, .bool quiet] 24)) w2 := hB.trans (hb2.mono hB.size)
  clear hB q1 q2 hz
  have hB := hB2
  obtain ⟨q1, q2⟩ := bcell hB
  have hz := bsize hB
  clear hb2 hB2
  have hK2 := hK.later (hB0.trans (hB.mono (by simp)))
  go_wp2_with fail
  obtain ⟨_, hmax, hall, hmem⟩ := hK2
  unfold maxLen at hmax
  go_loop [5, 6] (fun s i => ∃ k : Nat, k ≤ keys.length ∧ i = .int .i64 k ∧ s = .string (wordsS (nameS kind.toNat) (keys.take k))) (fun _ i => keys.length - (intOf i).toNat)
  case atStart => exact ⟨0, Nat.zero_le _, rfl, rfl⟩
  case round =>
    obtain ⟨k, hkk, rfl, rfl⟩ := hrel
    by_cases hlt : k < keys.length
    · have hltz : (k : Int) < (keys.length : Int) := by omega
      rcases hmem with hmem | ⟨b, off, rfl, hlb, hcell⟩
      · omega
      have hc2 := hcell k hlt
      have hm2 := mem_getD keys k hlt
      have hs2 := k2 _ hm2
      have Hst : Hid (wordsS (nameS kind.toNat) (keys.take (k + 1)) = (wordsS (nameS kind.toNat) (keys.take k) ++ ⟨#[32]⟩) ++ keys.getD k ByteArray.empty) := by
        have : keys.take (k + 1) = keys.take k ++ [keys.getD k ByteArray.empty] := by
          rw [List.take_succ_eq_append_getElem hlt, List.getD_eq_getElem?_getD, List.getElem?_eq_getElem hlt]; rfl
        rw [show Hid _ = _ from rfl, this, wordsS_append]
        rfl
      have hws := wordsS_size (keys.take k) (nameS kind.toNat) (fun x hx => k2 x (List.mem_of_mem_take hx))
      have hls : (keys.take k).length ≤ 10 := by simp; omega
      generalize hy : keys.getD k ByteArray.empty = y at *
      generalize wordsS (nameS kind.toNat) (keys.take k) = T at *
      have zT : T.size ≤ 230 := by omega
      clear hcell hall hy hm2 hws
      go_wp2
      go_round
      case rel => exact ⟨k + 1, by omega, by go_num, by rw [Hst.out]⟩
      case measure => simp [intOf]; omega
    · have hltz : ¬ (k : Int) < (keys.length : Int) := by omega
      have E : Hid (wordsS (nameS kind.toNat) (keys.take k) = T2) := by
        show _ = T2; rw [D2.out, List.take_of_length_le (by omega)]
      clear hmem hall
      rw [E.out]
      clear E
      go_upto_if 39 with fail
      go_cut [5] (fun s wx => s = .string T3 ∧ Below (w.alloc (.cells #[.int .i64 kind, .string key, .slice ka keys.length kc, .int .i64 flags, .int .i64 exp, .int .i64 nn, .string value, .bool quiet] 24)).heap.size (w.alloc (.cells #[.int .i64 kind, .string key, .slice ka keys.length kc, .int .i64 flags, .int .i64 exp, .int .i64 nn, .string value, .bool quiet] 24)) wx)
      case first =>
        cases h : inB kind 2 11
        ·
          have E : Hid (T2 = T3) := by have := D3.out; rw [if_neg (by simp [h])] at this; exact this.symm
          rw [h] at ke
          go_wp2
          go_meet
          exact ⟨by rw [E.out], hB⟩
        ·
          have E : Hid ((T2 ++ ⟨#[32]⟩) ++ key = T3) := by have := D3.out; rw [if_pos (by exact h)] at this; exact this.symm
          rw [h] at ke
          go_wp2
          go_meet
          exact ⟨by rw [← E.out], hB⟩
      case rest =>
      clear hB q1 q2 hz
      obtain ⟨rfl, hB⟩ := hcut
      obtain ⟨q1, q2⟩ := bcell hB
      have hz := bsize hB
      go_upto_if 47 with (go_at_call 24; refine (brings_any _ _).mono ?_; rintro e w' ⟨rfl, rfl⟩)
      go_cut [5] (fun s wx => s = .string T4 ∧ Below (w.alloc (.cells #[.int .i64 kind, .string key, .slice ka keys.length kc, .int .i64 flags, .int .i64 exp, .int .i64 nn, .string value, .bool quiet] 24)).heap.size (w.alloc (.cells #[.int .i64 kind, .string key, .slice ka keys.length kc, .int .i64 flags, .int .i64 exp, .int .i64 nn, .string value, .bool quiet] 24)) wx)
      case first =>
        cases h : inB kind 2 7
        ·
          have E : Hid (T3 = T4) := by have := D4.out; rw [if_neg (by simp [h])] at this; exact this.symm
          go_wp2
          go_meet
          exact ⟨by rw [E.out], hB⟩
        ·
          have E : Hid (((((((T3 ++ ⟨#[32]⟩) ++ decS flags) ++ ⟨#[32]⟩) ++ decS exp) ++ ⟨#[32]⟩) ++ decS value.size) = T4) := by have := D4.out; rw [if_pos (by exact h)] at this; exact this.symm
          have hI1 := fun (w1 : World) (hW : Below (w.alloc (.cells #[.int .i64 kind, .string key, .slice ka keys.length kc, .int .i64 flags, .int .i64 exp, .int .i64 nn, .string value, .bool quiet] 24)).heap.size (w.alloc (.cells #[.int .i64 kind, .string key, .slice ka keys.length kc, .int .i64 flags, .int .i64 exp, .int .i64 nn, .string value, .bool quiet] 24)) w1) => decW flags (by omega) (by omega) _ w1 hW
          have hI2 := fun (w1 : World) (hW : Below (w.alloc (.cells #[.int .i64 kind, .string key, .slice ka keys.length kc, .int .i64 flags, .int .i64 exp, .int .i64 nn, .string value, .bool quiet] 24)).heap.size (w.alloc (.cells #[.int .i64 kind, .string key, .slice ka keys.length kc, .int .i64 flags, .int .i64 exp, .int .i64 nn, .string value, .bool quiet] 24)) w1) => decW exp (by omega) (by omega) _ w1 hW
          have hI3 := fun (w1 : World) (hW : Below (w.alloc (.cells #[.int .i64 kind, .string key, .slice ka keys.length kc, .int .i64 flags, .int .i64 exp, .int .i64 nn, .string value, .bool quiet] 24)).heap.size (w.alloc (.cells #[.int .i64 kind, .string key, .slice ka keys.length kc, .int .i64 flags, .int .i64 exp, .int .i64 nn, .string value, .bool quiet] 24)) w1) => decW (value.size : Int) (by omega) (by omega) _ w1 hW
          have hWd := hB.drew
          have s1 : ¬ 9223372036854775807 < T3.size + 1 := by omega
          have s2 : ¬ 9223372036854775807 < T3.size + 1 + (decS flags).size := by omega
          have s3 : ¬ 9223372036854775807 < T3.size + 1 + (decS flags).size + 1 := by omega
          have s4 : ¬ 9223372036854775807 < T3.size + 1 + (decS flags).size + 1 + (decS exp).size := by omega
          have s5 : ¬ 9223372036854775807 < T3.size + 1 + (decS flags).size + 1 + (decS exp).size + 1 := by omega
          have s6 : ¬ 9223372036854775807 < T3.size + 1 + (decS flags).size + 1 + (decS exp).size + 1 + (decS (value.size : Int)).size := by omega
          go_upto_region 14 with fail
          go_region_held3 (fun w' => w'.cell? ⟨w.heap.size, 3, none⟩ = some (.int .i64 flags) ∧ w'.cell? ⟨w.heap.size, 4, none⟩ = some (.int .i64 exp) ∧ w'.cell? ⟨w.heap.size, 6, none⟩ = some (.string value))
            (first | exact boxW kind key ka kn kc keys flags exp nn value quiet hWd | exact boxW kind key ka kn kc keys flags exp nn value quiet hWa | exact boxW kind key ka kn kc keys flags exp nn value quiet hWb | exact boxW kind key ka kn kc keys flags exp nn value quiet hWc)
            (first
              | (go_at_call_of 25 (Value.int .i64 flags); refine (hI1 _ hWd).mono ?_; rintro e wa ⟨rfl, hWa⟩)
              | (go_at_call_of 25 (Value.int .i64 exp); refine (hI2 _ hWa).mono ?_; rintro e wb ⟨rfl, hWb⟩)
              | (go_at_call_of 25 (Value.int .i64 (value.size : Int)); refine (hI3 _ hWb).mono ?_; rintro e wcc ⟨rfl, hWc⟩))
          go_wp2
          go_meet
          exact ⟨by rw [← E.out], hWc⟩
      case rest =>
      clear hB q1 q2 hz
      obtain ⟨rfl, hB⟩ := hcut
      obtain ⟨q1, q2⟩ := bcell hB
      have hz := bsize hB
      go_upto_region 15 with fail
      go_cut [77] (fun s wx => s = .bool (hasNB kind) ∧ Below (w.alloc (.cells #[.int .i64 kind, .string key, .slice ka keys.length kc, .int .i64 flags, .int .i64 exp, .int .i64 nn, .string value, .bool quiet] 24)).heap.size (w.alloc (.cells #[.int .i64 kind, .string key, .slice ka keys.length kc, .int .i64 flags, .int .i64 exp, .int .i64 nn, .string value, .bool quiet] 24)) wx)
      case first =>
        have HN : Hid (hasNB kind = (decide (kind = 7) || decide (kind = 9) || decide (kind = 10))) := rfl
        have e7 : (kind == 7) = decide (kind = 7) := by rw [Bool.eq_iff_iff, beq_iff_eq, decide_eq_true_iff]
        have e9 : (kind == 9) = decide (kind = 9) := by rw [Bool.eq_iff_iff, beq_iff_eq, decide_eq_true_iff]
        have e10 : (kind == 10) = decide (kind = 10) := by rw [Bool.eq_iff_iff, beq_iff_eq, decide_eq_true_iff]
        generalize decide (kind = 7) = b7 at *
        generalize decide (kind = 9) = b9 at *
        generalize decide (kind = 10) = b10 at *
        cases b7 <;> cases b9 <;> cases b10 <;> go_wp2 <;> (go_meet; exact ⟨by rw [HN.out]; rfl, hB⟩)
      case rest =>
      clear hB q1 q2 hz
      obtain ⟨hcs, hB⟩ := hcut
      subst hcs
      obtain ⟨q1, q2⟩ := bcell hB
      have hz := bsize hB
      go_upto_if 77 with fail
      go_cut [5] (fun s wx => s = .string T5 ∧ Below (w.alloc (.cells #[.int .i64 kind, .string key, .slice ka keys.length kc, .int .i64 flags, .int .i64 exp, .int .i64 nn, .string value, .bool quiet] 24)).heap.size (w.alloc (.cells #[.int .i64 kind, .string key, .slice ka keys.length kc, .int .i64 flags, .int .i64 exp, .int .i64 nn, .string value, .bool quiet] 24)) wx)
      case first =>
        cases h : hasNB kind
        ·
          have E : Hid (T4 = T5) := by have := D5.out; rw [if_neg (by simp [h])] at this; exact this.symm
          go_wp2
          go_meet
          exact ⟨by rw [E.out], hB⟩
        ·
          have E : Hid ((T4 ++ ⟨#[32]⟩) ++ decS nn = T5) := by have := D5.out; rw [if_pos (by exact h)] at this; exact this.symm
          have hI1 := decW nn (by omega) (by omega) _ _ hB
          go_wp2_with (go_at_call 25; refine hI1.mono ?_; rintro e wa ⟨rfl, hWa⟩)
          go_meet
          exact ⟨by rw [← E.out], hWa⟩
      case rest =>
      clear hB q1 q2 hz
      obtain ⟨rfl, hB⟩ := hcut
      obtain ⟨q1, q2⟩ := bcell hB
      have hz := bsize hB
      go_upto_if 86 with fail
      go_cut [5] (fun s wx => s = .string T6 ∧ Below (w.alloc (.cells #[.int .i64 kind, .string key, .slice ka keys.length kc, .int .i64 flags, .int .i64 exp, .int .i64 nn, .string value, .bool quiet] 24)).heap.size (w.alloc (.cells #[.int .i64 kind, .string key, .slice ka keys.length kc, .int .i64 flags, .int .i64 exp, .int .i64 nn, .string value, .bool quiet] 24)) wx)
      case first =>
        by_cases h : ¬ kind = 11
        ·
          have E : Hid (T5 = T6) := by have := D6.out; rw [if_neg (by exact h)] at this; exact this.symm
          have h' : (kind == 11) = false := by simp [h]
          clear h
          go_wp2
          go_meet
          exact ⟨by rw [E.out], hB⟩
        ·
          have E : Hid ((T5 ++ ⟨#[32]⟩) ++ decS exp = T6) := by have := D6.out; rw [if_pos (by simpa using h)] at this; exact this.symm
          have h' : (kind == 11) = true := by simp at h; simp [h]
          clear h
          have hI1 := decW exp (by omega) (by omega) _ _ hB
          go_wp2_with (go_at_call 25; refine hI1.mono ?_; rintro e wa ⟨rfl, hWa⟩)
          go_meet
          exact ⟨by rw [← E.out], hWa⟩
      case rest =>
      clear hB q1 q2 hz
      obtain ⟨rfl, hB⟩ := hcut
      obtain ⟨q1, q2⟩ := bcell hB
      have hz := bsize hB
      go_upto_if 94 with fail
      go_cut [5] (fun s wx => s = .string T7 ∧ Below (w.alloc (.cells #[.int .i64 kind, .string key, .slice ka keys.length kc, .int .i64 flags, .int .i64 exp, .int .i64 nn, .string value, .bool quiet] 24)).heap.size (w.alloc (.cells #[.int .i64 kind, .string key, .slice ka keys.length kc, .int .i64 flags, .int .i64 exp, .int .i64 nn, .string value, .bool quiet] 24)) wx)
      case first =>
        cases quiet
        ·
          have E : Hid (T6 = T7) := by have := D7.out; rw [if_neg (by simp)] at this; exact this.symm
          go_wp2
          go_meet
          exact ⟨by rw [E.out], hB⟩
        ·
          have E : Hid ((T6 ++ ⟨#[32]⟩) ++ quietS = T7) := by have := D7.out; rw [if_pos (by rfl)] at this; exact this.symm
          have e8 : Hid ((T6 ++ ⟨#[32]⟩) ++ quietS = T6 ++ ⟨#[32, 110, 111, 114, 101, 112, 108, 121]⟩) := by show _ = _; rw [ByteArray.append_assoc]; rfl
          go_wp2
          go_meet
          exact ⟨by rw [← E.out, e8.out], hB⟩
      case rest =>
      clear hB q1 q2 hz
      obtain ⟨rfl, hB⟩ := hcut
      obtain ⟨q1, q2⟩ := bcell hB
      have hz := bsize hB
      cases h : inB kind 2 7
      · have E : Hid (T7 ++ ⟨#[10]⟩ = TS) := by have := DT.out; rw [if_neg (by simp [h])] at this; exact this.symm
        go_wp2_with (go_at_call 24; refine (brings_any _ _).mono ?_; rintro e w' ⟨rfl, rfl⟩)
        go_ret2
        exact ⟨ret_tuple E.out rfl, hB0.trans (hB.mono hB0.size)⟩
      · have E : Hid (((T7 ++ ⟨#[10]⟩) ++ value) ++ ⟨#[10]⟩ = TS) := by have := DT.out; rw [if_pos h] at this; rw [ByteArray.append_assoc]; exact this.symm
        go_wp2_with (go_at_call 24; refine (brings_any _ _).mono ?_; rintro e w' ⟨rfl, rfl⟩)
        go_ret2
        exact ⟨ret_tuple E.out rfl, hB0.trans (hB.mono hB0.size)⟩

set_option maxHeartbeats 2000000 in
set_option maxRecDepth 100000 in
theorem reqText_any (kind : Int) (key : ByteArray) (ka : Option Addr) (kn kc : Nat) (keys : List ByteArray) (flags exp nn : Int) (value : ByteArray) (quiet : Bool) (w : World) (hK : StrsAt w ka kn keys) (hk : key.size ≤ maxLen) (hv : value.size ≤ maxLen) :
    Calls Tryd.prog 8 #[.agg #[.int .i64 kind, .string key, .slice ka kn kc, .int .i64 flags, .int .i64 exp, .int .i64 nn, .string value, .bool quiet]] w fun e w' => e = .returned (.tuple #[.string (encS kind key keys flags exp nn value quiet), .int .i64 (encN kind key keys flags exp nn value quiet)]) ∧ Below w.heap.size w w' := by
  obtain rfl : keys.length = kn := hK.1
  by_cases h0 : checkN kind key keys flags exp nn value quiet = 0
  · by_cases h13 : kind = 13
    · have EN : Hid (encN kind key keys flags exp nn value quiet = 3) := by unfold Hid encN; rw [if_pos h0, if_pos h13]
      have ES : Hid (encS kind key keys flags exp nn value quiet = ⟨#[]⟩) := by unfold Hid encS; rw [EN.out, if_neg (by decide)]
      have hc1 := fun (w1 : World) (hb : Below w.heap.size w w1) => fault_any kind key ka keys.length kc keys flags exp nn value quiet w1 (hK.later hb) hk hv
      have hB0 : Below w.heap.size w (w.alloc (.cells #[.int .i64 kind, .string key, .slice ka keys.length kc, .int .i64 flags, .int .i64 exp, .int .i64 nn, .string value, .bool quiet] 24)) := (Below.refl _ _).alloc (Nat.le_refl _) _
      have h13' : (kind == 13) = true := by simp [h13]
      rw [h0] at hc1
      clear h13 h0
      go_enter Tryd.func8, Tryd.ntmps8
      go_wp2_with fail
      refine (hc1 _ hB0).mono ?_
      rintro e w1 ⟨rfl, hb⟩
      obtain ⟨q1, q2⟩ := bcell hb
      have hz := bsize hb
      go_wp2
      go_ret2
      exact ⟨ret_tuple ES.out.symm EN.out.symm, hB0.trans (hb.mono (by simp))⟩
    · have EN : encN kind key keys flags exp nn value quiet = 0 := by unfold encN; rw [if_pos h0, if_neg h13]
      have ES : encS kind key keys flags exp nn value quiet = textS kind key keys flags exp nn value quiet := by unfold encS; rw [EN, if_pos rfl]
      rw [EN, ES]
      exact reqText_ok kind key ka keys.length kc keys flags exp nn value quiet w hK hk hv h0 h13
  · have EN : Hid (encN kind key keys flags exp nn value quiet = checkN kind key keys flags exp nn value quiet) := by unfold Hid encN; rw [if_neg h0]
    have ES : Hid (encS kind key keys flags exp nn value quiet = ⟨#[]⟩) := by unfold Hid encS; rw [EN.out, if_neg h0]
    have hc1 := fun (w1 : World) (hb : Below w.heap.size w w1) => fault_any kind key ka keys.length kc keys flags exp nn value quiet w1 (hK.later hb) hk hv
    have hB0 : Below w.heap.size w (w.alloc (.cells #[.int .i64 kind, .string key, .slice ka keys.length kc, .int .i64 flags, .int .i64 exp, .int .i64 nn, .string value, .bool quiet] 24)) := (Below.refl _ _).alloc (Nat.le_refl _) _
    generalize checkN kind key keys flags exp nn value quiet = C at *
    have hn : (C != 0) = true := by simp [h0]
    have hn2 : (C == 0) = false := by simp [h0]
    clear h0
    go_enter Tryd.func8, Tryd.ntmps8
    go_wp2_with fail
    refine (hc1 _ hB0).mono ?_
    rintro e w1 ⟨rfl, hb⟩
    obtain ⟨q1, q2⟩ := bcell hb
    have hz := bsize hb
    go_wp2
    go_ret2
    exact ⟨ret_tuple ES.out.symm EN.out.symm, hB0.trans (hb.mono (by simp))⟩
end Go.Proofs.YtkjopjbomnojdaaDoor
