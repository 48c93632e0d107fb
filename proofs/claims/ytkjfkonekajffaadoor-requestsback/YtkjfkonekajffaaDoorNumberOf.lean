/- The contracts of dovecoteref.numberOf and dovecoteref.numbersOf. -/
import Derived.Test.YtkjfkonekajffaaDoorNext3
namespace Go.Proofs.YtkjfkonekajffaaDoor
open Go.ChangeShapes Go.WideShapes Go.ChangeAt Go.RowKit
set_option linter.unusedVariables false

/-- The number that decimal digits are behind 'acc', of any size. -/
def digE : List UInt8 → Int → Option Int
  | [], acc => some acc
  | b :: r, acc => if (b.toNat : Int) < 48 ∨ 57 < (b.toNat : Int) then none else digE r (acc * 10 + ((b.toNat : Int) - 48))

theorem digE_ge : ∀ (l : List UInt8) (acc v : Int), 0 ≤ acc → digE l acc = some v → acc * 10 ^ l.length ≤ v
  | [], acc, v, h, hv => by simp only [digE, Option.some.injEq] at hv; simp [hv]
  | b :: r, acc, v, h, hv => by
    unfold digE at hv
    split at hv
    · cases hv
    · rename_i hb
      have := digE_ge r _ v (by omega) hv
      refine Int.le_trans ?_ this
      rw [List.length_cons, Int.pow_succ, ← Int.mul_assoc, Int.mul_right_comm]
      apply Int.mul_le_mul_of_nonneg_right
      · omega
      · exact Int.pow_nonneg (by decide)

theorem pow_pos10 (n : Nat) : (1 : Int) ≤ 10 ^ n := by
  have : (0 : Int) < 10 ^ n := Int.pow_pos (by decide)
  omega

theorem digE_mono (l : List UInt8) (acc v : Int) (h : 0 ≤ acc) (hv : digE l acc = some v) : acc ≤ v := by
  have h1 := digE_ge l acc v h hv
  have h2 : acc * 1 ≤ acc * 10 ^ l.length := Int.mul_le_mul_of_nonneg_left (pow_pos10 _) h
  omega

/-- At most 1099511627776, or none. -/
def capM (o : Option Int) : Option Int := match o with
  | none => none
  | some v => if 1099511627776 < v then none else some v

theorem digitsV_eq : ∀ (l : List UInt8) (acc : Int), 0 ≤ acc → acc ≤ 1099511627776 → digitsV l acc = capM (digE l acc)
  | [], acc, h1, h2 => by
    simp only [digitsV, digE, capM]
    rw [if_neg (by omega)]
  | b :: r, acc, h1, h2 => by
    unfold digitsV digE
    split
    · rfl
    · rename_i hb
      split
      · rename_i hg
        cases hd : digE r (acc * 10 + ((b.toNat : Int) - 48)) with
        | none => rfl
        | some v =>
          have := digE_mono r _ v (by omega) hd
          simp only [capM]
          rw [if_pos (by omega)]
      · exact digitsV_eq r _ (by omega) (by omega)

theorem long_none (s : ByteArray) (h : 13 < s.size) : numD s = none := by
  unfold numD
  rw [if_neg (by omega)]
  split
  · rfl
  · rename_i h0
    have hl : s.data.toList.length = s.size := rfl
    rw [digitsV_eq _ 0 (by omega) (by omega)]
    cases hd : s.data.toList with
    | nil => rw [hd] at hl; simp at hl; omega
    | cons b r =>
      rw [hd] at hl h0
      simp at hl
      have hb0 : b ≠ 48 := fun e => h0 ⟨by simpa using e, by omega⟩
      unfold digE
      split
      · rfl
      · rename_i hb
        cases hv : digE r (0 * 10 + ((b.toNat : Int) - 48)) with
        | none => rfl
        | some v =>
          have h1 := digE_ge r _ v (by omega) hv
          have hb1 : b.toNat ≠ 48 := fun e => hb0 (UInt8.toNat_inj.1 e)
          have h2 : (1 : Int) * 10 ^ r.length ≤ (0 * 10 + ((b.toNat : Int) - 48)) * 10 ^ r.length := Int.mul_le_mul_of_nonneg_right (by omega) (Int.pow_nonneg (by decide))
          have h3 : (10 : Int) ^ 13 ≤ 10 ^ r.length := by
            have : r.length = 13 + (r.length - 13) := by omega
            rw [this, Int.pow_add]
            have := Int.mul_le_mul_of_nonneg_left (pow_pos10 (r.length - 13)) (show (0 : Int) ≤ 10 ^ 13 by decide)
            omega
          have h4 : (10 : Int) ^ 13 = 10000000000000 := by decide
          simp only [capM]
          rw [if_pos (by omega)]

def numberN (s : ByteArray) : Int := match numD s with
  | none => -1
  | some v => v

theorem digE_step (s : ByteArray) (k : Nat) (hk : k < s.size) (acc : Int) : digE (s.data.toList.drop k) acc =
    if ((s.data.toList.getD k 0).toNat : Int) < 48 ∨ 57 < ((s.data.toList.getD k 0).toNat : Int) then none else digE (s.data.toList.drop (k + 1)) (acc * 10 + (((s.data.toList.getD k 0).toNat : Int) - 48)) := by
  have h : k < s.data.toList.length := by simpa using hk
  rw [List.drop_eq_getElem_cons h, List.getD_eq_getElem?_getD, List.getElem?_eq_getElem h]
  rfl

theorem pow_le13 (k : Nat) (h : k ≤ 13) : (10 : Int) ^ k ≤ 10000000000000 := by
  have : k = 0 ∨ k = 1 ∨ k = 2 ∨ k = 3 ∨ k = 4 ∨ k = 5 ∨ k = 6 ∨ k = 7 ∨ k = 8 ∨ k = 9 ∨ k = 10 ∨ k = 11 ∨ k = 12 ∨ k = 13 := by omega
  rcases this with rfl | rfl | rfl | rfl | rfl | rfl | rfl | rfl | rfl | rfl | rfl | rfl | rfl | rfl <;> decide

set_option maxHeartbeats 1000000 in
theorem numberOf_any (s : ByteArray) (w : World) (hs : s.size ≤ maxLen) :
    Calls Tryd.prog 54 #[.string s] w fun e w' => e = .returned (.int .i64 (numberN s)) ∧ w' = w := by
  have hs' := hs
  unfold maxLen at hs'
  have hin := in_any (s.size : Int) 1 13
  by_cases h0 : 1 ≤ s.size ∧ s.size ≤ 13
  case neg =>
    have E : Hid (-1 = numberN s) := by
      unfold Hid numberN
      by_cases h1 : s.size = 0
      · have : numD s = none := by unfold numD; rw [if_pos h1]
        rw [this]
      · rw [long_none s (by omega)]
    have hi : inB (s.size : Int) 1 13 = false := by unfold inB; simp; omega
    rw [hi] at hin
    clear hi
    go_enter Tryd.func54, Tryd.ntmps54
    go_wp2_with (go_at_call 71; refine (hin _).mono ?_; rintro e w' ⟨rfl, rfl⟩)
    go_ret
    exact ⟨ret_i64 E.out, rfl⟩
  obtain ⟨h1, h2⟩ := h0
  have hi : inB (s.size : Int) 1 13 = true := by unfold inB; simp; omega
  rw [hi] at hin
  clear hi
  have hp : 0 < s.size := by omega
  have hp0 := byteAt s 0 hp
  by_cases h3 : s.data.toList.getD 0 0 = 48 ∧ 1 < s.size
  · have E : Hid (-1 = numberN s) := by
      unfold Hid numberN
      have : numD s = none := by unfold numD; rw [if_neg (by omega), if_pos h3]
      rw [this]
    have hb : ((s[0].toNat : Int) == 48) = true := by rw [hp0, h3.1]; rfl
    have hl : 1 < (s.size : Int) := by omega
    clear hp0 h3
    go_enter Tryd.func54, Tryd.ntmps54
    go_wp2_with (go_at_call 71; refine (hin _).mono ?_; rintro e w' ⟨rfl, rfl⟩)
    go_ret
    exact ⟨ret_i64 E.out, rfl⟩
  have E : Hid (numD s = capM (digE s.data.toList 0)) := by unfold Hid numD; rw [if_neg (by omega), if_neg h3, digitsV_eq _ 0 (by omega) (by omega)]
  have hb : 1 < (s.size : Int) → ((s[0].toNat : Int) == 48) = false := fun g => by
    have g1 : ¬ s.data.toList.getD 0 0 = 48 := fun g2 => h3 ⟨g2, by omega⟩
    rw [hp0, beq_eq_false_iff_ne]
    intro g3
    apply g1
    apply UInt8.toNat_inj.1
    have : (48 : UInt8).toNat = 48 := rfl
    omega
  clear hp0 h3
  have hinb := fun (n : Int) => in_any n 48 57
  go_enter Tryd.func54, Tryd.ntmps54
  go_upto_region 1 with fail
  go_cut [18] (fun v wx => v = .bool false ∧ wx = w)
  case first =>
    by_cases hq : 1 < (s.size : Int)
    · have hb2 := hb hq
      clear hb
      go_wp2_with (go_at_call 71; refine (hin _).mono ?_; rintro e w' ⟨rfl, rfl⟩)
      go_meet
      exact ⟨rfl, rfl⟩
    · clear hb
      go_wp2_with (go_at_call 71; refine (hin _).mono ?_; rintro e w' ⟨rfl, rfl⟩)
      go_meet
      exact ⟨rfl, rfl⟩
  case rest =>
  obtain ⟨rfl, rfl⟩ := hcut
  clear hb hin
  go_wp2_with fail
  go_loop [3, 4] (fun v i => ∃ (k : Nat) (acc : Int), k ≤ s.size ∧ i = .int .i64 k ∧ v = .int .i64 acc ∧ 0 ≤ acc ∧ acc < 10 ^ k ∧ Hid (digE (s.data.toList.drop k) acc = digE s.data.toList 0)) (fun _ i => s.size - (intOf i).toNat)
  case atStart => exact ⟨0, 0, Nat.zero_le _, rfl, rfl, by omega, by decide, rfl⟩
  case round =>
    obtain ⟨k, acc, hk, rfl, rfl, ha0, ha1, D⟩ := hrel
    have hpw := pow_le13 k (by omega)
    have ha2 : acc ≤ 10000000000000 := by omega
    by_cases hlt : k < s.size
    · have hltz : (k : Int) < (s.size : Int) := by omega
      have hba := byteAt s k hlt
      have D2 := digE_step s k hlt acc
      rw [D.out] at D2
      rw [← hba, show s[k] = s.data[k] from rfl] at D2
      have hb1 := digit_bd s.data[k]
      have hb0 : (0 : Int) ≤ (s.data[k].toNat : Int) := Int.natCast_nonneg _
      have hib := hinb (wrap64 (s.data[k].toNat : Int))
      have hw64 : wrap64 (s.data[k].toNat : Int) = (s.data[k].toNat : Int) := by unfold wrap64; omega
      by_cases g1 : (s.data[k].toNat : Int) < 48 ∨ 57 < (s.data[k].toNat : Int)
      · rw [if_pos g1] at D2
        have E1 : Hid (-1 = numberN s) := by unfold Hid numberN; rw [E.out, D2]; rfl
        have hi : inB (wrap64 (s.data[k].toNat : Int)) 48 57 = false := by rw [hw64]; unfold inB; simp; omega
        rw [hi] at hib
        clear D2 D hi hinb g1 hw64 hba
        go_wp2_with (go_at_call 71; refine (hib _).mono ?_; rintro e w' ⟨rfl, rfl⟩)
        go_ret
        exact ⟨ret_i64 E1.out, rfl⟩
      · rw [if_neg g1] at D2
        have D3 : Hid (digE (s.data.toList.drop (k + 1)) (acc * 10 + ((s.data[k].toNat : Int) - 48)) = digE s.data.toList 0) := D2.symm
        have hi : inB (wrap64 (s.data[k].toNat : Int)) 48 57 = true := by rw [hw64]; unfold inB; simp; omega
        have g2 : 48 ≤ (s.data[k].toNat : Int) := by omega
        have g3 : (s.data[k].toNat : Int) ≤ 57 := by omega
        have hwb : wrap64 ((s.data[k].toNat : Int) - 48) = (s.data[k].toNat : Int) - 48 := by unfold wrap64; omega
        rw [hi] at hib
        clear D2 D hi hinb g1 hw64 hba
        have hpn : (10 : Int) ^ (k + 1) = 10 ^ k * 10 := Int.pow_succ _ _
        go_wp2_with (go_at_call 71; refine (hib _).mono ?_; rintro e w' ⟨rfl, rfl⟩)
        have hkk : (s[k].toNat : Int) = (s.data[k].toNat : Int) := rfl
        go_round
        case rel => exact ⟨k + 1, acc * 10 + ((s.data[k].toNat : Int) - 48), by omega, by go_num, by go_num, by omega, by omega, D3⟩
        case measure => simp [intOf]; omega
    · have hltz : ¬ (k : Int) < (s.size : Int) := by omega
      have N : digE s.data.toList 0 = some acc := by
        have := D.out
        rw [List.drop_eq_nil_of_le (show s.data.toList.length ≤ k from by show s.size ≤ k; omega)] at this
        exact this.symm
      clear hinb
      by_cases g : 1099511627776 < acc
      · have E1 : Hid (-1 = numberN s) := by unfold Hid numberN; rw [E.out, N]; simp only [capM]; rw [if_pos g]
        clear N
        go_wp2
        go_ret
        exact ⟨ret_i64 E1.out, rfl⟩
      · have E1 : Hid (acc = numberN s) := by unfold Hid numberN; rw [E.out, N]; simp only [capM]; rw [if_neg g]
        clear N
        go_wp2
        go_ret
        exact ⟨ret_i64 E1.out, rfl⟩

def nnumsN (k : Int) : Nat := if inB k 2 7 = true then (if k = 7 then 4 else 3) else if inB k 9 11 = true then 1 else 0

theorem numbersOf_any (k : Int) (w : World) :
    Calls Tryd.prog 53 #[.int .i64 k] w fun e w' => e = .returned (.int .i64 (nnumsN k : Nat)) ∧ w' = w := by
  have hbr := brings_any k
  have hin := in_any k 9 11
  cases h1 : inB k 2 7
  · cases h2 : inB k 9 11
    · rw [h1] at hbr
      rw [h2] at hin
      have E : Hid ((0 : Int) = (nnumsN k : Nat)) := by unfold Hid nnumsN; simp [h1, h2]
      clear h1 h2
      go_enter Tryd.func53, Tryd.ntmps53
      go_wp2_with (first | (go_at_call 55; refine (hbr _).mono ?_; rintro e w' ⟨rfl, rfl⟩) | (go_at_call 71; refine (hin _).mono ?_; rintro e w' ⟨rfl, rfl⟩))
      go_ret
      exact ⟨ret_i64 E.out, rfl⟩
    · rw [h1] at hbr
      rw [h2] at hin
      have E : Hid ((1 : Int) = (nnumsN k : Nat)) := by unfold Hid nnumsN; simp [h1, h2]
      clear h1 h2
      go_enter Tryd.func53, Tryd.ntmps53
      go_wp2_with (first | (go_at_call 55; refine (hbr _).mono ?_; rintro e w' ⟨rfl, rfl⟩) | (go_at_call 71; refine (hin _).mono ?_; rintro e w' ⟨rfl, rfl⟩))
      go_ret
      exact ⟨ret_i64 E.out, rfl⟩
  · by_cases h2 : k = 7
    · subst h2
      rw [h1] at hbr
      have E : Hid ((4 : Int) = (nnumsN 7 : Nat)) := rfl
      clear h1
      go_enter Tryd.func53, Tryd.ntmps53
      go_wp2_with (go_at_call 55; refine (hbr _).mono ?_; rintro e w' ⟨rfl, rfl⟩)
      go_ret
      exact ⟨ret_i64 E.out, rfl⟩
    · rw [h1] at hbr
      have E : Hid ((3 : Int) = (nnumsN k : Nat)) := by unfold Hid nnumsN; simp [h1, h2]
      have hk : (k == 7) = false := by simp [h2]
      clear h1 h2
      go_enter Tryd.func53, Tryd.ntmps53
      go_wp2_with (go_at_call 55; refine (hbr _).mono ?_; rintro e w' ⟨rfl, rfl⟩)
      go_ret
      exact ⟨ret_i64 E.out, rfl⟩
end Go.Proofs.YtkjfkonekajffaaDoor
