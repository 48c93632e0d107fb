/- The contract of wire.number: the number that a word is, at every text. -/
import Derived.Test.YtkjfkonekajffaaDoorRows
import Derived.WalkKit
import Derived.ProofKit
import Derived.Below
import Derived.Lib.ConvBytes
import Derived.Deep.DeepCutAuto
namespace Go.Proofs.YtkjfkonekajffaaDoor
open Go.ChangeShapes Go.WideShapes Go.ChangeAt Go.RowKit
set_option linter.unusedVariables false

/-- The number that decimal digits are behind 'acc', up to 1099511627776. -/
def digitsV : List UInt8 → Int → Option Int
  | [], acc => some acc
  | b :: r, acc => if (b.toNat : Int) < 48 ∨ 57 < (b.toNat : Int) then none else if 1099511627776 < acc * 10 + ((b.toNat : Int) - 48) then none else digitsV r (acc * 10 + ((b.toNat : Int) - 48))

def numD (s : ByteArray) : Option Int :=
  if s.size = 0 then none else if s.data.toList.getD 0 0 = 48 ∧ 1 < s.size then none else digitsV s.data.toList 0

def numOk (s : ByteArray) : Bool := (numD s).isSome
def numV (s : ByteArray) : Int := (numD s).getD 0

theorem digitsV_step (s : ByteArray) (k : Nat) (hk : k < s.size) (acc : Int) : digitsV (s.data.toList.drop k) acc =
    if ((s.data.toList.getD k 0).toNat : Int) < 48 ∨ 57 < ((s.data.toList.getD k 0).toNat : Int) then none else if 1099511627776 < acc * 10 + (((s.data.toList.getD k 0).toNat : Int) - 48) then none else digitsV (s.data.toList.drop (k + 1)) (acc * 10 + (((s.data.toList.getD k 0).toNat : Int) - 48)) := by
  have h : k < s.data.toList.length := by simpa using hk
  rw [List.drop_eq_getElem_cons h, List.getD_eq_getElem?_getD, List.getElem?_eq_getElem h]
  rfl

theorem ret_num {a b : Int} {x y : Bool} (h1 : a = b) (h2 : x = y) : Ending.returned (.tuple #[.int .i64 a, .bool x]) = .returned (.tuple #[.int .i64 b, .bool y]) := by rw [h1, h2]

theorem isEmpty_of (s : ByteArray) : s.toList.isEmpty = decide (s.size = 0) := by
  rw [ByteArray.toList_eq]
  have h : s.data.toList.length = s.size := rfl
  cases hd : s.data.toList with
  | nil => rw [hd] at h; rw [← h]; rfl
  | cons a b => rw [hd] at h; rw [← h]; rfl

theorem byteAt (s : ByteArray) (k : Nat) (hk : k < s.size) : s[k] = s.data.toList.getD k 0 := by
  have h : k < s.data.toList.length := hk
  rw [List.getD_eq_getElem?_getD, List.getElem?_eq_getElem h]
  rfl

theorem digit_bd (b : UInt8) : (b.toNat : Int) ≤ 255 := by have := b.toNat_lt; omega

set_option maxHeartbeats 2000000 in
theorem number_any (s : ByteArray) (w : World) (hs : s.size ≤ maxLen) :
    Calls Tryd.prog 70 #[.string s] w fun e w' => e = .returned (.tuple #[.int .i64 (numV s), .bool (numOk s)]) ∧ Below w.heap.size w w' := by
  have hs' := hs
  unfold maxLen at hs'
  by_cases h0 : s.size = 0
  · have E : numD s = none := by unfold numD; rw [if_pos h0]
    have E1 : Hid (0 = numV s) := by unfold Hid numV; rw [E]; rfl
    have E2 : Hid (false = numOk s) := by unfold Hid numOk; rw [E]; rfl
    have he : s.toList.isEmpty = true := by rw [isEmpty_of]; exact decide_eq_true h0
    clear E
    go_enter Tryd.func70, Tryd.ntmps70
    go_wp2
    go_ret2
    exact ⟨ret_num E1.out E2.out, Below.refl _ _⟩
  have he : s.toList.isEmpty = false := by rw [isEmpty_of]; exact decide_eq_false h0
  have hp : 0 < s.size := by omega
  have hp0 := byteAt s 0 hp
  by_cases h1 : s.data.toList.getD 0 0 = 48 ∧ 1 < s.size
  · have E : numD s = none := by unfold numD; rw [if_neg h0, if_pos h1]
    have E1 : Hid (0 = numV s) := by unfold Hid numV; rw [E]; rfl
    have E2 : Hid (false = numOk s) := by unfold Hid numOk; rw [E]; rfl
    have hb : ((s[0].toNat : Int) == 48) = true := by rw [hp0, h1.1]; rfl
    have hl : 1 < (s.size : Int) := by omega
    clear E hp0 h1 h0
    go_enter Tryd.func70, Tryd.ntmps70
    go_wp2
    go_ret2
    exact ⟨ret_num E1.out E2.out, Below.refl _ _⟩
  have E : Hid (numD s = digitsV s.data.toList 0) := by unfold Hid numD; rw [if_neg h0, if_neg h1]
  have hb : ((s[0].toNat : Int) == 48 && decide (1 < (s.size : Int))) = false := by
    by_cases g : 1 < s.size
    · have g1 : ¬ s.data.toList.getD 0 0 = 48 := fun g2 => h1 ⟨g2, g⟩
      have : ((s[0].toNat : Int) == 48) = false := by
        rw [hp0, beq_eq_false_iff_ne]
        intro g3
        apply g1
        apply UInt8.toNat_inj.1
        have : (48 : UInt8).toNat = 48 := rfl
        omega
      rw [this]
      rfl
    · have : decide (1 < (s.size : Int)) = false := by simp; omega
      rw [this, Bool.and_false]
  have kc := Lib.run_convert_string_bytes (P := Tryd.prog) w 9 60 5 s Tryd.underlying9 Tryd.underlying60 Tryd.underlying5
  have hcell := fun j hj => Lib.bytesWorld_cell w 5 s j hj
  have hB : Below w.heap.size w (Lib.bytesWorld w 5 s) := ⟨rfl, rfl, rfl, by rw [Lib.bytesWorld_size]; omega, fun k hk => Lib.bytesWorld_at_old w 5 s k hk⟩
  clear hp0 h1 h0
  go_enter Tryd.func70, Tryd.ntmps70
  go_upto_region 1 with fail
  go_cut [18] (fun v wx => v = .bool false ∧ wx = w)
  case first =>
    clear kc hcell
    cases hq : ((s[0].toNat : Int) == 48)
    · go_wp2
      go_meet
      exact ⟨rfl, rfl⟩
    · rw [hq] at hb
      have hb2 : decide (1 < (s.size : Int)) = false := by simpa using hb
      have hb3 : ¬ 1 < (s.size : Int) := of_decide_eq_false hb2
      clear hb hb2
      go_wp2
      go_meet
      exact ⟨rfl, rfl⟩
  case rest =>
  obtain ⟨rfl, rfl⟩ := hcut
  clear hb he
  go_wp2_with fail
  clear kc
  go_loop [4, 6, 22] (fun v _ i => ∃ (k : Nat) (acc : Int), k ≤ s.size ∧ i = .int .i64 k ∧ v = .int .i64 acc ∧ 0 ≤ acc ∧ acc ≤ 1099511627776 ∧ Hid (digitsV (s.data.toList.drop k) acc = numD s)) (fun _ _ i => s.size - (intOf i).toNat)
  case atStart => exact ⟨0, 0, Nat.zero_le _, rfl, rfl, by omega, by omega, E.out.symm⟩
  case round =>
    obtain ⟨k, acc, hk, rfl, rfl, ha0, ha1, D⟩ := hrel
    by_cases hlt : k < s.size
    · have hltz : (k : Int) < (s.size : Int) := by omega
      have hc := hcell k hlt
      have D2 : Hid _ := digitsV_step s k hlt acc
      rw [D.out] at D2
      clear hcell E
      generalize s.data.toList.getD k 0 = b at *
      have hb1 := digit_bd b
      have hb0 : (0 : Int) ≤ (b.toNat : Int) := Int.natCast_nonneg _
      by_cases g1 : (b.toNat : Int) < 48
      · have N : numD s = none := by rw [D2.out, if_pos (Or.inl g1)]
        have E1 : Hid (0 = numV s) := by unfold Hid numV; rw [N]; rfl
        have E2 : Hid (false = numOk s) := by unfold Hid numOk; rw [N]; rfl
        clear N
        go_wp2
        go_ret2
        exact ⟨ret_num E1.out E2.out, hB⟩
      by_cases g2 : 57 < (b.toNat : Int)
      · have N : numD s = none := by rw [D2.out, if_pos (Or.inr g2)]
        have E1 : Hid (0 = numV s) := by unfold Hid numV; rw [N]; rfl
        have E2 : Hid (false = numOk s) := by unfold Hid numOk; rw [N]; rfl
        clear N
        go_wp2
        go_ret2
        exact ⟨ret_num E1.out E2.out, hB⟩
      by_cases g3 : 1099511627776 < acc * 10 + ((b.toNat : Int) - 48)
      · have N : numD s = none := by rw [D2.out, if_neg (by omega), if_pos g3]
        have E1 : Hid (0 = numV s) := by unfold Hid numV; rw [N]; rfl
        have E2 : Hid (false = numOk s) := by unfold Hid numOk; rw [N]; rfl
        clear N
        go_wp2
        go_ret2
        exact ⟨ret_num E1.out E2.out, hB⟩
      · have D3 : Hid (digitsV (s.data.toList.drop (k + 1)) (acc * 10 + ((b.toNat : Int) - 48)) = numD s) := by
          have := D2.out
          rw [if_neg (by omega), if_neg g3] at this
          exact this.symm
        go_wp2
        go_round
        case rel => exact ⟨k + 1, acc * 10 + ((b.toNat : Int) - 48), by omega, by go_num, by go_num, by omega, by omega, D3⟩
        case measure => simp [intOf]; omega
    · have hltz : ¬ (k : Int) < (s.size : Int) := by omega
      have N : numD s = some acc := by
        have := D.out
        rw [List.drop_eq_nil_of_le (show s.data.toList.length ≤ k from by show s.size ≤ k; omega)] at this
        exact this.symm
      have E1 : Hid (acc = numV s) := by unfold Hid numV; rw [N]; rfl
      have E2 : Hid (true = numOk s) := by unfold Hid numOk; rw [N]; rfl
      clear N hcell
      go_wp2
      go_ret2
      exact ⟨ret_num E1.out E2.out, hB⟩
end Go.Proofs.YtkjfkonekajffaaDoor
