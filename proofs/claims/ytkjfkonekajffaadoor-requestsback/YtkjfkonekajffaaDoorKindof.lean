/- The contract of wire.kindOf: the kind whose name a text is, or 0. -/
import Derived.Test.YtkjfkonekajffaaDoorLineWords
import Derived.Test.YtkjfkonekajffaaDoorEncode
namespace Go.Proofs.YtkjfkonekajffaaDoor
open Go.ChangeShapes Go.WideShapes Go.ChangeAt Go.RowKit
set_option linter.unusedVariables false

def behindL : List Int := [0, 0, 4, 4, 4, 4, 4, 5, 1, 2, 2, 2, 0]

/-- What the package-level tables hold that the reading of a line reads. -/
def LaidN (w : World) : Prop :=
  (1 < w.heap.size ∧ ∀ k, k < 13 → w.cell? ⟨1, k, none⟩ = some (.string (nameS k))) ∧
  (0 < w.heap.size ∧ ∀ k, k < 13 → w.cell? ⟨0, k, none⟩ = some (.int .i64 (behindL.getD k 0))) ∧
  (2 < w.heap.size ∧ ∃ m, w.cell? ⟨2, 0, none⟩ = some (.int .i64 m))

theorem LaidN.later {w w' : World} (h : LaidN w) (hb : Below w.heap.size w w') : LaidN w' := by
  obtain ⟨⟨h1, h2⟩, ⟨h3, h4⟩, h5, m, h6⟩ := h
  refine ⟨⟨Nat.lt_of_lt_of_le h1 hb.size, fun k hk => ?_⟩, ⟨Nat.lt_of_lt_of_le h3 hb.size, fun k hk => ?_⟩, Nat.lt_of_lt_of_le h5 hb.size, m, ?_⟩
  · rw [hb.cell (p := ⟨1, k, none⟩) h1]; exact h2 k hk
  · rw [hb.cell (p := ⟨0, k, none⟩) h3]; exact h4 k hk
  · rw [hb.cell (p := ⟨2, 0, none⟩) h5]; exact h6

theorem beq_texts (a b : ByteArray) : (a.toList == b.toList) = decide (a = b) := by
  rw [Bool.eq_iff_iff, beq_iff_eq, decide_eq_true_iff, ByteArray.toList_eq, ByteArray.toList_eq]
  constructor
  · intro h
    apply ByteArray.ext
    exact Array.toList_inj.1 h
  · intro h
    rw [h]

def kindFrom (s : ByteArray) : Nat → Nat → Nat
  | 0, _ => 0
  | n + 1, k => if nameS k = s then k else kindFrom s n (k + 1)

def kindD (s : ByteArray) : Nat := kindFrom s 12 1

theorem kindFrom_le (s : ByteArray) : ∀ n k, kindFrom s n k < k + n ∨ kindFrom s n k = 0
  | 0, k => Or.inr rfl
  | n + 1, k => by
    unfold kindFrom
    split
    · left; omega
    · rcases kindFrom_le s n (k + 1) with h | h
      · left; omega
      · right; exact h

theorem kindD_le (s : ByteArray) : kindD s ≤ 12 := by
  rcases kindFrom_le s 12 1 with h | h
  · unfold kindD; omega
  · unfold kindD; omega

set_option maxHeartbeats 1000000 in
theorem kindOf_any (s : ByteArray) (w : World) (hL : LaidN w) :
    Calls Tryd.prog 45 #[.string s] w fun e w' => e = .returned (.int .i64 (kindD s)) ∧ w' = w := by
  obtain ⟨⟨_, hnm⟩, _, _⟩ := hL
  go_enter Tryd.func45, Tryd.ntmps45
  go_wp2
  go_loop [3] (fun i => ∃ k n : Nat, k + n = 13 ∧ 1 ≤ k ∧ i = .int .i64 k ∧ Hid (kindFrom s n k = kindD s)) (fun i => 13 - (intOf i).toNat)
  case atStart => exact ⟨1, 12, rfl, Nat.le_refl _, rfl, rfl⟩
  case round =>
    obtain ⟨k, n, hkn, hk1, rfl, D⟩ := hrel
    by_cases hlt : k < 13
    · obtain ⟨n, rfl⟩ : ∃ n', n = n' + 1 := ⟨n - 1, by omega⟩
      have b0 : (0 : Int) ≤ (k : Int) := Int.natCast_nonneg _
      have b1 : (k : Int) < 13 := by omega
      have hc := hnm k hlt
      have D2 := D.out
      unfold kindFrom at D2
      have hbq := beq_texts (nameS k) s
      clear hnm D
      generalize nameS k = nm at *
      by_cases hq : nm = s
      · rw [if_pos hq] at D2
        have D3 : Hid ((k : Int) = (kindD s : Int)) := by show _ = _; rw [← D2]
        rw [decide_eq_true hq] at hbq
        clear D2 hq hkn
        go_wp2
        go_ret
        exact ⟨ret_i64 D3.out, rfl⟩
      · rw [if_neg hq] at D2
        have D3 : Hid (kindFrom s n (k + 1) = kindD s) := D2
        rw [decide_eq_false hq] at hbq
        have hkn2 : Hid (k + 1 + n = 13) := by show _ = _; omega
        clear D2 hq hkn
        go_wp2
        go_round
        case rel => exact ⟨k + 1, n, hkn2.out, by omega, by go_num, D3⟩
        case measure => simp [intOf]; omega
    · obtain rfl : n = 0 := by omega
      have D3 : Hid ((0 : Int) = (kindD s : Int)) := by have := D.out; unfold kindFrom at this; show _ = _; omega
      have b1 : ¬ (k : Int) < 13 := by omega
      clear hnm D hkn
      go_wp2
      go_ret
      exact ⟨ret_i64 D3.out, rfl⟩
end Go.Proofs.YtkjfkonekajffaaDoor
