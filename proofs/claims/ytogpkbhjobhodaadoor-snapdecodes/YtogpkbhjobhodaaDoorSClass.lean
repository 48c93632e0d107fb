/- The contracts of store.Class and of dovecoteref.ClassOf: the class of an item, by the lengths of its key and value. -/
import Derived.Test.YtogpkbhjobhodaaDoorWithin
import Derived.Deep.RegionHeld3
namespace Go.Proofs.YtogpkbhjobhodaaDoor
open Go.ChangeShapes Go.WideShapes Go.ChangeAt Go.RowKit
set_option linter.unusedVariables false

/-- The table of the chunks' sizes. -/
def LaidC (w : World) : Prop := 0 < w.heap.size ∧ w.cell? ⟨0, 0, none⟩ = some (.int .i64 32) ∧ w.cell? ⟨0, 1, none⟩ = some (.int .i64 64) ∧ w.cell? ⟨0, 2, none⟩ = some (.int .i64 128) ∧ w.cell? ⟨0, 3, none⟩ = some (.int .i64 256)

theorem LaidC.later {w w' : World} (h : LaidC w) (hb : Below w.heap.size w w') : LaidC w' := by
  obtain ⟨h1, c0, c1, c2, c3⟩ := h
  exact ⟨Nat.lt_of_lt_of_le h1 hb.size, by rw [hb.cell (p := ⟨0, 0, none⟩) h1]; exact c0, by rw [hb.cell (p := ⟨0, 1, none⟩) h1]; exact c1, by rw [hb.cell (p := ⟨0, 2, none⟩) h1]; exact c2, by rw [hb.cell (p := ⟨0, 3, none⟩) h1]; exact c3⟩

/-- The class of an item. -/
def classN (k v : Int) : Int :=
  if (inB k 1 20 && inB v 0 200) = true then (if 8 + k + v ≤ 32 then 0 else if 8 + k + v ≤ 64 then 1 else if 8 + k + v ≤ 128 then 2 else 3) else -1

theorem ret_int {a b : Int} (h : a = b) : Ending.returned (.int .i64 a) = .returned (.int .i64 b) := by rw [h]

set_option maxHeartbeats 1000000 in
theorem class_any (k v : Int) (w : World) (hL : LaidC w) :
    Calls Tryd.prog 59 #[.int .i64 k, .int .i64 v] w fun e w' => e = .returned (.int .i64 (classN k v)) ∧ w' = w := by
  have h1 := within_any k 1 20
  have h2 := within_any v 0 200
  have E : Hid (classN k v = if (inB k 1 20 && inB v 0 200) = true then (if 8 + k + v ≤ 32 then 0 else if 8 + k + v ≤ 64 then 1 else if 8 + k + v ≤ 128 then 2 else 3) else -1) := rfl
  generalize classN k v = C at *
  obtain ⟨_, c0, c1, c2, c3⟩ := hL
  cases hq : inB k 1 20
  · rw [hq] at h1 E
    have E' : Hid (C = -1) := E.out
    clear E
    go_enter Tryd.func59, Tryd.ntmps59
    go_wp2_with (go_at_call_of 37 (Value.int .i64 k); refine (h1 _).mono ?_; rintro e w' ⟨rfl, rfl⟩)
    go_ret
    exact ⟨ret_int E'.out.symm, rfl⟩
  cases hq2 : inB v 0 200
  · rw [hq] at h1 E
    rw [hq2] at h2 E
    have E' : Hid (C = -1) := E.out
    clear E
    go_enter Tryd.func59, Tryd.ntmps59
    go_wp2_with (first | (go_at_call_of 37 (Value.int .i64 k); refine (h1 _).mono ?_; rintro e w' ⟨rfl, rfl⟩) | (go_at_call_of 37 (Value.int .i64 v); refine (h2 _).mono ?_; rintro e w' ⟨rfl, rfl⟩))
    go_ret
    exact ⟨ret_int E'.out.symm, rfl⟩
  · have hk : 1 ≤ k ∧ k ≤ 20 := by unfold inB at hq; simpa using hq
    have hv : 0 ≤ v ∧ v ≤ 200 := by unfold inB at hq2; simpa using hq2
    rw [hq] at h1 E
    rw [hq2] at h2 E
    have E' : Hid (C = if 8 + k + v ≤ 32 then 0 else if 8 + k + v ≤ 64 then 1 else if 8 + k + v ≤ 128 then 2 else 3) := E.out
    obtain ⟨k0, k1⟩ := hk
    obtain ⟨v0, v1⟩ := hv
    have ws : IntKind.i64.wrap (8 + k) = 8 + k := by unfold IntKind.wrap; simp [IntKind.bits]; omega
    have i0 : ∀ w, (Instr.index 23 (.agg #[.int .i64 32, .int .i64 64, .int .i64 128, .int .i64 256]) (.int .i64 0)).run Tryd.prog w = .ok (.int .i64 32) w := fun _ => by kernel_rfl
    have i1 : ∀ w, (Instr.index 23 (.agg #[.int .i64 32, .int .i64 64, .int .i64 128, .int .i64 256]) (.int .i64 1)).run Tryd.prog w = .ok (.int .i64 64) w := fun _ => by kernel_rfl
    have i2 : ∀ w, (Instr.index 23 (.agg #[.int .i64 32, .int .i64 64, .int .i64 128, .int .i64 256]) (.int .i64 2)).run Tryd.prog w = .ok (.int .i64 128) w := fun _ => by kernel_rfl
    have i3 : ∀ w, (Instr.index 23 (.agg #[.int .i64 32, .int .i64 64, .int .i64 128, .int .i64 256]) (.int .i64 3)).run Tryd.prog w = .ok (.int .i64 256) w := fun _ => by kernel_rfl
    clear E hq hq2
    go_enter Tryd.func59, Tryd.ntmps59
    go_wp2_with (first | (go_at_call_of 37 (Value.int .i64 k); refine (h1 _).mono ?_; rintro e w' ⟨rfl, rfl⟩) | (go_at_call_of 37 (Value.int .i64 v); refine (h2 _).mono ?_; rintro e w' ⟨rfl, rfl⟩))
    go_loop [16] (fun i => ∃ n : Nat, n ≤ 3 ∧ i = .int .i64 n ∧ (n = 0 ∨ (n = 1 ∧ 32 < 8 + k + v) ∨ (n = 2 ∧ 64 < 8 + k + v) ∨ (n = 3 ∧ 128 < 8 + k + v))) (fun i => 4 - (intOf i).toNat)
    case atStart => exact ⟨0, Nat.zero_le _, rfl, Or.inl rfl⟩
    case round =>
      obtain ⟨n, hn, rfl, hor⟩ := hrel
      rcases hor with rfl | ⟨rfl, hlo⟩ | ⟨rfl, hlo⟩ | ⟨rfl, hlo⟩
      · by_cases hc : 8 + k + v ≤ 32
        · have E2 : Hid (C = 0) := by unfold Hid; rw [E'.out, if_pos hc]
          go_wp2
          go_ret
          exact ⟨ret_int E2.out.symm, rfl⟩
        · go_wp2
          go_round
          case rel => exact ⟨1, by omega, by go_num, Or.inr (Or.inl ⟨rfl, by omega⟩)⟩
          case measure => simp [intOf]
      · by_cases hc : 8 + k + v ≤ 64
        · have E2 : Hid (C = 1) := by unfold Hid; rw [E'.out, if_neg (by omega), if_pos hc]
          go_wp2
          go_ret
          exact ⟨ret_int E2.out.symm, rfl⟩
        · go_wp2
          go_round
          case rel => exact ⟨2, by omega, by go_num, Or.inr (Or.inr (Or.inl ⟨rfl, by omega⟩))⟩
          case measure => simp [intOf]
      · by_cases hc : 8 + k + v ≤ 128
        · have E2 : Hid (C = 2) := by unfold Hid; rw [E'.out, if_neg (by omega), if_neg (by omega), if_pos hc]
          go_wp2
          go_ret
          exact ⟨ret_int E2.out.symm, rfl⟩
        · go_wp2
          go_round
          case rel => exact ⟨3, by omega, by go_num, Or.inr (Or.inr (Or.inr ⟨rfl, by omega⟩))⟩
          case measure => simp [intOf]
      · have hc : 8 + k + v ≤ 256 := by omega
        have E2 : Hid (C = 3) := by unfold Hid; rw [E'.out, if_neg (by omega), if_neg (by omega), if_neg (by omega)]
        go_wp2
        go_ret
        exact ⟨ret_int E2.out.symm, rfl⟩

theorem sizeOf_any (n : Nat) (h : n ≤ 3) (w : World) :
    Calls Tryd.prog 32 #[.int .i64 n] w fun e w' => e = .returned (.int .i64 ([32, 64, 128, 256].getD n 0)) ∧ Below w.heap.size w w' := by
  have hn : n = 0 ∨ n = 1 ∨ n = 2 ∨ n = 3 := by omega
  clear h
  rcases hn with rfl | rfl | rfl | rfl <;> (go_enter Tryd.func32, Tryd.ntmps32; go_wp2; go_ret; exact ⟨rfl, (Below.refl _ _).alloc (Nat.le_refl _) _⟩)

set_option maxHeartbeats 1000000 in
theorem classOf_any (k v : Int) (w : World) :
    Calls Tryd.prog 46 #[.int .i64 k, .int .i64 v] w fun e w' => e = .returned (.int .i64 (classN k v)) ∧ Below w.heap.size w w' := by
  have h1 := in_any k 1 20
  have h2 := in_any v 0 200
  have E : Hid (classN k v = if (inB k 1 20 && inB v 0 200) = true then (if 8 + k + v ≤ 32 then 0 else if 8 + k + v ≤ 64 then 1 else if 8 + k + v ≤ 128 then 2 else 3) else -1) := rfl
  generalize classN k v = C at *
  cases hq : inB k 1 20
  · rw [hq] at h1 E
    have E' : Hid (C = -1) := E.out
    clear E
    go_enter Tryd.func46, Tryd.ntmps46
    go_wp2_with (go_at_call_of 27 (Value.int .i64 k); refine (h1 _).mono ?_; rintro e w' ⟨rfl, rfl⟩)
    go_ret
    exact ⟨ret_int E'.out.symm, Below.refl _ _⟩
  cases hq2 : inB v 0 200
  · rw [hq] at h1 E
    rw [hq2] at h2 E
    have E' : Hid (C = -1) := E.out
    clear E
    go_enter Tryd.func46, Tryd.ntmps46
    go_wp2_with (first | (go_at_call_of 27 (Value.int .i64 k); refine (h1 _).mono ?_; rintro e w' ⟨rfl, rfl⟩) | (go_at_call_of 27 (Value.int .i64 v); refine (h2 _).mono ?_; rintro e w' ⟨rfl, rfl⟩))
    go_ret
    exact ⟨ret_int E'.out.symm, Below.refl _ _⟩
  · have hk : 1 ≤ k ∧ k ≤ 20 := by unfold inB at hq; simpa using hq
    have hv : 0 ≤ v ∧ v ≤ 200 := by unfold inB at hq2; simpa using hq2
    rw [hq] at h1 E
    rw [hq2] at h2 E
    have E' : Hid (C = if 8 + k + v ≤ 32 then 0 else if 8 + k + v ≤ 64 then 1 else if 8 + k + v ≤ 128 then 2 else 3) := E.out
    obtain ⟨k0, k1⟩ := hk
    obtain ⟨v0, v1⟩ := hv
    have z0 := fun w => sizeOf_any 0 (by omega) w
    have z1 := fun w => sizeOf_any 1 (by omega) w
    have z2 := fun w => sizeOf_any 2 (by omega) w
    have z3 := fun w => sizeOf_any 3 (by omega) w
    clear E hq hq2
    go_enter Tryd.func46, Tryd.ntmps46
    go_wp2_with (first | (go_at_call_of 27 (Value.int .i64 k); refine (h1 _).mono ?_; rintro e w' ⟨rfl, hw⟩; obtain rfl := hw.symm) | (go_at_call_of 27 (Value.int .i64 v); refine (h2 _).mono ?_; rintro e w' ⟨rfl, hw⟩; obtain rfl := hw.symm))
    go_loopw [5] (fun i wr => ∃ n : Nat, n ≤ 3 ∧ i = .int .i64 n ∧ Below w.heap.size w wr ∧ (n = 0 ∨ (n = 1 ∧ 32 < 8 + k + v) ∨ (n = 2 ∧ 64 < 8 + k + v) ∨ (n = 3 ∧ 128 < 8 + k + v))) (fun i _ => 4 - (intOf i).toNat)
    case atStart => exact ⟨0, Nat.zero_le _, rfl, Below.refl _ _, Or.inl rfl⟩
    case round =>
      obtain ⟨n, hn, rfl, hb, hor⟩ := hrel
      rcases hor with rfl | ⟨rfl, hlo⟩ | ⟨rfl, hlo⟩ | ⟨rfl, hlo⟩
      · by_cases hc : 8 + k + v ≤ 32
        · have E2 : Hid (C = 0) := by unfold Hid; rw [E'.out, if_pos hc]
          go_wp2_with (go_at_call 32; refine (z0 _).mono ?_; rintro e w' ⟨rfl, hb2⟩)
          go_ret
          exact ⟨ret_int E2.out.symm, hb.trans (hb2.mono hb.size)⟩
        · go_wp2_with (go_at_call 32; refine (z0 _).mono ?_; rintro e w' ⟨rfl, hb2⟩)
          go_roundw
          case rel => exact ⟨1, by omega, by go_num, hb.trans (hb2.mono hb.size), Or.inr (Or.inl ⟨rfl, by omega⟩)⟩
          case measure => simp [intOf]
      · by_cases hc : 8 + k + v ≤ 64
        · have E2 : Hid (C = 1) := by unfold Hid; rw [E'.out, if_neg (by omega), if_pos hc]
          go_wp2_with (go_at_call 32; refine (z1 _).mono ?_; rintro e w' ⟨rfl, hb2⟩)
          go_ret
          exact ⟨ret_int E2.out.symm, hb.trans (hb2.mono hb.size)⟩
        · go_wp2_with (go_at_call 32; refine (z1 _).mono ?_; rintro e w' ⟨rfl, hb2⟩)
          go_roundw
          case rel => exact ⟨2, by omega, by go_num, hb.trans (hb2.mono hb.size), Or.inr (Or.inr (Or.inl ⟨rfl, by omega⟩))⟩
          case measure => simp [intOf]
      · by_cases hc : 8 + k + v ≤ 128
        · have E2 : Hid (C = 2) := by unfold Hid; rw [E'.out, if_neg (by omega), if_neg (by omega), if_pos hc]
          go_wp2_with (go_at_call 32; refine (z2 _).mono ?_; rintro e w' ⟨rfl, hb2⟩)
          go_ret
          exact ⟨ret_int E2.out.symm, hb.trans (hb2.mono hb.size)⟩
        · go_wp2_with (go_at_call 32; refine (z2 _).mono ?_; rintro e w' ⟨rfl, hb2⟩)
          go_roundw
          case rel => exact ⟨3, by omega, by go_num, hb.trans (hb2.mono hb.size), Or.inr (Or.inr (Or.inr ⟨rfl, by omega⟩))⟩
          case measure => simp [intOf]
      · have hc : 8 + k + v ≤ 256 := by omega
        have E2 : Hid (C = 3) := by unfold Hid; rw [E'.out, if_neg (by omega), if_neg (by omega), if_neg (by omega)]
        go_wp2_with (go_at_call 32; refine (z3 _).mono ?_; rintro e w' ⟨rfl, hb2⟩)
        go_ret
        exact ⟨ret_int E2.out.symm, hb.trans (hb2.mono hb.size)⟩
end Go.Proofs.YtogpkbhjobhodaaDoor
