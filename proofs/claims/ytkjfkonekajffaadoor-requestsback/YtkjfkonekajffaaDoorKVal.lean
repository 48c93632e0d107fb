/- The contract of dovecotekeep.value. -/
import Derived.Test.YtkjfkonekajffaaDoorKValue
namespace Go.Proofs.YtkjfkonekajffaaDoor
open Go.ChangeShapes Go.WideShapes Go.ChangeAt Go.RowKit
set_option linter.unusedVariables false

theorem keepAlloc {w w1 : World} (h : Below w.heap.size w w1) (o : Obj) : Below w.heap.size w (w1.alloc o) := h.alloc h.size _
theorem keepDrew {w w1 : World} (h : Below w.heap.size w w1) : Below w.heap.size w w1.drew := h.drew
theorem keepLater {w w1 w2 : World} (h : Below w.heap.size w w1) (hb : Below w1.heap.size w1 w2) : Below w.heap.size w w2 := h.trans (hb.mono h.size)

theorem val1_at (p : Nat) (hp : p < 8) : (#[.string ⟨#[]⟩, .string ⟨#[55]⟩, .string ⟨#[111, 110, 101]⟩, .string ⟨#[48, 49, 50, 51, 52, 53, 54, 55, 56, 57]⟩, .string ⟨#[49, 48]⟩, .string ⟨#[49, 48, 57, 57, 53, 49, 49, 54, 50, 55, 55, 55, 53]⟩, .string ⟨#[97, 10, 98]⟩, .string ⟨#[118, 97, 108, 117, 101, 32, 111, 102, 32, 115, 111, 109, 101, 32, 98, 121, 116, 101, 115, 44, 32, 116, 104, 97, 116, 32, 103, 111, 32, 116, 111, 32, 102, 108, 97, 115, 104]⟩] : Array Value)[p]? = some (.string (val1L.getD p ByteArray.empty)) ∧ (val1L.getD p ByteArray.empty).size ≤ 40 := by
  match p, hp with
  | 0, _ => exact ⟨rfl, by decide⟩
  | 1, _ => exact ⟨rfl, by decide⟩
  | 2, _ => exact ⟨rfl, by decide⟩
  | 3, _ => exact ⟨rfl, by decide⟩
  | 4, _ => exact ⟨rfl, by decide⟩
  | 5, _ => exact ⟨rfl, by decide⟩
  | 6, _ => exact ⟨rfl, by decide⟩
  | 7, _ => exact ⟨rfl, by decide⟩
  | p + 8, h => omega

theorem val2_at (p : Nat) (hp : p < 4) : (#[.string ⟨#[]⟩, .string ⟨#[]⟩, .string ⟨#[120, 121]⟩, .string ⟨#[97, 32, 118, 97, 108, 117, 101, 32, 116, 104, 97, 116, 32, 105, 115, 32, 108, 111, 110, 103]⟩] : Array Value)[p]? = some (.string (val2L.getD p ByteArray.empty)) ∧ (val2L.getD p ByteArray.empty).size ≤ 20 := by
  match p, hp with
  | 0, _ => exact ⟨rfl, by decide⟩
  | 1, _ => exact ⟨rfl, by decide⟩
  | 2, _ => exact ⟨rfl, by decide⟩
  | 3, _ => exact ⟨rfl, by decide⟩
  | p + 4, h => omega

theorem valS_size (n : Int) : (valS n).size ≤ 180 := by
  obtain ⟨p0, p1⟩ := pickN_range n 8 (by decide)
  obtain ⟨q0, q1⟩ := pickN_range (n.tdiv 8) 4 (by decide)
  obtain ⟨r0, r1⟩ := pickN_range (n.tdiv 32) 8 (by decide)
  have h1 := (val1_at (pickN n 8).toNat (by omega)).2
  have h2 := (val2_at (pickN (n.tdiv 8) 4).toNat (by omega)).2
  unfold valS
  rw [ByteArray.size_append]
  have h3 : (repS (val2L.getD (pickN (n.tdiv 8) 4).toNat ByteArray.empty) (pickN (n.tdiv 32) 8).toNat).size = (pickN (n.tdiv 32) 8).toNat * (val2L.getD (pickN (n.tdiv 8) 4).toNat ByteArray.empty).size := Lib.repeatL_length _ _
  have h4 : (pickN (n.tdiv 32) 8).toNat * (val2L.getD (pickN (n.tdiv 8) 4).toNat ByteArray.empty).size ≤ 7 * 20 := Nat.mul_le_mul (by omega) h2
  omega

set_option maxHeartbeats 8000000 in
set_option maxRecDepth 100000 in
theorem value_any (n : Int) (w : World) (h0 : -9223372036854775808 ≤ n) (h1 : n ≤ 9223372036854775807) :
    Calls Tryd.prog 29 #[.int .i64 n] w fun e w' => e = .returned (.string (valS n)) ∧ Below w.heap.size w w' := by
  obtain ⟨d0, d1⟩ := tdiv_range n 8 (by decide) h0 h1
  obtain ⟨e0, e1⟩ := tdiv_range n 32 (by decide) h0 h1
  have hp1 := fun w1 => picked_any n 8 w1 h0 h1 (by decide) (by decide)
  have hp2 := fun w1 => picked_any (n.tdiv 8) 4 w1 d0 d1 (by decide) (by decide)
  have hp3 := fun w1 => picked_any (n.tdiv 32) 8 w1 e0 e1 (by decide) (by decide)
  have hw8 : IntKind.i64.wrap (n.tdiv 8) = n.tdiv 8 := by simp only [IntKind.wrap_i64]; omega
  have hw32 : IntKind.i64.wrap (n.tdiv 32) = n.tdiv 32 := by simp only [IntKind.wrap_i64]; omega
  obtain ⟨a0, a1⟩ := pickN_range n 8 (by decide)
  obtain ⟨b0, b1⟩ := pickN_range (n.tdiv 8) 4 (by decide)
  obtain ⟨c0, c1⟩ := pickN_range (n.tdiv 32) 8 (by decide)
  obtain ⟨x1, s1⟩ := val1_at (pickN n 8).toNat (by omega)
  obtain ⟨x2, s2⟩ := val2_at (pickN (n.tdiv 8) 4).toNat (by omega)
  have hre := fun w1 => repeat_any (val2L.getD (pickN (n.tdiv 8) 4).toNat ByteArray.empty) (pickN (n.tdiv 32) 8).toNat w1 (by omega) (by omega)
  have hrs : (repS (val2L.getD (pickN (n.tdiv 8) 4).toNat ByteArray.empty) (pickN (n.tdiv 32) 8).toNat).size ≤ 180 := by have := valS_size n; unfold valS at this; rw [ByteArray.size_append] at this; omega
  unfold valS
  generalize val1L.getD (pickN n 8).toNat ByteArray.empty = y1 at *
  generalize val2L.getD (pickN (n.tdiv 8) 4).toNat ByteArray.empty = y2 at *
  obtain ⟨p, hp⟩ : ∃ p : Nat, pickN n 8 = (p : Int) := ⟨(pickN n 8).toNat, by omega⟩
  obtain ⟨q, hq⟩ : ∃ q : Nat, pickN (n.tdiv 8) 4 = (q : Int) := ⟨(pickN (n.tdiv 8) 4).toNat, by omega⟩
  obtain ⟨r, hr⟩ : ∃ r : Nat, pickN (n.tdiv 32) 8 = (r : Int) := ⟨(pickN (n.tdiv 32) 8).toNat, by omega⟩
  simp only [hp] at *
  simp only [hq] at *
  simp only [hr] at *
  simp only [Int.toNat_natCast] at *
  generalize repS y2 r = z at *
  clear hp hq hr d0 d1 e0 e1 h0 h1
  go_enter Tryd.func29, Tryd.ntmps29
  go_wp2_with fail
  refine (hp1 _).mono ?_
  rintro e w' ⟨rfl, rfl⟩
  go_wp2_with fail
  have hbW := keepAlloc (Below.refl w.heap.size w) (.cells #[.string ⟨#[]⟩, .string ⟨#[55]⟩, .string ⟨#[111, 110, 101]⟩, .string ⟨#[48, 49, 50, 51, 52, 53, 54, 55, 56, 57]⟩, .string ⟨#[49, 48]⟩, .string ⟨#[49, 48, 57, 57, 53, 49, 49, 54, 50, 55, 55, 55, 53]⟩, .string ⟨#[97, 10, 98]⟩, .string ⟨#[118, 97, 108, 117, 101, 32, 111, 102, 32, 115, 111, 109, 101, 32, 98, 121, 116, 101, 115, 44, 32, 116, 104, 97, 116, 32, 103, 111, 32, 116, 111, 32, 102, 108, 97, 115, 104]⟩] 9)
  have hzs : z.size ≤ 180 := hrs
  have hsz : y1.size + z.size ≤ 9223372036854775807 := by omega
  go_region_with (first
      | (go_at_call_of 14 (Value.int .i64 (n.tdiv 8)); refine (hp2 _).mono ?_; rintro e wa ⟨rfl, rfl⟩)
      | (go_at_call_of 14 (Value.int .i64 (n.tdiv 32)); refine (hp3 _).mono ?_; rintro e wa ⟨rfl, rfl⟩)
      | (go_at_call 18; refine (hre _).mono ?_; rintro e wb ⟨rfl, hbb⟩))
  all_goals go_wp2
  all_goals go_ret
  all_goals exact ⟨rfl, keepLater (by first | exact hbW | exact keepDrew hbW | exact keepAlloc hbW _ | exact keepAlloc (keepDrew hbW) _ | exact keepDrew (keepAlloc hbW _)) hbb⟩
end Go.Proofs.YtkjfkonekajffaaDoor
