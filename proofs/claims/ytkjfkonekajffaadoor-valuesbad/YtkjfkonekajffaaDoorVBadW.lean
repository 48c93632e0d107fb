/- The walk of dovecotekeep.ValuesBad. -/
import Derived.Test.YtkjfkonekajffaaDoorVBad
namespace Go.Proofs.YtkjfkonekajffaaDoor
open Go.ChangeShapes Go.WideShapes Go.ChangeAt Go.RowKit
set_option linter.unusedVariables false

def vS : ByteArray := ⟨#[118]⟩

theorem repeat_wide (x : ByteArray) (c : Nat) (w : World) (hx : x.size ≤ 100) (hc : c ≤ 1000) :
    Calls Tryd.prog 18 #[.string x, .int .i64 c] w fun e w' => e = .returned (.string (repS x c)) ∧ Below w.heap.size w w' :=
  Tryd.strings_Repeat x c w (by omega) (Nat.le_trans (Nat.mul_le_mul hx hc) (by decide))

set_option maxHeartbeats 4000000 in
set_option maxRecDepth 100000 in
theorem valuesBad_walk (n : Int) (w : World) (hL : LaidA w) (h0 : -9223372036854775808 ≤ n) (h1 : n ≤ 9223372036854775807) :
    Calls Tryd.prog 7 #[.int .i64 n] w fun e w' => e = .returned (.bool true) ∧ Below w.heap.size w w' := by
  have hp := fun w1 => picked_any n 201 w1 h0 h1 (by decide) (by decide)
  obtain ⟨r0, r1⟩ := pickN_range n 201 (by decide)
  obtain ⟨k, hk⟩ : ∃ k : Nat, pickN n 201 = (k : Int) := ⟨(pickN n 201).toNat, by omega⟩
  rw [hk] at hp r0 r1
  have hk2 : k ≤ 200 := by omega
  clear hk r0 r1 h0 h1
  have hrep := fun w1 => repeat_wide vS k w1 (by decide) (by omega)
  have hvs : (repS vS k).size = k := by rw [repS_size]; show k * 1 = k; omega
  generalize repS vS k = v at *
  have hi1 := fun (w1 : World) (hb : Below w.heap.size w w1) => itoa_any (k : Int) (by omega) (by omega) w1 (hL.2.later hb)
  have hi2 := fun (w1 : World) (hb : Below w.heap.size w w1) => itoa_any (201 + (k : Int)) (by omega) (by omega) w1 (hL.2.later hb)
  have d1 := decS_size (k : Int) (by omega) (by omega)
  have d2 := decS_size (201 + (k : Int)) (by omega) (by omega)
  have x1 := vb_good k v hvs hk2
  have x2 := vb_open k v hvs hk2
  have x3 := vb_long (201 + k) (by omega) (by omega)
  have x4 := vb_flags k v hvs hk2
  rw [show ((201 + k : Nat) : Int) = 201 + (k : Int) by omega] at x3
  have s1 : (setW 0 k ++ nlS).size = 11 + (decS k).size := by rw [nl_size, ← set_text, ByteArray.size_append]; show 10 + _ + 1 = _; omega
  have s3 : (setW 0 (201 + (k : Int)) ++ nlS).size = 11 + (decS (201 + (k : Int))).size := by rw [nl_size, ← set_text, ByteArray.size_append]; show 10 + _ + 1 = _; omega
  have s4 : (setW 70000 k ++ nlS).size = 15 + (decS k).size := by rw [nl_size, ← set_text70, ByteArray.size_append]; show 14 + _ + 1 = _; omega
  rw [s1] at x1 x2
  rw [s3] at x3
  rw [s4] at x4
  rw [← set_text] at x1 x2 x3
  rw [← set_text70] at x4
  have z1 : ((((⟨#[115, 101, 116, 32, 97, 32, 48, 32, 48, 32]⟩ : ByteArray) ++ decS k) ++ nlS) ++ v).size = 11 + (decS k).size + k := by rw [ByteArray.size_append, hvs, set_text, s1]
  have hn1 := fun (w1 : World) (hb : Below w.heap.size w w1) => next_any _ w1 (hL.1.later hb) (show (((((⟨#[115, 101, 116, 32, 97, 32, 48, 32, 48, 32]⟩ : ByteArray) ++ decS k) ++ nlS) ++ v) ++ nlS).size ≤ maxLen by rw [ByteArray.size_append, z1]; unfold maxLen; show _ + 1 ≤ _; omega)
  have hn2 := fun (w1 : World) (hb : Below w.heap.size w w1) => next_any _ w1 (hL.1.later hb) (show (((((⟨#[115, 101, 116, 32, 97, 32, 48, 32, 48, 32]⟩ : ByteArray) ++ decS k) ++ nlS) ++ v) ++ ⟨#[118]⟩).size ≤ maxLen by rw [ByteArray.size_append, z1]; unfold maxLen; show _ + 1 ≤ _; omega)
  have hn3 := fun (w1 : World) (hb : Below w.heap.size w w1) => next_any _ w1 (hL.1.later hb) (show (((⟨#[115, 101, 116, 32, 97, 32, 48, 32, 48, 32]⟩ : ByteArray) ++ decS (201 + (k : Int))) ++ nlS).size ≤ maxLen by rw [set_text, s3]; unfold maxLen; omega)
  have hn4 := fun (w1 : World) (hb : Below w.heap.size w w1) => next_any _ w1 (hL.1.later hb) (show (((((⟨#[115, 101, 116, 32, 97, 32, 55, 48, 48, 48, 48, 32, 48, 32]⟩ : ByteArray) ++ decS k) ++ nlS) ++ v) ++ nlS).size ≤ maxLen by rw [ByteArray.size_append, ByteArray.size_append, hvs, set_text70, s4]; unfold maxLen; show _ + 1 ≤ _; omega)
  rw [x1] at hn1
  rw [x2] at hn2
  rw [x3] at hn3
  rw [x4] at hn4
  have zl : (((⟨#[115, 101, 116, 32, 97, 32, 48, 32, 48, 32]⟩ : ByteArray) ++ decS k) ++ nlS).size = 11 + (decS k).size := by rw [set_text, s1]
  clear x1 x2 x3 x4 s1 s3 s4 z1
  unfold nlS at *
  generalize decS (k : Int) = dk at *
  generalize decS (201 + (k : Int)) = dl at *
  go_enter Tryd.func7, Tryd.ntmps7
  go_wp2_with fail
  refine (hp _).mono ?_
  rintro e w' ⟨rfl, rfl⟩
  go_wp2_with fail
  refine (hrep _).mono ?_
  rintro e w1 ⟨rfl, hb1⟩
  go_wp2_with fail
  refine (hi1 _ hb1).mono ?_
  rintro e w2 ⟨rfl, hb2⟩
  have hb12 := hb1.trans (hb2.mono hb1.size)
  go_wp2_with fail
  refine (hn1 _ hb12).mono ?_
  rintro e w3 ⟨a1, c1, rfl, _, hb3⟩
  simp only [List.length_nil] at *
  have hb13 := hb12.trans (hb3.mono hb12.size)
  have T1 := TB.new 24 w3 #[.int .i64 2, .string aS, .slice a1 0 c1, .int .i64 0, .int .i64 0, .int .i64 0, .string v, .bool false]
  have hb1A := hb13.alloc hb13.size (.cells #[.int .i64 2, .string aS, .slice a1 0 c1, .int .i64 0, .int .i64 0, .int .i64 0, .string v, .bool false] 24)
  go_wp2_with fail
  refine (hn2 _ hb1A).mono ?_
  rintro e w4 ⟨a2, c2, rfl, _, hb4⟩
  simp only [badN, List.length_nil] at *
  have hb14 := hb1A.trans (hb4.mono hb1A.size)
  have T1b := (T1.later hb4).alloc (.cells #[.int .i64 13, .string ⟨#[]⟩, .slice a2 0 c2, .int .i64 0, .int .i64 0, .int .i64 0, .string ⟨#[]⟩, .bool false] 24)
  have T2 := TB.new 24 w4 #[.int .i64 13, .string ⟨#[]⟩, .slice a2 0 c2, .int .i64 0, .int .i64 0, .int .i64 0, .string ⟨#[]⟩, .bool false]
  have hb2A := hb14.alloc hb14.size (.cells #[.int .i64 13, .string ⟨#[]⟩, .slice a2 0 c2, .int .i64 0, .int .i64 0, .int .i64 0, .string ⟨#[]⟩, .bool false] 24)
  clear T1
  go_wp2_with fail
  refine (hi2 _ hb2A).mono ?_
  rintro e w5 ⟨rfl, hb5⟩
  have hb15 := hb2A.trans (hb5.mono hb2A.size)
  have T1c := T1b.later hb5
  have T2b := T2.later hb5
  clear T1b T2
  go_wp2_with fail
  refine (hn3 _ hb15).mono ?_
  rintro e w6 ⟨a3, c3, rfl, _, hb6⟩
  simp only [List.length_nil] at *
  have hb16 := hb15.trans (hb6.mono hb15.size)
  have T1d := (T1c.later hb6).alloc (.cells #[.int .i64 13, .string ⟨#[]⟩, .slice a3 0 c3, .int .i64 0, .int .i64 0, .int .i64 0, .string ⟨#[]⟩, .bool false] 24)
  have T2c := (T2b.later hb6).alloc (.cells #[.int .i64 13, .string ⟨#[]⟩, .slice a3 0 c3, .int .i64 0, .int .i64 0, .int .i64 0, .string ⟨#[]⟩, .bool false] 24)
  have T3 := TB.new 24 w6 #[.int .i64 13, .string ⟨#[]⟩, .slice a3 0 c3, .int .i64 0, .int .i64 0, .int .i64 0, .string ⟨#[]⟩, .bool false]
  have hb3A := hb16.alloc hb16.size (.cells #[.int .i64 13, .string ⟨#[]⟩, .slice a3 0 c3, .int .i64 0, .int .i64 0, .int .i64 0, .string ⟨#[]⟩, .bool false] 24)
  clear T1c T2b
  go_wp2_with fail
  refine (hi1 _ hb3A).mono ?_
  rintro e w7 ⟨rfl, hb7⟩
  have hb17 := hb3A.trans (hb7.mono hb3A.size)
  have T1e := T1d.later hb7
  have T2d := T2c.later hb7
  have T3b := T3.later hb7
  clear T1d T2c T3
  go_wp2_with fail
  refine (hn4 _ hb17).mono ?_
  rintro e w8 ⟨a4, c4, rfl, _, hb8⟩
  simp only [List.length_nil] at *
  have hb18 := hb17.trans (hb8.mono hb17.size)
  have T1f := T1e.later hb8
  have T2e := T2d.later hb8
  have T3c := T3b.later hb8
  have hb4A := hb18.alloc hb18.size (.cells #[.int .i64 13, .string ⟨#[]⟩, .slice a4 0 c4, .int .i64 0, .int .i64 0, .int .i64 0, .string ⟨#[]⟩, .bool false] 24)
  clear T1e T2d T3b
  have g1 := T1f.cell 0
  have g6 := T1f.cell 6
  have g2 := T2e.cell 0
  have g3 := T3c.cell 0
  have l1 := T1f.lt
  have l2 := T2e.lt
  have l3 := T3c.lt
  have hvv : (v.toList == v.toList) = true := by simp
  simp at g1 g6 g2 g3
  have T4 := TB.new 24 w8 #[.int .i64 13, .string ⟨#[]⟩, .slice a4 0 c4, .int .i64 0, .int .i64 0, .int .i64 0, .string ⟨#[]⟩, .bool false]
  go_wp2_with fail
  refine (hi2 _ hb4A).mono ?_
  rintro e w10 ⟨rfl, hb10⟩
  have T4b := T4.later hb10
  have g4 := T4b.cell 0
  simp at g4
  have u1 : ((15 : Int) + dk.size + k + 1 == 11 + dk.size + k + 5) = true := by rw [beq_iff_eq]; omega
  have u2 : ((11 : Int) + dl.size == 11 + dl.size) = true := by simp
  go_wp2
  go_ret
  exact ⟨rfl, hb4A.trans (hb10.mono hb4A.size)⟩
end Go.Proofs.YtkjfkonekajffaaDoor
