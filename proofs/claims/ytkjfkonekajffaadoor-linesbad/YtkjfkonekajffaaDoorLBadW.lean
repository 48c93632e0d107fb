/- The walk of dovecotekeep.LinesBad. -/
import Derived.Test.YtkjfkonekajffaaDoorLBad
import Derived.Test.YtkjfkonekajffaaDoorVBadW
namespace Go.Proofs.YtkjfkonekajffaaDoor
open Go.ChangeShapes Go.WideShapes Go.ChangeAt Go.RowKit
set_option linter.unusedVariables false

theorem odd_at (y13 y15 : ByteArray) (h13 : OddOk y13) (h15 : OddOk y15) (p : Nat) (hp : p < 16) : ∃ x, (#[.string ⟨#[]⟩, .string ⟨#[71, 69, 84, 32, 97]⟩, .string ⟨#[103, 101, 116]⟩, .string ⟨#[103, 101, 116, 32, 97, 32, 32, 98]⟩, .string ⟨#[32, 103, 101, 116, 32, 97]⟩, .string ⟨#[115, 101, 116, 32, 97, 32, 48, 32, 48]⟩, .string ⟨#[115, 101, 116, 32, 97, 32, 48, 32, 48, 32, 49, 32, 50, 32, 51]⟩, .string ⟨#[100, 101, 108, 101, 116, 101]⟩, .string ⟨#[105, 110, 99, 114, 32, 97]⟩, .string ⟨#[105, 110, 99, 114, 32, 97, 32, 120]⟩, .string ⟨#[116, 111, 117, 99, 104, 32, 97, 32, 48, 49]⟩, .string ⟨#[102, 108, 117, 115, 104, 32, 110, 111, 119]⟩, .string ⟨#[99, 97, 115, 32, 97, 32, 48, 32, 48, 32, 49]⟩, .string y13, .string ⟨#[105, 110, 99, 114, 32, 97, 32, 49, 48, 57, 57, 53, 49, 49, 54, 50, 55, 55, 55, 55]⟩, .string y15] : Array Value)[p]? = some (.string x) ∧ OddOk x := by
  match p, hp with
  | 0, _ => exact ⟨_, rfl, odd_short _ (by decide) (by decide) (by decide)⟩
  | 1, _ => exact ⟨_, rfl, odd_short _ (by decide) (by decide) (by decide)⟩
  | 2, _ => exact ⟨_, rfl, odd_short _ (by decide) (by decide) (by decide)⟩
  | 3, _ => exact ⟨_, rfl, odd_short _ (by decide) (by decide) (by decide)⟩
  | 4, _ => exact ⟨_, rfl, odd_short _ (by decide) (by decide) (by decide)⟩
  | 5, _ => exact ⟨_, rfl, odd_short _ (by decide) (by decide) (by decide)⟩
  | 6, _ => exact ⟨_, rfl, odd_short _ (by decide) (by decide) (by decide)⟩
  | 7, _ => exact ⟨_, rfl, odd_short _ (by decide) (by decide) (by decide)⟩
  | 8, _ => exact ⟨_, rfl, odd_short _ (by decide) (by decide) (by decide)⟩
  | 9, _ => exact ⟨_, rfl, odd_short _ (by decide) (by decide) (by decide)⟩
  | 10, _ => exact ⟨_, rfl, odd_short _ (by decide) (by decide) (by decide)⟩
  | 11, _ => exact ⟨_, rfl, odd_short _ (by decide) (by decide) (by decide)⟩
  | 12, _ => exact ⟨_, rfl, odd_short _ (by decide) (by decide) (by decide)⟩
  | 13, _ => exact ⟨_, rfl, h13⟩
  | 14, _ => exact ⟨_, rfl, odd_short _ (by decide) (by decide) (by decide)⟩
  | 15, _ => exact ⟨_, rfl, h15⟩
  | p + 16, h => omega

set_option maxHeartbeats 4000000 in
set_option maxRecDepth 100000 in
theorem linesBad_walk (which n : Int) (w : World) (hL : LaidN w) (hw : i64In which) (hn : i64In n) :
    Calls Tryd.prog 6 #[.int .i64 which, .int .i64 n] w fun e w' => e = .returned (.bool true) ∧ Below w.heap.size w w' := by
  have hp1 := fun w1 => picked_any n 50 w1 hn.1 hn.2 (by decide) (by decide)
  obtain ⟨r0, r1⟩ := pickN_range n 50 (by decide)
  obtain ⟨k, hk⟩ : ∃ k : Nat, pickN n 50 = (k : Int) := ⟨(pickN n 50).toNat, by omega⟩
  rw [hk] at hp1 r0 r1
  have hp2 := fun w1 => picked_any which 16 w1 hw.1 hw.2 (by decide) (by decide)
  obtain ⟨q0, q1⟩ := pickN_range which 16 (by decide)
  obtain ⟨p, hp⟩ : ∃ p : Nat, pickN which 16 = (p : Int) := ⟨(pickN which 16).toNat, by omega⟩
  rw [hp] at hp2 q0 q1
  clear hk hp hw hn
  have hr1 := fun w1 => repeat_wide kS 10 w1 (by decide) (by omega)
  have hr2 := fun w1 => repeat_wide xS (300 + (1 + k)) w1 (by decide) (by omega)
  rw [show ((300 + (1 + k) : Nat) : Int) = 300 + (1 + (k : Int)) by omega] at hr2
  have o13 := odd_ks
  have o15 := odd_xs (300 + (1 + k)) (by omega) (by omega)
  obtain ⟨x, hx, ho1, ho2, ho3⟩ := odd_at _ _ o13 o15 p (by omega)
  clear o13 o15
  have hrz : (repS kS 10).size = 20 := by decide
  generalize repS kS 10 = y1 at *
  generalize repS xS (300 + (1 + k)) = y2 at *
  have hn1 := fun (w1 : World) (hb : Below w.heap.size w w1) => next_any ((x ++ nlS) ++ getAS) w1 (hL.later hb) (by rw [ByteArray.size_append, ByteArray.size_append]; unfold maxLen; show x.size + 1 + 6 ≤ _; omega)
  have hn2 := fun (w1 : World) (hb : Below w.heap.size w w1) => next_any x w1 (hL.later hb) (by unfold maxLen; omega)
  rw [ho2] at hn1
  rw [ho3] at hn2
  clear ho2 ho3
  have hxs : (x ++ nlS).size = x.size + 1 := by rw [ByteArray.size_append]; rfl
  have hxe : (x ++ nlS).extract 0 x.size = x := extract_line _ x [10] (by rw [append_data]; rfl)
  unfold nlS getAS at *
  go_enter Tryd.func6, Tryd.ntmps6
  go_wp2_with fail
  refine (hp1 _).mono ?_
  rintro e w' ⟨rfl, rfl⟩
  go_wp2_with fail
  refine (hr1 _).mono ?_
  rintro e w1 ⟨rfl, hb1⟩
  go_wp2_with fail
  refine (hr2 _).mono ?_
  rintro e w2 ⟨rfl, hb2⟩
  have hb12 := hb1.trans (hb2.mono hb1.size)
  have q0' : (0 : Int) ≤ (p : Int) := q0
  go_wp2_with fail
  refine (hp2 _).mono ?_
  rintro e w3 ⟨rfl, rfl⟩
  have hbS := hb12.alloc hb12.size (.cells #[.string ⟨#[]⟩, .string ⟨#[71, 69, 84, 32, 97]⟩, .string ⟨#[103, 101, 116]⟩, .string ⟨#[103, 101, 116, 32, 97, 32, 32, 98]⟩, .string ⟨#[32, 103, 101, 116, 32, 97]⟩, .string ⟨#[115, 101, 116, 32, 97, 32, 48, 32, 48]⟩, .string ⟨#[115, 101, 116, 32, 97, 32, 48, 32, 48, 32, 49, 32, 50, 32, 51]⟩, .string ⟨#[100, 101, 108, 101, 116, 101]⟩, .string ⟨#[105, 110, 99, 114, 32, 97]⟩, .string ⟨#[105, 110, 99, 114, 32, 97, 32, 120]⟩, .string ⟨#[116, 111, 117, 99, 104, 32, 97, 32, 48, 49]⟩, .string ⟨#[102, 108, 117, 115, 104, 32, 110, 111, 119]⟩, .string ⟨#[99, 97, 115, 32, 97, 32, 48, 32, 48, 32, 49]⟩, .string (((⟨#[103, 101, 116, 32]⟩ : ByteArray) ++ y1) ++ ⟨#[107]⟩), .string ⟨#[105, 110, 99, 114, 32, 97, 32, 49, 48, 57, 57, 53, 49, 49, 54, 50, 55, 55, 55, 55]⟩, .string y2] 9)
  go_wp2_with fail
  refine (hn1 _ hbS).mono ?_
  rintro e w4 ⟨a1, c1, rfl, _, hb4⟩
  simp only [badN, List.length_nil] at *
  have hb14 := hbS.trans (hb4.mono hbS.size)
  have T1 := TB.new 24 w4 #[.int .i64 13, .string ⟨#[]⟩, .slice a1 0 c1, .int .i64 0, .int .i64 0, .int .i64 0, .string ⟨#[]⟩, .bool false]
  have hb1A := hb14.alloc hb14.size (.cells #[.int .i64 13, .string ⟨#[]⟩, .slice a1 0 c1, .int .i64 0, .int .i64 0, .int .i64 0, .string ⟨#[]⟩, .bool false] 24)
  have u0 : ((x.size : Int) + 1 == x.size + 1) = true := by simp
  go_wp2_with fail
  refine (hn2 _ hb1A).mono ?_
  by_cases hlong : 300 < x.size
  · rw [if_pos hlong]
    rintro e w5 ⟨a2, c2, rfl, _, hb5⟩
    simp only [List.length_nil] at *
    have hb15 := hb1A.trans (hb5.mono hb1A.size)
    have T1b := T1.later hb5
    have g1 := T1b.cell 0
    have l1 := T1b.lt
    simp at g1
    have hl1 : (301 : Int) < (x.size : Int) + 1 := by omega
    have u1 : ((x.size : Int) == x.size) = true := by simp
    go_wp2
    go_ret
    exact ⟨rfl, hb15.alloc hb15.size _⟩
  · rw [if_neg hlong]
    rintro e w5 ⟨a2, c2, rfl, _, hb5⟩
    simp only [zeroN, List.length_nil] at *
    have hb15 := hb1A.trans (hb5.mono hb1A.size)
    have T1b := T1.later hb5
    have g1 := T1b.cell 0
    have l1 := T1b.lt
    simp at g1
    have hl1 : ¬ (301 : Int) < (x.size : Int) + 1 := by omega
    go_wp2
    go_ret
    exact ⟨rfl, hb15.alloc hb15.size _⟩
end Go.Proofs.YtkjfkonekajffaaDoor
