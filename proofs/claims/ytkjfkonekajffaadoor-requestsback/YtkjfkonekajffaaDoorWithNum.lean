/- The contract of wire.withNumbers: what numbers say behind a line's key, kind by kind. -/
import Derived.Test.YtkjfkonekajffaaDoorNumbers
import Derived.Test.YtkjfkonekajffaaDoorKinds
import Derived.Test.YtkjfkonekajffaaDoorLineWords
namespace Go.Proofs.YtkjfkonekajffaaDoor
open Go.ChangeShapes Go.WideShapes Go.ChangeAt Go.RowKit
set_option linter.unusedVariables false

set_option maxHeartbeats 2000000 in
set_option maxRecDepth 100000 in
theorem withNum_set (kind : Int) (key : ByteArray) (quiet : Bool) (a b c : Int) (g cap : Nat) (w : World) (h1 : 2 ≤ kind) (h2 : kind ≤ 6) (hg : g < w.heap.size) (hcap : 3 ≤ cap) (c0 : w.cell? ⟨g, 0, none⟩ = some (.int .i64 a)) (c1 : w.cell? ⟨g, 1, none⟩ = some (.int .i64 b)) (c2 : w.cell? ⟨g, 2, none⟩ = some (.int .i64 c)) :
    Calls Tryd.prog 48 #[.agg #[.int .i64 kind, .string key, .slice none 0 0, .int .i64 0, .int .i64 0, .int .i64 0, .string ⟨#[]⟩, .bool quiet], .slice (some ⟨g, 0, none⟩) 3 cap] w fun e w' => e = .returned (.tuple #[.agg #[.int .i64 kind, .string key, .slice none 0 0, .int .i64 a, .int .i64 b, .int .i64 0, .string ⟨#[]⟩, .bool quiet], .int .i64 c]) ∧ Below w.heap.size w w' := by
  have hb := bringsV_any kind
  have hn := hasN_any kind
  rw [show inB kind 2 7 = true from by unfold inB; simp; omega] at hb
  rw [show hasNB kind = false from by unfold hasNB; simp; omega] at hn
  have h11 : (kind == 11) = false := by rw [beq_eq_false_iff_ne]; omega
  have n1 := World.new_ne w ⟨g, 0, none⟩ c0
  have hg2 : g ≠ w.heap.size := by omega
  go_enter Tryd.func48, Tryd.ntmps48
  go_upto_region 3 with (go_at_call 23; refine (hb _).mono ?_; rintro e w' ⟨rfl, rfl⟩)
  go_region_held3 (fun w' => w'.cell? ⟨g, 0, none⟩ = some (.int .i64 a) ∧ w'.cell? ⟨g, 1, none⟩ = some (.int .i64 b) ∧ w'.cell? ⟨g, 2, none⟩ = some (.int .i64 c)) (go_keep) (fail)
  all_goals go_wp2_with (first | (go_at_call 23; refine (hb _).mono ?_; rintro e w' ⟨rfl, rfl⟩) | (go_at_call 56; refine (hn _).mono ?_; rintro e w' ⟨rfl, rfl⟩))
  all_goals exact bodyPost_ret (v := .tuple #[.agg #[.int .i64 kind, .string key, .slice none 0 0, .int .i64 a, .int .i64 b, .int .i64 0, .string ⟨#[]⟩, .bool quiet], .int .i64 c]) (by simp [results, Tryd.results48, go_sem]) rfl ⟨rfl, (((Below.refl _ _).alloc (Nat.le_refl _) _).alloc (by simp) _).drew⟩

set_option maxHeartbeats 2000000 in
set_option maxRecDepth 100000 in
theorem withNum_cas (kind : Int) (key : ByteArray) (quiet : Bool) (a b c d : Int) (g cap : Nat) (w : World) (h1 : kind = 7) (hg : g < w.heap.size) (hcap : 4 ≤ cap) (c0 : w.cell? ⟨g, 0, none⟩ = some (.int .i64 a)) (c1 : w.cell? ⟨g, 1, none⟩ = some (.int .i64 b)) (c2 : w.cell? ⟨g, 2, none⟩ = some (.int .i64 c)) (c3 : w.cell? ⟨g, 3, none⟩ = some (.int .i64 d)) :
    Calls Tryd.prog 48 #[.agg #[.int .i64 kind, .string key, .slice none 0 0, .int .i64 0, .int .i64 0, .int .i64 0, .string ⟨#[]⟩, .bool quiet], .slice (some ⟨g, 0, none⟩) 4 cap] w fun e w' => e = .returned (.tuple #[.agg #[.int .i64 kind, .string key, .slice none 0 0, .int .i64 a, .int .i64 b, .int .i64 d, .string ⟨#[]⟩, .bool quiet], .int .i64 c]) ∧ Below w.heap.size w w' := by
  have hb := bringsV_any kind
  have hn := hasN_any kind
  rw [show inB kind 2 7 = true from by unfold inB; simp; omega] at hb
  rw [show hasNB kind = true from by unfold hasNB; simp; omega] at hn
  have h11 : (kind == 11) = false := by rw [beq_eq_false_iff_ne]; omega
  have n1 := World.new_ne w ⟨g, 0, none⟩ c0
  have hg2 : g ≠ w.heap.size := by omega
  clear h1
  go_enter Tryd.func48, Tryd.ntmps48
  go_upto_region 3 with (go_at_call 23; refine (hb _).mono ?_; rintro e w' ⟨rfl, rfl⟩)
  go_region_held3 (fun w' => w'.cell? ⟨g, 0, none⟩ = some (.int .i64 a) ∧ w'.cell? ⟨g, 1, none⟩ = some (.int .i64 b) ∧ w'.cell? ⟨g, 2, none⟩ = some (.int .i64 c) ∧ w'.cell? ⟨g, 3, none⟩ = some (.int .i64 d)) (go_keep) (fail)
  all_goals go_wp2_with (first | (go_at_call 23; refine (hb _).mono ?_; rintro e w' ⟨rfl, rfl⟩) | (go_at_call 56; refine (hn _).mono ?_; rintro e w' ⟨rfl, rfl⟩))
  all_goals exact bodyPost_ret (v := .tuple #[.agg #[.int .i64 kind, .string key, .slice none 0 0, .int .i64 a, .int .i64 b, .int .i64 d, .string ⟨#[]⟩, .bool quiet], .int .i64 c]) (by simp [results, Tryd.results48, go_sem]) rfl ⟨rfl, (((Below.refl _ _).alloc (Nat.le_refl _) _).alloc (by simp) _).drew⟩

set_option maxHeartbeats 2000000 in
set_option maxRecDepth 100000 in
theorem withNum_n (kind : Int) (key : ByteArray) (quiet : Bool) (a : Int) (g cap : Nat) (w : World) (h1 : kind = 9 ∨ kind = 10) (hg : g < w.heap.size) (hcap : 1 ≤ cap) (c0 : w.cell? ⟨g, 0, none⟩ = some (.int .i64 a)) :
    Calls Tryd.prog 48 #[.agg #[.int .i64 kind, .string key, .slice none 0 0, .int .i64 0, .int .i64 0, .int .i64 0, .string ⟨#[]⟩, .bool quiet], .slice (some ⟨g, 0, none⟩) 1 cap] w fun e w' => e = .returned (.tuple #[.agg #[.int .i64 kind, .string key, .slice none 0 0, .int .i64 0, .int .i64 0, .int .i64 a, .string ⟨#[]⟩, .bool quiet], .int .i64 0]) ∧ Below w.heap.size w w' := by
  have hb := bringsV_any kind
  have hn := hasN_any kind
  rw [show inB kind 2 7 = false from by unfold inB; simp; omega] at hb
  rw [show hasNB kind = true from by unfold hasNB; simp; omega] at hn
  have h11 : (kind == 11) = false := by rw [beq_eq_false_iff_ne]; omega
  have hg2 : g ≠ w.heap.size := by omega
  clear h1
  go_enter Tryd.func48, Tryd.ntmps48
  all_goals go_wp2_with (first | (go_at_call 23; refine (hb _).mono ?_; rintro e w' ⟨rfl, rfl⟩) | (go_at_call 56; refine (hn _).mono ?_; rintro e w' ⟨rfl, rfl⟩))
  all_goals exact bodyPost_ret (v := .tuple #[.agg #[.int .i64 kind, .string key, .slice none 0 0, .int .i64 0, .int .i64 0, .int .i64 a, .string ⟨#[]⟩, .bool quiet], .int .i64 0]) (by simp [results, Tryd.results48, go_sem]) rfl ⟨rfl, (((Below.refl _ _).alloc (Nat.le_refl _) _).alloc (by simp) _)⟩

set_option maxHeartbeats 2000000 in
set_option maxRecDepth 100000 in
theorem withNum_exp (kind : Int) (key : ByteArray) (quiet : Bool) (a : Int) (g cap : Nat) (w : World) (h1 : kind = 11) (hg : g < w.heap.size) (hcap : 1 ≤ cap) (c0 : w.cell? ⟨g, 0, none⟩ = some (.int .i64 a)) :
    Calls Tryd.prog 48 #[.agg #[.int .i64 kind, .string key, .slice none 0 0, .int .i64 0, .int .i64 0, .int .i64 0, .string ⟨#[]⟩, .bool quiet], .slice (some ⟨g, 0, none⟩) 1 cap] w fun e w' => e = .returned (.tuple #[.agg #[.int .i64 kind, .string key, .slice none 0 0, .int .i64 0, .int .i64 a, .int .i64 0, .string ⟨#[]⟩, .bool quiet], .int .i64 0]) ∧ Below w.heap.size w w' := by
  have hb := bringsV_any kind
  have hn := hasN_any kind
  rw [show inB kind 2 7 = false from by unfold inB; simp; omega] at hb
  rw [show hasNB kind = false from by unfold hasNB; simp; omega] at hn
  have h11 : (kind == 11) = true := by rw [beq_iff_eq]; omega
  have hg2 : g ≠ w.heap.size := by omega
  clear h1
  go_enter Tryd.func48, Tryd.ntmps48
  all_goals go_wp2_with (first | (go_at_call 23; refine (hb _).mono ?_; rintro e w' ⟨rfl, rfl⟩) | (go_at_call 56; refine (hn _).mono ?_; rintro e w' ⟨rfl, rfl⟩))
  all_goals exact bodyPost_ret (v := .tuple #[.agg #[.int .i64 kind, .string key, .slice none 0 0, .int .i64 0, .int .i64 a, .int .i64 0, .string ⟨#[]⟩, .bool quiet], .int .i64 0]) (by simp [results, Tryd.results48, go_sem]) rfl ⟨rfl, (((Below.refl _ _).alloc (Nat.le_refl _) _).alloc (by simp) _)⟩

set_option maxHeartbeats 2000000 in
set_option maxRecDepth 100000 in
theorem withNum_none (kind : Int) (key : ByteArray) (quiet : Bool) (v : Value) (w : World) (h1 : kind = 8 ∨ kind = 12) :
    Calls Tryd.prog 48 #[.agg #[.int .i64 kind, .string key, .slice none 0 0, .int .i64 0, .int .i64 0, .int .i64 0, .string ⟨#[]⟩, .bool quiet], v] w fun e w' => e = .returned (.tuple #[.agg #[.int .i64 kind, .string key, .slice none 0 0, .int .i64 0, .int .i64 0, .int .i64 0, .string ⟨#[]⟩, .bool quiet], .int .i64 0]) ∧ Below w.heap.size w w' := by
  have hb := bringsV_any kind
  have hn := hasN_any kind
  rw [show inB kind 2 7 = false from by unfold inB; simp; omega] at hb
  rw [show hasNB kind = false from by unfold hasNB; simp; omega] at hn
  have h11 : (kind == 11) = false := by rw [beq_eq_false_iff_ne]; omega
  clear h1
  go_enter Tryd.func48, Tryd.ntmps48
  all_goals go_wp2_with (first | (go_at_call 23; refine (hb _).mono ?_; rintro e w' ⟨rfl, rfl⟩) | (go_at_call 56; refine (hn _).mono ?_; rintro e w' ⟨rfl, rfl⟩))
  all_goals exact bodyPost_ret (v := .tuple #[.agg #[.int .i64 kind, .string key, .slice none 0 0, .int .i64 0, .int .i64 0, .int .i64 0, .string ⟨#[]⟩, .bool quiet], .int .i64 0]) (by simp [results, Tryd.results48, go_sem]) rfl ⟨rfl, (((Below.refl _ _).alloc (Nat.le_refl _) _).alloc (by simp) _)⟩

end Go.Proofs.YtkjfkonekajffaaDoor
