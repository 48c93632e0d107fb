/- dovecotelaw.sameTexts and dovecotelaw.sameRequest at two requests that are the same. -/
import Derived.Test.YtkjfkonekajffaaDoorCheckfit
import Derived.Deep.RegionHeld3
import Derived.Deep.DeepCutAuto
namespace Go.Proofs.YtkjfkonekajffaaDoor
open Go.ChangeShapes Go.WideShapes Go.ChangeAt Go.RowKit
set_option linter.unusedVariables false

set_option maxHeartbeats 1000000 in
set_option maxRecDepth 100000 in
theorem sameTexts_same (l : List ByteArray) (a b : Option Addr) (c d : Nat) (w : World) (hA : StrsAt w a l.length l) (hB : StrsAt w b l.length l) :
    Calls Tryd.prog 27 #[.slice a l.length c, .slice b l.length d] w fun e w' => e = .returned (.bool true) ∧ Below w.heap.size w w' := by
  obtain ⟨_, hmax, hall, hmA⟩ := hA
  obtain ⟨_, _, _, hmB⟩ := hB
  unfold maxLen at hmax
  go_enter Tryd.func27, Tryd.ntmps27
  go_wp2_with fail
  go_loopw [5] (fun i wr => ∃ k : Nat, k ≤ l.length ∧ i = .int .i64 k ∧ Below w.heap.size w wr) (fun i _ => l.length - (intOf i).toNat)
  case atStart => exact ⟨0, Nat.zero_le _, rfl, Below.refl _ _⟩
  case round =>
    obtain ⟨k, hk, rfl, hb⟩ := hrel
    by_cases hlt : k < l.length
    · have hltz : (k : Int) < (l.length : Int) := by omega
      have hk0 : (0 : Int) ≤ (k : Int) := Int.natCast_nonneg _
      rcases hmA with hmA | ⟨b1, o1, rfl, hl1, hc1⟩
      · omega
      rcases hmB with hmB | ⟨b2, o2, rfl, hl2, hc2⟩
      · omega
      have e1 : wr.cell? ⟨b1, o1 + k, none⟩ = some (.string (l.getD k ByteArray.empty)) := by rw [hb.cell (p := ⟨b1, o1 + k, none⟩) hl1]; exact hc1 k hlt
      have e2 : wr.cell? ⟨b2, o2 + k, none⟩ = some (.string (l.getD k ByteArray.empty)) := by rw [hb.cell (p := ⟨b2, o2 + k, none⟩) hl2]; exact hc2 k hlt
      clear hc1 hc2
      generalize l.getD k ByteArray.empty = y at *
      have hyy : (y.toList == y.toList) = true := by simp
      go_wp2_with fail
      go_region_held3 (fun w' => w'.cell? ⟨b1, o1 + k, none⟩ = some (.string y) ∧ w'.cell? ⟨b2, o2 + k, none⟩ = some (.string y)) (go_keep) (fail)
      go_wp2
      go_roundw
      case rel => exact ⟨k + 1, by omega, by go_num, hb.drew⟩
      case measure => simp [intOf]; omega
    · have hltz : ¬ (k : Int) < (l.length : Int) := by omega
      go_wp2
      go_ret
      exact ⟨rfl, hb⟩

set_option maxHeartbeats 1000000 in
set_option maxRecDepth 100000 in
theorem sameReq_same (kind : Int) (key : ByteArray) (l : List ByteArray) (flags exp nn : Int) (value : ByteArray) (quiet : Bool) (a b : Option Addr) (c d : Nat) (w : World) (hA : StrsAt w a l.length l) (hB : StrsAt w b l.length l) :
    Calls Tryd.prog 10 #[.agg #[.int .i64 kind, .string key, .slice a l.length c, .int .i64 flags, .int .i64 exp, .int .i64 nn, .string value, .bool quiet], .agg #[.int .i64 kind, .string key, .slice b l.length d, .int .i64 flags, .int .i64 exp, .int .i64 nn, .string value, .bool quiet]] w fun e w' => e = .returned (.bool true) ∧ Below w.heap.size w w' := by
  have hB0 : ∀ o1 o2, Below w.heap.size w ((w.alloc o1).alloc o2) := fun o1 o2 => ((Below.refl _ _).alloc (Nat.le_refl _) _).alloc (by simp) _
  have hst := fun (w1 : World) (hb : Below w.heap.size w w1) => sameTexts_same l a b c d w1 (hA.later hb) (hB.later hb)
  have h1 : (key.toList == key.toList) = true := by simp
  have h2 : (value.toList == value.toList) = true := by simp
  go_enter Tryd.func10, Tryd.ntmps10
  go_wp2_with fail
  refine (hst _ (hB0 _ _)).mono ?_
  rintro e w2 ⟨rfl, hb2⟩
  obtain ⟨p1, p2⟩ := bcell hb2
  have hBb := (hB0 _ _).trans (hb2.mono (hB0 _ _).size)
  go_wp2
  go_ret
  exact ⟨rfl, hBb⟩
end Go.Proofs.YtkjfkonekajffaaDoor
