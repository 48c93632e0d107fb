/- dovecotekeep.sameRequest at two requests that are the same. -/
import Derived.Test.YtkjfkonekajffaaDoorPicked
namespace Go.Proofs.YtkjfkonekajffaaDoor
open Go.ChangeShapes Go.WideShapes Go.ChangeAt Go.RowKit
set_option linter.unusedVariables false

theorem drewN_below (w : World) (q : Nat) : Below w.heap.size w (w.drewN q) := ⟨rfl, rfl, rfl, Nat.le_refl _, fun _ _ => rfl⟩

theorem slicesEq_same (l : List ByteArray) (a b : Option Addr) (c d : Nat) (w : World) (hA : StrsAt w a l.length l) (hB : StrsAt w b l.length l) :
    Calls Tryd.prog 35 #[.slice a l.length c, .slice b l.length d] w fun e w' => e = .returned (.bool true) ∧ Below w.heap.size w w' := by
  obtain ⟨_, hmax, hall, hmA⟩ := hA
  obtain ⟨_, _, _, hmB⟩ := hB
  unfold maxLen at hmax
  by_cases h0 : l.length = 0
  · rw [h0]
    refine (Tryd.slices_Equal_string_empty a b c 0 d w (by omega)).mono fun e w' ⟨he, hw⟩ => ⟨he, ?_⟩
    rw [hw]
    exact Below.refl _ _
  · rcases hmA with hmA | ⟨b1, o1, rfl, hl1, hc1⟩
    · exact absurd hmA h0
    rcases hmB with hmB | ⟨b2, o2, rfl, hl2, hc2⟩
    · exact absurd hmB h0
    refine (Tryd.slices_Equal_string b1 o1 l.length c b2 o2 l.length d l l w (Nat.le_refl _) (Nat.le_refl _) (by omega) (by omega) hc1 hc2).mono fun e w' ⟨he, q, hw⟩ => ⟨?_, ?_⟩
    · rw [he]
      simp
    · rw [hw]
      exact drewN_below w q

set_option maxHeartbeats 1000000 in
set_option maxRecDepth 100000 in
theorem keepSame_same (kind : Int) (key : ByteArray) (l : List ByteArray) (flags exp nn : Int) (value : ByteArray) (quiet : Bool) (a b : Option Addr) (c d : Nat) (w : World) (hA : StrsAt w a l.length l) (hB : StrsAt w b l.length l) :
    Calls Tryd.prog 16 #[.agg #[.int .i64 kind, .string key, .slice a l.length c, .int .i64 flags, .int .i64 exp, .int .i64 nn, .string value, .bool quiet], .agg #[.int .i64 kind, .string key, .slice b l.length d, .int .i64 flags, .int .i64 exp, .int .i64 nn, .string value, .bool quiet]] w fun e w' => e = .returned (.bool true) ∧ Below w.heap.size w w' := by
  have hB0 : ∀ o1 o2, Below w.heap.size w ((w.alloc o1).alloc o2) := fun o1 o2 => ((Below.refl _ _).alloc (Nat.le_refl _) _).alloc (by simp) _
  have hst := fun (w1 : World) (hb : Below w.heap.size w w1) => slicesEq_same l a b c d w1 (hA.later hb) (hB.later hb)
  have h1 : (key.toList == key.toList) = true := by simp
  have h2 : (value.toList == value.toList) = true := by simp
  go_enter Tryd.func16, Tryd.ntmps16
  go_wp2_with fail
  refine (hst _ (hB0 _ _)).mono ?_
  rintro e w2 ⟨rfl, hb2⟩
  obtain ⟨p1, p2⟩ := bcell hb2
  have hBb := (hB0 _ _).trans (hb2.mono (hB0 _ _).size)
  go_wp2
  go_ret
  exact ⟨rfl, hBb⟩
end Go.Proofs.YtkjfkonekajffaaDoor
