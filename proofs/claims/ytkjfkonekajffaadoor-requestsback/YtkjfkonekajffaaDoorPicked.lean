/- The contracts of dovecotekeep.picked and dovecotekeep.key. -/
import Derived.Test.YtkjfkonekajffaaDoorBack4
namespace Go.Proofs.YtkjfkonekajffaaDoor
open Go.ChangeShapes Go.WideShapes Go.ChangeAt Go.RowKit
set_option linter.unusedVariables false

def pickN (n many : Int) : Int := (if n < 0 then -(n + 1) else n) % many

theorem pickN_range (n many : Int) (hm : 0 < many) : 0 ≤ pickN n many ∧ pickN n many < many :=
  ⟨Int.emod_nonneg _ (by omega), Int.emod_lt_of_pos _ hm⟩

theorem picked_any (n many : Int) (w : World) (h0 : -9223372036854775808 ≤ n) (h1 : n ≤ 9223372036854775807) (hm : 0 < many) (hm2 : many ≤ 9223372036854775807) :
    Calls Tryd.prog 14 #[.int .i64 n, .int .i64 many] w fun e w' => e = .returned (.int .i64 (pickN n many)) ∧ w' = w := by
  have hmz : ¬ many = 0 := by omega
  by_cases h : n < 0
  · have E : Hid (((-(n + 1)) % many) = pickN n many) := by unfold Hid pickN; rw [if_pos h]
    have ht : (-(n + 1)).tmod many = (-(n + 1)) % many := Int.tmod_eq_emod_of_nonneg (by omega)
    go_enter Tryd.func14, Tryd.ntmps14
    go_wp2
    go_ret
    exact ⟨ret_i64 E.out, rfl⟩
  · have E : Hid ((n % many) = pickN n many) := by unfold Hid pickN; rw [if_neg h]
    have ht : n.tmod many = n % many := Int.tmod_eq_emod_of_nonneg (by omega)
    go_enter Tryd.func14, Tryd.ntmps14
    go_wp2
    go_ret
    exact ⟨ret_i64 E.out, rfl⟩

def keyL : List ByteArray := [⟨#[97]⟩, ⟨#[98]⟩, ⟨#[99, 99]⟩, ⟨#[107, 101, 121]⟩, ⟨#[108, 111, 110, 103, 45, 107, 101, 121, 45, 110, 97, 109, 101]⟩, ⟨#[120, 47, 121]⟩, ⟨#[122, 57]⟩, ⟨#[126]⟩]
def keyS (n : Int) : ByteArray := keyL.getD (pickN n 8).toNat ByteArray.empty

theorem keyS_ok (n : Int) : keyB (keyS n) = true := by
  obtain ⟨h0, h1⟩ := pickN_range n 8 (by decide)
  have : ∀ j : Fin 8, keyB (keyL.getD j.val ByteArray.empty) = true := by decide
  exact this ⟨(pickN n 8).toNat, by omega⟩

set_option maxHeartbeats 1000000 in
theorem keepKey_any (n : Int) (w : World) (h0 : -9223372036854775808 ≤ n) (h1 : n ≤ 9223372036854775807) :
    Calls Tryd.prog 28 #[.int .i64 n] w fun e w' => e = .returned (.string (keyS n)) ∧ Below w.heap.size w w' := by
  have hp := fun w1 => picked_any n 8 w1 h0 h1 (by decide) (by decide)
  obtain ⟨r0, r1⟩ := pickN_range n 8 (by decide)
  unfold keyS
  generalize pickN n 8 = p at *
  have hk : p = 0 ∨ p = 1 ∨ p = 2 ∨ p = 3 ∨ p = 4 ∨ p = 5 ∨ p = 6 ∨ p = 7 := by omega
  clear r0 r1
  rcases hk with rfl | rfl | rfl | rfl | rfl | rfl | rfl | rfl <;>
  (go_enter Tryd.func28, Tryd.ntmps28
   go_wp2_with (go_at_call 14; refine (hp _).mono ?_; rintro e w' ⟨rfl, rfl⟩)
   go_ret
   exact ⟨rfl, (Below.refl _ _).alloc (Nat.le_refl _) _⟩)
end Go.Proofs.YtkjfkonekajffaaDoor
