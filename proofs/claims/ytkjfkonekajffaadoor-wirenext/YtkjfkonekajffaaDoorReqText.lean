/- The contract of dovecoteref.RequestText: what wire.Encode answers. -/
import Derived.Test.YtkjfkonekajffaaDoorEncode
namespace Go.Proofs.YtkjfkonekajffaaDoor
open Go.ChangeShapes Go.WideShapes Go.ChangeAt Go.RowKit
set_option linter.unusedVariables false

theorem ret_str {a b : ByteArray} (h : a = b) : Ending.returned (.string a) = .returned (.string b) := by rw [h]

set_option maxHeartbeats 2000000 in
theorem nameOf_any (kind : Int) (w : World) (h0 : 0 ≤ kind) (h1 : kind ≤ 12) :
    Calls Tryd.prog 51 #[.int .i64 kind] w fun e w' => e = .returned (.string (nameS kind.toNat)) ∧ Below w.heap.size w w' := by
  have hk : kind = 0 ∨ kind = 1 ∨ kind = 2 ∨ kind = 3 ∨ kind = 4 ∨ kind = 5 ∨ kind = 6 ∨ kind = 7 ∨ kind = 8 ∨ kind = 9 ∨ kind = 10 ∨ kind = 11 ∨ kind = 12 := by omega
  clear h0 h1
  rcases hk with rfl | rfl | rfl | rfl | rfl | rfl | rfl | rfl | rfl | rfl | rfl | rfl | rfl <;>
  (go_enter Tryd.func51, Tryd.ntmps51; go_wp2; go_ret; exact ⟨rfl, (Below.refl _ _).alloc (Nat.le_refl _) _⟩)

theorem key_empty (kind : Int) (key : ByteArray) (keys : List ByteArray) (h : keysFitB kind key keys = true) : key.toList.isEmpty = !(inB kind 2 11) := by
  rw [keysFit_eq] at h
  simp at h
  have h2 := h.2
  unfold keyBad at h2
  cases hh : inB kind 2 11
  · rw [hh] at h2
    simp at h2
    simp [h2]
  · rw [hh] at h2
    simp at h2
    have := (keyB_size key h2).2
    cases he : key.toList.isEmpty
    · rfl
    · have e : key.toList.length = key.size := by rw [ByteArray.toList_eq]; rfl
      have : key.toList = [] := by simpa using he
      rw [this] at e
      simp at e
      omega
end Go.Proofs.YtkjfkonekajffaaDoor
