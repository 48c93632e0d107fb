/- The walk of dovecotekeep.RequestsTaken. -/
import Derived.Test.YtidkdkdibkapoaaDoorTells
namespace Go.Proofs.YtidkdkdibkapoaaDoor
open Go.ChangeShapes Go.WideShapes Go.ChangeAt Go.RowKit
set_option linter.unusedVariables false

theorem check_sizes (kind : Int) (key : ByteArray) (keys : List ByteArray) (flags exp nn : Int) (value : ByteArray) (quiet : Bool) (h : checkN kind key keys flags exp nn value quiet = 0) : key.size ≤ 20 ∧ value.size ≤ 200 := by
  obtain ⟨f1, f2, f3, f4, f5, f6, f7, f8⟩ := check_facts kind key keys flags exp nn value quiet h
  refine ⟨?_, f8⟩
  unfold keyBad at f3
  cases hk : inB kind 2 11
  · rw [hk] at f3
    have := empty_of key (by simpa using f3)
    rw [this]
    exact Nat.zero_le _
  · rw [hk] at f3
    have h2 : keyB key = true := by simpa using f3
    unfold keyB inB at h2
    simp at h2
    omega

end Go.Proofs.YtidkdkdibkapoaaDoor
