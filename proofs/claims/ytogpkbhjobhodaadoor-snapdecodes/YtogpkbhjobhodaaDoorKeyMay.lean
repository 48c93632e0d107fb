/- The contract of dovecoteref.KeyMay over the seat's translation: it returns what the plain function on the list of bytes says, at every text. -/
import Derived.Test.YtogpkbhjobhodaaDoorKeys
namespace Go.Proofs.YtogpkbhjobhodaaDoor
open Go.ChangeShapes Go.WideShapes Go.ChangeAt Go.RowKit

theorem inByte (x : UInt8) : inB (x.toNat : Int) 33 126 = !(badB x) := by
  unfold inB badB
  rw [Bool.eq_iff_iff]
  simp

theorem anyBad_of (s : ByteArray) (k : Nat) (hk : k < s.size) (h : badB s[k] = true) : anyBad s = true := by
  unfold anyBad
  refine List.any_eq_true.2 ⟨s[k], ?_, h⟩
  have : s[k] = s.data.toList[k]'(by simpa using hk) := rfl
  rw [this]
  exact List.getElem_mem _

theorem anyBad_not (s : ByteArray) (h : ∀ k (hk : k < s.size), badB s[k] = false) : anyBad s = false := by
  unfold anyBad
  refine List.any_eq_false.2 fun x hx => ?_
  obtain ⟨j, hj, rfl⟩ := List.mem_iff_getElem.1 hx
  have := h j (by simpa using hj)
  rw [show s[j] = s.data.toList[j] from rfl] at this
  rw [this]
  simp

theorem inByte_any (x : UInt8) (w : World) :
    Calls Tryd.prog 27 #[.int .i64 (wrap64 (x.toNat : Int)), .int .i64 33, .int .i64 126] w fun e w' => e = .returned (.bool (!(badB x))) ∧ w' = w := by
  have h := in_any (x.toNat : Int) 33 126 w
  rw [inByte] at h
  rw [show wrap64 (x.toNat : Int) = (x.toNat : Int) from by have := x.toNat_lt; unfold wrap64; omega]
  exact h

theorem keyMay_any (s : ByteArray) (w : World) (hs : s.size ≤ maxLen) :
    Calls Tryd.prog 29 #[.string s] w fun e w' => e = .returned (.bool (keyB s)) ∧ w' = w := by
  unfold maxLen at hs
  go_enter Tryd.func29, Tryd.ntmps29
  go_wp2
  go_loop [3] (fun i => ∃ k : Nat, k ≤ s.size ∧ i = .int .i64 k ∧ Hid (∀ j (hj : j < s.size), j < k → badB s[j] = false)) (fun i => s.size - (intOf i).toNat)
  case atStart => exact ⟨0, Nat.zero_le _, rfl, fun j _ hj => absurd hj (Nat.not_lt_zero _)⟩
  case round =>
    obtain ⟨k, hk, rfl, A⟩ := hrel
    by_cases hlt : k < s.size
    · cases hq : badB s[k] with
      | true =>
        have C : Hid (keyB s = false) := by
          have := anyBad_of s k hlt hq
          show keyB s = false
          unfold keyB
          rw [this]
          simp
        have hcall := inByte_any s[k]
        rw [hq] at hcall
        clear hq
        go_wp2_with (go_at_call 27; refine (hcall _).mono ?_; rintro e w' ⟨rfl, rfl⟩)
        go_ret
        exact ⟨by rw [C.out]; rfl, rfl⟩
      | false =>
        have hcall := inByte_any s[k]
        rw [hq] at hcall
        have B : Hid (badB s[k] = false) := hq
        clear hq
        go_wp2_with (go_at_call 27; refine (hcall _).mono ?_; rintro e w' ⟨rfl, rfl⟩)
        go_round
        case rel =>
          refine ⟨k + 1, by omega, by go_num, (show Hid _ from fun j hj hj2 => ?_)⟩
          by_cases e : j = k
          · subst e
            exact B.out
          · exact A.out j hj (by omega)
        case measure => simp [intOf]; omega
    · have C : Hid (keyB s = inB s.size 1 20) := by
        have := anyBad_not s (fun j hj => A.out j hj (by omega))
        show keyB s = inB s.size 1 20
        unfold keyB
        rw [this]
        simp
      go_wp2_with (go_at_call 27; refine (in_any _ _ _ _).mono ?_; rintro e w' ⟨rfl, rfl⟩)
      go_ret
      exact ⟨by rw [C.out]; rfl, rfl⟩
end Go.Proofs.YtogpkbhjobhodaaDoor
