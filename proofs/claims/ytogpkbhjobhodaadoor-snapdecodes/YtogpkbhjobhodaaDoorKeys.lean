/- Contracts of wire.Key, of the closure that it hands to slices.ContainsFunc, of dovecoteref.KeyMay and of their callees, over the seat's translation: each returns what the plain function on the list of bytes says, at every text. -/
import Derived.Test.YtogpkbhjobhodaaDoorBase
import Derived.Lib.ConvBytes
namespace Go.Proofs.YtogpkbhjobhodaaDoor
open Go.ChangeShapes Go.WideShapes Go.ChangeAt Go.RowKit
open Go.ChangeMaps (open_string shut_string)

def badB (x : UInt8) : Bool := decide ((x.toNat : Int) < 33) || decide (126 < (x.toNat : Int))
def anyBad (s : ByteArray) : Bool := s.data.toList.any badB
def keyB (s : ByteArray) : Bool := inB s.size 1 20 && !(anyBad s)

theorem byteBelow (w : World) (e : TypeId) (s : ByteArray) : Below w.heap.size w (Lib.bytesWorld w e s) :=
  ⟨rfl, rfl, rfl, by rw [Lib.bytesWorld_size]; omega, fun k hk => Lib.bytesWorld_at_old w e s k hk⟩

theorem bad_any (x : UInt8) (w : World) :
    Calls Tryd.prog 57 #[.int .u8 x.toNat] w fun e w' => e = .returned (.bool (badB x)) ∧ w' = w := by
  by_cases h1 : (x.toNat : Int) < 33
  · have e : badB x = true := by unfold badB; simp; omega
    rw [e]
    clear e
    go_enter Tryd.func57, Tryd.ntmps57
    go_wp2
    go_ret
    exact ⟨rfl, rfl⟩
  · by_cases h2 : 126 < (x.toNat : Int)
    · have e : badB x = true := by unfold badB; simp; omega
      rw [e]
      clear e
      go_enter Tryd.func57, Tryd.ntmps57
      go_wp2
      go_ret
      exact ⟨rfl, rfl⟩
    · have e : badB x = false := by unfold badB; simp; omega
      rw [e]
      clear e
      go_enter Tryd.func57, Tryd.ntmps57
      go_wp2
      go_ret
      exact ⟨rfl, rfl⟩

/-- The walk's own search: the first byte of which the closure says yes, or -1. -/
theorem idx_any (s : ByteArray) (b c : Nat) (w : World) (hs : s.size ≤ maxLen) (hc : ∀ j, j < s.size → w.cell? ⟨b, j, none⟩ = some (.int .u8 (s.data.toList.getD j 0).toNat)) :
    Calls Tryd.prog 63 #[.slice (some ⟨b, 0, none⟩) s.size c, .func (.func 57) #[] #[]] w fun e w' => (∃ i : Int, e = .returned (.int .i64 i) ∧ decide (0 ≤ i) = anyBad s) ∧ w' = w := by
  unfold maxLen at hs
  go_enter Tryd.func63, Tryd.ntmps63
  go_wp2
  go_loop [5, 8] (fun _ i => ∃ k : Nat, k ≤ s.size ∧ i = .int .i64 k ∧ Hid (∀ j, j < k → badB (s.data.toList.getD j 0) = false)) (fun _ i => s.size - (intOf i).toNat)
  case atStart => exact ⟨0, Nat.zero_le _, rfl, fun j hj => absurd hj (Nat.not_lt_zero _)⟩
  case round =>
    obtain ⟨k, hk, rfl, A⟩ := hrel
    by_cases hlt : k < s.size
    · have hltz : (k : Int) < (s.size : Int) := by omega
      have hcell := hc k hlt
      have hmem : s.data.toList.getD k 0 ∈ s.data.toList := by
        rw [List.getD_eq_getElem?_getD, List.getElem?_eq_getElem (by simpa using hlt)]
        simp
      clear hc
      generalize hy : s.data.toList.getD k 0 = y at hcell hmem
      have B : Hid (s.data.toList.getD k 0 = y) := hy
      clear hy
      have hcall := bad_any y
      cases hq : badB y with
      | true =>
        have C : Hid (anyBad s = true) := List.any_eq_true.2 ⟨y, hmem, hq⟩
        rw [hq] at hcall
        clear hmem hq
        go_wp2_with (go_at_call 57; refine (hcall _).mono ?_; rintro e w' ⟨rfl, rfl⟩)
        go_ret
        exact ⟨⟨_, rfl, by rw [C.out]; simp⟩, rfl⟩
      | false =>
        rw [hq] at hcall
        have D : Hid (badB y = false) := hq
        clear hmem hq
        go_wp2_with (go_at_call 57; refine (hcall _).mono ?_; rintro e w' ⟨rfl, rfl⟩)
        go_round
        case rel =>
          refine ⟨k + 1, by omega, by go_num, (show Hid _ from fun j hj => ?_)⟩
          by_cases e : j = k
          · subst e
            rw [B.out]
            exact D.out
          · exact A.out j (by omega)
        case measure => simp [intOf]; omega
    · have hltz : ¬ (k : Int) < (s.size : Int) := by omega
      have : k = s.size := by omega
      subst this
      clear hc
      have C : Hid (anyBad s = false) := by
        refine List.any_eq_false.2 fun x hx => ?_
        obtain ⟨j, hj, rfl⟩ := List.mem_iff_getElem.1 hx
        have := A.out j (by simpa using hj)
        rw [List.getD_eq_getElem?_getD, List.getElem?_eq_getElem hj] at this
        simpa using this
      go_wp2
      go_ret
      exact ⟨⟨_, rfl, by rw [C.out]; rfl⟩, rfl⟩

theorem contains_any (s : ByteArray) (b c : Nat) (w : World) (hs : s.size ≤ maxLen) (hc : ∀ j, j < s.size → w.cell? ⟨b, j, none⟩ = some (.int .u8 (s.data.toList.getD j 0).toNat)) :
    Calls Tryd.prog 56 #[.slice (some ⟨b, 0, none⟩) s.size c, .func (.func 57) #[] #[]] w fun e w' => e = .returned (.bool (anyBad s)) ∧ w' = w := by
  have h := idx_any s b c w hs hc
  clear hc
  go_enter Tryd.func56, Tryd.ntmps56
  go_wp2_with (go_at_call 63; refine h.mono ?_; rintro e w' ⟨⟨i, rfl, hi⟩, rfl⟩)
  go_ret
  exact ⟨by first | rw [hi] | simp [← hi], rfl⟩

/-- wire.Key: what P1.1 says. -/
theorem key_any (s : ByteArray) (w : World) (hs : s.size ≤ maxLen) :
    Calls Tryd.prog 51 #[.string s] w fun e w' => e = .returned (.bool (keyB s)) ∧ Below w.heap.size w w' := by
  have hs' := hs
  unfold maxLen at hs'
  by_cases h1 : (s.size : Int) < 1
  · have e : keyB s = false := by unfold keyB inB; simp; omega
    rw [e]
    clear e
    go_enter Tryd.func51, Tryd.ntmps51
    go_wp2
    go_ret
    exact ⟨rfl, Below.refl _ _⟩
  · by_cases h2 : 20 < (s.size : Int)
    · have e : keyB s = false := by unfold keyB inB; simp; omega
      rw [e]
      clear e
      go_enter Tryd.func51, Tryd.ntmps51
      go_wp2
      go_ret
      exact ⟨rfl, Below.refl _ _⟩
    · have e : keyB s = !(anyBad s) := by
        have : inB s.size 1 20 = true := by unfold inB; simp; omega
        unfold keyB
        rw [this]
        rfl
      rw [e]
      clear e
      have kc := Lib.run_convert_string_bytes (P := Tryd.prog) w 9 22 5 s Tryd.underlying9 Tryd.underlying22 Tryd.underlying5
      have hcon := contains_any s w.heap.size (grownCap w s.size 0 5) (Lib.bytesWorld w 5 s) hs (fun j hj => Lib.bytesWorld_cell w 5 s j hj)
      go_enter Tryd.func51, Tryd.ntmps51
      go_wp2_with (go_at_call 56; refine hcon.mono ?_; rintro e w' ⟨rfl, rfl⟩)
      go_ret
      exact ⟨rfl, byteBelow w 5 s⟩
end Go.Proofs.YtogpkbhjobhodaaDoor
