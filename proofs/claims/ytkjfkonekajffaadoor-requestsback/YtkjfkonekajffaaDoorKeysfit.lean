/- The contract of wire.keysFit: it answers what its plain function on the request's fields says, at every request whose Keys lie in memory. -/
import Derived.Test.YtkjfkonekajffaaDoorKinds
namespace Go.Proofs.YtkjfkonekajffaaDoor
open Go.ChangeShapes Go.WideShapes Go.ChangeAt Go.RowKit

/-- The texts 'l' lie in memory as the slice (a, n) says. -/
def StrsAt (w : World) (a : Option Addr) (n : Nat) (l : List ByteArray) : Prop :=
  l.length = n ∧ n ≤ maxLen ∧ (∀ s ∈ l, s.size ≤ maxLen) ∧ (n = 0 ∨ ∃ b off, a = some ⟨b, off, none⟩ ∧ b < w.heap.size ∧ ∀ j, j < n → w.cell? ⟨b, off + j, none⟩ = some (.string (l.getD j ByteArray.empty)))

theorem StrsAt.later {w w' : World} {a : Option Addr} {n : Nat} {l : List ByteArray} (h : StrsAt w a n l) (hb : Below w.heap.size w w') : StrsAt w' a n l := by
  obtain ⟨h1, h2, h3, h4⟩ := h
  refine ⟨h1, h2, h3, ?_⟩
  rcases h4 with h4 | ⟨b, off, ha, hlt, hc⟩
  · exact Or.inl h4
  · refine Or.inr ⟨b, off, ha, Nat.lt_of_lt_of_le hlt hb.size, fun j hj => ?_⟩
    rw [hb.cell (p := ⟨b, off + j, none⟩) hlt]
    exact hc j hj

def noKeyIn (l : List ByteArray) : Bool := l.any fun s => !(keyB s)

def keysFitB (kind : Int) (key : ByteArray) (keys : List ByteArray) : Bool :=
  if inB kind 2 11 = true then decide (keys.length = 0) && keyB key
  else if key.toList.isEmpty = false then false
  else if kind = 1 then inB keys.length 1 10 && !(noKeyIn keys)
  else decide (keys.length = 0)

theorem noKey_any (s : ByteArray) (w : World) (hs : s.size ≤ maxLen) :
    Calls Tryd.prog 59 #[.string s] w fun e w' => e = .returned (.bool (!(keyB s))) ∧ Below w.heap.size w w' := by
  go_enter Tryd.func59, Tryd.ntmps59
  go_wp2_with (go_at_call 57; refine (key_any _ _ hs).mono ?_; rintro e w' ⟨rfl, hb⟩)
  go_ret
  exact ⟨rfl, hb⟩

theorem mem_getD (l : List ByteArray) (j : Nat) (hj : j < l.length) : l.getD j ByteArray.empty ∈ l := by
  rw [List.getD_eq_getElem?_getD, List.getElem?_eq_getElem hj]
  simp

set_option maxHeartbeats 400000 in
theorem idxs_any (l : List ByteArray) (b off c : Nat) (w : World) (hn : l.length ≤ maxLen) (hl : ∀ s ∈ l, s.size ≤ maxLen) (hlt : b < w.heap.size) (hc : ∀ j, j < l.length → w.cell? ⟨b, off + j, none⟩ = some (.string (l.getD j ByteArray.empty))) :
    Calls Tryd.prog 75 #[.slice (some ⟨b, off, none⟩) l.length c, .func (.func 59) #[] #[]] w fun e w' => (∃ i : Int, e = .returned (.int .i64 i) ∧ decide (0 ≤ i) = noKeyIn l) ∧ Below w.heap.size w w' := by
  unfold maxLen at hn
  go_enter Tryd.func75, Tryd.ntmps75
  go_wp2
  go_loopw [5, 8] (fun _ i wr => ∃ k : Nat, k ≤ l.length ∧ i = .int .i64 k ∧ Hid (∀ j, j < k → keyB (l.getD j ByteArray.empty) = true) ∧ Below w.heap.size w wr) (fun _ i _ => l.length - (intOf i).toNat)
  case atStart => exact ⟨0, Nat.zero_le _, rfl, fun j hj => absurd hj (Nat.not_lt_zero _), Below.refl _ _⟩
  case round =>
    obtain ⟨k, hk, rfl, A, hb⟩ := hrel
    by_cases hlt2 : k < l.length
    · have hltz : (k : Int) < (l.length : Int) := by omega
      have hcell : wr.cell? ⟨b, off + k, none⟩ = some (.string (l.getD k ByteArray.empty)) := by
        rw [hb.cell (p := ⟨b, off + k, none⟩) hlt]
        exact hc k hlt2
      have hmem := mem_getD l k hlt2
      have hsz := hl _ hmem
      clear hc hl
      generalize hy : l.getD k ByteArray.empty = y at hcell hmem hsz
      have B : Hid (l.getD k ByteArray.empty = y) := hy
      clear hy
      have hcall := noKey_any y
      cases hq : keyB y with
      | false =>
        have C : Hid (noKeyIn l = true) := List.any_eq_true.2 ⟨y, hmem, by simp [hq]⟩
        rw [hq] at hcall
        clear hmem hq
        go_wp2_with (go_at_call 59; refine (hcall _ hsz).mono ?_; rintro e w' ⟨rfl, hb2⟩)
        go_ret
        exact ⟨⟨_, rfl, by rw [C.out]; simp⟩, hb.trans (hb2.mono hb.size)⟩
      | true =>
        rw [hq] at hcall
        have D : Hid (keyB y = true) := hq
        clear hmem hq
        go_wp2_with (go_at_call 59; refine (hcall _ hsz).mono ?_; rintro e w' ⟨rfl, hb2⟩)
        go_roundw
        case rel =>
          refine ⟨k + 1, by omega, by go_num, (show Hid _ from fun j hj => ?_), hb.trans (hb2.mono hb.size)⟩
          by_cases e : j = k
          · subst e
            rw [B.out]
            exact D.out
          · exact A.out j (by omega)
        case measure => simp [intOf]; omega
    · have hltz : ¬ (k : Int) < (l.length : Int) := by omega
      have hkk : k = l.length := by omega
      clear hc hl
      have C : Hid (noKeyIn l = false) := by
        refine List.any_eq_false.2 fun x hx => ?_
        obtain ⟨j, hj, rfl⟩ := List.mem_iff_getElem.1 hx
        have := A.out j (by omega)
        rw [List.getD_eq_getElem?_getD, List.getElem?_eq_getElem hj] at this
        simpa using this
      clear hkk
      go_wp2
      go_ret
      exact ⟨⟨_, rfl, by rw [C.out]; rfl⟩, hb⟩

theorem cons_any (l : List ByteArray) (b off c : Nat) (w : World) (hn : l.length ≤ maxLen) (hl : ∀ s ∈ l, s.size ≤ maxLen) (hlt : b < w.heap.size) (hc : ∀ j, j < l.length → w.cell? ⟨b, off + j, none⟩ = some (.string (l.getD j ByteArray.empty))) :
    Calls Tryd.prog 58 #[.slice (some ⟨b, off, none⟩) l.length c, .func (.func 59) #[] #[]] w fun e w' => e = .returned (.bool (noKeyIn l)) ∧ Below w.heap.size w w' := by
  have h := idxs_any l b off c w hn hl hlt hc
  clear hc hl
  go_enter Tryd.func58, Tryd.ntmps58
  go_wp2_with (go_at_call 75; refine h.mono ?_; rintro e w' ⟨⟨i, rfl, hi⟩, hb⟩)
  go_ret
  exact ⟨by first | rw [hi] | simp [← hi], hb⟩
end Go.Proofs.YtkjfkonekajffaaDoor
