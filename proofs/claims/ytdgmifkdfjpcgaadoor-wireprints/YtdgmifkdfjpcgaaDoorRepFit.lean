/- The contract of wire.replyFits. -/
import Derived.Test.YtdgmifkdfjpcgaaDoorOpenRep
namespace Go.Proofs.YtdgmifkdfjpcgaaDoor
open Go.ChangeShapes Go.WideShapes Go.ChangeAt Go.RowKit
set_option linter.unusedVariables false

def hitBadB (h : HitR) : Bool := !(keyB h.key) || decide (200 < h.value.size)

theorem hitBad_any (h : HitR) (w : World) (ok : HitOk h) :
    Calls Tryd.prog 60 #[.agg #[.string h.key, .int .i64 h.flags, .int .i64 h.cas, .string h.value]] w fun e w' => e = .returned (.bool (hitBadB h)) ∧ Below w.heap.size w w' := by
  obtain ⟨key, flags, cas, value⟩ := h
  obtain ⟨hs, hv, _, _⟩ := ok
  simp only at hs hv ⊢
  unfold maxLen at hv
  have hB0 : Below w.heap.size w (w.alloc (.cells #[.string key, .int .i64 flags, .int .i64 cas, .string value] 58)) := (Below.refl _ _).alloc (Nat.le_refl _) _
  have hcall := fun w1 => key_any key w1 hs
  have E : Hid (hitBadB ⟨key, flags, cas, value⟩ = (!(keyB key) || decide (200 < value.size))) := rfl
  generalize hitBadB ⟨key, flags, cas, value⟩ = B at *
  cases hq : keyB key
  · rw [hq] at hcall E
    clear hq
    go_enter Tryd.func60, Tryd.ntmps60
    go_wp2_with (go_at_call 61; refine (hcall _).mono ?_; rintro e w' ⟨rfl, hb⟩)
    go_ret
    exact ⟨by rw [E.out]; rfl, hB0.trans (hb.mono (by simp))⟩
  · rw [hq] at hcall E
    clear hq
    go_enter Tryd.func60, Tryd.ntmps60
    go_wp2_with fail
    refine (hcall _).mono ?_
    rintro e w' ⟨rfl, hb⟩
    obtain ⟨q1, q2⟩ := bcell hb
    have hzz := bsize hb
    go_wp2
    go_ret
    exact ⟨ret_bool (by rw [E.out]; simp only [Bool.not_true, Bool.false_or]; rw [Bool.eq_iff_iff, decide_eq_true_iff, decide_eq_true_iff]; omega), hB0.trans (hb.mono (by simp))⟩

def anyHitBad (l : List HitR) : Bool := l.any hitBadB

theorem mem_getDH (l : List HitR) (j : Nat) (hj : j < l.length) : l.getD j default ∈ l := by
  rw [List.getD_eq_getElem?_getD, List.getElem?_eq_getElem hj]
  simp

set_option maxHeartbeats 400000 in
theorem idxh_any (l : List HitR) (a : Option Addr) (c : Nat) (w : World) (hH : HitsAt w a l) :
    Calls Tryd.prog 73 #[.slice a l.length c, .func (.func 60) #[] #[]] w fun e w' => (∃ i : Int, e = .returned (.int .i64 i) ∧ decide (0 ≤ i) = anyHitBad l) ∧ Below w.heap.size w w' := by
  obtain ⟨hn, hok, hmem⟩ := hH
  unfold maxLen at hn
  go_enter Tryd.func73, Tryd.ntmps73
  go_wp2
  go_loopw [5, 8] (fun _ i wr => ∃ k : Nat, k ≤ l.length ∧ i = .int .i64 k ∧ Hid (∀ j, j < k → hitBadB (l.getD j default) = false) ∧ Below w.heap.size w wr) (fun _ i _ => l.length - (intOf i).toNat)
  case atStart => exact ⟨0, Nat.zero_le _, rfl, fun j hj => absurd hj (Nat.not_lt_zero _), Below.refl _ _⟩
  case round =>
    obtain ⟨k, hk, rfl, A, hb⟩ := hrel
    by_cases hlt2 : k < l.length
    · have hltz : (k : Int) < (l.length : Int) := by omega
      rcases hmem with hmem | ⟨b, off, rfl, hlt, hc⟩
      · omega
      have hm := mem_getDH l k hlt2
      have ok := hok k hlt2
      obtain ⟨c0, c1, c2, c3⟩ := (hc k hlt2).later hlt hb
      clear hc hok
      generalize hy : l.getD k default = y at *
      have B : Hid (l.getD k default = y) := hy
      clear hy
      have hcall := fun w1 => hitBad_any y w1 ok
      cases hq : hitBadB y with
      | true =>
        have C : Hid (anyHitBad l = true) := List.any_eq_true.2 ⟨y, hm, by simp [hq]⟩
        rw [hq] at hcall
        clear hm hq ok
        go_wp2_with (go_at_call 60; refine (hcall _).mono ?_; rintro e w' ⟨rfl, hb2⟩)
        go_ret
        exact ⟨⟨_, rfl, by rw [C.out]; simp⟩, hb.trans (hb2.mono hb.size)⟩
      | false =>
        rw [hq] at hcall
        have D : Hid (hitBadB y = false) := hq
        clear hm hq ok
        go_wp2_with (go_at_call 60; refine (hcall _).mono ?_; rintro e w' ⟨rfl, hb2⟩)
        go_roundw
        case rel =>
          refine ⟨k + 1, by omega, by go_num, (show Hid _ from fun j hj => ?_), hb.trans (hb2.mono hb.size)⟩
          by_cases e : j = k
          · subst e
            rw [B.out]
            exact D.out
          · exact A.out j (by omega)
        case measure => simp [intOf]; omega
    · have hltz : ¬ (k : Int) < (l.length : Int) := by omega
      have hkk : k = l.length := by omega
      clear hmem hok
      have C : Hid (anyHitBad l = false) := by
        refine List.any_eq_false.2 fun x hx => ?_
        obtain ⟨j, hj, rfl⟩ := List.mem_iff_getElem.1 hx
        have := A.out j (by omega)
        rw [List.getD_eq_getElem?_getD, List.getElem?_eq_getElem hj] at this
        simpa using this
      clear hkk
      go_wp2
      go_ret
      exact ⟨⟨_, rfl, by rw [C.out]; rfl⟩, hb⟩

theorem conh_any (l : List HitR) (a : Option Addr) (c : Nat) (w : World) (hH : HitsAt w a l) :
    Calls Tryd.prog 59 #[.slice a l.length c, .func (.func 60) #[] #[]] w fun e w' => e = .returned (.bool (anyHitBad l)) ∧ Below w.heap.size w w' := by
  have h := idxh_any l a c w hH
  clear hH
  go_enter Tryd.func59, Tryd.ntmps59
  go_wp2_with (go_at_call 73; refine h.mono ?_; rintro e w' ⟨⟨i, rfl, hi⟩, hb⟩)
  go_ret
  exact ⟨by first | rw [hi] | simp [← hi], hb⟩

/-- What wire.replyFits answers. -/
def fitsB (kind nn : Int) (l : List HitR) : Bool :=
  if kind ≠ 1 ∧ 0 < l.length then false else if kind ≠ 7 ∧ nn ≠ 0 then false else if 10 < l.length then false else !(anyHitBad l)

set_option maxHeartbeats 1000000 in
theorem fits_any (kind nn : Int) (l : List HitR) (a : Option Addr) (c : Nat) (w : World) (hH : HitsAt w a l) :
    Calls Tryd.prog 34 #[.agg #[.int .i64 kind, .int .i64 nn, .slice a l.length c]] w fun e w' => e = .returned (.bool (fitsB kind nn l)) ∧ Below w.heap.size w w' := by
  have hB0 : Below w.heap.size w (w.alloc (.cells #[.int .i64 kind, .int .i64 nn, .slice a l.length c] 35)) := (Below.refl _ _).alloc (Nat.le_refl _) _
  have hc1 := conh_any l a c _ (hH.later hB0)
  have hn := hH.1
  unfold maxLen at hn
  have E : Hid (fitsB kind nn l = if kind ≠ 1 ∧ 0 < l.length then false else if kind ≠ 7 ∧ nn ≠ 0 then false else if 10 < l.length then false else !(anyHitBad l)) := rfl
  generalize fitsB kind nn l = B at *
  clear hH
  by_cases h1 : kind = 1
  · subst h1
    by_cases hnn : nn = 0
    · subst hnn
      by_cases h10 : 10 < l.length
      · have h10' : (10 : Int) < (l.length : Int) := by omega
        have E' : Hid (B = false) := by unfold Hid; rw [E.out]; simp [h10]
        clear hc1 E h10
        go_enter Tryd.func34, Tryd.ntmps34
        go_wp2
        go_ret
        exact ⟨by rw [E'.out]; rfl, hB0⟩
      · have h10' : ¬ (10 : Int) < (l.length : Int) := by omega
        have E' : Hid (B = !(anyHitBad l)) := by unfold Hid; rw [E.out]; simp [h10]
        clear E h10
        go_enter Tryd.func34, Tryd.ntmps34
        go_wp2_with (go_at_call 59; refine hc1.mono ?_; rintro e w' ⟨rfl, hb⟩)
        go_ret
        exact ⟨by rw [E'.out]; rfl, hB0.trans (hb.mono (by simp))⟩
    · have hnn' : (nn == 0) = false := by simp [hnn]
      have hnnn : (nn != 0) = true := by simp [hnn]
      have E' : Hid (B = false) := by unfold Hid; rw [E.out]; simp [hnn]
      clear hc1 E hnn
      go_enter Tryd.func34, Tryd.ntmps34
      go_wp2
      go_ret
      exact ⟨by rw [E'.out]; rfl, hB0⟩
  · have h1' : (kind == 1) = false := by simp [h1]
    have h1n : (kind != 1) = true := by simp [h1]
    by_cases hl : 0 < l.length
    · have hl' : (0 : Int) < (l.length : Int) := by omega
      have E' : Hid (B = false) := by rw [E.out]; rw [if_pos ⟨h1, hl⟩]; rfl
      clear hc1 E hl h1
      go_enter Tryd.func34, Tryd.ntmps34
      go_wp2
      go_ret
      exact ⟨by rw [E'.out]; rfl, hB0⟩
    · have hl' : ¬ (0 : Int) < (l.length : Int) := by omega
      have h10' : ¬ (10 : Int) < (l.length : Int) := by omega
      have h10 : ¬ 10 < l.length := by omega
      by_cases h7 : kind = 7
      · subst h7
        have E' : Hid (B = !(anyHitBad l)) := by rw [E.out]; rw [if_neg (fun h => hl h.2), if_neg (fun h => h.1 rfl), if_neg h10]; rfl
        clear E h10 h1 h1' h1n hl
        go_enter Tryd.func34, Tryd.ntmps34
        go_wp2_with (go_at_call 59; refine hc1.mono ?_; rintro e w' ⟨rfl, hb⟩)
        go_ret
        exact ⟨by rw [E'.out]; rfl, hB0.trans (hb.mono (by simp))⟩
      · have h7' : (kind == 7) = false := by simp [h7]
        have h7n : (kind != 7) = true := by simp [h7]
        by_cases hnn : nn = 0
        · subst hnn
          have E' : Hid (B = !(anyHitBad l)) := by rw [E.out]; rw [if_neg (fun h => hl h.2), if_neg (fun h => h.2 rfl), if_neg h10]; rfl
          clear E h10 h1 hl h7
          go_enter Tryd.func34, Tryd.ntmps34
          go_wp2_with (go_at_call 59; refine hc1.mono ?_; rintro e w' ⟨rfl, hb⟩)
          go_ret
          exact ⟨by rw [E'.out]; rfl, hB0.trans (hb.mono (by simp))⟩
        · have hnn' : (nn == 0) = false := by simp [hnn]
          have hnnn : (nn != 0) = true := by simp [hnn]
          have E' : Hid (B = false) := by rw [E.out]; rw [if_neg (fun h => hl h.2), if_pos ⟨h7, hnn⟩]; rfl
          clear hc1 E hnn h1 h7 hl h10
          go_enter Tryd.func34, Tryd.ntmps34
          go_wp2
          go_ret
          exact ⟨by rw [E'.out]; rfl, hB0⟩
end Go.Proofs.YtdgmifkdfjpcgaaDoor
