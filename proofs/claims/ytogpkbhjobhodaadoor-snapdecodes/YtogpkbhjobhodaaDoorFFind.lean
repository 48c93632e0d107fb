/- The contracts of record.Find and of flash.Read. -/
import Derived.Test.YtogpkbhjobhodaaDoorFAt
import Derived.Test.YtogpkbhjobhodaaDoorFChk
import Derived.Deep.RegionHeld3
namespace Go.Proofs.YtogpkbhjobhodaaDoor
open Go.ChangeShapes Go.WideShapes Go.ChangeAt Go.RowKit
set_option linter.unusedVariables false
set_option linter.unusedSimpArgs false

/-- Where the page with a number stands; the number of pages: nowhere. -/
def pageI (ps : List PageR) (n : Int) : Nat := ps.findIdx fun p => p.num == n

def idxN (ps : List PageR) (n : Int) : Int := if pageI ps n < ps.length then pageI ps n else -1

set_option maxHeartbeats 400000 in
theorem find1_any (p : PageR) (a : Option Addr) (c B : Nat) (n x : Int) (w : World) (h0 : w.cell? ⟨B, 0, none⟩ = some (.int .i64 n)) (hB : B < w.heap.size) :
    Calls Tryd.prog 65 #[.agg #[.int .i64 p.num, .slice a p.bs.length c], .pointer (some ⟨B, 0, none⟩)] w fun e w' => e = .returned (.bool (p.num == n)) ∧ Below w.heap.size w w' := by
  have hB0 : ∀ o, Below w.heap.size w (w.alloc o) := fun o => (Below.refl _ _).alloc (Nat.le_refl _) _
  go_enter Tryd.func65, Tryd.ntmps65
  go_wp2
  go_ret
  exact ⟨rfl, hB0 _⟩

set_option maxHeartbeats 400000 in
theorem idxp_any (ps : List PageR) (a : Option Addr) (c B : Nat) (n x : Int) (w : World) (hP : PagesAt w a ps) (h0 : w.cell? ⟨B, 0, none⟩ = some (.int .i64 n)) (hB : B < w.heap.size) :
    Calls Tryd.prog 64 #[.slice a ps.length c, .func (.func 65) #[] #[.pointer (some ⟨B, 0, none⟩)]] w fun e w' => e = .returned (.int .i64 (idxN ps n)) ∧ Below w.heap.size w w' := by
  obtain ⟨hn, hmem⟩ := hP
  unfold maxLen at hn
  have EI : Hid (idxN ps n = if pageI ps n < ps.length then (pageI ps n : Int) else -1) := rfl
  generalize idxN ps n = J at *
  go_enter Tryd.func64, Tryd.ntmps64
  go_wp2
  go_loopw [5, 8] (fun _ i wr => ∃ k : Nat, k ≤ ps.length ∧ i = .int .i64 k ∧ Hid (k ≤ pageI ps n) ∧ Below w.heap.size w wr) (fun _ i _ => ps.length - (intOf i).toNat)
  case atStart => exact ⟨0, Nat.zero_le _, rfl, Nat.zero_le _, Below.refl _ _⟩
  case round =>
    obtain ⟨k, hk, rfl, A, hb⟩ := hrel
    by_cases hlt2 : k < ps.length
    · have hltz : (k : Int) < (ps.length : Int) := by omega
      have hk0 : (0 : Int) ≤ (k : Int) := Int.natCast_nonneg _
      rcases hmem with hmem | ⟨b, off, rfl, hlt, hc⟩
      · omega
      obtain ⟨aa, cc, c0, c1, _⟩ := (hc k hlt2).later hlt hb
      have h0r : wr.cell? ⟨B, 0, none⟩ = some (.int .i64 n) := by rw [hb.cell (p := ⟨B, 0, none⟩) hB]; exact h0
      have hgk : ps[k] = ps.getD k default := by rw [List.getD_eq_getElem?_getD, List.getElem?_eq_getElem hlt2]; rfl
      clear hc
      generalize ps.getD k default = y at *
      obtain ⟨num, bs⟩ := y
      have hcall := find1_any ⟨num, bs⟩ aa cc B n x wr h0r (Nat.lt_of_lt_of_le hB hb.size)
      simp only at hcall c0 c1
      cases hq : (num == n) with
      | true =>
        have C : Hid (pageI ps n = k) := by
          show pageI ps n = k
          unfold pageI
          have := List.findIdx_eq hlt2 (p := fun p : PageR => p.num == n)
          refine this.2 ⟨by rw [hgk]; exact hq, fun j hj => ?_⟩
          have := List.not_of_lt_findIdx (p := fun p : PageR => p.num == n) (xs := ps) (i := j) (Nat.lt_of_lt_of_le hj A.out)
          simpa using this
        rw [hq] at hcall
        clear hq hgk
        go_wp2_with (go_at_call 65; refine hcall.mono ?_; rintro e w' ⟨rfl, hb2⟩)
        go_ret
        exact ⟨ret_i64 (by rw [EI.out, C.out, if_pos hlt2]), hb.trans (hb2.mono hb.size)⟩
      | false =>
        have D : Hid (k + 1 ≤ pageI ps n) := by
          show k + 1 ≤ pageI ps n
          rcases Nat.lt_or_ge k (pageI ps n) with h | h
          · exact h
          · have e : pageI ps n = k := Nat.le_antisymm h A.out
            have := List.findIdx_getElem (p := fun p : PageR => p.num == n) (xs := ps) (w := by show pageI ps n < _; omega)
            have e2 : ps[List.findIdx (fun p : PageR => p.num == n) ps]'(by show pageI ps n < _; omega) = ps[k] := by congr 1
            rw [e2, hgk, hq] at this
            cases this
        rw [hq] at hcall
        clear hq hgk
        go_wp2_with (go_at_call 65; refine hcall.mono ?_; rintro e w' ⟨rfl, hb2⟩)
        go_roundw
        case rel => exact ⟨k + 1, by omega, by go_num, D, hb.trans (hb2.mono hb.size)⟩
        case measure => simp [intOf]; omega
    · have hltz : ¬ (k : Int) < (ps.length : Int) := by omega
      have C : Hid (¬ pageI ps n < ps.length) := by have := A.out; show ¬ _; omega
      clear hmem
      go_wp2
      go_ret
      exact ⟨ret_i64 (by rw [EI.out, if_neg C.out]), hb⟩

/-- What a place on pages holds. -/
def findS (ps : List PageR) (n p : Int) : ByteArray := if pageI ps n < ps.length then ((valO (valsAt 0 (ps.getD (pageI ps n) default).bs) p).getD ⟨#[]⟩) else ⟨#[]⟩
def findN (ps : List PageR) (n p : Int) : Int := if pageI ps n < ps.length then (if (valO (valsAt 0 (ps.getD (pageI ps n) default).bs) p).isSome = true then 0 else 2) else 6

theorem ret_tuple {a b : ByteArray} {n m : Int} (h1 : a = b) (h2 : n = m) : Ending.returned (.tuple #[.string a, .int .i64 n]) = .returned (.tuple #[.string b, .int .i64 m]) := by rw [h1, h2]

set_option maxHeartbeats 1000000 in
set_option maxRecDepth 100000 in
theorem find_any (ps : List PageR) (a : Option Addr) (c : Nat) (n p : Int) (w : World) (hP : PagesAt w a ps) (h1 : ∀ j, j < ps.length → 1 ≤ (ps.getD j default).bs.length) (hp0 : -9223372036854775808 ≤ p) (hp1 : p ≤ 9223372036854775807) :
    Calls Tryd.prog 58 #[.slice a ps.length c, .agg #[.int .i64 n, .int .i64 p]] w fun e w' => e = .returned (.tuple #[.string (findS ps n p), .int .i64 (findN ps n p)]) ∧ Below w.heap.size w w' := by
  have hB0 : Below w.heap.size w (w.alloc (.cells #[.int .i64 n, .int .i64 p] 47)) := (Below.refl _ _).alloc (Nat.le_refl _) _
  have hidx := idxp_any ps a c w.heap.size n 0 (w.alloc (.cells #[.int .i64 n, .int .i64 p] 47)) (hP.later hB0) (by simp) (by simp)
  have FS : Hid (findS ps n p = if pageI ps n < ps.length then ((valO (valsAt 0 (ps.getD (pageI ps n) default).bs) p).getD ⟨#[]⟩) else ⟨#[]⟩) := rfl
  have FN : Hid (findN ps n p = if pageI ps n < ps.length then (if (valO (valsAt 0 (ps.getD (pageI ps n) default).bs) p).isSome = true then 0 else 2) else 6) := rfl
  generalize findS ps n p = S at *
  generalize findN ps n p = N at *
  have hmax := hP.1
  unfold maxLen at hmax
  by_cases hi : pageI ps n < ps.length
  · unfold idxN at hidx
    rw [if_pos hi] at hidx
    have FS' : Hid (S = (valO (valsAt 0 (ps.getD (pageI ps n) default).bs) p).getD ⟨#[]⟩) := by have := FS.out; rw [if_pos hi] at this; exact this
    have FN' : Hid (N = if (valO (valsAt 0 (ps.getD (pageI ps n) default).bs) p).isSome = true then 0 else 2) := by have := FN.out; rw [if_pos hi] at this; exact this
    have hl1 := h1 _ hi
    clear FS FN h1
    obtain ⟨_, hm⟩ := hP
    rcases hm with hm | ⟨b, o, rfl, hbl, hc⟩
    · omega
    have hPk := hc _ hi
    clear hc
    generalize pageI ps n = I at *
    generalize ps.getD I default = P at *
    have i0 : (0 : Int) ≤ (I : Int) := Int.natCast_nonneg _
    have i1 : (I : Int) < (ps.length : Int) := by omega
    have i2 : ¬ (I : Int) < 0 := by omega
    go_enter Tryd.func58, Tryd.ntmps58
    go_wp2_with fail
    refine hidx.mono ?_
    rintro e w1 ⟨rfl, hb1⟩
    obtain ⟨q1, q2⟩ := bcell hb1
    have hz1 := bsize hb1
    have hB1 : Below w.heap.size w w1 := hB0.trans (hb1.mono hB0.size)
    obtain ⟨aa, cc, c0, c1, c2, c3, c4⟩ := hPk.later hbl hB1
    have hat := fun w2 (hb : Below w1.heap.size w1 w2) => at_any P.bs p aa cc w2 (c2.later hb) hl1 c3 c4 hp0 hp1
    have k1 : w1.cell? ⟨w.heap.size, 1, none⟩ = some (.int .i64 p) := by rw [q1 _ _ (by simp)]; simp
    clear q1 q2 hidx
    unfold AtPost at hat
    generalize valO (valsAt 0 P.bs) p = V at *
    obtain ⟨num, bs⟩ := P
    simp only at *
    have hdr : Below w1.heap.size w1 w1.drew := (Below.refl _ _).drew
    cases V with
    | none =>
      simp only [Option.getD_none, Option.isSome_none] at *
      go_wp2_with fail
      go_quiet ((go_at_call 66; refine Calls.quiet_of_same (hat _ (drewN_below _ _))))
      go_wp2
      go_ret2
      exact ⟨ret_tuple FS'.out.symm FN'.out.symm, hB1.trans ((drewN_below w1 nq).mono hB1.size)⟩
    | some v =>
      simp only [Option.getD_some, Option.isSome_some] at *
      go_wp2_with fail
      go_quiet ((go_at_call 66; refine Calls.quiet_of_same (hat _ (drewN_below _ _))))
      go_wp2
      go_ret2
      exact ⟨ret_tuple FS'.out.symm FN'.out.symm, hB1.trans ((drewN_below w1 nq).mono hB1.size)⟩
  · unfold idxN at hidx
    rw [if_neg hi] at hidx
    have FS' : Hid (S = ⟨#[]⟩) := by have := FS.out; rw [if_neg hi] at this; exact this
    have FN' : Hid (N = 6) := by have := FN.out; rw [if_neg hi] at this; exact this
    clear FS FN h1
    go_enter Tryd.func58, Tryd.ntmps58
    go_wp2_with (go_at_call 64; refine hidx.mono ?_; rintro e w' ⟨rfl, hb2⟩)
    go_ret2
    exact ⟨ret_tuple FS'.out.symm FN'.out.symm, hB0.trans (hb2.mono hB0.size)⟩
end Go.Proofs.YtogpkbhjobhodaaDoor
