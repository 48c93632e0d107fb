/- Parts of the proof. -/
import Derived.Test.YtdblegdgmjakfaaGreatDoorMJ03
import Derived.Test.YtdblegdgmjakfaaGreatDoorMJ01
import Derived.Test.YtdblegdgmjakfaaGreatDoorMJ02
import Derived.Deep.RegionHeld3
import Derived.Deep.DeepCutAuto
namespace Go.Proofs.YtdblegdgmjakfaaGreatDoor
open Go.ChangeShapes Go.WideShapes Go.ChangeAt Go.RowKit
set_option linter.unusedVariables false
set_option linter.unusedSimpArgs false

/- The contract of record.At: the value of the record that begins at a place. -/

def AtPost (l : List UInt8) (p : Int) (w : World) (e : Ending) (w' : World) : Prop :=
 e = .returned (.tuple #[.string ((valO (valsAt 0 l) p).getD ⟨#[]⟩), .bool (valO (valsAt 0 l) p).isSome]) ∧ w' = w

theorem at_no {l : List UInt8} {p : Int} {w : World} (h : valO (valsAt 0 l) p = none) : AtPost l p w (.returned (.tuple #[.string ⟨#[]⟩, .bool false])) w := by
 refine ⟨?_, rfl⟩
 rw [h]
 rfl
theorem at_yes {l : List UInt8} {p : Int} {w : World} {s : ByteArray} (h : valO (valsAt 0 l) p = some s) : AtPost l p w (.returned (.tuple #[.string s, .bool true])) w := by
 refine ⟨?_, rfl⟩
 rw [h]
 rfl

set_option maxHeartbeats 2000000 in
set_option maxRecDepth 100000 in
theorem at_any (l : List UInt8) (p : Int) (a : Option Addr) (c : Nat) (w : World) (hA : BytesAt w a l) (h1 : 1 ≤ l.length) (hlc : l.length ≤ c) (hcm : c ≤ maxLen) (hp0 : -9223372036854775808 ≤ p) (hp1 : p ≤ 9223372036854775807) :
 Calls Tryz.prog 128 #[.slice a l.length c, .int .i64 p] w (AtPost l p w) := by
 have hmax := hA.1
 unfold maxLen at hmax hcm
 go_enter Tryz.func128, Tryz.ntmps128
 go_wp2_with fail
 go_loopw [6] (fun i wr => ∃ k : Nat, k ≤ l.length ∧ i = .int .i64 k ∧ wr = w ∧ Hid (valO (valsAt 0 l) p = valO (valsAt k (l.drop k)) p)) (fun i _ => l.length - (intOf i).toNat)
 case atStart => exact ⟨0, Nat.zero_le _, rfl, rfl, rfl⟩
 case round =>
  obtain ⟨k, hk, rfl, rfl, E⟩ := hrel
  by_cases hle : (k : Int) ≤ p
  · obtain ⟨_, hm⟩ := hA
    rcases hm with hm | ⟨b, o, rfl, hbl, hc⟩
    · omega
    have hsz := fun (a' : Option Addr) (c' : Nat) (h : k < l.length → a' = some ⟨b, o + k, none⟩) => size_any (l.drop k) a' c' wr (bytes_drop hc hbl (by unfold maxLen; omega) k a' h)
    have hdl : (l.drop k).length = l.length - k := List.length_drop
    rw [hdl] at hsz
    have k0 : (0 : Int) ≤ (k : Int) := Int.natCast_nonneg _
    have k1 : (k : Int) ≤ (l.length : Int) := by omega
    have k2 : (k : Int) ≤ (c : Int) := by omega
    have hrl := recN_le (l.drop k)
    by_cases hz : recN (l.drop k) = 0
    · have E2 : Hid (valO (valsAt 0 l) p = none) := by unfold Hid; rw [E.out]; exact valO_none k _ p hz
      rw [hz] at hsz
      clear hc E hz hrl
      by_cases hck : c = k
      · go_wp2_with (go_at_call 123; refine (hsz _ _ (fun h => by first | rfl | omega | (simp; omega))).mono ?_; rintro e w1 ⟨rfl, rfl⟩)
        go_ret2
        exact at_no E2.out
      · go_wp2_with (go_at_call 123; refine (hsz _ _ (fun h => by first | rfl | omega | (simp; omega))).mono ?_; rintro e w1 ⟨rfl, rfl⟩)
        go_ret2
        exact at_no E2.out
    · have hr3 := recN_three _ hz
      have hck : ¬ c = k := by omega
      have hzb : ((recN (l.drop k) : Int) == 0) = false := by simp; omega
      by_cases hkp : (k : Int) = p
      · have E2 : Hid (valO (valsAt 0 l) p = some (strB (((l.drop k).take (recN (l.drop k))).drop 3))) := by unfold Hid; rw [E.out, ← hkp]; exact valO_here k _ hz
        have hBk : BytesAt wr (some ⟨b, o + k, none⟩) (l.drop k) := bytes_drop hc hbl (by unfold maxLen; omega) k _ (fun _ => rfl)
        have hBr : BytesAt wr (some ⟨b, o + k, none⟩) ((l.drop k).take (recN (l.drop k))) := bytes_take hBk _ hrl
        have hsl : ((l.drop k).take (recN (l.drop k))).length = recN (l.drop k) := by rw [List.length_take]; omega
        have hBv : ∀ a', (3 < recN (l.drop k) → a' = some ⟨b, o + (k + 3), none⟩) → BytesAt wr a' (((l.drop k).take (recN (l.drop k))).drop 3) := by
         intro a' ha
         obtain ⟨g1, g2⟩ := hBr
         rcases g2 with g2 | ⟨b2, o2, g3, g4, g5⟩
         · omega
         · cases g3
           refine bytes_drop g5 g4 g1 3 a' (fun h => ?_)
           rw [ha (by omega), Nat.add_assoc]
        have hvl : (((l.drop k).take (recN (l.drop k))).drop 3).length = recN (l.drop k) - 3 := by rw [List.length_drop, hsl]
        have cvV := fun (a' : Option Addr) (h : 3 < recN (l.drop k) → a' = some ⟨b, o + (k + 3), none⟩) (c' : Nat) => conv_bytes (hBv a' h) c'
        rw [hvl] at cvV
        have hkpb : ((k : Int) == p) = true := by simp [hkp]
        generalize ((l.drop k).take (recN (l.drop k))).drop 3 = V at *
        generalize recN (l.drop k) = R at *
        have a1 : IntKind.i64.wrap ((k : Int) + 3) = (k : Int) + 3 := by simp only [IntKind.wrap_i64]; omega
        have a2 : IntKind.i64.wrap ((k : Int) + (R : Int)) = (k : Int) + (R : Int) := by simp only [IntKind.wrap_i64]; omega
        have a3 : (0 : Int) ≤ (k : Int) + 3 := by omega
        have a4 : (k : Int) + 3 ≤ (k : Int) + (R : Int) := by omega
        have a5 : (k : Int) + (R : Int) ≤ (c : Int) := by omega
        have a6 : k + R - (k + 3) = R - 3 := by omega
        have a7 : ((k : Int) + (R : Int)).toNat = k + R := by omega
        have a8 : ((k : Int) + 3).toNat = k + 3 := by omega
        clear hc E hz hBk hBr hBv hsl hvl hkp
        by_cases hcc : c = k + 3
        · have cv1 := cvV (some ⟨b, o, none⟩) (fun h => absurd h (by omega)) 0
          subst hcc
          go_wp2_with (go_at_call 123; refine (hsz _ _ (fun h => by first | rfl | omega | (simp; omega))).mono ?_; rintro e w1 ⟨rfl, rfl⟩)
          go_ret2
          exact at_yes E2.out
        · have cv1 := cvV (some ⟨b, o + (k + 3), none⟩) (fun _ => rfl) (c - (k + 3))
          go_wp2_with (go_at_call 123; refine (hsz _ _ (fun h => by first | rfl | omega | (simp; omega))).mono ?_; rintro e w1 ⟨rfl, rfl⟩)
          go_ret2
          exact at_yes E2.out
      · have hdd : (l.drop k).drop (recN (l.drop k)) = l.drop (k + recN (l.drop k)) := by rw [List.drop_drop]
        have E2 : Hid (valO (valsAt 0 l) p = valO (valsAt (k + recN (l.drop k)) (l.drop (k + recN (l.drop k)))) p) := by unfold Hid; rw [E.out, valO_next k _ p hz hkp, hdd]
        have hkpb : ((k : Int) == p) = false := by simp [hkp]
        generalize recN (l.drop k) = R at *
        have a2 : IntKind.i64.wrap ((k : Int) + (R : Int)) = (k : Int) + (R : Int) := by simp only [IntKind.wrap_i64]; omega
        clear hc E hz hkp hdd
        go_wp2_with (go_at_call 123; refine (hsz _ _ (fun h => by first | rfl | omega | (simp; omega))).mono ?_; rintro e w1 ⟨rfl, rfl⟩)
        go_roundw
        case rel => exact ⟨k + R, by omega, by go_num, trivial, E2⟩
        case measure => simp [intOf]; omega
  · have E2 : Hid (valO (valsAt 0 l) p = none) := by unfold Hid; rw [E.out]; exact valO_below k _ p (by omega)
    go_wp2
    go_ret2
    exact at_no E2.out

/- The contracts of record.Find and of flash.Read. -/

/-- Where the page with a number stands; the number of pages: nowhere. -/
def pageI (ps : List PageR) (n : Int) : Nat := ps.findIdx fun p => p.num == n

def idxN (ps : List PageR) (n : Int) : Int := if pageI ps n < ps.length then pageI ps n else -1

set_option maxHeartbeats 400000 in
theorem find1_any (p : PageR) (a : Option Addr) (c B : Nat) (n x : Int) (w : World) (h0 : w.cell? ⟨B, 0, none⟩ = some (.int .i64 n)) (hB : B < w.heap.size) :
 Calls Tryz.prog 127 #[.agg #[.int .i64 p.num, .slice a p.bs.length c], .pointer (some ⟨B, 0, none⟩)] w fun e w' => e = .returned (.bool (p.num == n)) ∧ Below w.heap.size w w' := by
 have hB0 : ∀ o, Below w.heap.size w (w.alloc o) := fun o => (Below.refl _ _).alloc (Nat.le_refl _) _
 go_enter Tryz.func127, Tryz.ntmps127
 go_wp2
 go_ret
 exact ⟨rfl, hB0 _⟩

set_option maxHeartbeats 400000 in
theorem idxp_any (ps : List PageR) (a : Option Addr) (c B : Nat) (n x : Int) (w : World) (hP : PagesAt w a ps) (h0 : w.cell? ⟨B, 0, none⟩ = some (.int .i64 n)) (hB : B < w.heap.size) :
 Calls Tryz.prog 126 #[.slice a ps.length c, .func (.func 127) #[] #[.pointer (some ⟨B, 0, none⟩)]] w fun e w' => e = .returned (.int .i64 (idxN ps n)) ∧ Below w.heap.size w w' := by
 obtain ⟨hn, hmem⟩ := hP
 unfold maxLen at hn
 have EI : Hid (idxN ps n = if pageI ps n < ps.length then (pageI ps n : Int) else -1) := rfl
 generalize idxN ps n = J at *
 go_enter Tryz.func126, Tryz.ntmps126
 go_wp2
 go_loopw [5, 8] (fun _ i wr => ∃ k : Nat, k ≤ ps.length ∧ i = .int .i64 k ∧ Hid (k ≤ pageI ps n) ∧ Below w.heap.size w wr) (fun _ i _ => ps.length - (intOf i).toNat)
 case atStart => exact ⟨0, Nat.zero_le _, rfl, Nat.zero_le _, Below.refl _ _⟩
 case round =>
  obtain ⟨k, hk, rfl, A, hb⟩ := hrel
  by_cases hlt2 : k < ps.length
  · have hltz : (k : Int) < (ps.length : Int) := by omega
    have hk0 : (0 : Int) ≤ (k : Int) := Int.natCast_nonneg _
    rcases hmem with hmem | ⟨b, off, rfl, hlt, hc⟩
    · omega
    obtain ⟨aa, cc, c0, c1, _⟩ := (hc k hlt2).later hlt hb
    have h0r : wr.cell? ⟨B, 0, none⟩ = some (.int .i64 n) := by rw [hb.cell (p := ⟨B, 0, none⟩) hB]; exact h0
    have hgk : ps[k] = ps.getD k default := by rw [List.getD_eq_getElem?_getD, List.getElem?_eq_getElem hlt2]; rfl
    clear hc
    generalize ps.getD k default = y at *
    obtain ⟨num, bs⟩ := y
    have hcall := find1_any ⟨num, bs⟩ aa cc B n x wr h0r (Nat.lt_of_lt_of_le hB hb.size)
    simp only at hcall c0 c1
    cases hq : (num == n) with
    | true =>
     have C : Hid (pageI ps n = k) := by
      show pageI ps n = k
      unfold pageI
      have := List.findIdx_eq hlt2 (p := fun p : PageR => p.num == n)
      refine this.2 ⟨by rw [hgk]; exact hq, fun j hj => ?_⟩
      have := List.not_of_lt_findIdx (p := fun p : PageR => p.num == n) (xs := ps) (i := j) (Nat.lt_of_lt_of_le hj A.out)
      simpa using this
     rw [hq] at hcall
     clear hq hgk
     go_wp2_with (go_at_call 127; refine hcall.mono ?_; rintro e w' ⟨rfl, hb2⟩)
     go_ret
     exact ⟨ret_i64 (by rw [EI.out, C.out, if_pos hlt2]), hb.trans (hb2.mono hb.size)⟩
    | false =>
     have D : Hid (k + 1 ≤ pageI ps n) := by
      show k + 1 ≤ pageI ps n
      rcases Nat.lt_or_ge k (pageI ps n) with h | h
      · exact h
      · have e : pageI ps n = k := Nat.le_antisymm h A.out
        have := List.findIdx_getElem (p := fun p : PageR => p.num == n) (xs := ps) (w := by show pageI ps n < _; omega)
        have e2 : ps[List.findIdx (fun p : PageR => p.num == n) ps]'(by show pageI ps n < _; omega) = ps[k] := by congr 1
        rw [e2, hgk, hq] at this
        cases this
     rw [hq] at hcall
     clear hq hgk
     go_wp2_with (go_at_call 127; refine hcall.mono ?_; rintro e w' ⟨rfl, hb2⟩)
     go_roundw
     case rel => exact ⟨k + 1, by omega, by go_num, D, hb.trans (hb2.mono hb.size)⟩
     case measure => simp [intOf]; omega
  · have hltz : ¬ (k : Int) < (ps.length : Int) := by omega
    have C : Hid (¬ pageI ps n < ps.length) := by have := A.out; show ¬ _; omega
    clear hmem
    go_wp2
    go_ret
    exact ⟨ret_i64 (by rw [EI.out, if_neg C.out]), hb⟩

/-- What a place on pages holds. -/
def findS (ps : List PageR) (n p : Int) : ByteArray := if pageI ps n < ps.length then ((valO (valsAt 0 (ps.getD (pageI ps n) default).bs) p).getD ⟨#[]⟩) else ⟨#[]⟩
def findN (ps : List PageR) (n p : Int) : Int := if pageI ps n < ps.length then (if (valO (valsAt 0 (ps.getD (pageI ps n) default).bs) p).isSome = true then 0 else 2) else 6

theorem ret_tuple {a b : ByteArray} {n m : Int} (h1 : a = b) (h2 : n = m) : Ending.returned (.tuple #[.string a, .int .i64 n]) = .returned (.tuple #[.string b, .int .i64 m]) := by rw [h1, h2]

set_option maxHeartbeats 1000000 in
set_option maxRecDepth 100000 in
theorem find_any (ps : List PageR) (a : Option Addr) (c : Nat) (n p : Int) (w : World) (hP : PagesAt w a ps) (h1 : ∀ j, j < ps.length → 1 ≤ (ps.getD j default).bs.length) (hp0 : -9223372036854775808 ≤ p) (hp1 : p ≤ 9223372036854775807) :
 Calls Tryz.prog 102 #[.slice a ps.length c, .agg #[.int .i64 n, .int .i64 p]] w fun e w' => e = .returned (.tuple #[.string (findS ps n p), .int .i64 (findN ps n p)]) ∧ Below w.heap.size w w' := by
 have hB0 : Below w.heap.size w (w.alloc (.cells #[.int .i64 n, .int .i64 p] 60)) := (Below.refl _ _).alloc (Nat.le_refl _) _
 have hidx := idxp_any ps a c w.heap.size n 0 (w.alloc (.cells #[.int .i64 n, .int .i64 p] 60)) (hP.later hB0) (by simp) (by simp)
 have FS : Hid (findS ps n p = if pageI ps n < ps.length then ((valO (valsAt 0 (ps.getD (pageI ps n) default).bs) p).getD ⟨#[]⟩) else ⟨#[]⟩) := rfl
 have FN : Hid (findN ps n p = if pageI ps n < ps.length then (if (valO (valsAt 0 (ps.getD (pageI ps n) default).bs) p).isSome = true then 0 else 2) else 6) := rfl
 generalize findS ps n p = S at *
 generalize findN ps n p = N at *
 have hmax := hP.1
 unfold maxLen at hmax
 by_cases hi : pageI ps n < ps.length
 · unfold idxN at hidx
   rw [if_pos hi] at hidx
   have FS' : Hid (S = (valO (valsAt 0 (ps.getD (pageI ps n) default).bs) p).getD ⟨#[]⟩) := by have := FS.out; rw [if_pos hi] at this; exact this
   have FN' : Hid (N = if (valO (valsAt 0 (ps.getD (pageI ps n) default).bs) p).isSome = true then 0 else 2) := by have := FN.out; rw [if_pos hi] at this; exact this
   have hl1 := h1 _ hi
   clear FS FN h1
   obtain ⟨_, hm⟩ := hP
   rcases hm with hm | ⟨b, o, rfl, hbl, hc⟩
   · omega
   have hPk := hc _ hi
   clear hc
   generalize pageI ps n = I at *
   generalize ps.getD I default = P at *
   have i0 : (0 : Int) ≤ (I : Int) := Int.natCast_nonneg _
   have i1 : (I : Int) < (ps.length : Int) := by omega
   have i2 : ¬ (I : Int) < 0 := by omega
   go_enter Tryz.func102, Tryz.ntmps102
   go_wp2_with fail
   refine hidx.mono ?_
   rintro e w1 ⟨rfl, hb1⟩
   obtain ⟨q1, q2⟩ := bcell hb1
   have hz1 := bsize hb1
   have hB1 : Below w.heap.size w w1 := hB0.trans (hb1.mono hB0.size)
   obtain ⟨aa, cc, c0, c1, c2, c3, c4⟩ := hPk.later hbl hB1
   have hat := fun w2 (hb : Below w1.heap.size w1 w2) => at_any P.bs p aa cc w2 (c2.later hb) hl1 c3 c4 hp0 hp1
   have k1 : w1.cell? ⟨w.heap.size, 1, none⟩ = some (.int .i64 p) := by rw [q1 _ _ (by simp)]; simp
   clear q1 q2 hidx
   unfold AtPost at hat
   generalize valO (valsAt 0 P.bs) p = V at *
   obtain ⟨num, bs⟩ := P
   simp only at *
   have hdr : Below w1.heap.size w1 w1.drew := (Below.refl _ _).drew
   cases V with
   | none =>
    simp only [Option.getD_none, Option.isSome_none] at *
    go_wp2_with fail
    go_quiet ((go_at_call 128; refine Calls.quiet_of_same (hat _ (drewN_below _ _))))
    go_wp2
    go_ret2
    exact ⟨ret_tuple FS'.out.symm FN'.out.symm, hB1.trans ((drewN_below w1 nq).mono hB1.size)⟩
   | some v =>
    simp only [Option.getD_some, Option.isSome_some] at *
    go_wp2_with fail
    go_quiet ((go_at_call 128; refine Calls.quiet_of_same (hat _ (drewN_below _ _))))
    go_wp2
    go_ret2
    exact ⟨ret_tuple FS'.out.symm FN'.out.symm, hB1.trans ((drewN_below w1 nq).mono hB1.size)⟩
 · unfold idxN at hidx
   rw [if_neg hi] at hidx
   have FS' : Hid (S = ⟨#[]⟩) := by have := FS.out; rw [if_neg hi] at this; exact this
   have FN' : Hid (N = 6) := by have := FN.out; rw [if_neg hi] at this; exact this
   clear FS FN h1
   go_enter Tryz.func102, Tryz.ntmps102
   go_wp2_with (go_at_call 126; refine hidx.mono ?_; rintro e w' ⟨rfl, hb2⟩)
   go_ret2
   exact ⟨ret_tuple FS'.out.symm FN'.out.symm, hB0.trans (hb2.mono hB0.size)⟩

/- The contracts of flash.Read and of dovecoteref.FlashRead: the same answers. -/

theorem pagesF_each : ∀ (ps : List PageR) (f : Int), pagesF f ps = true → ∀ j, j < ps.length → bytesB (ps.getD j default).bs = true
 | [], _, _, j, hj => by simp at hj
 | p :: r, f, h, j, hj => by
  unfold pagesF at h
  simp only [Bool.and_eq_true] at h
  match j, hj with
  | 0, _ => exact h.2.1
  | j + 1, hj => exact pagesF_each r (f + 1) h.2.2 j (by simpa using hj)

theorem may_bytes {m x : Int} {ps : List PageR} (h : mayB m x ps = true) : ∀ j, j < ps.length → 1 ≤ (ps.getD j default).bs.length ∧ (ps.getD j default).bs.length ≤ 256 ∧ recsB (ps.getD j default).bs = true := by
 intro j hj
 unfold mayB pagesB at h
 simp only [Bool.and_eq_true] at h
 have := pagesF_each ps _ h.2.2 j hj
 unfold bytesB at this
 simp only [Bool.and_eq_true, decide_eq_true_eq] at this
 exact ⟨this.1, this.2.1, this.2.2⟩

theorem OwnS.form {W0 w : World} {v : Value} {l : List ByteArray} (h : OwnS W0 w v l) : ∃ a c, v = .slice a l.length c ∧ (l.length = 0 ∨ ∃ g, a = some ⟨g, 0, none⟩ ∧ ∀ j, j < l.length → w.cell? ⟨g, 0 + j, none⟩ = some (.string (l.getD j ByteArray.empty))) := by
 rcases h.1.2 with ⟨h0, h1⟩ | ⟨g, cap, cur, hv, hg, hc, _⟩
 · exact ⟨none, 0, by rw [h0, h1], Or.inl h1⟩
 · refine ⟨some ⟨g, 0, none⟩, cap, hv, Or.inr ⟨g, rfl, fun j hj => ?_⟩⟩
   have := h.1.cells (g := g) (by rw [hv]; rfl) j (.string (l.getD j ByteArray.empty)) (by rw [List.getElem?_map, List.getElem?_eq_getElem hj, List.getD_eq_getElem?_getD, List.getElem?_eq_getElem hj]; rfl)
   rw [WideShapes.add_plain] at this
   exact this
theorem OwnI.form {W0 w : World} {v : Value} {l : List Int} (h : OwnI W0 w v l) : ∃ a c, v = .slice a l.length c ∧ (l.length = 0 ∨ ∃ g, a = some ⟨g, 0, none⟩ ∧ ∀ j, j < l.length → w.cell? ⟨g, 0 + j, none⟩ = some (.int .i64 (l.getD j 0))) := by
 rcases h.1.2 with ⟨h0, h1⟩ | ⟨g, cap, cur, hv, hg, hc, _⟩
 · exact ⟨none, 0, by rw [h0, h1], Or.inl h1⟩
 · refine ⟨some ⟨g, 0, none⟩, cap, hv, Or.inr ⟨g, rfl, fun j hj => ?_⟩⟩
   have := h.1.cells (g := g) (by rw [hv]; rfl) j (.int .i64 (l.getD j 0)) (by rw [List.getElem?_map, List.getElem?_eq_getElem hj, List.getD_eq_getElem?_getD, List.getElem?_eq_getElem hj]; rfl)
   rw [WideShapes.add_plain] at this
   exact this

/- What flash.Append does, over plain lists; the laws of its walk. -/

/-- Bytes behind those of the last page. -/
def lastP : List PageR → List UInt8 → List PageR
 | [], _ => []
 | [p], R => [⟨p.num, p.bs ++ R⟩]
 | p :: q :: r, R => p :: lastP (q :: r) R
theorem lastP_snoc : ∀ (l : List PageR) (p : PageR) (R : List UInt8), lastP (l ++ [p]) R = l ++ [⟨p.num, p.bs ++ R⟩]
 | [], p, R => rfl
 | [q], p, R => rfl
 | q :: q2 :: r, p, R => by
  show q :: lastP (q2 :: r ++ [p]) R = _
  rw [lastP_snoc (q2 :: r) p R]
  rfl
/-- What an append gives: the pages, the next number, the place, which page had to go. -/
structure AppR where
 pages : List PageR
 fx : Int
 page : Int
 at_ : Int
 gone : Int
def appF (m x : Int) (ps : List PageR) (R : List UInt8) : AppR :=
 let r := roomP m x ps R.length
 ⟨lastP r.1 R, r.2.1, (r.1.getLastD default).num, (r.1.getLastD default).bs.length, r.2.2⟩

theorem recOf_len (l : List UInt8) : (recOf l).length = 3 + l.length := by unfold recOf; simp; omega

/-- 'append(p.Bytes, rec...)' in a plain region. -/
theorem append_bytesO {ops : Array Oper} {rest : List Oper} {o : Oper} {a : Act} {Q : Exit → Act → World → Prop} (w : World) (hgd : o.guard = none) (s x : Operand)
 (ho : o.op = .call { callee := .builtin .append, args := #[s, x], argTypes := #[95, 95] }) (num : Int) (bs : List UInt8) (v : Value) (hs : a.eval s = v) (hq : OwnBy 0 w (⟨num, bs⟩, v)) (R : List UInt8) (b off c : Nat) (hx : a.eval x = .slice (some ⟨b, off, none⟩) R.length c)
 (hR : BytesAt w (some ⟨b, off, none⟩) R) (hp : 0 < R.length) (hsz : bs.length + R.length ≤ 1000000)
 (h : ∀ g cap w', OwnBy 0 w' (⟨num, bs ++ R⟩, .slice (some ⟨g, 0, none⟩) (bs.length + R.length) cap) → w.grownBy w' v.ownBlock → (v.ownBlock = some g ∨ g = w.heap.size) → wpList Tryz.prog ops Q rest (a.put o.dst (.slice (some ⟨g, 0, none⟩) (bs.length + R.length) cap)) w') : wpList Tryz.prog ops Q (o :: rest) a w := by
 obtain ⟨i0, hi, hz0, hz1, hz2⟩ := info_parts infoByte
 refine wpList_append_lies w hgd s x 95 ho 0 5 i0 _ 1 1 Tryz.underlying95 hi hz0 hz1 hz2 rfl (by omega) v bs.length (byteVs bs) hs hq ⟨b, off, none⟩ R.length c (byteVs R) hx (by simp [byteVs]) ?_ ?_ hp (by unfold maxLen; omega) (by omega) (Nat.zero_le _) w.heap.size rfl ?_
 · intro j u hj
   unfold byteVs at hj
   rw [List.getElem?_map, Option.map_eq_some_iff] at hj
   obtain ⟨y, hy, rfl⟩ := hj
   obtain ⟨hjl, hje⟩ := List.getElem?_eq_some_iff.1 hy
   rcases hR.2 with h0 | ⟨b2, o2, hb2, _, hc⟩
   · omega
   cases hb2
   rw [WideShapes.add_plain, hc j hjl, List.getD_eq_getElem?_getD, hy]
   rfl
 · intro u hu
   unfold byteVs at hu
   obtain ⟨y, _, rfl⟩ := List.mem_map.1 hu
   rfl
 intro g cap w' h2 h3 h4 h5
 refine h g cap w' ?_ h3 h4
 unfold OwnBy
 simp only
 rw [List.length_append]
 have e : byteVs (bs ++ R) = byteVs bs ++ byteVs R := by unfold byteVs; rw [List.map_append]
 rw [e]
 exact h2

theorem flat_set : ∀ (l : List (PageR × Value)) (q : PageR × Value) (bs : List UInt8) (u : Value), ((l ++ [q]).flatMap pgCells).set (l.length * 2 + 1) u = (l ++ [((⟨q.1.num, bs⟩ : PageR), u)]).flatMap pgCells
 | [], q, bs, u => rfl
 | p :: r, q, bs, u => by
  have ih := flat_set r q bs u
  rw [List.cons_append, List.flatMap_cons, List.cons_append, List.flatMap_cons, List.length_cons, ← ih]
  show (Value.int .i64 p.1.num :: p.2 :: _).set ((r.length + 1) * 2 + 1) u = _
  rw [show (r.length + 1) * 2 + 1 = r.length * 2 + 1 + 1 + 1 by omega]
  rfl

/-- The last page with other bytes. -/
theorem PgO.last {O O' : Nat → Prop} {w w' : World} {l : List (PageR × Value)} {q : PageR × Value} {gr cp g n cap : Nat} {bs : List UInt8} (h : PgO O w (.slice (some ⟨gr, 0, none⟩) (l.length + 1) cp) (l ++ [q])) (hown : OwnBy 0 w' (⟨q.1.num, bs⟩, .slice (some ⟨g, 0, none⟩) n cap)) (hgr : w.grownBy w' q.2.ownBlock) (hat : q.2.ownBlock = some g ∨ g = w.heap.size)
 (ho : ∀ b, O b → O' b) (hg : O' g) : PgO O' (w'.setCell ⟨gr, l.length * 2 + 1, none⟩ (.slice (some ⟨g, 0, none⟩) n cap)) (.slice (some ⟨gr, 0, none⟩) (l.length + 1) cp) (l ++ [((⟨q.1.num, bs⟩ : PageR), .slice (some ⟨g, 0, none⟩) n cap)]) := by
 obtain ⟨⟨h1, h2, h3, h4⟩, h5, h6⟩ := h
 have hqm : q ∈ l ++ [q] := by simp
 have hgw : gr < w.heap.size := (World.ownsRow.lt h1 gr rfl).2
 have hne : ∀ x ∈ l ++ [q], ∀ b, x.2.ownBlock = some b → b ≠ gr := fun x hx b hb e => h3 x hx b hb (by rw [e]; rfl)
 have hgg : g ≠ gr := by
  rcases hat with e | e
  · exact hne q hqm g e
  · omega
 have hr1 : w'.ownsRow 0 119 2 (.slice (some ⟨gr, 0, none⟩) (l.length + 1) cp) (l.length + 1) ((l ++ [q]).flatMap pgCells) := by
  have := World.ownsRow.kept h1 hgr (Or.inr (fun e => hne q hqm gr e.symm rfl))
  rw [List.length_append] at this
  exact this
 have hr2 := (hr1.stored (l.length * 2 + 1) (.slice (some ⟨g, 0, none⟩) n cap)).1
 rw [flat_set l q bs] at hr2
 have hpw := List.pairwise_append.1 h4
 have hset : ∀ x : PageR × Value, OwnBy 0 w' x → (∀ b, x.2.ownBlock = some b → b ≠ gr) → OwnBy 0 (w'.setCell ⟨gr, l.length * 2 + 1, none⟩ (.slice (some ⟨g, 0, none⟩) n cap)) x := fun x hx hb => hx.kept fun b hb' _ => heap_setCell_other w' ⟨gr, l.length * 2 + 1, none⟩ b _ (hb b hb')
 have hold : ∀ x ∈ l, OwnBy 0 w' x := fun x hx => (h2 x (by simp [hx])).kept fun b hb hl => hgr.block b hl (fun e => hpw.2.2 x hx q (by simp) b hb e.symm)
 refine ⟨⟨by rw [List.length_append]; exact hr2, fun x hx => ?_, fun x hx b hb e => ?_, ?_⟩, fun b hb => ho b (h5 b hb), fun x hx b hb => ?_⟩
 · rcases List.mem_append.1 hx with hx | hx
   · exact hset x (hold x hx) (hne x (by simp [hx]))
   · simp at hx; subst hx
     exact hset _ hown (fun b hb => by have e : g = b := by simpa [Value.ownBlock] using hb
                                       omega)
 · have e' : gr = b := by simpa [Value.ownBlock] using e
   rcases List.mem_append.1 hx with hx | hx
   · exact hne x (by simp [hx]) b hb e'.symm
   · simp at hx; subst hx
     have e2 : g = b := by simpa [Value.ownBlock] using hb
     omega
 · rw [List.pairwise_append]
   refine ⟨hpw.1, List.pairwise_singleton _ _, fun x hx y hy b hb e => ?_⟩
   simp at hy
   subst hy
   have e2 : g = b := by simpa [Value.ownBlock] using e
   subst e2
   rcases hat with e3 | e3
   · exact hpw.2.2 x hx q (by simp) g hb e3
   · have := ((h2 x (by simp [hx])).lt g hb).2
     omega
 · rcases List.mem_append.1 hx with hx | hx
   · exact ho b (h6 x (by simp [hx]) b hb)
   · simp at hx; subst hx
     have e2 : g = b := by simpa [Value.ownBlock] using hb
     exact e2 ▸ hg

/- Plain facts of records, pages and flash. -/

theorem recOf_zero (v r : List UInt8) (h : v.length ≤ 200) : ((recOf v ++ r).getD 0 0).toNat = v.length := by
 unfold recOf
 simp [Nat.mod_eq_of_lt (show v.length < 256 by omega)]
theorem recN_rec (v r : List UInt8) (h : v.length ≤ 200) : recN (recOf v ++ r) = 3 + v.length := by
 have h0 := recOf_zero v r h
 have hl : (recOf v ++ r).length = 3 + v.length + r.length := by rw [List.length_append, recOf_len]
 unfold recN
 rw [h0, hl, if_neg (by omega)]
theorem sumOk_rec (v : List UInt8) : sumOk (recOf v) = true := by
 obtain ⟨h1, h2⟩ := sumF_range v 7 (by omega) (by omega)
 unfold sumOk recOf
 simp only [List.drop_succ_cons, List.drop_zero, List.getD_cons_succ, List.getD_cons_zero, decide_eq_true_eq]
 generalize sumF v 7 = s at *
 have a1 : (s / 256).toNat < 256 := by omega
 have a2 : (s % 256).toNat < 256 := by omega
 rw [UInt8.toNat_ofNat', UInt8.toNat_ofNat', Nat.mod_eq_of_lt (by omega), Nat.mod_eq_of_lt (by omega)]
 omega
theorem recN_app {l r : List UInt8} (h : recN l ≠ 0) : recN (l ++ r) = recN l := by
 unfold recN at *
 split at h
 · exact absurd rfl h
 · next h1 =>
   have h0 : (l ++ r).getD 0 0 = l.getD 0 0 := by rw [List.getD_eq_getElem?_getD, List.getD_eq_getElem?_getD, List.getElem?_append_left (by omega)]
   rw [h0, if_neg h1, if_neg (by rw [List.length_append]; omega)]

theorem recsB_app (v : List UInt8) (hv : v.length ≤ 200) : ∀ (n : Nat) (l : List UInt8), l.length ≤ n → recsB l = true → recsB (l ++ recOf v) = true := by
 intro n
 induction n with
 | zero =>
  intro l hl h
  have e : l = [] := List.length_eq_zero_iff.1 (by omega)
  subst e
  rw [List.nil_append]
  have hr := recN_rec v [] hv
  rw [List.append_nil] at hr
  rw [recsB_step _ (by rw [recOf_len]; omega), hr, if_neg (by omega), List.take_of_length_le (by rw [recOf_len]; omega), sumOk_rec, List.drop_of_length_le (by rw [recOf_len]; omega), recsB_nil _ rfl]
  rfl
 | succ n ih =>
  intro l hl h
  by_cases h0 : l.length = 0
  · exact ih l (by omega) h
  · rw [recsB_step l h0] at h
    by_cases h1 : recN l = 0
    · rw [if_pos h1] at h; cases h
    · rw [if_neg h1, Bool.and_eq_true] at h
      have hle := recN_le l
      rw [recsB_step _ (by rw [List.length_append]; omega), recN_app h1, if_neg h1, List.take_append_of_le_length hle, List.drop_append_of_le_length hle, h.1, ih _ (by rw [List.length_drop]; omega) h.2]
      rfl
theorem valsAt_app (v : List UInt8) (hv : v.length ≤ 200) : ∀ (n : Nat) (l : List UInt8) (k : Nat), l.length ≤ n → recsB l = true → valsAt k (l ++ recOf v) = valsAt k l ++ [(((k + l.length : Nat) : Int), strB v)] := by
 intro n
 induction n with
 | zero =>
  intro l k hl h
  have e : l = [] := List.length_eq_zero_iff.1 (by omega)
  subst e
  rw [List.nil_append]
  have hr := recN_rec v [] hv
  rw [List.append_nil] at hr
  have e1 : valsAt k ([] : List UInt8) = [] := valsAt_none k [] (recN_nil [] rfl)
  rw [valsAt_step _ _ (by rw [hr]; omega), hr, List.take_of_length_le (l := recOf v) (by rw [recOf_len]; omega), List.drop_of_length_le (i := 3 + v.length) (l := recOf v) (by rw [recOf_len]; omega), valsAt_none _ [] (recN_nil [] rfl), e1]
  rfl
 | succ n ih =>
  intro l k hl h
  by_cases h0 : l.length = 0
  · exact ih l k (by omega) h
  · rw [recsB_step l h0] at h
    by_cases h1 : recN l = 0
    · rw [if_pos h1] at h; cases h
    · rw [if_neg h1, Bool.and_eq_true] at h
      have hle := recN_le l
      have hr : recN (l ++ recOf v) ≠ 0 := by rw [recN_app h1]; exact h1
      rw [valsAt_step _ _ hr, valsAt_step k l h1, recN_app h1, List.take_append_of_le_length hle, List.drop_append_of_le_length hle, ih _ _ (by rw [List.length_drop]; omega) h.2, List.cons_append]
      congr 5
      rw [List.length_drop]
      omega
theorem valsAt_lt : ∀ (n : Nat) (l : List UInt8) (k : Nat), l.length ≤ n → ∀ x ∈ valsAt k l, (k : Int) ≤ x.1 ∧ x.1 < ((k + l.length : Nat) : Int) := by
 intro n
 induction n with
 | zero =>
  intro l k hl x hx
  rw [valsAt_none k l (recN_nil l (by omega))] at hx
  cases hx
 | succ n ih =>
  intro l k hl x hx
  by_cases h1 : recN l = 0
  · rw [valsAt_none k l h1] at hx; cases hx
  · rw [valsAt_step k l h1] at hx
    have hle := recN_le l
    rcases List.mem_cons.1 hx with rfl | hx
    · exact ⟨Int.le_refl _, by simp; omega⟩
    · have := ih (l.drop (recN l)) (k + recN l) (by rw [List.length_drop]; omega) x hx
      rw [List.length_drop] at this
      omega
/-- The value at a place of a page with a record more. -/
theorem valO_app (l v : List UInt8) (hv : v.length ≤ 200) (h : recsB l = true) (p : Int) : valO (valsAt 0 (l ++ recOf v)) p = if p = l.length then some (strB v) else valO (valsAt 0 l) p := by
 rw [valsAt_app v hv _ l 0 (Nat.le_refl _) h]
 unfold valO
 rw [List.find?_append]
 by_cases hp : p = l.length
 · rw [if_pos hp]
   have hn : (valsAt 0 l).find? (fun x => x.1 == p) = none := by
    rw [List.find?_eq_none]
    intro x hx
    have := (valsAt_lt _ l 0 (Nat.le_refl _) x hx).2
    simp at this ⊢
    omega
   rw [hn]
   simp [hp]
 · rw [if_neg hp]
   have hq : ¬ ((l.length : Int) = p) := fun e => hp e.symm
   cases hf : (valsAt 0 l).find? (fun x => x.1 == p) <;> simp [hq]
theorem valO_range (l : List UInt8) (p : Int) (h : (valO (valsAt 0 l) p).isSome = true) : 0 ≤ p ∧ p < l.length := by
 unfold valO at h
 cases hf : (valsAt 0 l).find? (fun x => x.1 == p) with
 | none => rw [hf] at h; simp at h
 | some x =>
  have h1 := List.mem_of_find?_eq_some hf
  have h2 := List.find?_some hf
  have h3 := valsAt_lt _ l 0 (Nat.le_refl _) x h1
  simp at h2 h3
  omega

end Go.Proofs.YtdblegdgmjakfaaGreatDoor
