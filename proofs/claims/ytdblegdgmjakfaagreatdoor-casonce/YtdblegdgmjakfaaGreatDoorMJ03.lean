/- Parts of the proof. -/
import Derived.Test.YtdblegdgmjakfaaGreatDoorMJ00
import Derived.Test.YtdblegdgmjakfaaGreatDoorMJ02
import Derived.Lib.ConvBytes
import Derived.Deep.RegionHeld3
import Derived.Deep.DeepCutAuto
import Derived.Deep.Onto
namespace Go.Proofs.YtdblegdgmjakfaaGreatDoor
open Go.ChangeShapes Go.WideShapes Go.ChangeAt Go.RowKit
set_option linter.unusedVariables false
set_option linter.unusedSimpArgs false

/- The contract of flash.Check. -/

def boundsB (m x : Int) (n : Nat) : Bool := inB m 0 20 && (inB x 1 1099511627776 && decide ((n : Int) ≤ m))
def pagesF : Int → List PageR → Bool
 | _, [] => true
 | first, p :: r => decide (p.num = first) && (bytesB p.bs && pagesF (first + 1) r)
def pagesB (x : Int) (ps : List PageR) : Bool := decide (1 ≤ x - ps.length) && pagesF (x - ps.length) ps
def mayB (m x : Int) (ps : List PageR) : Bool := boundsB m x ps.length && pagesB x ps

set_option maxHeartbeats 1000000 in
theorem boundsFit_any (m x : Int) (n c : Nat) (a : Option Addr) (w : World) (hn : n ≤ maxLen) :
 Calls Tryz.prog 42 #[.agg #[.int .i64 m, .int .i64 x, .slice a n c]] w fun e w' => e = .returned (.bool (boundsB m x n)) ∧ Below w.heap.size w w' := by
 unfold maxLen at hn
 have hB0 : ∀ o, Below w.heap.size w (w.alloc o) := fun o => (Below.refl _ _).alloc (Nat.le_refl _) _
 have E : Hid (boundsB m x n = (inB m 0 20 && (inB x 1 1099511627776 && decide ((n : Int) ≤ m)))) := rfl
 generalize boundsB m x n = R at *
 by_cases h1 : m < 0
 · have E2 : Hid (R = false) := by unfold Hid; rw [E.out]; unfold inB; simp; omega
   go_enter Tryz.func42, Tryz.ntmps42
   go_wp2
   go_ret
   exact ⟨ret_bool E2.out.symm, hB0 _⟩
 by_cases h2 : 20 < m
 · have E2 : Hid (R = false) := by unfold Hid; rw [E.out]; unfold inB; simp; omega
   go_enter Tryz.func42, Tryz.ntmps42
   go_wp2
   go_ret
   exact ⟨ret_bool E2.out.symm, hB0 _⟩
 by_cases h3 : x < 1
 · have E2 : Hid (R = false) := by unfold Hid; rw [E.out]; unfold inB; simp; omega
   go_enter Tryz.func42, Tryz.ntmps42
   go_wp2
   go_ret
   exact ⟨ret_bool E2.out.symm, hB0 _⟩
 by_cases h4 : 1099511627776 < x
 · have E2 : Hid (R = false) := by unfold Hid; rw [E.out]; unfold inB; simp; omega
   go_enter Tryz.func42, Tryz.ntmps42
   go_wp2
   go_ret
   exact ⟨ret_bool E2.out.symm, hB0 _⟩
 · have E2 : Hid (R = decide ((n : Int) ≤ m)) := by
    unfold Hid
    rw [E.out, show inB m 0 20 = true from by unfold inB; simp; omega, show inB x 1 1099511627776 = true from by unfold inB; simp; omega]
    rfl
   go_enter Tryz.func42, Tryz.ntmps42
   go_wp2
   go_ret
   exact ⟨ret_bool E2.out.symm, hB0 _⟩

theorem pagesF_at (first : Int) (ps : List PageR) (k : Nat) (hk : k < ps.length) : pagesF (first + k) (ps.drop k) = (decide ((ps.getD k default).num = first + k) && (bytesB (ps.getD k default).bs && pagesF (first + (k + 1 : Nat)) (ps.drop (k + 1)))) := by
 rw [List.drop_eq_getElem_cons hk, List.getD_eq_getElem?_getD, List.getElem?_eq_getElem hk]
 simp only [pagesF, Option.getD_some]
 rw [show first + (k : Int) + 1 = first + ((k + 1 : Nat) : Int) by omega]

set_option maxHeartbeats 2000000 in
set_option maxRecDepth 100000 in
theorem pagesFit_any (m x : Int) (ps : List PageR) (a : Option Addr) (c : Nat) (w : World) (hA : PagesAt w a ps) (hx1 : 1 ≤ x) (hx2 : x ≤ 1099511627776) (hl : ps.length ≤ 20) :
 Calls Tryz.prog 43 #[.agg #[.int .i64 m, .int .i64 x, .slice a ps.length c]] w fun e w' => e = .returned (.bool (pagesB x ps)) ∧ Below w.heap.size w w' := by
 have hB0 : ∀ o, Below w.heap.size w (w.alloc o) := fun o => (Below.refl _ _).alloc (Nat.le_refl _) _
 have E : Hid (pagesB x ps = (decide (1 ≤ x - ps.length) && pagesF (x - ps.length) ps)) := rfl
 generalize pagesB x ps = R at *
 by_cases h1 : x - (ps.length : Int) < 1
 · have E2 : Hid (R = false) := by unfold Hid; rw [E.out]; simp; omega
   go_enter Tryz.func43, Tryz.ntmps43
   go_wp2
   go_ret
   exact ⟨ret_bool E2.out.symm, hB0 _⟩
 · have E2 : Hid (R = pagesF (x - ps.length) ps) := by unfold Hid; rw [E.out, decide_eq_true (by omega)]; rfl
   clear E
   obtain ⟨hmax, hm⟩ := hA
   go_enter Tryz.func43, Tryz.ntmps43
   go_wp2_with fail
   go_loopw [17] (fun i wr => ∃ k : Nat, k ≤ ps.length ∧ i = .int .i64 k ∧ Hid (R = pagesF (x - ps.length + k) (ps.drop k)) ∧ Below w.heap.size w wr) (fun i _ => ps.length - (intOf i).toNat)
   case atStart => exact ⟨0, Nat.zero_le _, rfl, by unfold Hid; rw [E2.out]; simp, hB0 _⟩
   case round =>
    obtain ⟨k, hk, rfl, E3, hb⟩ := hrel
    by_cases hlt : k < ps.length
    · have hltz : (k : Int) < (ps.length : Int) := by omega
      have hk0 : (0 : Int) ≤ (k : Int) := Int.natCast_nonneg _
      rcases hm with hm | ⟨b, o, rfl, hbl, hc⟩
      · omega
      obtain ⟨p, q, n1, n2, n3, n4, n5⟩ := (hc k hlt).later hbl hb
      clear hc
      have hst := pagesF_at (x - ps.length) ps k hlt
      generalize ps.getD k default = P at *
      obtain ⟨num, bs⟩ := P
      simp only at *
      have hbf := fun (w1 : World) (hb1 : Below wr.heap.size wr w1) => bytesFit_any bs p q w1 (n3.later hb1) n4 n5
      have hA1 : Below wr.heap.size wr (wr.alloc (.cells #[.int .i64 num, .slice p bs.length q] 119)) := (Below.refl _ _).alloc (Nat.le_refl _) _
      by_cases hnum : num = x - ps.length + k
      · have hg : (num != x - ps.length + k) = false := by simp [hnum]
        rw [decide_eq_true hnum] at hst
        cases hbb : bytesB bs
        · have E4 : Hid (R = false) := by unfold Hid; rw [E3.out, hst, hbb]; rfl
          rw [hbb] at hbf
          clear hst hbb hnum
          go_wp2_with ((go_at_call 67; refine (hbf _ hA1).mono ?_; rintro e w1 ⟨rfl, q1, rfl⟩))
          go_ret
          exact ⟨ret_bool E4.out.symm, (hb.trans (hA1.mono hb.size)).trans ((drewN_below _ _).mono (hb.trans (hA1.mono hb.size)).size)⟩
        · have E4 : Hid (R = pagesF (x - ps.length + (k + 1 : Nat)) (ps.drop (k + 1))) := by unfold Hid; rw [E3.out, hst, hbb]; rfl
          rw [hbb] at hbf
          clear hst hbb hnum
          go_wp2_with ((go_at_call 67; refine (hbf _ hA1).mono ?_; rintro e w1 ⟨rfl, q1, rfl⟩))
          exact ⟨⟨k + 1, by omega, by simp, E4, (hb.trans (hA1.mono hb.size)).trans ((drewN_below _ _).mono (hb.trans (hA1.mono hb.size)).size)⟩, by simp [intOf]; omega⟩
      · have hg : (num != x - ps.length + k) = true := by simp [hnum]
        rw [decide_eq_false hnum] at hst
        have E4 : Hid (R = false) := by unfold Hid; rw [E3.out, hst]; rfl
        clear hst hnum
        go_wp2
        go_ret
        exact ⟨ret_bool E4.out.symm, hb.trans (hA1.mono hb.size)⟩
    · have hltz : ¬ (k : Int) < (ps.length : Int) := by omega
      have hkl : k = ps.length := by omega
      have E4 : Hid (R = true) := by unfold Hid; rw [E3.out, hkl, List.drop_length]; rfl
      go_wp2
      go_ret
      exact ⟨ret_bool E4.out.symm, hb⟩

set_option maxHeartbeats 1000000 in
theorem fcheck_any (m x : Int) (ps : List PageR) (a : Option Addr) (c : Nat) (w : World) (hA : PagesAt w a ps) :
 Calls Tryz.prog 30 #[.agg #[.int .i64 m, .int .i64 x, .slice a ps.length c]] w fun e w' => e = .returned (.int .i64 (if mayB m x ps = true then 0 else 8)) ∧ Below w.heap.size w w' := by
 have hB0 : Below w.heap.size w (w.alloc (.cells #[.int .i64 m, .int .i64 x, .slice a ps.length c] 27)) := (Below.refl _ _).alloc (Nat.le_refl _) _
 have hbo := fun w1 => boundsFit_any m x ps.length c a w1 hA.1
 have E : Hid (mayB m x ps = (boundsB m x ps.length && pagesB x ps)) := rfl
 cases h1 : boundsB m x ps.length
 · have E2 : Hid ((if mayB m x ps = true then (0 : Int) else 8) = 8) := by unfold Hid; rw [E.out, h1]; rfl
   rw [h1] at hbo
   generalize (if mayB m x ps = true then (0 : Int) else 8) = R at *
   go_enter Tryz.func30, Tryz.ntmps30
   go_wp2_with ((go_at_call 42; refine (hbo _).mono ?_; rintro e w1 ⟨rfl, hb1⟩))
   go_ret
   exact ⟨ret_i64 E2.out.symm, hB0.trans (hb1.mono hB0.size)⟩
 · have hbd : (1 ≤ x ∧ x ≤ 1099511627776) ∧ ps.length ≤ 20 := by
    unfold boundsB inB at h1
    simp at h1
    omega
   have hpf := fun (w1 : World) (hb : Below w.heap.size w w1) => pagesFit_any m x ps a c w1 (hA.later hb) hbd.1.1 hbd.1.2 hbd.2
   have E2 : Hid ((if mayB m x ps = true then (0 : Int) else 8) = if pagesB x ps = true then 0 else 8) := by unfold Hid; rw [E.out, h1]; rfl
   rw [h1] at hbo
   generalize (if mayB m x ps = true then (0 : Int) else 8) = R at *
   cases h2 : pagesB x ps
   · rw [h2] at hpf
     have E3 : Hid (R = 8) := by unfold Hid; rw [E2.out, h2]; rfl
     go_enter Tryz.func30, Tryz.ntmps30
     go_wp2_with fail
     refine (hbo _).mono ?_
     rintro e w1 ⟨rfl, hb1⟩
     obtain ⟨p1, p2⟩ := bcell hb1
     have hz := bsize hb1
     have hb01 := hB0.trans (hb1.mono hB0.size)
     go_wp2_with ((go_at_call 43; refine (hpf _ hb01).mono ?_; rintro e w2 ⟨rfl, hb2⟩))
     go_ret
     exact ⟨ret_i64 E3.out.symm, hb01.trans (hb2.mono hb01.size)⟩
   · rw [h2] at hpf
     have E3 : Hid (R = 0) := by unfold Hid; rw [E2.out, h2]; rfl
     go_enter Tryz.func30, Tryz.ntmps30
     go_wp2_with fail
     refine (hbo _).mono ?_
     rintro e w1 ⟨rfl, hb1⟩
     obtain ⟨p1, p2⟩ := bcell hb1
     have hz := bsize hb1
     have hb01 := hB0.trans (hb1.mono hB0.size)
     go_wp2_with ((go_at_call 43; refine (hpf _ hb01).mono ?_; rintro e w2 ⟨rfl, hb2⟩))
     go_ret
     exact ⟨ret_i64 E3.out.symm, hb01.trans (hb2.mono hb01.size)⟩

/- The contract of flash.refused. -/

/-- What is wrong with an append. -/
def refN (m x : Int) (ps : List PageR) (n : Nat) : Int := if mayB m x ps = true then (if 200 < n then 1 else if m = 0 then 7 else if x = 1099511627776 then 7 else 0) else 8

set_option maxHeartbeats 1000000 in
theorem frefused_any (m x : Int) (ps : List PageR) (a : Option Addr) (c : Nat) (s : ByteArray) (w : World) (hA : PagesAt w a ps) (hs : s.size ≤ maxLen) :
 Calls Tryz.prog 161 #[.agg #[.int .i64 m, .int .i64 x, .slice a ps.length c], .string s] w fun e w' => e = .returned (.int .i64 (refN m x ps s.size)) ∧ Below w.heap.size w w' := by
 have hB0 : Below w.heap.size w (w.alloc (.cells #[.int .i64 m, .int .i64 x, .slice a ps.length c] 27)) := (Below.refl _ _).alloc (Nat.le_refl _) _
 have hck := fcheck_any m x ps a c _ (hA.later hB0)
 have hsz : (w.alloc (.cells #[.int .i64 m, .int .i64 x, .slice a ps.length c] 27)).heap.size = w.heap.size + 1 := by simp
 unfold maxLen at hs
 have E : Hid (refN m x ps s.size = if mayB m x ps = true then (if 200 < s.size then 1 else if m = 0 then 7 else if x = 1099511627776 then 7 else 0) else 8) := rfl
 generalize refN m x ps s.size = R at *
 cases hm : mayB m x ps
 · rw [hm] at hck
   have E2 : Hid (R = 8) := by have := E.out; rw [hm] at this; exact this
   simp only [Bool.false_eq_true, if_false] at hck
   clear E hm
   go_enter Tryz.func161, Tryz.ntmps161
   go_wp2_with (go_at_call 30; refine hck.mono ?_; rintro e w1 ⟨rfl, hb1⟩; obtain ⟨p1, p2⟩ := bcell hb1)
   go_ret
   exact ⟨ret_i64 E2.out.symm, hB0.trans (hb1.mono hB0.size)⟩
 · rw [hm] at hck
   simp only [if_true] at hck
   have E1 := E.out
   rw [hm] at E1
   simp only [if_true] at E1
   clear E hm
   by_cases h1 : 200 < s.size
   · have h1z : (200 : Int) < (s.size : Int) := by omega
     have E2 : Hid (R = 1) := by rw [if_pos h1] at E1; exact E1
     clear E1
     go_enter Tryz.func161, Tryz.ntmps161
     go_wp2_with (go_at_call 30; refine hck.mono ?_; rintro e w1 ⟨rfl, hb1⟩; obtain ⟨p1, p2⟩ := bcell hb1)
     go_ret
     exact ⟨ret_i64 E2.out.symm, hB0.trans (hb1.mono hB0.size)⟩
   · have h1z : ¬ (200 : Int) < (s.size : Int) := by omega
     rw [if_neg h1] at E1
     by_cases h2 : m = 0
     · have E2 : Hid (R = 7) := by rw [if_pos h2] at E1; exact E1
       subst h2
       clear E1
       go_enter Tryz.func161, Tryz.ntmps161
       go_wp2_with (go_at_call 30; refine hck.mono ?_; rintro e w1 ⟨rfl, hb1⟩; obtain ⟨p1, p2⟩ := bcell hb1; have hy := hb1.size)
       go_ret
       exact ⟨ret_i64 E2.out.symm, hB0.trans (hb1.mono hB0.size)⟩
     · rw [if_neg h2] at E1
       have q2 : (m == 0) = false := by simpa using h2
       by_cases h3 : x = 1099511627776
       · have E2 : Hid (R = 7) := by rw [if_pos h3] at E1; exact E1
         subst h3
         clear E1
         go_enter Tryz.func161, Tryz.ntmps161
         go_wp2_with (go_at_call 30; refine hck.mono ?_; rintro e w1 ⟨rfl, hb1⟩; obtain ⟨p1, p2⟩ := bcell hb1; have hy := hb1.size)
         go_ret
         exact ⟨ret_i64 E2.out.symm, hB0.trans (hb1.mono hB0.size)⟩
       · have E2 : Hid (R = 0) := by rw [if_neg h3] at E1; exact E1
         have q3 : (x == 1099511627776) = false := by simpa using h3
         clear E1
         go_enter Tryz.func161, Tryz.ntmps161
         go_wp2_with (go_at_call 30; refine hck.mono ?_; rintro e w1 ⟨rfl, hb1⟩; obtain ⟨p1, p2⟩ := bcell hb1; have hy := hb1.size)
         go_ret
         exact ⟨ret_i64 E2.out.symm, hB0.trans (hb1.mono hB0.size)⟩

/- The bytes of a text that is converted. -/

/-- The bytes of '[]byte(s)'. -/
theorem bytes_of (w : World) (s : List UInt8) (hs : s.length ≤ maxLen) : BytesAt (Lib.bytesWorld w 5 (strB s)) (some ⟨w.heap.size, 0, none⟩) s ∧ s.length ≤ grownCap w s.length 0 5 ∧ grownCap w s.length 0 5 ≤ maxLen := by
 refine ⟨⟨hs, Or.inr ⟨w.heap.size, 0, rfl, by rw [Lib.bytesWorld_size]; omega, fun j hj => ?_⟩⟩, grownCap_ge w s.length 0 5, grownCap_le_maxLen w s.length 0 5 hs⟩
 rw [Nat.zero_add, Lib.bytesWorld_cell w 5 (strB s) j (by exact hj)]
 rfl
theorem bytes_below (w : World) (s : ByteArray) : Below w.heap.size w (Lib.bytesWorld w 5 s) := ⟨rfl, rfl, rfl, by rw [Lib.bytesWorld_size]; omega, fun k hk => Lib.bytesWorld_at_old w 5 s k hk⟩

/- The contract of record.Of. -/

set_option maxHeartbeats 1000000 in
theorem recOf_any (s : ByteArray) (w : World) (hs : s.size ≤ 200) :
 Calls Tryz.prog 162 #[.string s] w fun e w' => BytesPost (recOf s.data.toList) w e w' := by
 obtain ⟨s0, s1⟩ := sumF_range s.data.toList 7 (by decide) (by decide)
 have hR : recOf s.data.toList = [UInt8.ofNat s.size, UInt8.ofNat (sumF s.data.toList 7 / 256).toNat, UInt8.ofNat (sumF s.data.toList 7 % 256).toNat] ++ s.data.toList := rfl
 have hlen : s.data.toList.length = s.size := rfl
 have hst : strB s.data.toList = s := rfl
 have hB := (bytes_of w s.data.toList (by unfold maxLen; omega)).1
 have hb1 := bytes_below w (strB s.data.toList)
 have kc : (convert 9 95 (.string s)).run Tryz.prog w = .ok (.slice (some ⟨w.heap.size, 0, none⟩) s.size (grownCap w s.size 0 5)) (Lib.bytesWorld w 5 s) := Lib.run_convert_string_bytes (P := Tryz.prog) w 9 95 5 s Tryz.underlying9 Tryz.underlying95 Tryz.underlying5
 rw [hst] at hB hb1
 have hsm := sum_any s.data.toList (some ⟨w.heap.size, 0, none⟩) (grownCap w s.size 0 5) (Lib.bytesWorld w 5 s) hB
 rw [hlen] at hsm
 generalize Lib.bytesWorld w 5 s = w1 at *
 generalize grownCap w s.size 0 5 = cap0 at *
 generalize recOf s.data.toList = R at *
 generalize sumF s.data.toList 7 = S at *
 have hO := fun w1 => own_new w1 [UInt8.ofNat s.size, UInt8.ofNat (S / 256).toNat, UInt8.ofNat (S % 256).toNat] (by show 3 ≤ 1000; omega)
 simp only [List.map_cons, List.map_nil, u8_nat s.size (by omega), u8_nat (S / 256).toNat (by omega), u8_nat (S % 256).toNat (by omega)] at hO
 rw [show (((S / 256).toNat : Nat) : Int) = S / 256 by omega, show (((S % 256).toNat : Nat) : Int) = S % 256 by omega] at hO
 have h3 : [UInt8.ofNat s.size, UInt8.ofNat (S / 256).toNat, UInt8.ofNat (S % 256).toNat].length = 3 := rfl
 have hl3 : ([UInt8.ofNat s.size, UInt8.ofNat (S / 256).toNat, UInt8.ofNat (S % 256).toNat] ++ s.data.toList).length = 3 + s.size := by rw [List.length_append, h3]; rfl
 generalize [UInt8.ofNat s.size, UInt8.ofNat (S / 256).toNat, UInt8.ofNat (S % 256).toNat] = H at *
 rw [h3] at hO
 have e1 : IntKind.u8.wrap (s.size : Int) = (s.size : Int) := by simp only [IntKind.wrap_u8]; omega
 have e2 : IntKind.u8.wrap (S / 256) = S / 256 := by simp only [IntKind.wrap_u8]; omega
 have e3 : IntKind.u8.wrap S = S % 256 := by simp only [IntKind.wrap_u8]
 go_enter Tryz.func162, Tryz.ntmps162
 go_wp2_with (first | (go_at_call 138; refine hsm.mono ?_; rintro e w1 ⟨rfl, rfl⟩) | (at_builtin; refine append_text _ rfl (.tmp 15) (.tmp 16) rfl _ _ H rfl (hO _) (by omega) s rfl (by omega) ?_; intro g2 cap2 w2 hW2))
 go_ret
 subst hR
 obtain ⟨g3, cap3, e3, hge, hB3, _⟩ := hW2.form (by omega)
 cases e3
 exact ⟨g2, cap2, by rw [hl3]; rfl, hB3, Nat.le_trans hb1.size hge, hb1.trans (hW2.2.mono hb1.size)⟩

/- The contract of flash.Copy once more: rows of the call's own. -/

def CopyPg (m x : Int) (ps : List PageR) (w : World) (e : Ending) (w' : World) : Prop := ∃ v l, e = .returned (.agg #[.int .i64 m, .int .i64 x, v]) ∧ l.map (·.1) = ps ∧ PgOwn w.heap.size w' v l ∧ Below w.heap.size w w'

/-- The first k pages of the row that is made, in its block H. -/
def CopQ' (ps : List PageR) (W : World) (H k : Nat) (wr : World) (cur : Array Value) (l : List (PageR × Value)) : Prop := l.map (·.1) = ps.take k ∧ cur.toList.take (k * 2) = l.flatMap pgCells ∧ (∀ x ∈ l, OwnBy (H + 1) wr x) ∧ l.Pairwise fun x y => ∀ g, x.2.ownBlock = some g → y.2.ownBlock ≠ some g
def CopQ (ps : List PageR) (W : World) (H k : Nat) (wr : World) : Prop :=
 ∃ cur l, wr.heap[H]? = some (.cells cur 119 (0, 0)) ∧ cur.size = ps.length * 2 ∧ Below H W wr ∧ CopQ' ps W H k wr cur l

theorem take_two (l : List Value) (k : Nat) (h : k + 2 ≤ l.length) (a b : Value) : ((l.set k a).set (k + 1) b).take (k + 2) = l.take k ++ [a, b] := by
 apply List.ext_getElem?
 intro j
 have hl : (l.take k).length = k := by rw [List.length_take]; omega
 by_cases h1 : j < k
 · rw [List.getElem?_take_of_lt (by omega), List.getElem?_set_ne (by omega), List.getElem?_set_ne (by omega), List.getElem?_append_left (by omega), List.getElem?_take_of_lt h1]
 · rw [List.getElem?_append_right (by omega), hl]
   by_cases h2 : j = k
   · subst h2
     rw [List.getElem?_take_of_lt (by omega), List.getElem?_set_ne (by omega), List.getElem?_set_self (by omega)]
     simp
   · by_cases h3 : j = k + 1
     · subst h3
       rw [List.getElem?_take_of_lt (by omega), List.getElem?_set_self (by simp; omega), show k + 1 - k = 1 by omega]
       rfl
     · rw [List.getElem?_eq_none (by rw [List.length_take]; omega), List.getElem?_eq_none (by simp; omega)]

theorem CopQ.step {ps : List PageR} {W wr w2 : World} {H k : Nat} {v2 : Value} {cur : Array Value} {l : List (PageR × Value)} (hlt : k < ps.length) (hcur : wr.heap[H]? = some (.cells cur 119 (0, 0))) (hcs : cur.size = ps.length * 2) (hb : Below H W wr) (hP : CopQ' ps W H k wr cur l)
 (hw : Below wr.heap.size wr w2) (hHr : H < wr.heap.size) (num : Int) (bs : List UInt8) (hn : ps.getD k default = ⟨num, bs⟩) (hB : OwnBy wr.heap.size w2 (⟨num, bs⟩, v2)) :
 CopQ ps W H (k + 1) ((w2.setCell ⟨H, k * 2, none⟩ (.int .i64 num)).setCell ⟨H, k * 2 + 1, none⟩ v2) := by
 obtain ⟨h1, h2, h3, h4⟩ := hP
 have hc2 : w2.heap[H]? = some (.cells cur 119 (0, 0)) := by rw [hw.block H hHr]; exact hcur
 have hfar : ∀ {x : PageR × Value} {n : Nat} {w : World} (a b : Value), H < n → OwnBy n w x → OwnBy n ((w.setCell ⟨H, k * 2, none⟩ a).setCell ⟨H, k * 2 + 1, none⟩ b) x := by
  intro x n w a b hn hx
  refine hx.kept fun g hg hl => ?_
  have := (hx.lt g hg).1
  rw [heap_setCell_other _ _ _ _ (show g ≠ H by omega), heap_setCell_other _ _ _ _ (show g ≠ H by omega)]
 refine ⟨(cur.setIfInBounds (k * 2) _).setIfInBounds (k * 2 + 1) _, l ++ [(⟨num, bs⟩, v2)], heap_setCell_same _ H _ _ 119 _ (heap_setCell_same _ H _ _ 119 _ hc2), by simp [hcs], ((hb.trans (hw.mono (by omega))).setCell (Nat.le_refl _) _).setCell (Nat.le_refl _) _, ?_, ?_, ?_, ?_⟩
 · rw [List.map_append, h1, List.take_add_one, List.getElem?_eq_getElem hlt]
   congr 1
   rw [List.getD_eq_getElem?_getD, List.getElem?_eq_getElem hlt] at hn
   simp at hn
   simp [hn]
 · rw [Array.toList_setIfInBounds, Array.toList_setIfInBounds, show (k + 1) * 2 = k * 2 + 2 by omega, take_two _ _ (by rw [Array.length_toList]; omega), h2, List.flatMap_append]
   rfl
 · intro x hx
   rcases List.mem_append.1 hx with hx | hx
   · refine hfar _ _ (by omega) ((h3 x hx).kept fun g hg hl => hw.block g hl)
   · simp at hx
     subst hx
     exact hfar _ _ (by omega) (World.ownsRow.mono hB (by omega))
 · rw [List.pairwise_append]
   refine ⟨h4, List.pairwise_singleton _ _, fun x hx y hy g hg e => ?_⟩
   simp at hy
   subst hy
   have q1 := ((h3 x hx).lt g hg).2
   have q2 := (hB.lt g e).1
   omega

theorem CopQ.later {ps : List PageR} {W w w' : World} {H k : Nat} (h : CopQ ps W H k w) (hH : H < w.heap.size) (hb : Below w.heap.size w w') : CopQ ps W H k w' := by
 obtain ⟨cur, l, h1, h2, h3, h4, h5, h6, h7⟩ := h
 exact ⟨cur, l, by rw [hb.block H hH]; exact h1, h2, h3.trans (hb.mono (by omega)), h4, h5, fun x hx => (h6 x hx).kept fun g hg hl => hb.block g hl, h7⟩

set_option maxHeartbeats 1000000 in
set_option maxRecDepth 100000 in
theorem copy_pg (m x : Int) (ps : List PageR) (a : Option Addr) (c : Nat) (w : World) (hA : PagesAt w a ps) (hn : ps.length * 32 ≤ 140737488351232) (hbs : ∀ j, j < ps.length → (ps.getD j default).bs.length ≤ 140737488351232) :
 Calls Tryz.prog 56 #[.agg #[.int .i64 m, .int .i64 x, .slice a ps.length c]] w (CopyPg m x ps w) := by
 obtain ⟨i0, hi, iz0, iz1, iz2⟩ := info_parts infoPage
 obtain ⟨hmax, hmm⟩ := hA
 unfold maxLen at hmax
 go_enter Tryz.func56, Tryz.ntmps56
 go_wp2_with (refine wpList_make_full _ rfl (.tmp 8) (.tmp 8) 25 rfl w.heap.size 119 i0 (.agg #[.int .i64 0, .slice none 0 0]) 2 Tryz.underlying25 hi iz0 iz1 .i64 .i64 _ _ ps.length rfl rfl rfl rfl (by rw [iz2]; omega) (by unfold maxLen; omega) (by simp; omega) ?_; intro w1 hO hg; obtain ⟨p1, p2⟩ := bcell (made_keeps hg); have hy1 := (made_keeps hg).size; have hy2 : w.heap.size < w1.heap.size := Nat.lt_of_lt_of_le (by simp; omega) hy1; have hy3 : w.heap.size + 1 < w1.heap.size := Nat.lt_of_lt_of_le (by simp) hy1)
 have hK := made_keeps hg
 have hrow : ∃ cur : Array Value, w1.heap[w.heap.size + 1 + 1]? = some (.cells cur 119 (0, 0)) ∧ cur.size = ps.length * 2 := by
  rcases hO.2 with ⟨h0, _⟩ | ⟨g, cap, cur, hv, _, hcur, _, _, hcs, _⟩
  · simp at h0
  · simp at hv
    obtain ⟨rfl, rfl⟩ := hv
    exact ⟨cur, by simpa using hcur, hcs⟩
 have hWb : Below w.heap.size w w1 := (((Below.refl w.heap.size w).alloc (Nat.le_refl _) _).alloc (by simp) _).trans (hK.mono (by simp; omega))
 obtain ⟨cur0, hc0, hs0⟩ := hrow
 have hHlt : w.heap.size + 1 + 1 < w1.heap.size := by
  rcases Nat.lt_or_ge (w.heap.size + 1 + 1) w1.heap.size with h | h
  · exact h
  · rw [Array.getElem?_eq_none h] at hc0; cases hc0
 clear hO hg hK iz0 iz1 iz2 hi
 go_loopw [13] (fun i wr => ∃ k : Nat, k ≤ ps.length ∧ i = .int .i64 k ∧ CopQ ps w1 (w.heap.size + 1 + 1) k wr) (fun i _ => ps.length - (intOf i).toNat)
 case atStart => exact ⟨0, Nat.zero_le _, rfl, cur0, [], hc0, hs0, Below.refl _ _, rfl, rfl, fun x hx => by simp at hx, List.Pairwise.nil⟩
 case round =>
  obtain ⟨k, hk, rfl, cur, hl, hcur, hcs, hb, hP⟩ := hrel
  have hbw : Below w.heap.size w wr := hWb.trans (hb.mono (by omega))
  by_cases hlt : k < ps.length
  · have hltz : (k : Int) < (ps.length : Int) := by omega
    have hk0 : (0 : Int) ≤ (k : Int) := Int.natCast_nonneg _
    rcases hmm with hmm | ⟨b, o, rfl, hbl, hc⟩
    · omega
    obtain ⟨p, q, n1, n2, n3, n4, n5⟩ := (hc k hlt).later hbl hbw
    have hbk := hbs k hlt
    have hl2 : b < wr.heap.size := Nat.lt_of_lt_of_le hbl hbw.size
    have hHr : w.heap.size + 1 + 1 < wr.heap.size := Nat.lt_of_lt_of_le hHlt hb.size
    have r0 : wr.cell? ⟨w.heap.size + 1 + 1, k * 2, none⟩ = some (cur[k * 2]'(by omega)) := by rw [cell_row hcur, Array.getElem?_eq_getElem]
    have r1 : wr.cell? ⟨w.heap.size + 1 + 1, k * 2 + 1, none⟩ = some (cur[k * 2 + 1]'(by omega)) := by rw [cell_row hcur, Array.getElem?_eq_getElem]
    have f0 := frozen_of_row wr (w.heap.size + 1 + 1) (k * 2) cur 119 hcur
    have f1 := frozen_of_row wr (w.heap.size + 1 + 1) (k * 2 + 1) cur 119 hcur
    clear hc
    generalize hPk : ps.getD k default = P at *
    obtain ⟨num, bs⟩ := P
    simp only at *
    have hA1 : Below wr.heap.size wr (wr.alloc (.cells #[.int .i64 num, .slice p bs.length q] 119)) := (Below.refl _ _).alloc (Nat.le_refl _) _
    have hB1 := n3.later hA1
    by_cases hz : bs.length = 0
    · have hbe : bs = [] := List.length_eq_zero_iff.1 hz
      subst hbe
      have hNe : wr.heap.size ≠ w.heap.size + 1 + 1 := by omega
      have hNe' : w.heap.size + 1 + 1 ≠ wr.heap.size := by omega
      simp only [List.length_nil] at n2 n4 hA1 hB1
      have q0 : ∀ v1 v2 : Value, (((wr.setCell ⟨w.heap.size + 1 + 1, k * 2, none⟩ v1).setCell ⟨w.heap.size + 1 + 1, k * 2 + 1, none⟩ v2).alloc (.cells #[.int .i64 num, .slice p 0 q] 119)).drew.cell? ⟨wr.heap.size, 0, none⟩ = some (.int .i64 num) := fun v1 v2 => by
       have h := cell_new2 ((wr.setCell ⟨w.heap.size + 1 + 1, k * 2, none⟩ v1).setCell ⟨w.heap.size + 1 + 1, k * 2 + 1, none⟩ v2) wr.heap.size (by simp [World.setCell]) #[.int .i64 num, .slice p 0 q] 119 0
       exact h
      have q1 : ∀ v1 v2 : Value, (((wr.setCell ⟨w.heap.size + 1 + 1, k * 2, none⟩ v1).setCell ⟨w.heap.size + 1 + 1, k * 2 + 1, none⟩ v2).alloc (.cells #[.int .i64 num, .slice p 0 q] 119)).drew.cell? ⟨wr.heap.size, 1, none⟩ = some (.slice p 0 q) := fun v1 v2 => by
       have h := cell_new2 ((wr.setCell ⟨w.heap.size + 1 + 1, k * 2, none⟩ v1).setCell ⟨w.heap.size + 1 + 1, k * 2 + 1, none⟩ v2) wr.heap.size (by simp [World.setCell]) #[.int .i64 num, .slice p 0 q] 119 1
       exact h
      go_wp2_with fail
      go_region_held3 (fun w' => w'.cell? ⟨wr.heap.size, 0, none⟩ = some (.int .i64 num) ∧ w'.cell? ⟨wr.heap.size, 1, none⟩ = some (.slice p 0 q)) (first | go_keep | exact ⟨q0 _ _, q1 _ _⟩) (refine append_none_step _ (by rfl) _ (.tmp 23) (by rfl) (by rfl) p q (by rfl) ?_)
      have hX : CopQ ps w1 (w.heap.size + 1 + 1) (k + 1) ((((wr.setCell ⟨w.heap.size + 1 + 1, k * 2, none⟩ (.int .i64 num)).setCell ⟨w.heap.size + 1 + 1, k * 2 + 1, none⟩ (.slice none 0 0)).alloc (.cells #[.int .i64 num, .slice p 0 q] 119)).drew) := by
       refine CopQ.later (CopQ.step (v2 := .slice none 0 0) hlt hcur hcs hb hP (Below.refl _ _) hHr num [] hPk (World.ownsRow_nil _ _ _ _)) (by simp [World.setCell]; omega) (((Below.refl _ _).alloc (Nat.le_refl _) _).drew)
      go_wp2_with fail
      exact ⟨⟨k + 1, hlt, by simp, hX⟩, by simp [intOf]; omega⟩
    · have hBd : BytesAt (wr.alloc (.cells #[.int .i64 num, .slice p bs.length q] 119)).drew p bs := hB1.later ((Below.refl _ _).drew)
      have hNe : wr.heap.size ≠ w.heap.size + 1 + 1 := by omega
      have hNe' : w.heap.size + 1 + 1 ≠ wr.heap.size := by omega
      go_wp2_with fail
      go_region_held3 (fun w' => w'.cell? ⟨wr.heap.size, 0, none⟩ = some (.int .i64 num) ∧ w'.cell? ⟨wr.heap.size, 1, none⟩ = some (.slice p bs.length q)) (first | go_keep | exact hSv | exact ⟨by simp [go_sem, hNe, hNe', hSv.1], by simp [go_sem, hNe, hNe', hSv.2]⟩)
       ((refine append_copy_step _ (by rfl) _ (.tmp 23) (by rfl) (by rfl) bs p q (by rfl) hBd (by omega) hbk ?_; intro g2 cap2 w2 hO2 hg2; have hk2 : Below (wr.alloc (.cells #[.int .i64 num, .slice p bs.length q] 119)).heap.size (wr.alloc (.cells #[.int .i64 num, .slice p bs.length q] 119)) w2 := ((Below.refl _ _).drew).trans (made_keeps hg2); obtain ⟨s1, s2⟩ := bcell hk2; have hSv : w2.cell? ⟨wr.heap.size, 0, none⟩ = some (.int .i64 num) ∧ w2.cell? ⟨wr.heap.size, 1, none⟩ = some (.slice p bs.length q) := ⟨by rw [s1 _ _ (by simp)]; simp [go_sem], by rw [s1 _ _ (by simp)]; simp [go_sem]⟩; have t0 : w2.cell? ⟨w.heap.size + 1 + 1, k * 2, none⟩ = some (cur[k * 2]'(by omega)) := (by rw [s1 _ _ (by simp; omega)]; simp [go_sem, hHr, r0]); have t1 : w2.cell? ⟨w.heap.size + 1 + 1, k * 2 + 1, none⟩ = some (cur[k * 2 + 1]'(by omega)) := (by rw [s1 _ _ (by simp; omega)]; simp [go_sem, hHr, r1]); have u0 : w2.frozen? ⟨w.heap.size + 1 + 1, k * 2, none⟩ = false := (by rw [s2 _ _ (by simp; omega)]; simp [go_sem, hHr, f0]); have u1 : w2.frozen? ⟨w.heap.size + 1 + 1, k * 2 + 1, none⟩ = false := (by rw [s2 _ _ (by simp; omega)]; simp [go_sem, hHr, f1]); have hH2 : w.heap.size + 1 + 1 < w2.heap.size := Nat.lt_of_lt_of_le (by simp; omega) hk2.size; have hk2z : (k : Int) < (ps.length : Int) := hltz; have hk20 : (0 : Int) ≤ (k : Int) := hk0))
      have hX : CopQ ps w1 (w.heap.size + 1 + 1) (k + 1) ((w2.setCell ⟨w.heap.size + 1 + 1, k * 2, none⟩ (.int .i64 num)).setCell ⟨w.heap.size + 1 + 1, k * 2 + 1, none⟩ (.slice (some ⟨g2, 0, none⟩) bs.length cap2)) := by
       refine CopQ.step hlt hcur hcs hb hP (hA1.trans (hk2.mono (by simp))) hHr num bs hPk ?_
       exact World.ownsRow.mono hO2.1 (by simp [World.drew])
      clear hO2 hg2 hk2 s1 s2 hSv t0 t1 u0 u1 r0 r1 f0 f1
      go_wp2_with fail
      exact ⟨⟨k + 1, hlt, by simp, hX⟩, by simp [intOf]; omega⟩
  · have hke : k = ps.length := by omega
    have hlt' : ¬ ((k : Int) < (ps.length : Int)) := by omega
    have hHr : w.heap.size + 1 + 1 < wr.heap.size := Nat.lt_of_lt_of_le hHlt hb.size
    have c0 : wr.cell? ⟨w.heap.size, 0, none⟩ = some (.int .i64 m) := by rw [hb.cell (p := ⟨w.heap.size, 0, none⟩) (by simp; omega), p1 _ _ (by simp; omega)]; simp [go_sem]
    have c1 : wr.cell? ⟨w.heap.size, 1, none⟩ = some (.int .i64 x) := by rw [hb.cell (p := ⟨w.heap.size, 1, none⟩) (by simp; omega), p1 _ _ (by simp; omega)]; simp [go_sem]
    have c2 : wr.cell? ⟨w.heap.size, 2, none⟩ = some (.slice a ps.length c) := by rw [hb.cell (p := ⟨w.heap.size, 2, none⟩) (by simp; omega), p1 _ _ (by simp; omega)]; simp [go_sem]
    have d0 : wr.cell? ⟨w.heap.size + 1, 0, none⟩ = some (.int .i64 0) := by rw [hb.cell (p := ⟨w.heap.size + 1, 0, none⟩) (by simp), p1 _ _ (by simp)]; simp [go_sem]
    have d1 : wr.cell? ⟨w.heap.size + 1, 1, none⟩ = some (.int .i64 0) := by rw [hb.cell (p := ⟨w.heap.size + 1, 1, none⟩) (by simp), p1 _ _ (by simp)]; simp [go_sem]
    have d2 : wr.cell? ⟨w.heap.size + 1, 2, none⟩ = some (.slice none 0 0) := by rw [hb.cell (p := ⟨w.heap.size + 1, 2, none⟩) (by simp), p1 _ _ (by simp)]; simp [go_sem]
    have g2 : wr.frozen? ⟨w.heap.size, 2, none⟩ = false := by rw [hb.frozen (p := ⟨w.heap.size, 2, none⟩) (by simp; omega), p2 _ _ (by simp; omega)]; simp [go_sem]
    have h0 : wr.frozen? ⟨w.heap.size + 1, 0, none⟩ = false := by rw [hb.frozen (p := ⟨w.heap.size + 1, 0, none⟩) (by simp), p2 _ _ (by simp)]; simp [go_sem]
    have h1 : wr.frozen? ⟨w.heap.size + 1, 1, none⟩ = false := by rw [hb.frozen (p := ⟨w.heap.size + 1, 1, none⟩) (by simp), p2 _ _ (by simp)]; simp [go_sem]
    have h2 : wr.frozen? ⟨w.heap.size + 1, 2, none⟩ = false := by rw [hb.frozen (p := ⟨w.heap.size + 1, 2, none⟩) (by simp), p2 _ _ (by simp)]; simp [go_sem]
    have hz1 : w.heap.size < wr.heap.size := by omega
    have hz2 : w.heap.size + 1 < wr.heap.size := by omega
    subst hke
    have hlt2 : ¬ ((ps.length : Int) < (ps.length : Int)) := by omega
    clear hlt hlt'
    have hmx : ps.length ≤ maxLen := by unfold maxLen; exact hmax
    go_wp2_with fail
    refine bodyPost_ret (v := .agg #[.int .i64 m, .int .i64 x, .slice (some ⟨w.heap.size + 1 + 1, 0, none⟩) ps.length ps.length]) (by simp [results, Tryz.results56, go_sem, c0, c1, c2, d0, d1, d2, hz1, hz2]) rfl ⟨.slice (some ⟨w.heap.size + 1 + 1, 0, none⟩) ps.length ps.length, hl, rfl, ?_, ?_, ?_⟩
    · rw [hP.1, List.take_length]
    · have hll : hl.length = ps.length := by have := congrArg List.length hP.1; simpa using this
      have hpg : PgOwn (w.heap.size + 1 + 1) wr (.slice (some ⟨w.heap.size + 1 + 1, 0, none⟩) ps.length ps.length) hl := by
       refine ⟨?_, fun x hx => World.ownsRow.mono (hP.2.2.1 x hx) (by omega), fun x hx g hg e => ?_, hP.2.2.2⟩
       · rw [hll]
         exact owns_shorter (Nat.le_refl _) hcur (Nat.le_refl _) hmx hcs (by rw [hP.2.1])
       · have := ((hP.2.2.1 x hx).lt g hg).1
         have e' : w.heap.size + 1 + 1 = g := by simpa [Value.ownBlock] using e
         omega
      exact (hpg.far (by omega)).far (by omega) |>.far (by omega) |>.far (by omega) |>.mono (by omega)
    · exact (((hbw.setCell (Nat.le_refl _) _).setCell (Nat.le_succ _) _).setCell (Nat.le_succ _) _).setCell (Nat.le_succ _) _

/- The values in the bytes of a page, each with the place where it begins. -/

def valsF : Nat → Nat → List UInt8 → List (Int × ByteArray)
 | 0, _, _ => []
 | f + 1, k, m => if recN m = 0 then [] else ((k : Int), strB ((m.take (recN m)).drop 3)) :: valsF f (k + recN m) (m.drop (recN m))
def valsAt (k : Nat) (m : List UInt8) : List (Int × ByteArray) := valsF m.length k m

theorem recN_nil (m : List UInt8) (h : m.length = 0) : recN m = 0 := by
 unfold recN
 rw [if_pos (Or.inl (by omega))]

theorem valsF_more : ∀ (f k : Nat) (m : List UInt8), m.length ≤ f → valsF f k m = valsF (f + 1) k m
 | 0, k, m, h => by
  rw [valsF, valsF, if_pos (recN_nil m (by omega))]
 | f + 1, k, m, h => by
  rw [valsF, valsF]
  by_cases h1 : recN m = 0
  · rw [if_pos h1, if_pos h1]
  · rw [if_neg h1, if_neg h1, valsF_more f _ (m.drop (recN m)) (by rw [List.length_drop]; omega)]
theorem valsF_enough (k : Nat) (m : List UInt8) : ∀ (j : Nat), valsF (m.length + j) k m = valsAt k m
 | 0 => rfl
 | j + 1 => by rw [← valsF_enough k m j]; exact (valsF_more (m.length + j) k m (by omega)).symm
theorem valsAt_none (k : Nat) (m : List UInt8) (h : recN m = 0) : valsAt k m = [] := by
 unfold valsAt
 cases hl : m.length with
 | zero => rfl
 | succ f => rw [valsF, if_pos h]
theorem valsAt_step (k : Nat) (m : List UInt8) (h : recN m ≠ 0) : valsAt k m = ((k : Int), strB ((m.take (recN m)).drop 3)) :: valsAt (k + recN m) (m.drop (recN m)) := by
 have hn : m.length ≠ 0 := fun h0 => h (recN_nil m h0)
 obtain ⟨f, hf⟩ : ∃ f, m.length = f + 1 := ⟨m.length - 1, by omega⟩
 have e : valsAt k m = valsF (f + 1) k m := by unfold valsAt; rw [hf]
 rw [e, valsF, if_neg h]
 congr 1
 obtain ⟨j, hj⟩ : ∃ j, f = (m.drop (recN m)).length + j := ⟨f - (m.drop (recN m)).length, by rw [List.length_drop]; omega⟩
 rw [hj]
 exact valsF_enough _ _ j

theorem valsF_ge : ∀ (f k : Nat) (m : List UInt8), ∀ x ∈ valsF f k m, (k : Int) ≤ x.1
 | 0, _, _, x, hx => by simp [valsF] at hx
 | f + 1, k, m, x, hx => by
  rw [valsF] at hx
  split at hx
  · simp at hx
  · rcases List.mem_cons.1 hx with rfl | hx
    · exact Int.le_refl _
    · have := valsF_ge f _ _ x hx
      omega

/-- The value at a place. -/
def valO (vs : List (Int × ByteArray)) (p : Int) : Option ByteArray := (vs.find? fun x => x.1 == p).map (·.2)

theorem valO_below (k : Nat) (m : List UInt8) (p : Int) (h : p < k) : valO (valsAt k m) p = none := by
 unfold valO
 rw [List.find?_eq_none.2]
 · rfl
 · intro x hx
   have := valsF_ge _ _ _ x hx
   simp
   omega
theorem valO_here (k : Nat) (m : List UInt8) (h : recN m ≠ 0) : valO (valsAt k m) k = some (strB ((m.take (recN m)).drop 3)) := by
 rw [valsAt_step k m h]
 simp [valO]
theorem valO_next (k : Nat) (m : List UInt8) (p : Int) (h : recN m ≠ 0) (hp : (k : Int) ≠ p) : valO (valsAt k m) p = valO (valsAt (k + recN m) (m.drop (recN m))) p := by
 rw [valsAt_step k m h]
 unfold valO
 rw [List.find?_cons_of_neg (by simp [hp])]
theorem valO_none (k : Nat) (m : List UInt8) (p : Int) (h : recN m = 0) : valO (valsAt k m) p = none := by
 rw [valsAt_none k m h]
 rfl
theorem recN_three (m : List UInt8) (h : recN m ≠ 0) : 3 ≤ recN m := by
 unfold recN at h ⊢
 split
 · next h2 => rw [if_pos h2] at h; exact absurd rfl h
 · omega

end Go.Proofs.YtdblegdgmjakfaaGreatDoor
