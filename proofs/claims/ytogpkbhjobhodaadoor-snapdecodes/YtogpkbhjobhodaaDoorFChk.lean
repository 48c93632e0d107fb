/- The contract of flash.Check. -/
import Derived.Test.YtogpkbhjobhodaaDoorFRec
namespace Go.Proofs.YtogpkbhjobhodaaDoor
open Go.ChangeShapes Go.WideShapes Go.ChangeAt Go.RowKit
set_option linter.unusedVariables false
set_option linter.unusedSimpArgs false

def boundsB (m x : Int) (n : Nat) : Bool := inB m 0 20 && (inB x 1 1099511627776 && decide ((n : Int) ≤ m))
def pagesF : Int → List PageR → Bool
  | _, [] => true
  | first, p :: r => decide (p.num = first) && (bytesB p.bs && pagesF (first + 1) r)
def pagesB (x : Int) (ps : List PageR) : Bool := decide (1 ≤ x - ps.length) && pagesF (x - ps.length) ps
def mayB (m x : Int) (ps : List PageR) : Bool := boundsB m x ps.length && pagesB x ps

set_option maxHeartbeats 1000000 in
theorem boundsFit_any (m x : Int) (n c : Nat) (a : Option Addr) (w : World) (hn : n ≤ maxLen) :
    Calls Tryd.prog 39 #[.agg #[.int .i64 m, .int .i64 x, .slice a n c]] w fun e w' => e = .returned (.bool (boundsB m x n)) ∧ Below w.heap.size w w' := by
  unfold maxLen at hn
  have hB0 : ∀ o, Below w.heap.size w (w.alloc o) := fun o => (Below.refl _ _).alloc (Nat.le_refl _) _
  have E : Hid (boundsB m x n = (inB m 0 20 && (inB x 1 1099511627776 && decide ((n : Int) ≤ m)))) := rfl
  generalize boundsB m x n = R at *
  by_cases h1 : m < 0
  · have E2 : Hid (R = false) := by unfold Hid; rw [E.out]; unfold inB; simp; omega
    go_enter Tryd.func39, Tryd.ntmps39
    go_wp2
    go_ret
    exact ⟨ret_bool E2.out.symm, hB0 _⟩
  by_cases h2 : 20 < m
  · have E2 : Hid (R = false) := by unfold Hid; rw [E.out]; unfold inB; simp; omega
    go_enter Tryd.func39, Tryd.ntmps39
    go_wp2
    go_ret
    exact ⟨ret_bool E2.out.symm, hB0 _⟩
  by_cases h3 : x < 1
  · have E2 : Hid (R = false) := by unfold Hid; rw [E.out]; unfold inB; simp; omega
    go_enter Tryd.func39, Tryd.ntmps39
    go_wp2
    go_ret
    exact ⟨ret_bool E2.out.symm, hB0 _⟩
  by_cases h4 : 1099511627776 < x
  · have E2 : Hid (R = false) := by unfold Hid; rw [E.out]; unfold inB; simp; omega
    go_enter Tryd.func39, Tryd.ntmps39
    go_wp2
    go_ret
    exact ⟨ret_bool E2.out.symm, hB0 _⟩
  · have E2 : Hid (R = decide ((n : Int) ≤ m)) := by
      unfold Hid
      rw [E.out, show inB m 0 20 = true from by unfold inB; simp; omega, show inB x 1 1099511627776 = true from by unfold inB; simp; omega]
      rfl
    go_enter Tryd.func39, Tryd.ntmps39
    go_wp2
    go_ret
    exact ⟨ret_bool E2.out.symm, hB0 _⟩

theorem pagesF_at (first : Int) (ps : List PageR) (k : Nat) (hk : k < ps.length) : pagesF (first + k) (ps.drop k) = (decide ((ps.getD k default).num = first + k) && (bytesB (ps.getD k default).bs && pagesF (first + (k + 1 : Nat)) (ps.drop (k + 1)))) := by
  rw [List.drop_eq_getElem_cons hk, List.getD_eq_getElem?_getD, List.getElem?_eq_getElem hk]
  simp only [pagesF, Option.getD_some]
  rw [show first + (k : Int) + 1 = first + ((k + 1 : Nat) : Int) by omega]

set_option maxHeartbeats 2000000 in
set_option maxRecDepth 100000 in
theorem pagesFit_any (m x : Int) (ps : List PageR) (a : Option Addr) (c : Nat) (w : World) (hA : PagesAt w a ps) (hx1 : 1 ≤ x) (hx2 : x ≤ 1099511627776) (hl : ps.length ≤ 20) :
    Calls Tryd.prog 40 #[.agg #[.int .i64 m, .int .i64 x, .slice a ps.length c]] w fun e w' => e = .returned (.bool (pagesB x ps)) ∧ Below w.heap.size w w' := by
  have hB0 : ∀ o, Below w.heap.size w (w.alloc o) := fun o => (Below.refl _ _).alloc (Nat.le_refl _) _
  have E : Hid (pagesB x ps = (decide (1 ≤ x - ps.length) && pagesF (x - ps.length) ps)) := rfl
  generalize pagesB x ps = R at *
  by_cases h1 : x - (ps.length : Int) < 1
  · have E2 : Hid (R = false) := by unfold Hid; rw [E.out]; simp; omega
    go_enter Tryd.func40, Tryd.ntmps40
    go_wp2
    go_ret
    exact ⟨ret_bool E2.out.symm, hB0 _⟩
  · have E2 : Hid (R = pagesF (x - ps.length) ps) := by unfold Hid; rw [E.out, decide_eq_true (by omega)]; rfl
    clear E
    obtain ⟨hmax, hm⟩ := hA
    go_enter Tryd.func40, Tryd.ntmps40
    go_wp2_with fail
    go_loopw [17] (fun i wr => ∃ k : Nat, k ≤ ps.length ∧ i = .int .i64 k ∧ Hid (R = pagesF (x - ps.length + k) (ps.drop k)) ∧ Below w.heap.size w wr) (fun i _ => ps.length - (intOf i).toNat)
    case atStart => exact ⟨0, Nat.zero_le _, rfl, by unfold Hid; rw [E2.out]; simp, hB0 _⟩
    case round =>
      obtain ⟨k, hk, rfl, E3, hb⟩ := hrel
      by_cases hlt : k < ps.length
      · have hltz : (k : Int) < (ps.length : Int) := by omega
        have hk0 : (0 : Int) ≤ (k : Int) := Int.natCast_nonneg _
        rcases hm with hm | ⟨b, o, rfl, hbl, hc⟩
        · omega
        obtain ⟨p, q, n1, n2, n3, n4, n5⟩ := (hc k hlt).later hbl hb
        clear hc
        have hst := pagesF_at (x - ps.length) ps k hlt
        generalize ps.getD k default = P at *
        obtain ⟨num, bs⟩ := P
        simp only at *
        have hbf := fun (w1 : World) (hb1 : Below wr.heap.size wr w1) => bytesFit_any bs p q w1 (n3.later hb1) n4 n5
        have hA1 : Below wr.heap.size wr (wr.alloc (.cells #[.int .i64 num, .slice p bs.length q] 45)) := (Below.refl _ _).alloc (Nat.le_refl _) _
        by_cases hnum : num = x - ps.length + k
        · have hg : (num != x - ps.length + k) = false := by simp [hnum]
          rw [decide_eq_true hnum] at hst
          cases hbb : bytesB bs
          · have E4 : Hid (R = false) := by unfold Hid; rw [E3.out, hst, hbb]; rfl
            rw [hbb] at hbf
            clear hst hbb hnum
            go_wp2_with ((go_at_call 50; refine (hbf _ hA1).mono ?_; rintro e w1 ⟨rfl, q1, rfl⟩))
            go_ret
            exact ⟨ret_bool E4.out.symm, (hb.trans (hA1.mono hb.size)).trans ((drewN_below _ _).mono (hb.trans (hA1.mono hb.size)).size)⟩
          · have E4 : Hid (R = pagesF (x - ps.length + (k + 1 : Nat)) (ps.drop (k + 1))) := by unfold Hid; rw [E3.out, hst, hbb]; rfl
            rw [hbb] at hbf
            clear hst hbb hnum
            go_wp2_with ((go_at_call 50; refine (hbf _ hA1).mono ?_; rintro e w1 ⟨rfl, q1, rfl⟩))
            exact ⟨⟨k + 1, by omega, by simp, E4, (hb.trans (hA1.mono hb.size)).trans ((drewN_below _ _).mono (hb.trans (hA1.mono hb.size)).size)⟩, by simp [intOf]; omega⟩
        · have hg : (num != x - ps.length + k) = true := by simp [hnum]
          rw [decide_eq_false hnum] at hst
          have E4 : Hid (R = false) := by unfold Hid; rw [E3.out, hst]; rfl
          clear hst hnum
          go_wp2
          go_ret
          exact ⟨ret_bool E4.out.symm, hb.trans (hA1.mono hb.size)⟩
      · have hltz : ¬ (k : Int) < (ps.length : Int) := by omega
        have hkl : k = ps.length := by omega
        have E4 : Hid (R = true) := by unfold Hid; rw [E3.out, hkl, List.drop_length]; rfl
        go_wp2
        go_ret
        exact ⟨ret_bool E4.out.symm, hb⟩

set_option maxHeartbeats 1000000 in
theorem fcheck_any (m x : Int) (ps : List PageR) (a : Option Addr) (c : Nat) (w : World) (hA : PagesAt w a ps) :
    Calls Tryd.prog 23 #[.agg #[.int .i64 m, .int .i64 x, .slice a ps.length c]] w fun e w' => e = .returned (.int .i64 (if mayB m x ps = true then 0 else 8)) ∧ Below w.heap.size w w' := by
  have hB0 : Below w.heap.size w (w.alloc (.cells #[.int .i64 m, .int .i64 x, .slice a ps.length c] 27)) := (Below.refl _ _).alloc (Nat.le_refl _) _
  have hbo := fun w1 => boundsFit_any m x ps.length c a w1 hA.1
  have E : Hid (mayB m x ps = (boundsB m x ps.length && pagesB x ps)) := rfl
  cases h1 : boundsB m x ps.length
  · have E2 : Hid ((if mayB m x ps = true then (0 : Int) else 8) = 8) := by unfold Hid; rw [E.out, h1]; rfl
    rw [h1] at hbo
    generalize (if mayB m x ps = true then (0 : Int) else 8) = R at *
    go_enter Tryd.func23, Tryd.ntmps23
    go_wp2_with ((go_at_call 39; refine (hbo _).mono ?_; rintro e w1 ⟨rfl, hb1⟩))
    go_ret
    exact ⟨ret_i64 E2.out.symm, hB0.trans (hb1.mono hB0.size)⟩
  · have hbd : (1 ≤ x ∧ x ≤ 1099511627776) ∧ ps.length ≤ 20 := by
      unfold boundsB inB at h1
      simp at h1
      omega
    have hpf := fun (w1 : World) (hb : Below w.heap.size w w1) => pagesFit_any m x ps a c w1 (hA.later hb) hbd.1.1 hbd.1.2 hbd.2
    have E2 : Hid ((if mayB m x ps = true then (0 : Int) else 8) = if pagesB x ps = true then 0 else 8) := by unfold Hid; rw [E.out, h1]; rfl
    rw [h1] at hbo
    generalize (if mayB m x ps = true then (0 : Int) else 8) = R at *
    cases h2 : pagesB x ps
    · rw [h2] at hpf
      have E3 : Hid (R = 8) := by unfold Hid; rw [E2.out, h2]; rfl
      go_enter Tryd.func23, Tryd.ntmps23
      go_wp2_with fail
      refine (hbo _).mono ?_
      rintro e w1 ⟨rfl, hb1⟩
      obtain ⟨p1, p2⟩ := bcell hb1
      have hz := bsize hb1
      have hb01 := hB0.trans (hb1.mono hB0.size)
      go_wp2_with ((go_at_call 40; refine (hpf _ hb01).mono ?_; rintro e w2 ⟨rfl, hb2⟩))
      go_ret
      exact ⟨ret_i64 E3.out.symm, hb01.trans (hb2.mono hb01.size)⟩
    · rw [h2] at hpf
      have E3 : Hid (R = 0) := by unfold Hid; rw [E2.out, h2]; rfl
      go_enter Tryd.func23, Tryd.ntmps23
      go_wp2_with fail
      refine (hbo _).mono ?_
      rintro e w1 ⟨rfl, hb1⟩
      obtain ⟨p1, p2⟩ := bcell hb1
      have hz := bsize hb1
      have hb01 := hB0.trans (hb1.mono hB0.size)
      go_wp2_with ((go_at_call 40; refine (hpf _ hb01).mono ?_; rintro e w2 ⟨rfl, hb2⟩))
      go_ret
      exact ⟨ret_i64 E3.out.symm, hb01.trans (hb2.mono hb01.size)⟩
end Go.Proofs.YtogpkbhjobhodaaDoor
