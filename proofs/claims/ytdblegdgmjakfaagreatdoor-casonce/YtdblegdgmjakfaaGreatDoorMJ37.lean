/- Parts of the proof. -/
import Derived.Test.YtdblegdgmjakfaaGreatDoorMJ34
import Derived.Test.YtdblegdgmjakfaaGreatDoorMJ29
import Derived.Deep.RegionHeld3
namespace Go.Proofs.YtdblegdgmjakfaaGreatDoor
open Go.ChangeShapes Go.WideShapes Go.ChangeAt Go.RowKit
set_option linter.unusedVariables false
set_option linter.unusedSimpArgs false

/- dovecotekeep.CasOnce. -/

def two : ByteArray := ⟨#[50]⟩
def oneV : ByteArray := ⟨#[49]⟩
/-- What the law says, plain: the number that is still the key's lets one set it, once. -/
def CasPl (s2 s3 : StoreR) (cas m : Int) (s4 : StoreR) (k4 k5 k6 k7 : Int) : Prop :=
 getS s2 mine = s3 ∧ getB s2 mine = true ∧ getH s2 mine = ⟨mine, 0, cas, oneV⟩ ∧ Gd s3 ∧ k4 = 2 ∧ k5 = 4 ∧ k6 = 4 ∧ k7 = 5
theorem cas_pl {s s2 : StoreR} {m : Int} (hg : Gd s2) (hus : s2.uses ≤ 1000) (hc1 : s.cas ≤ 1000) (hk : ∀ it ∈ s2.items, it.key ≠ never) (hP : Put s s2 (newI s mine 0 0 oneV)) (hm : m ≠ s.cas + 1) :
 CasPl s2 (getS s2 mine) (s.cas + 1) m (ansN (getS s2 mine) (setQ 7 mine 0 0 (s.cas + 1) two)).1 (ansN (getS s2 mine) (setQ 7 mine 0 0 (s.cas + 1) two)).2.1 (ansN (ansN (getS s2 mine) (setQ 7 mine 0 0 (s.cas + 1) two)).1 (setQ 7 mine 0 0 (s.cas + 1) two)).2.1 (ansN (getS s2 mine) (setQ 7 mine 0 0 m two)).2.1 (ansN (getS s2 mine) (setQ 7 never 0 0 m two)).2.1 := by
 have hh := hP.has (Or.inl rfl)
 have hkey : (newI s mine 0 0 oneV).key = mine := rfl
 rw [hkey] at hh
 obtain ⟨i, e1, e2, e3, e4, e5, e6⟩ := getB_has hg hh
 have hval : valN s2.pages (newI s mine 0 0 oneV) = oneV := rfl
 rw [hval] at e6
 have hg3 := hg.get mine_key (by omega)
 have h3 := has_ask hh e2 e3
 rw [← e5] at h3
 have hc3 : (getS s2 mine).cas = s.cas + 1 := by rw [e5]; exact hP.cas
 have hcl : classN mine.size (⟨mine, 0, 0, s.cas + 1, s2.uses + 1, oneV, false, 0, 0⟩ : ItemR).value.size = classN mine.size two.size := rfl
 obtain ⟨a1, a2⟩ := cas_ans hg3 (nn := s.cas + 1) (value := two) h3 rfl mine_key (by decide) hcl (by omega) rfl
 have hu3 := uses_get hg mine_key
 have hc0 := (counts_facts hg.parts.1).2.2.1
 have hF : QFit (setQ 7 mine 0 0 (s.cas + 1) two) := setQ_fit ⟨by decide, by decide⟩ mine_key ⟨by decide, by decide⟩ ⟨by decide, by decide⟩ ⟨by have := hP.cas; omega, by omega⟩ (Or.inl rfl) (by decide)
 have hg4 := hg3.next hF (by omega)
 have h4 := a2.has (Or.inl rfl)
 refine ⟨rfl, e4, e6, hg3, a1, cas_other hg4 h4 ?_, cas_other hg3 h3 ?_, ?_⟩
 · show (getS s2 mine).cas + 1 ≠ _
   omega
 · show s.cas + 1 ≠ m
   omega
 · refine (unmet_ans (q := setQ 7 never 0 0 m two) (by show (7 : Int) ≠ 1; decide) (by show (7 : Int) ≠ 12; decide) (by show (7 : Int) ≠ 13; decide) (m := 5) ?_ (by decide)).1
   have hb : getB (getS s2 mine) never = false := getB_not fun it hit => by
    have hi := hit.1
    rw [e5] at hi
    obtain ⟨jt, hj, ek, _⟩ := askS_from s2 i it hi
    exact hk jt hj (ek.trans hit.2.1)
   show unmetN 7 (getB (getS s2 mine) never) = 5
   rw [hb]
   rfl

set_option maxHeartbeats 8000000 in
set_option maxRecDepth 100000 in
theorem cas_once (l : List RawR) (ra : Option Addr) (rc : Nat) (n : Int) (w : World) (hR : RawsAt w ra l) (hok : RawsOk l) (he : -9223372036854775808 ≤ n ∧ n ≤ 9223372036854775807) (hL : LaidC w) (hT : LaidT w) :
 Calls Tryz.prog 7 #[.slice ra l.length rc, .int .i64 n] w fun e w' => e = .returned (.bool true) ∧ Below w.heap.size w w' := by
 have hmin : (min 40 l.length) ≤ 40 := Nat.min_le_left _ _
 have hpl := pl_play (newS_pl (by decide : (0 : Int) ≤ 12) (by decide) (by decide : (0 : Int) ≤ 4) (by decide)) l (min 40 l.length) (by omega) (by omega)
 have hfew := few_play (by decide : (0 : Int) ≤ 12) (by decide) (by decide : (0 : Int) ≤ 4) (by decide) l (min 40 l.length) (by omega) (by omega)
 have hG0 := hpl.gd
 have hu0 := hpl.uses
 have hc0 := hfew.cas
 have hk0 := hfew.keys
 obtain ⟨s, hplay⟩ : ∃ s, play (newS 12 4) l (min 40 l.length) = s := ⟨_, rfl⟩
 rw [hplay] at hG0 hu0 hc0 hk0
 have hG : Gd s := hG0
 have hu : s.uses ≤ 500 := by omega
 have hus : s.uses ≤ 1099511627766 := by omega
 have hc : s.cas ≤ 40 := by omega
 have hcz := (counts_facts hG.parts.1).2.2.1
 have hF2 : QFit (setQ 2 mine 0 0 0 oneV) := setQ_fit ⟨by decide, by decide⟩ mine_key ⟨by decide, by decide⟩ ⟨by decide, by decide⟩ ⟨by decide, by decide⟩ (Or.inr rfl) (by decide)
 have hst0 := set_ans hG (by omega) ((fit_facts hF2).one (by show (2 : Int) ≠ 1; decide) (by show (2 : Int) ≠ 12; decide) (by show (2 : Int) ≠ 13; decide)) (Or.inl rfl) (show unmetN 2 (getB s mine) = 0 from rfl)
 have hG20 := hG.next hF2 hus
 have hu20 := uses_next hG hF2
 have hstp := ansN_stp hG hF2
 have hk20 : ∀ it ∈ (ansN s (setQ 2 mine 0 0 0 oneV)).1.items, it.key ≠ never := fun it hi e => by
  rcases hstp.from_ it hi with ⟨jt, hj, ek, _⟩ | ⟨ek, _⟩
  · have := hk0 jt hj
    rw [ek, e] at this
    exact never_in this
  · have h1 : mine = never := ek.symm.trans e
    have h2 : mine.size = never.size := by rw [h1]
    have h3 : (4 : Nat) = 5 := h2
    omega
 obtain ⟨s2, k2, n2, h2, hA2⟩ : ∃ a b c d, ansN s (setQ 2 mine 0 0 0 oneV) = (a, b, c, d) := ⟨_, _, _, _, rfl⟩
 rw [hA2] at hst0 hG20 hu20 hk20
 have hG2 : Gd s2 := hG20
 have hu2 : s2.uses ≤ s.uses + 10 := hu20
 have hus2 : s2.uses ≤ 1099511627766 := by omega
 have HST : Hid (k2 = 11 ∨ k2 = 2 ∧ Put s s2 (newI s mine 0 (untilN s.clock 0) oneV)) := hst0.symm
 obtain ⟨he0, he1⟩ := he
 obtain ⟨p0, p1⟩ := pickN_range n 9 (by decide)
 obtain ⟨cas, hcasX⟩ : ∃ a, s.cas + 1 = a := ⟨_, rfl⟩
 obtain ⟨m, hmX⟩ : ∃ a, cas + 1 + pickN n 9 = a := ⟨_, rfl⟩
 have hw1 : IntKind.i64.wrap (cas + 1) = cas + 1 := by simp only [IntKind.wrap_i64]; omega
 have hw2 : IntKind.i64.wrap (cas + 1 + pickN n 9) = m := by rw [hmX]; simp only [IntKind.wrap_i64]; omega
 obtain ⟨s3, hS3X⟩ : ∃ a, getS s2 mine = a := ⟨_, rfl⟩
 obtain ⟨s4, k4, n4, h4, hA4⟩ : ∃ a b c d, ansN s3 (setQ 7 mine 0 0 cas two) = (a, b, c, d) := ⟨_, _, _, _, rfl⟩
 obtain ⟨s5, k5, n5, h5, hA5⟩ : ∃ a b c d, ansN s4 (setQ 7 mine 0 0 cas two) = (a, b, c, d) := ⟨_, _, _, _, rfl⟩
 obtain ⟨s6, k6, n6, h6, hA6⟩ : ∃ a b c d, ansN s3 (setQ 7 mine 0 0 m two) = (a, b, c, d) := ⟨_, _, _, _, rfl⟩
 obtain ⟨s7, k7, n7, h7, hA7⟩ : ∃ a b c d, ansN s3 (setQ 7 never 0 0 m two) = (a, b, c, d) := ⟨_, _, _, _, rfl⟩
 have HPL : Hid (Put s s2 (newI s mine 0 (untilN s.clock 0) oneV) → CasPl s2 s3 cas m s4 k4 k5 k6 k7) := by
  intro hP
  have h := cas_pl (m := m) hG2 (by omega) (by omega) hk20 hP (by omega)
  rw [hcasX, hS3X, hA4] at h
  simp only at h
  rw [hA5, hA6, hA7] at h
  exact h
 have hG3 : Gd s3 := by rw [← hS3X]; exact hG2.get mine_key hus2
 have hus3 : s3.uses ≤ 1000 := by rw [← hS3X]; have := uses_get hG2 mine_key; omega
 have hF4 : QFit (setQ 7 mine 0 0 cas two) := setQ_fit ⟨by decide, by decide⟩ mine_key ⟨by decide, by decide⟩ ⟨by decide, by decide⟩ ⟨by omega, by omega⟩ (Or.inl rfl) (by decide)
 have hF6 : QFit (setQ 7 mine 0 0 m two) := setQ_fit ⟨by decide, by decide⟩ mine_key ⟨by decide, by decide⟩ ⟨by decide, by decide⟩ ⟨by omega, by omega⟩ (Or.inl rfl) (by decide)
 have hF7 : QFit (setQ 7 never 0 0 m two) := setQ_fit ⟨by decide, by decide⟩ never_key ⟨by decide, by decide⟩ ⟨by decide, by decide⟩ ⟨by omega, by omega⟩ (Or.inl rfl) (by decide)
 have hG4 : Gd s4 := by have := hG3.next hF4 (by omega); rw [hA4] at this; exact this
 have hus4 : s4.uses ≤ 1099511627766 := by have := uses_next hG3 hF4; rw [hA4] at this; have h : s4.uses ≤ s3.uses + 10 := this; omega
 have husa : s3.uses ≤ 1099511627766 := by omega
 clear hcasX hS3X hst0 hG20 hu20 hk20 hstp hk0 hc0 hu0 hG0 hpl hfew hmX p0 p1
 have hmine : keyB ⟨#[109, 105, 110, 101]⟩ = true := mine_key
 go_enter Tryz.func7, Tryz.ntmps7
 go_wp2_with fail
 refine (played_any l ra rc 12 4 40 _ (hR.later (Below.refl _ _)) hok (by decide) (by decide) (by decide) (by decide) (by decide) (hL.later (Below.refl _ _)) (hT.later (Below.refl _ _))).mono ?_
 rintro e w1 ⟨ia, ic, pa, pc, rv, rfl, hSI, hb1⟩
 have gb1 : Below w.heap.size w w1 := below_thru (Below.refl _ _) hb1
 have gs1 := gb1.size
 have B_1 := below_thru (Below.refl _ _) gb1
 have gw1 := Below.size B_1
 rw [hplay] at *
 unfold storeV
 have Q_1 : Below w1.heap.size w1 (w1.alloc (.cells #[.int .i64 s.clock, .int .i64 s.cas, .int .i64 s.uses, .int .i64 s.most, .int .i64 s.h0, .int .i64 s.h1, .int .i64 s.h2, .int .i64 s.h3, .slice ia s.items.length ic, .int .i64 s.fm, .int .i64 s.fx, .slice pa s.pages.length pc] 29)) := (below_al (Below.refl _ _) _)
 have TS_1x : TB 29 (w1.alloc (.cells #[.int .i64 s.clock, .int .i64 s.cas, .int .i64 s.uses, .int .i64 s.most, .int .i64 s.h0, .int .i64 s.h1, .int .i64 s.h2, .int .i64 s.h3, .slice ia s.items.length ic, .int .i64 s.fm, .int .i64 s.fx, .slice pa s.pages.length pc] 29)) (w1.heap.size) #[.int .i64 s.clock, .int .i64 s.cas, .int .i64 s.uses, .int .i64 s.most, .int .i64 s.h0, .int .i64 s.h1, .int .i64 s.h2, .int .i64 s.h3, .slice ia s.items.length ic, .int .i64 s.fm, .int .i64 s.fx, .slice pa s.pages.length pc] := by
  exact TB.new2 (by first | with_reducible rfl | (simp only [set_size, alloc_size]; done))
 have B_1x := below_thru B_1 Q_1
 have SIs_1x := hSI.later Q_1
 have xS_1x := fun j => TS_1x.cell j
 have zS_1x := fun j => TS_1x.frozen j
 have lS_1x := TS_1x.lt
 go_wp2_with fail
 generalize (w1.alloc (.cells #[.int .i64 s.clock, .int .i64 s.cas, .int .i64 s.uses, .int .i64 s.most, .int .i64 s.h0, .int .i64 s.h1, .int .i64 s.h2, .int .i64 s.h3, .slice ia s.items.length ic, .int .i64 s.fm, .int .i64 s.fx, .slice pa s.pages.length pc] 29)) = v2 at *
 clear xS_1x zS_1x lS_1x
 have mS_2 := TS_1x.lt
 refine (kdo s ia ic pa pc 2 ⟨#[109, 105, 110, 101]⟩ 0 0 0 ⟨#[49]⟩ _ hA2 SIs_1x hG hF2 hus (hL.later B_1x) (hT.later B_1x)).mono ?_
 rintro e w2 ⟨ia2, ic2, pa2, pc2, ah2, ch2, rfl, hSF2, hb2⟩
 have gb2 : Below v2.heap.size v2 w2 := below_thru (Below.refl _ _) hb2
 have gs2 := gb2.size
 have TS_2 := TS_1x.later gb2
 clear TS_1x
 have SIs_2 := SIs_1x.later gb2
 clear SIs_1x
 have B_2 := below_thru B_1x gb2
 have gw2 := Below.size B_2
 have lt_S_2 := TS_2.lt
 have pxS_2 := fun j => TS_2.cell j
 have pzS_2 := fun j => TS_2.frozen j
 have plS_2 := TS_2.lt
 have TS_2x : TB 29 (((((((((((((w2.setCell ⟨w1.heap.size, 0, none⟩ (.int .i64 s2.clock)).setCell ⟨w1.heap.size, 1, none⟩ (.int .i64 s2.cas)).setCell ⟨w1.heap.size, 2, none⟩ (.int .i64 s2.uses)).setCell ⟨w1.heap.size, 3, none⟩ (.int .i64 s2.most)).setCell ⟨w1.heap.size, 4, none⟩ (.int .i64 s2.h0)).setCell ⟨w1.heap.size, 5, none⟩ (.int .i64 s2.h1)).setCell ⟨w1.heap.size, 6, none⟩ (.int .i64 s2.h2)).setCell ⟨w1.heap.size, 7, none⟩ (.int .i64 s2.h3)).setCell ⟨w1.heap.size, 8, none⟩ (.slice ia2 s2.items.length ic2)).setCell ⟨w1.heap.size, 9, none⟩ (.int .i64 s2.fm)).setCell ⟨w1.heap.size, 10, none⟩ (.int .i64 s2.fx)).setCell ⟨w1.heap.size, 11, none⟩ (.slice pa2 s2.pages.length pc2)).alloc (.cells #[.int .i64 k2, .int .i64 n2, .slice ah2 h2.length ch2] 42)) (w1.heap.size) #[.int .i64 s2.clock, .int .i64 s2.cas, .int .i64 s2.uses, .int .i64 s2.most, .int .i64 s2.h0, .int .i64 s2.h1, .int .i64 s2.h2, .int .i64 s2.h3, .slice ia2 s2.items.length ic2, .int .i64 s2.fm, .int .i64 s2.fx, .slice pa2 s2.pages.length pc2] := by
  refine TB.alloc ?_ _
  apply twelve_set
  exact TS_2
 have TX_2x : TB 42 (((((((((((((w2.setCell ⟨w1.heap.size, 0, none⟩ (.int .i64 s2.clock)).setCell ⟨w1.heap.size, 1, none⟩ (.int .i64 s2.cas)).setCell ⟨w1.heap.size, 2, none⟩ (.int .i64 s2.uses)).setCell ⟨w1.heap.size, 3, none⟩ (.int .i64 s2.most)).setCell ⟨w1.heap.size, 4, none⟩ (.int .i64 s2.h0)).setCell ⟨w1.heap.size, 5, none⟩ (.int .i64 s2.h1)).setCell ⟨w1.heap.size, 6, none⟩ (.int .i64 s2.h2)).setCell ⟨w1.heap.size, 7, none⟩ (.int .i64 s2.h3)).setCell ⟨w1.heap.size, 8, none⟩ (.slice ia2 s2.items.length ic2)).setCell ⟨w1.heap.size, 9, none⟩ (.int .i64 s2.fm)).setCell ⟨w1.heap.size, 10, none⟩ (.int .i64 s2.fx)).setCell ⟨w1.heap.size, 11, none⟩ (.slice pa2 s2.pages.length pc2)).alloc (.cells #[.int .i64 k2, .int .i64 n2, .slice ah2 h2.length ch2] 42)) (w2.heap.size) #[.int .i64 k2, .int .i64 n2, .slice ah2 h2.length ch2] := by
  exact TB.new2 (by first | with_reducible rfl | (simp only [set_size, alloc_size]; done))
 have B_2x : Below w.heap.size w (((((((((((((w2.setCell ⟨w1.heap.size, 0, none⟩ (.int .i64 s2.clock)).setCell ⟨w1.heap.size, 1, none⟩ (.int .i64 s2.cas)).setCell ⟨w1.heap.size, 2, none⟩ (.int .i64 s2.uses)).setCell ⟨w1.heap.size, 3, none⟩ (.int .i64 s2.most)).setCell ⟨w1.heap.size, 4, none⟩ (.int .i64 s2.h0)).setCell ⟨w1.heap.size, 5, none⟩ (.int .i64 s2.h1)).setCell ⟨w1.heap.size, 6, none⟩ (.int .i64 s2.h2)).setCell ⟨w1.heap.size, 7, none⟩ (.int .i64 s2.h3)).setCell ⟨w1.heap.size, 8, none⟩ (.slice ia2 s2.items.length ic2)).setCell ⟨w1.heap.size, 9, none⟩ (.int .i64 s2.fm)).setCell ⟨w1.heap.size, 10, none⟩ (.int .i64 s2.fx)).setCell ⟨w1.heap.size, 11, none⟩ (.slice pa2 s2.pages.length pc2)).alloc (.cells #[.int .i64 k2, .int .i64 n2, .slice ah2 h2.length ch2] 42)) := by
  have hlw := Below.size B_2
  refine below_al ?_ _
  iterate 12 refine below_st ?_ _ (by show w.heap.size ≤ w1.heap.size; omega)
  exact B_2
 have KP_2x : Kp v2.heap.size w2 (((((((((((((w2.setCell ⟨w1.heap.size, 0, none⟩ (.int .i64 s2.clock)).setCell ⟨w1.heap.size, 1, none⟩ (.int .i64 s2.cas)).setCell ⟨w1.heap.size, 2, none⟩ (.int .i64 s2.uses)).setCell ⟨w1.heap.size, 3, none⟩ (.int .i64 s2.most)).setCell ⟨w1.heap.size, 4, none⟩ (.int .i64 s2.h0)).setCell ⟨w1.heap.size, 5, none⟩ (.int .i64 s2.h1)).setCell ⟨w1.heap.size, 6, none⟩ (.int .i64 s2.h2)).setCell ⟨w1.heap.size, 7, none⟩ (.int .i64 s2.h3)).setCell ⟨w1.heap.size, 8, none⟩ (.slice ia2 s2.items.length ic2)).setCell ⟨w1.heap.size, 9, none⟩ (.int .i64 s2.fm)).setCell ⟨w1.heap.size, 10, none⟩ (.int .i64 s2.fx)).setCell ⟨w1.heap.size, 11, none⟩ (.slice pa2 s2.pages.length pc2)).alloc (.cells #[.int .i64 k2, .int .i64 n2, .slice ah2 h2.length ch2] 42)) := by
  refine Kp.alloc ?_ _
  iterate 12 refine Kp.set ?_ (show w1.heap.size < v2.heap.size ∨ w2.heap.size ≤ w1.heap.size by omega) _ _
  exact Kp.refl _ _
 have SFs2_2x := StoreFrom.kp hSF2 KP_2x
 have SIs2_2x := SFs2_2x.here
 go_upto_region 3 with fail
 generalize (((((((((((((w2.setCell ⟨w1.heap.size, 0, none⟩ (.int .i64 s2.clock)).setCell ⟨w1.heap.size, 1, none⟩ (.int .i64 s2.cas)).setCell ⟨w1.heap.size, 2, none⟩ (.int .i64 s2.uses)).setCell ⟨w1.heap.size, 3, none⟩ (.int .i64 s2.most)).setCell ⟨w1.heap.size, 4, none⟩ (.int .i64 s2.h0)).setCell ⟨w1.heap.size, 5, none⟩ (.int .i64 s2.h1)).setCell ⟨w1.heap.size, 6, none⟩ (.int .i64 s2.h2)).setCell ⟨w1.heap.size, 7, none⟩ (.int .i64 s2.h3)).setCell ⟨w1.heap.size, 8, none⟩ (.slice ia2 s2.items.length ic2)).setCell ⟨w1.heap.size, 9, none⟩ (.int .i64 s2.fm)).setCell ⟨w1.heap.size, 10, none⟩ (.int .i64 s2.fx)).setCell ⟨w1.heap.size, 11, none⟩ (.slice pa2 s2.pages.length pc2)).alloc (.cells #[.int .i64 k2, .int .i64 n2, .slice ah2 h2.length ch2] 42)) = u2 at *
 clear pxS_2 pzS_2 plS_2
 have xS_2x := fun j => TS_2x.cell j
 have lS_2x := TS_2x.lt
 have xX_2x := fun j => TX_2x.cell j
 have lX_2x := TX_2x.lt
 rcases HST.out with hk2 | ⟨hk2, hP⟩
 · subst hk2
   go_wp2_with fail
   go_ret
   exact ⟨rfl, B_2x⟩
 subst hk2
 obtain ⟨hS3, hB3, hH3, hG3, hk4, hk5, hk6, hk7⟩ := HPL.out hP
 go_wp2_with fail
 clear xS_2x lS_2x xX_2x lX_2x
 have mS_3 := TS_2x.lt
 have mX_3 := TX_2x.lt
 refine (kget4 (hk := ⟨#[109, 105, 110, 101]⟩) (hv := ⟨#[49]⟩) s2 ia2 ic2 pa2 pc2 ⟨#[109, 105, 110, 101]⟩ _ hS3 hH3 hB3 SIs2_2x hG2 hmine hus2 (hL.later B_2x) (hT.later B_2x)).mono ?_
 rintro e w3 ⟨ia3, ic3, pa3, pc3, rfl, hSF3, hb3⟩
 have gb3 : Below u2.heap.size u2 w3 := below_thru (Below.refl _ _) hb3
 have gs3 := gb3.size
 have TS_3 := TS_2x.later gb3
 clear TS_2x
 have TX_3 := TX_2x.later gb3
 clear TX_2x
 have SIs2_3 := SIs2_2x.later gb3
 clear SIs2_2x
 have KPs2_3 := Kp.below KP_2x gb3
 have B_3 := below_thru B_2x gb3
 have gw3 := Below.size B_3
 have lt_S_3 := TS_3.lt
 have lt_X_3 := TX_3.lt
 have pxS_3 := fun j => TS_3.cell j
 have pzS_3 := fun j => TS_3.frozen j
 have plS_3 := TS_3.lt
 have TS_3x : TB 29 ((((((((((((((w3.setCell ⟨w1.heap.size, 0, none⟩ (.int .i64 s3.clock)).setCell ⟨w1.heap.size, 1, none⟩ (.int .i64 s3.cas)).setCell ⟨w1.heap.size, 2, none⟩ (.int .i64 s3.uses)).setCell ⟨w1.heap.size, 3, none⟩ (.int .i64 s3.most)).setCell ⟨w1.heap.size, 4, none⟩ (.int .i64 s3.h0)).setCell ⟨w1.heap.size, 5, none⟩ (.int .i64 s3.h1)).setCell ⟨w1.heap.size, 6, none⟩ (.int .i64 s3.h2)).setCell ⟨w1.heap.size, 7, none⟩ (.int .i64 s3.h3)).setCell ⟨w1.heap.size, 8, none⟩ (.slice ia3 s3.items.length ic3)).setCell ⟨w1.heap.size, 9, none⟩ (.int .i64 s3.fm)).setCell ⟨w1.heap.size, 10, none⟩ (.int .i64 s3.fx)).setCell ⟨w1.heap.size, 11, none⟩ (.slice pa3 s3.pages.length pc3)).alloc (.cells #[.string ⟨#[109, 105, 110, 101]⟩, .int .i64 0, .int .i64 cas, .string ⟨#[49]⟩] 49)).alloc (.cells #[.int .i64 7, .string ⟨#[109, 105, 110, 101]⟩, .slice none 0 0, .int .i64 0, .int .i64 0, .int .i64 cas, .string ⟨#[50]⟩, .bool false] 47)) (w1.heap.size) #[.int .i64 s3.clock, .int .i64 s3.cas, .int .i64 s3.uses, .int .i64 s3.most, .int .i64 s3.h0, .int .i64 s3.h1, .int .i64 s3.h2, .int .i64 s3.h3, .slice ia3 s3.items.length ic3, .int .i64 s3.fm, .int .i64 s3.fx, .slice pa3 s3.pages.length pc3] := by
  refine TB.alloc ?_ _
  refine TB.alloc ?_ _
  apply twelve_set
  exact TS_3
 have TX_3x : TB 42 ((((((((((((((w3.setCell ⟨w1.heap.size, 0, none⟩ (.int .i64 s3.clock)).setCell ⟨w1.heap.size, 1, none⟩ (.int .i64 s3.cas)).setCell ⟨w1.heap.size, 2, none⟩ (.int .i64 s3.uses)).setCell ⟨w1.heap.size, 3, none⟩ (.int .i64 s3.most)).setCell ⟨w1.heap.size, 4, none⟩ (.int .i64 s3.h0)).setCell ⟨w1.heap.size, 5, none⟩ (.int .i64 s3.h1)).setCell ⟨w1.heap.size, 6, none⟩ (.int .i64 s3.h2)).setCell ⟨w1.heap.size, 7, none⟩ (.int .i64 s3.h3)).setCell ⟨w1.heap.size, 8, none⟩ (.slice ia3 s3.items.length ic3)).setCell ⟨w1.heap.size, 9, none⟩ (.int .i64 s3.fm)).setCell ⟨w1.heap.size, 10, none⟩ (.int .i64 s3.fx)).setCell ⟨w1.heap.size, 11, none⟩ (.slice pa3 s3.pages.length pc3)).alloc (.cells #[.string ⟨#[109, 105, 110, 101]⟩, .int .i64 0, .int .i64 cas, .string ⟨#[49]⟩] 49)).alloc (.cells #[.int .i64 7, .string ⟨#[109, 105, 110, 101]⟩, .slice none 0 0, .int .i64 0, .int .i64 0, .int .i64 cas, .string ⟨#[50]⟩, .bool false] 47)) (w2.heap.size) #[.int .i64 2, .int .i64 n2, .slice ah2 h2.length ch2] := by
  refine TB.alloc ?_ _
  refine TB.alloc ?_ _
  iterate 12 refine TB.far ?_ _ _ (by show w2.heap.size ≠ w1.heap.size; omega)
  exact TX_3
 have TH_3x : TB 49 ((((((((((((((w3.setCell ⟨w1.heap.size, 0, none⟩ (.int .i64 s3.clock)).setCell ⟨w1.heap.size, 1, none⟩ (.int .i64 s3.cas)).setCell ⟨w1.heap.size, 2, none⟩ (.int .i64 s3.uses)).setCell ⟨w1.heap.size, 3, none⟩ (.int .i64 s3.most)).setCell ⟨w1.heap.size, 4, none⟩ (.int .i64 s3.h0)).setCell ⟨w1.heap.size, 5, none⟩ (.int .i64 s3.h1)).setCell ⟨w1.heap.size, 6, none⟩ (.int .i64 s3.h2)).setCell ⟨w1.heap.size, 7, none⟩ (.int .i64 s3.h3)).setCell ⟨w1.heap.size, 8, none⟩ (.slice ia3 s3.items.length ic3)).setCell ⟨w1.heap.size, 9, none⟩ (.int .i64 s3.fm)).setCell ⟨w1.heap.size, 10, none⟩ (.int .i64 s3.fx)).setCell ⟨w1.heap.size, 11, none⟩ (.slice pa3 s3.pages.length pc3)).alloc (.cells #[.string ⟨#[109, 105, 110, 101]⟩, .int .i64 0, .int .i64 cas, .string ⟨#[49]⟩] 49)).alloc (.cells #[.int .i64 7, .string ⟨#[109, 105, 110, 101]⟩, .slice none 0 0, .int .i64 0, .int .i64 0, .int .i64 cas, .string ⟨#[50]⟩, .bool false] 47)) (w3.heap.size) #[.string ⟨#[109, 105, 110, 101]⟩, .int .i64 0, .int .i64 cas, .string ⟨#[49]⟩] := by
  refine TB.alloc ?_ _
  exact TB.new2 (by first | with_reducible rfl | (simp only [set_size, alloc_size]; done))
 have TQ_3x : TB 47 ((((((((((((((w3.setCell ⟨w1.heap.size, 0, none⟩ (.int .i64 s3.clock)).setCell ⟨w1.heap.size, 1, none⟩ (.int .i64 s3.cas)).setCell ⟨w1.heap.size, 2, none⟩ (.int .i64 s3.uses)).setCell ⟨w1.heap.size, 3, none⟩ (.int .i64 s3.most)).setCell ⟨w1.heap.size, 4, none⟩ (.int .i64 s3.h0)).setCell ⟨w1.heap.size, 5, none⟩ (.int .i64 s3.h1)).setCell ⟨w1.heap.size, 6, none⟩ (.int .i64 s3.h2)).setCell ⟨w1.heap.size, 7, none⟩ (.int .i64 s3.h3)).setCell ⟨w1.heap.size, 8, none⟩ (.slice ia3 s3.items.length ic3)).setCell ⟨w1.heap.size, 9, none⟩ (.int .i64 s3.fm)).setCell ⟨w1.heap.size, 10, none⟩ (.int .i64 s3.fx)).setCell ⟨w1.heap.size, 11, none⟩ (.slice pa3 s3.pages.length pc3)).alloc (.cells #[.string ⟨#[109, 105, 110, 101]⟩, .int .i64 0, .int .i64 cas, .string ⟨#[49]⟩] 49)).alloc (.cells #[.int .i64 7, .string ⟨#[109, 105, 110, 101]⟩, .slice none 0 0, .int .i64 0, .int .i64 0, .int .i64 cas, .string ⟨#[50]⟩, .bool false] 47)) (w3.heap.size + 1) #[.int .i64 7, .string ⟨#[109, 105, 110, 101]⟩, .slice none 0 0, .int .i64 0, .int .i64 0, .int .i64 cas, .string ⟨#[50]⟩, .bool false] := by
  exact TB.new2 (by first | with_reducible rfl | (simp only [set_size, alloc_size]; done))
 have B_3x : Below w.heap.size w ((((((((((((((w3.setCell ⟨w1.heap.size, 0, none⟩ (.int .i64 s3.clock)).setCell ⟨w1.heap.size, 1, none⟩ (.int .i64 s3.cas)).setCell ⟨w1.heap.size, 2, none⟩ (.int .i64 s3.uses)).setCell ⟨w1.heap.size, 3, none⟩ (.int .i64 s3.most)).setCell ⟨w1.heap.size, 4, none⟩ (.int .i64 s3.h0)).setCell ⟨w1.heap.size, 5, none⟩ (.int .i64 s3.h1)).setCell ⟨w1.heap.size, 6, none⟩ (.int .i64 s3.h2)).setCell ⟨w1.heap.size, 7, none⟩ (.int .i64 s3.h3)).setCell ⟨w1.heap.size, 8, none⟩ (.slice ia3 s3.items.length ic3)).setCell ⟨w1.heap.size, 9, none⟩ (.int .i64 s3.fm)).setCell ⟨w1.heap.size, 10, none⟩ (.int .i64 s3.fx)).setCell ⟨w1.heap.size, 11, none⟩ (.slice pa3 s3.pages.length pc3)).alloc (.cells #[.string ⟨#[109, 105, 110, 101]⟩, .int .i64 0, .int .i64 cas, .string ⟨#[49]⟩] 49)).alloc (.cells #[.int .i64 7, .string ⟨#[109, 105, 110, 101]⟩, .slice none 0 0, .int .i64 0, .int .i64 0, .int .i64 cas, .string ⟨#[50]⟩, .bool false] 47)) := by
  have hlw := Below.size B_3
  refine below_al ?_ _
  refine below_al ?_ _
  iterate 12 refine below_st ?_ _ (by show w.heap.size ≤ w1.heap.size; omega)
  exact B_3
 have KP_3x : Kp u2.heap.size w3 ((((((((((((((w3.setCell ⟨w1.heap.size, 0, none⟩ (.int .i64 s3.clock)).setCell ⟨w1.heap.size, 1, none⟩ (.int .i64 s3.cas)).setCell ⟨w1.heap.size, 2, none⟩ (.int .i64 s3.uses)).setCell ⟨w1.heap.size, 3, none⟩ (.int .i64 s3.most)).setCell ⟨w1.heap.size, 4, none⟩ (.int .i64 s3.h0)).setCell ⟨w1.heap.size, 5, none⟩ (.int .i64 s3.h1)).setCell ⟨w1.heap.size, 6, none⟩ (.int .i64 s3.h2)).setCell ⟨w1.heap.size, 7, none⟩ (.int .i64 s3.h3)).setCell ⟨w1.heap.size, 8, none⟩ (.slice ia3 s3.items.length ic3)).setCell ⟨w1.heap.size, 9, none⟩ (.int .i64 s3.fm)).setCell ⟨w1.heap.size, 10, none⟩ (.int .i64 s3.fx)).setCell ⟨w1.heap.size, 11, none⟩ (.slice pa3 s3.pages.length pc3)).alloc (.cells #[.string ⟨#[109, 105, 110, 101]⟩, .int .i64 0, .int .i64 cas, .string ⟨#[49]⟩] 49)).alloc (.cells #[.int .i64 7, .string ⟨#[109, 105, 110, 101]⟩, .slice none 0 0, .int .i64 0, .int .i64 0, .int .i64 cas, .string ⟨#[50]⟩, .bool false] 47)) := by
  refine Kp.alloc ?_ _
  refine Kp.alloc ?_ _
  iterate 12 refine Kp.set ?_ (show w1.heap.size < u2.heap.size ∨ w3.heap.size ≤ w1.heap.size by omega) _ _
  exact Kp.refl _ _
 have SFs3_3x := StoreFrom.kp hSF3 KP_3x
 have SIs3_3x := SFs3_3x.here
 go_upto_region 7 with fail
 generalize ((((((((((((((w3.setCell ⟨w1.heap.size, 0, none⟩ (.int .i64 s3.clock)).setCell ⟨w1.heap.size, 1, none⟩ (.int .i64 s3.cas)).setCell ⟨w1.heap.size, 2, none⟩ (.int .i64 s3.uses)).setCell ⟨w1.heap.size, 3, none⟩ (.int .i64 s3.most)).setCell ⟨w1.heap.size, 4, none⟩ (.int .i64 s3.h0)).setCell ⟨w1.heap.size, 5, none⟩ (.int .i64 s3.h1)).setCell ⟨w1.heap.size, 6, none⟩ (.int .i64 s3.h2)).setCell ⟨w1.heap.size, 7, none⟩ (.int .i64 s3.h3)).setCell ⟨w1.heap.size, 8, none⟩ (.slice ia3 s3.items.length ic3)).setCell ⟨w1.heap.size, 9, none⟩ (.int .i64 s3.fm)).setCell ⟨w1.heap.size, 10, none⟩ (.int .i64 s3.fx)).setCell ⟨w1.heap.size, 11, none⟩ (.slice pa3 s3.pages.length pc3)).alloc (.cells #[.string ⟨#[109, 105, 110, 101]⟩, .int .i64 0, .int .i64 cas, .string ⟨#[49]⟩] 49)).alloc (.cells #[.int .i64 7, .string ⟨#[109, 105, 110, 101]⟩, .slice none 0 0, .int .i64 0, .int .i64 0, .int .i64 cas, .string ⟨#[50]⟩, .bool false] 47)) = u3 at *
 clear pxS_3 pzS_3 plS_3
 have xS_3x := fun j => TS_3x.cell j
 have lS_3x := TS_3x.lt
 have xX_3x := fun j => TX_3x.cell j
 have lX_3x := TX_3x.lt
 have xH_3x := fun j => TH_3x.cell j
 have lH_3x := TH_3x.lt
 have xQ_3x := fun j => TQ_3x.cell j
 have lQ_3x := TQ_3x.lt
 subst hk4 hk5 hk6 hk7
 go_wp2_with fail
 clear xS_3x lS_3x xX_3x lX_3x xH_3x lH_3x xQ_3x lQ_3x
 have mQ_4 := TQ_3x.lt
 refine (kdo s3 ia3 ic3 pa3 pc3 7 ⟨#[109, 105, 110, 101]⟩ 0 0 cas ⟨#[50]⟩ _ hA4 SIs3_3x hG3 hF4 husa (hL.later B_3x) (hT.later B_3x)).mono ?_
 rintro e w4 ⟨ia4, ic4, pa4, pc4, ah4, ch4, rfl, hSF4, hb4⟩
 have gb4 : Below u3.heap.size u3 w4 := below_thru (Below.refl _ _) hb4
 have gs4 := gb4.size
 have TS_4 := TS_3x.later gb4
 clear TS_3x
 have TX_4 := TX_3x.later gb4
 clear TX_3x
 have TH_4 := TH_3x.later gb4
 clear TH_3x
 have TQ_4 := TQ_3x.later gb4
 clear TQ_3x
 have SIs3_4 := SIs3_3x.later gb4
 clear SIs3_3x
 have KPs3_4 := Kp.below KP_3x gb4
 have B_4 := below_thru B_3x gb4
 have gw4 := Below.size B_4
 have Q_4 : Below w4.heap.size w4 ((w4.alloc (.cells #[.int .i64 s4.clock, .int .i64 s4.cas, .int .i64 s4.uses, .int .i64 s4.most, .int .i64 s4.h0, .int .i64 s4.h1, .int .i64 s4.h2, .int .i64 s4.h3, .slice ia4 s4.items.length ic4, .int .i64 s4.fm, .int .i64 s4.fx, .slice pa4 s4.pages.length pc4] 29)).alloc (.cells #[.int .i64 2, .int .i64 n4, .slice ah4 h4.length ch4] 42)) := (below_al (below_al (Below.refl _ _) _) _)
 have TS_4x := TS_4.later Q_4
 have TX_4x := TX_4.later Q_4
 have TH_4x := TH_4.later Q_4
 have TQ_4x := TQ_4.later Q_4
 have TT_4x : TB 29 ((w4.alloc (.cells #[.int .i64 s4.clock, .int .i64 s4.cas, .int .i64 s4.uses, .int .i64 s4.most, .int .i64 s4.h0, .int .i64 s4.h1, .int .i64 s4.h2, .int .i64 s4.h3, .slice ia4 s4.items.length ic4, .int .i64 s4.fm, .int .i64 s4.fx, .slice pa4 s4.pages.length pc4] 29)).alloc (.cells #[.int .i64 2, .int .i64 n4, .slice ah4 h4.length ch4] 42)) (w4.heap.size) #[.int .i64 s4.clock, .int .i64 s4.cas, .int .i64 s4.uses, .int .i64 s4.most, .int .i64 s4.h0, .int .i64 s4.h1, .int .i64 s4.h2, .int .i64 s4.h3, .slice ia4 s4.items.length ic4, .int .i64 s4.fm, .int .i64 s4.fx, .slice pa4 s4.pages.length pc4] := by
  refine TB.alloc ?_ _
  exact TB.new2 (by first | with_reducible rfl | (simp only [set_size, alloc_size]; done))
 have TC_4x : TB 42 ((w4.alloc (.cells #[.int .i64 s4.clock, .int .i64 s4.cas, .int .i64 s4.uses, .int .i64 s4.most, .int .i64 s4.h0, .int .i64 s4.h1, .int .i64 s4.h2, .int .i64 s4.h3, .slice ia4 s4.items.length ic4, .int .i64 s4.fm, .int .i64 s4.fx, .slice pa4 s4.pages.length pc4] 29)).alloc (.cells #[.int .i64 2, .int .i64 n4, .slice ah4 h4.length ch4] 42)) (w4.heap.size + 1) #[.int .i64 2, .int .i64 n4, .slice ah4 h4.length ch4] := by
  exact TB.new2 (by first | with_reducible rfl | (simp only [set_size, alloc_size]; done))
 have B_4x := below_thru B_4 Q_4
 have SIs3_4x := SIs3_4.later Q_4
 have KPs3_4x := Kp.below KPs3_4 Q_4
 have SIs4_4x := hSF4.here.later Q_4
 have xS_4x := fun j => TS_4x.cell j
 have lS_4x := TS_4x.lt
 have xX_4x := fun j => TX_4x.cell j
 have lX_4x := TX_4x.lt
 have xH_4x := fun j => TH_4x.cell j
 have lH_4x := TH_4x.lt
 have xQ_4x := fun j => TQ_4x.cell j
 have lQ_4x := TQ_4x.lt
 have xT_4x := fun j => TT_4x.cell j
 have lT_4x := TT_4x.lt
 have xC_4x := fun j => TC_4x.cell j
 have lC_4x := TC_4x.lt
 go_wp2_with fail
 generalize ((w4.alloc (.cells #[.int .i64 s4.clock, .int .i64 s4.cas, .int .i64 s4.uses, .int .i64 s4.most, .int .i64 s4.h0, .int .i64 s4.h1, .int .i64 s4.h2, .int .i64 s4.h3, .slice ia4 s4.items.length ic4, .int .i64 s4.fm, .int .i64 s4.fx, .slice pa4 s4.pages.length pc4] 29)).alloc (.cells #[.int .i64 2, .int .i64 n4, .slice ah4 h4.length ch4] 42)) = v5 at *
 clear xS_4x lS_4x xX_4x lX_4x xH_4x lH_4x xQ_4x lQ_4x xT_4x lT_4x xC_4x lC_4x
 have mQ_5 := TQ_4x.lt
 have mT_5 := TT_4x.lt
 have mC_5 := TC_4x.lt
 refine (kdo s4 ia4 ic4 pa4 pc4 7 ⟨#[109, 105, 110, 101]⟩ 0 0 cas ⟨#[50]⟩ _ hA5 SIs4_4x hG4 hF4 hus4 (hL.later B_4x) (hT.later B_4x)).mono ?_
 rintro e w5 ⟨ia5, ic5, pa5, pc5, ah5, ch5, rfl, hSF5, hb5⟩
 have gb5 : Below v5.heap.size v5 w5 := below_thru (Below.refl _ _) hb5
 have gs5 := gb5.size
 have TS_5 := TS_4x.later gb5
 clear TS_4x
 have TX_5 := TX_4x.later gb5
 clear TX_4x
 have TH_5 := TH_4x.later gb5
 clear TH_4x
 have TQ_5 := TQ_4x.later gb5
 clear TQ_4x
 have TT_5 := TT_4x.later gb5
 clear TT_4x
 have TC_5 := TC_4x.later gb5
 clear TC_4x
 have SIs3_5 := SIs3_4x.later gb5
 clear SIs3_4x
 have KPs3_5 := Kp.below KPs3_4x gb5
 have SIs4_5 := SIs4_4x.later gb5
 clear SIs4_4x
 have B_5 := below_thru B_4x gb5
 have gw5 := Below.size B_5
 have Q_5 : Below w5.heap.size w5 ((w5.alloc (.cells #[.int .i64 s5.clock, .int .i64 s5.cas, .int .i64 s5.uses, .int .i64 s5.most, .int .i64 s5.h0, .int .i64 s5.h1, .int .i64 s5.h2, .int .i64 s5.h3, .slice ia5 s5.items.length ic5, .int .i64 s5.fm, .int .i64 s5.fx, .slice pa5 s5.pages.length pc5] 29)).alloc (.cells #[.int .i64 4, .int .i64 n5, .slice ah5 h5.length ch5] 42)) := (below_al (below_al (Below.refl _ _) _) _)
 have TS_5x := TS_5.later Q_5
 have TX_5x := TX_5.later Q_5
 have TH_5x := TH_5.later Q_5
 have TQ_5x := TQ_5.later Q_5
 have TT_5x := TT_5.later Q_5
 have TC_5x := TC_5.later Q_5
 have TU_5x : TB 29 ((w5.alloc (.cells #[.int .i64 s5.clock, .int .i64 s5.cas, .int .i64 s5.uses, .int .i64 s5.most, .int .i64 s5.h0, .int .i64 s5.h1, .int .i64 s5.h2, .int .i64 s5.h3, .slice ia5 s5.items.length ic5, .int .i64 s5.fm, .int .i64 s5.fx, .slice pa5 s5.pages.length pc5] 29)).alloc (.cells #[.int .i64 4, .int .i64 n5, .slice ah5 h5.length ch5] 42)) (w5.heap.size) #[.int .i64 s5.clock, .int .i64 s5.cas, .int .i64 s5.uses, .int .i64 s5.most, .int .i64 s5.h0, .int .i64 s5.h1, .int .i64 s5.h2, .int .i64 s5.h3, .slice ia5 s5.items.length ic5, .int .i64 s5.fm, .int .i64 s5.fx, .slice pa5 s5.pages.length pc5] := by
  refine TB.alloc ?_ _
  exact TB.new2 (by first | with_reducible rfl | (simp only [set_size, alloc_size]; done))
 have TD_5x : TB 42 ((w5.alloc (.cells #[.int .i64 s5.clock, .int .i64 s5.cas, .int .i64 s5.uses, .int .i64 s5.most, .int .i64 s5.h0, .int .i64 s5.h1, .int .i64 s5.h2, .int .i64 s5.h3, .slice ia5 s5.items.length ic5, .int .i64 s5.fm, .int .i64 s5.fx, .slice pa5 s5.pages.length pc5] 29)).alloc (.cells #[.int .i64 4, .int .i64 n5, .slice ah5 h5.length ch5] 42)) (w5.heap.size + 1) #[.int .i64 4, .int .i64 n5, .slice ah5 h5.length ch5] := by
  exact TB.new2 (by first | with_reducible rfl | (simp only [set_size, alloc_size]; done))
 have B_5x := below_thru B_5 Q_5
 have SIs3_5x := SIs3_5.later Q_5
 have KPs3_5x := Kp.below KPs3_5 Q_5
 have SIs4_5x := SIs4_5.later Q_5
 go_upto_region 9 with fail
 generalize ((w5.alloc (.cells #[.int .i64 s5.clock, .int .i64 s5.cas, .int .i64 s5.uses, .int .i64 s5.most, .int .i64 s5.h0, .int .i64 s5.h1, .int .i64 s5.h2, .int .i64 s5.h3, .slice ia5 s5.items.length ic5, .int .i64 s5.fm, .int .i64 s5.fx, .slice pa5 s5.pages.length pc5] 29)).alloc (.cells #[.int .i64 4, .int .i64 n5, .slice ah5 h5.length ch5] 42)) = u5 at *
 have xS_5x := fun j => TS_5x.cell j
 have lS_5x := TS_5x.lt
 have xX_5x := fun j => TX_5x.cell j
 have lX_5x := TX_5x.lt
 have xH_5x := fun j => TH_5x.cell j
 have lH_5x := TH_5x.lt
 have xQ_5x := fun j => TQ_5x.cell j
 have zQ_5x := fun j => TQ_5x.frozen j
 have lQ_5x := TQ_5x.lt
 have xT_5x := fun j => TT_5x.cell j
 have lT_5x := TT_5x.lt
 have xC_5x := fun j => TC_5x.cell j
 have lC_5x := TC_5x.lt
 have xU_5x := fun j => TU_5x.cell j
 have lU_5x := TU_5x.lt
 have xD_5x := fun j => TD_5x.cell j
 have lD_5x := TD_5x.lt
 apply region_once
 · go_region_with (go_at_call 13; refine (picked_any n 9 _ he0 he1 (by decide) (by decide)).mono ?_; rintro e w' ⟨rfl, hwp⟩; obtain rfl := hwp.symm)
   all_goals exact once_normal rfl rfl
 clear xS_5x lS_5x xX_5x lX_5x xH_5x lH_5x xQ_5x zQ_5x lQ_5x xT_5x lT_5x xC_5x lC_5x xU_5x lU_5x xD_5x lD_5x
 have lyS_u6 := TS_5x.lt
 have lyX_u6 := TX_5x.lt
 have lyH_u6 := TH_5x.lt
 have lyQ_u6 := TQ_5x.lt
 have lyT_u6 := TT_5x.lt
 have lyC_u6 := TC_5x.lt
 have lyU_u6 := TU_5x.lt
 have lyD_u6 := TD_5x.lt
 have TS_u6 : TB 29 (u5.setCell ⟨w3.heap.size + 1, 5, none⟩ (.int .i64 m)).drew (w1.heap.size) _ := (TB.far TS_5x _ _ (by show w1.heap.size ≠ w3.heap.size + 1; omega)).drew
 have TX_u6 : TB 42 (u5.setCell ⟨w3.heap.size + 1, 5, none⟩ (.int .i64 m)).drew (w2.heap.size) _ := (TB.far TX_5x _ _ (by show w2.heap.size ≠ w3.heap.size + 1; omega)).drew
 have TH_u6 : TB 49 (u5.setCell ⟨w3.heap.size + 1, 5, none⟩ (.int .i64 m)).drew (w3.heap.size) _ := (TB.far TH_5x _ _ (by show w3.heap.size ≠ w3.heap.size + 1; omega)).drew
 have TQ_u6 : TB 47 (u5.setCell ⟨w3.heap.size + 1, 5, none⟩ (.int .i64 m)).drew (w3.heap.size + 1) #[.int .i64 7, .string ⟨#[109, 105, 110, 101]⟩, .slice none 0 0, .int .i64 0, .int .i64 0, .int .i64 m, .string ⟨#[50]⟩, .bool false] := (TB.set1 (j := 5) (cs := #[.int .i64 7, .string ⟨#[109, 105, 110, 101]⟩, .slice none 0 0, .int .i64 0, .int .i64 0, .int .i64 cas, .string ⟨#[50]⟩, .bool false]) TQ_5x _ (by rfl)).drew
 have TT_u6 : TB 29 (u5.setCell ⟨w3.heap.size + 1, 5, none⟩ (.int .i64 m)).drew (w4.heap.size) _ := (TB.far TT_5x _ _ (by show w4.heap.size ≠ w3.heap.size + 1; omega)).drew
 have TC_u6 : TB 42 (u5.setCell ⟨w3.heap.size + 1, 5, none⟩ (.int .i64 m)).drew (w4.heap.size + 1) _ := (TB.far TC_5x _ _ (by show w4.heap.size + 1 ≠ w3.heap.size + 1; omega)).drew
 have TU_u6 : TB 29 (u5.setCell ⟨w3.heap.size + 1, 5, none⟩ (.int .i64 m)).drew (w5.heap.size) _ := (TB.far TU_5x _ _ (by show w5.heap.size ≠ w3.heap.size + 1; omega)).drew
 have TD_u6 : TB 42 (u5.setCell ⟨w3.heap.size + 1, 5, none⟩ (.int .i64 m)).drew (w5.heap.size + 1) _ := (TB.far TD_5x _ _ (by show w5.heap.size + 1 ≠ w3.heap.size + 1; omega)).drew
 have B_u6 : Below w.heap.size w (u5.setCell ⟨w3.heap.size + 1, 5, none⟩ (.int .i64 m)).drew := (below_st B_5x _ (by show w.heap.size ≤ w3.heap.size + 1; omega)).drew
 have KP_u6 : Kp u2.heap.size w3 (u5.setCell ⟨w3.heap.size + 1, 5, none⟩ (.int .i64 m)).drew := (Kp.set KPs3_5x (Or.inr (by omega)) _ _).drew
 have SIs3_u6 := (StoreFrom.kp hSF3 KP_u6).here
 generalize (u5.setCell ⟨w3.heap.size + 1, 5, none⟩ (.int .i64 m)).drew = u6 at *
 have xS_u6 := fun j => TS_u6.cell j
 have lS_u6 := TS_u6.lt
 have xX_u6 := fun j => TX_u6.cell j
 have lX_u6 := TX_u6.lt
 have xH_u6 := fun j => TH_u6.cell j
 have lH_u6 := TH_u6.lt
 have xQ_u6 := fun j => TQ_u6.cell j
 have lQ_u6 := TQ_u6.lt
 have xT_u6 := fun j => TT_u6.cell j
 have lT_u6 := TT_u6.lt
 have xC_u6 := fun j => TC_u6.cell j
 have lC_u6 := TC_u6.lt
 have xU_u6 := fun j => TU_u6.cell j
 have lU_u6 := TU_u6.lt
 have xD_u6 := fun j => TD_u6.cell j
 have lD_u6 := TD_u6.lt
 go_wp2_with fail
 clear xS_u6 lS_u6 xX_u6 lX_u6 xH_u6 lH_u6 xQ_u6 lQ_u6 xT_u6 lT_u6 xC_u6 lC_u6 xU_u6 lU_u6 xD_u6 lD_u6
 have mQ_6 := TQ_u6.lt
 have mT_6 := TT_u6.lt
 have mC_6 := TC_u6.lt
 have mU_6 := TU_u6.lt
 have mD_6 := TD_u6.lt
 refine (kdo s3 ia3 ic3 pa3 pc3 7 ⟨#[109, 105, 110, 101]⟩ 0 0 m ⟨#[50]⟩ _ hA6 SIs3_u6 hG3 hF6 husa (hL.later B_u6) (hT.later B_u6)).mono ?_
 rintro e w6 ⟨ia6, ic6, pa6, pc6, ah6, ch6, rfl, hSF6, hb6⟩
 have gb6 : Below u6.heap.size u6 w6 := below_thru (Below.refl _ _) hb6
 have gs6 := gb6.size
 have TS_6 := TS_u6.later gb6
 clear TS_u6
 have TX_6 := TX_u6.later gb6
 clear TX_u6
 have TH_6 := TH_u6.later gb6
 clear TH_u6
 have TQ_6 := TQ_u6.later gb6
 clear TQ_u6
 have TT_6 := TT_u6.later gb6
 clear TT_u6
 have TC_6 := TC_u6.later gb6
 clear TC_u6
 have TU_6 := TU_u6.later gb6
 clear TU_u6
 have TD_6 := TD_u6.later gb6
 clear TD_u6
 have SIs3_6 := SIs3_u6.later gb6
 clear SIs3_u6
 have KPs3_6 := Kp.below KP_u6 gb6
 have B_6 := below_thru B_u6 gb6
 have gw6 := Below.size B_6
 have lt_S_6 := TS_6.lt
 have lt_X_6 := TX_6.lt
 have lt_H_6 := TH_6.lt
 have lt_Q_6 := TQ_6.lt
 have lt_T_6 := TT_6.lt
 have lt_C_6 := TC_6.lt
 have lt_U_6 := TU_6.lt
 have lt_D_6 := TD_6.lt
 have pxQ_6 := fun j => TQ_6.cell j
 have pzQ_6 := fun j => TQ_6.frozen j
 have plQ_6 := TQ_6.lt
 have TS_6x : TB 29 (((w6.setCell ⟨w3.heap.size + 1, 1, none⟩ (.string ⟨#[110, 101, 118, 101, 114]⟩)).alloc (.cells #[.int .i64 s6.clock, .int .i64 s6.cas, .int .i64 s6.uses, .int .i64 s6.most, .int .i64 s6.h0, .int .i64 s6.h1, .int .i64 s6.h2, .int .i64 s6.h3, .slice ia6 s6.items.length ic6, .int .i64 s6.fm, .int .i64 s6.fx, .slice pa6 s6.pages.length pc6] 29)).alloc (.cells #[.int .i64 4, .int .i64 n6, .slice ah6 h6.length ch6] 42)) (w1.heap.size) #[.int .i64 s3.clock, .int .i64 s3.cas, .int .i64 s3.uses, .int .i64 s3.most, .int .i64 s3.h0, .int .i64 s3.h1, .int .i64 s3.h2, .int .i64 s3.h3, .slice ia3 s3.items.length ic3, .int .i64 s3.fm, .int .i64 s3.fx, .slice pa3 s3.pages.length pc3] := by
  refine TB.alloc ?_ _
  refine TB.alloc ?_ _
  iterate 1 refine TB.far ?_ _ _ (by show w1.heap.size ≠ w3.heap.size + 1; omega)
  exact TS_6
 have TX_6x : TB 42 (((w6.setCell ⟨w3.heap.size + 1, 1, none⟩ (.string ⟨#[110, 101, 118, 101, 114]⟩)).alloc (.cells #[.int .i64 s6.clock, .int .i64 s6.cas, .int .i64 s6.uses, .int .i64 s6.most, .int .i64 s6.h0, .int .i64 s6.h1, .int .i64 s6.h2, .int .i64 s6.h3, .slice ia6 s6.items.length ic6, .int .i64 s6.fm, .int .i64 s6.fx, .slice pa6 s6.pages.length pc6] 29)).alloc (.cells #[.int .i64 4, .int .i64 n6, .slice ah6 h6.length ch6] 42)) (w2.heap.size) #[.int .i64 2, .int .i64 n2, .slice ah2 h2.length ch2] := by
  refine TB.alloc ?_ _
  refine TB.alloc ?_ _
  iterate 1 refine TB.far ?_ _ _ (by show w2.heap.size ≠ w3.heap.size + 1; omega)
  exact TX_6
 have TH_6x : TB 49 (((w6.setCell ⟨w3.heap.size + 1, 1, none⟩ (.string ⟨#[110, 101, 118, 101, 114]⟩)).alloc (.cells #[.int .i64 s6.clock, .int .i64 s6.cas, .int .i64 s6.uses, .int .i64 s6.most, .int .i64 s6.h0, .int .i64 s6.h1, .int .i64 s6.h2, .int .i64 s6.h3, .slice ia6 s6.items.length ic6, .int .i64 s6.fm, .int .i64 s6.fx, .slice pa6 s6.pages.length pc6] 29)).alloc (.cells #[.int .i64 4, .int .i64 n6, .slice ah6 h6.length ch6] 42)) (w3.heap.size) #[.string ⟨#[109, 105, 110, 101]⟩, .int .i64 0, .int .i64 cas, .string ⟨#[49]⟩] := by
  refine TB.alloc ?_ _
  refine TB.alloc ?_ _
  iterate 1 refine TB.far ?_ _ _ (by show w3.heap.size ≠ w3.heap.size + 1; omega)
  exact TH_6
 have TQ_6x : TB 47 (((w6.setCell ⟨w3.heap.size + 1, 1, none⟩ (.string ⟨#[110, 101, 118, 101, 114]⟩)).alloc (.cells #[.int .i64 s6.clock, .int .i64 s6.cas, .int .i64 s6.uses, .int .i64 s6.most, .int .i64 s6.h0, .int .i64 s6.h1, .int .i64 s6.h2, .int .i64 s6.h3, .slice ia6 s6.items.length ic6, .int .i64 s6.fm, .int .i64 s6.fx, .slice pa6 s6.pages.length pc6] 29)).alloc (.cells #[.int .i64 4, .int .i64 n6, .slice ah6 h6.length ch6] 42)) (w3.heap.size + 1) #[.int .i64 7, .string ⟨#[110, 101, 118, 101, 114]⟩, .slice none 0 0, .int .i64 0, .int .i64 0, .int .i64 m, .string ⟨#[50]⟩, .bool false] := by
  refine TB.alloc ?_ _
  refine TB.alloc ?_ _
  refine TB.set1 (j := 1) (cs := #[.int .i64 7, .string ⟨#[109, 105, 110, 101]⟩, .slice none 0 0, .int .i64 0, .int .i64 0, .int .i64 m, .string ⟨#[50]⟩, .bool false]) ?_ _ (by rfl)
  exact TQ_6
 have TT_6x : TB 29 (((w6.setCell ⟨w3.heap.size + 1, 1, none⟩ (.string ⟨#[110, 101, 118, 101, 114]⟩)).alloc (.cells #[.int .i64 s6.clock, .int .i64 s6.cas, .int .i64 s6.uses, .int .i64 s6.most, .int .i64 s6.h0, .int .i64 s6.h1, .int .i64 s6.h2, .int .i64 s6.h3, .slice ia6 s6.items.length ic6, .int .i64 s6.fm, .int .i64 s6.fx, .slice pa6 s6.pages.length pc6] 29)).alloc (.cells #[.int .i64 4, .int .i64 n6, .slice ah6 h6.length ch6] 42)) (w4.heap.size) #[.int .i64 s4.clock, .int .i64 s4.cas, .int .i64 s4.uses, .int .i64 s4.most, .int .i64 s4.h0, .int .i64 s4.h1, .int .i64 s4.h2, .int .i64 s4.h3, .slice ia4 s4.items.length ic4, .int .i64 s4.fm, .int .i64 s4.fx, .slice pa4 s4.pages.length pc4] := by
  refine TB.alloc ?_ _
  refine TB.alloc ?_ _
  iterate 1 refine TB.far ?_ _ _ (by show w4.heap.size ≠ w3.heap.size + 1; omega)
  exact TT_6
 have TC_6x : TB 42 (((w6.setCell ⟨w3.heap.size + 1, 1, none⟩ (.string ⟨#[110, 101, 118, 101, 114]⟩)).alloc (.cells #[.int .i64 s6.clock, .int .i64 s6.cas, .int .i64 s6.uses, .int .i64 s6.most, .int .i64 s6.h0, .int .i64 s6.h1, .int .i64 s6.h2, .int .i64 s6.h3, .slice ia6 s6.items.length ic6, .int .i64 s6.fm, .int .i64 s6.fx, .slice pa6 s6.pages.length pc6] 29)).alloc (.cells #[.int .i64 4, .int .i64 n6, .slice ah6 h6.length ch6] 42)) (w4.heap.size + 1) #[.int .i64 2, .int .i64 n4, .slice ah4 h4.length ch4] := by
  refine TB.alloc ?_ _
  refine TB.alloc ?_ _
  iterate 1 refine TB.far ?_ _ _ (by show w4.heap.size + 1 ≠ w3.heap.size + 1; omega)
  exact TC_6
 have TU_6x : TB 29 (((w6.setCell ⟨w3.heap.size + 1, 1, none⟩ (.string ⟨#[110, 101, 118, 101, 114]⟩)).alloc (.cells #[.int .i64 s6.clock, .int .i64 s6.cas, .int .i64 s6.uses, .int .i64 s6.most, .int .i64 s6.h0, .int .i64 s6.h1, .int .i64 s6.h2, .int .i64 s6.h3, .slice ia6 s6.items.length ic6, .int .i64 s6.fm, .int .i64 s6.fx, .slice pa6 s6.pages.length pc6] 29)).alloc (.cells #[.int .i64 4, .int .i64 n6, .slice ah6 h6.length ch6] 42)) (w5.heap.size) #[.int .i64 s5.clock, .int .i64 s5.cas, .int .i64 s5.uses, .int .i64 s5.most, .int .i64 s5.h0, .int .i64 s5.h1, .int .i64 s5.h2, .int .i64 s5.h3, .slice ia5 s5.items.length ic5, .int .i64 s5.fm, .int .i64 s5.fx, .slice pa5 s5.pages.length pc5] := by
  refine TB.alloc ?_ _
  refine TB.alloc ?_ _
  iterate 1 refine TB.far ?_ _ _ (by show w5.heap.size ≠ w3.heap.size + 1; omega)
  exact TU_6
 have TD_6x : TB 42 (((w6.setCell ⟨w3.heap.size + 1, 1, none⟩ (.string ⟨#[110, 101, 118, 101, 114]⟩)).alloc (.cells #[.int .i64 s6.clock, .int .i64 s6.cas, .int .i64 s6.uses, .int .i64 s6.most, .int .i64 s6.h0, .int .i64 s6.h1, .int .i64 s6.h2, .int .i64 s6.h3, .slice ia6 s6.items.length ic6, .int .i64 s6.fm, .int .i64 s6.fx, .slice pa6 s6.pages.length pc6] 29)).alloc (.cells #[.int .i64 4, .int .i64 n6, .slice ah6 h6.length ch6] 42)) (w5.heap.size + 1) #[.int .i64 4, .int .i64 n5, .slice ah5 h5.length ch5] := by
  refine TB.alloc ?_ _
  refine TB.alloc ?_ _
  iterate 1 refine TB.far ?_ _ _ (by show w5.heap.size + 1 ≠ w3.heap.size + 1; omega)
  exact TD_6
 have TV_6x : TB 29 (((w6.setCell ⟨w3.heap.size + 1, 1, none⟩ (.string ⟨#[110, 101, 118, 101, 114]⟩)).alloc (.cells #[.int .i64 s6.clock, .int .i64 s6.cas, .int .i64 s6.uses, .int .i64 s6.most, .int .i64 s6.h0, .int .i64 s6.h1, .int .i64 s6.h2, .int .i64 s6.h3, .slice ia6 s6.items.length ic6, .int .i64 s6.fm, .int .i64 s6.fx, .slice pa6 s6.pages.length pc6] 29)).alloc (.cells #[.int .i64 4, .int .i64 n6, .slice ah6 h6.length ch6] 42)) (w6.heap.size) #[.int .i64 s6.clock, .int .i64 s6.cas, .int .i64 s6.uses, .int .i64 s6.most, .int .i64 s6.h0, .int .i64 s6.h1, .int .i64 s6.h2, .int .i64 s6.h3, .slice ia6 s6.items.length ic6, .int .i64 s6.fm, .int .i64 s6.fx, .slice pa6 s6.pages.length pc6] := by
  refine TB.alloc ?_ _
  exact TB.new2 (by first | with_reducible rfl | (simp only [set_size, alloc_size]; done))
 have TF_6x : TB 42 (((w6.setCell ⟨w3.heap.size + 1, 1, none⟩ (.string ⟨#[110, 101, 118, 101, 114]⟩)).alloc (.cells #[.int .i64 s6.clock, .int .i64 s6.cas, .int .i64 s6.uses, .int .i64 s6.most, .int .i64 s6.h0, .int .i64 s6.h1, .int .i64 s6.h2, .int .i64 s6.h3, .slice ia6 s6.items.length ic6, .int .i64 s6.fm, .int .i64 s6.fx, .slice pa6 s6.pages.length pc6] 29)).alloc (.cells #[.int .i64 4, .int .i64 n6, .slice ah6 h6.length ch6] 42)) (w6.heap.size + 1) #[.int .i64 4, .int .i64 n6, .slice ah6 h6.length ch6] := by
  exact TB.new2 (by first | with_reducible rfl | (simp only [set_size, alloc_size]; done))
 have B_6x : Below w.heap.size w (((w6.setCell ⟨w3.heap.size + 1, 1, none⟩ (.string ⟨#[110, 101, 118, 101, 114]⟩)).alloc (.cells #[.int .i64 s6.clock, .int .i64 s6.cas, .int .i64 s6.uses, .int .i64 s6.most, .int .i64 s6.h0, .int .i64 s6.h1, .int .i64 s6.h2, .int .i64 s6.h3, .slice ia6 s6.items.length ic6, .int .i64 s6.fm, .int .i64 s6.fx, .slice pa6 s6.pages.length pc6] 29)).alloc (.cells #[.int .i64 4, .int .i64 n6, .slice ah6 h6.length ch6] 42)) := by
  have hlw := Below.size B_6
  refine below_al ?_ _
  refine below_al ?_ _
  iterate 1 refine below_st ?_ _ (by show w.heap.size ≤ w3.heap.size + 1; omega)
  exact B_6
 have KPs3_6x : Kp u2.heap.size w3 (((w6.setCell ⟨w3.heap.size + 1, 1, none⟩ (.string ⟨#[110, 101, 118, 101, 114]⟩)).alloc (.cells #[.int .i64 s6.clock, .int .i64 s6.cas, .int .i64 s6.uses, .int .i64 s6.most, .int .i64 s6.h0, .int .i64 s6.h1, .int .i64 s6.h2, .int .i64 s6.h3, .slice ia6 s6.items.length ic6, .int .i64 s6.fm, .int .i64 s6.fx, .slice pa6 s6.pages.length pc6] 29)).alloc (.cells #[.int .i64 4, .int .i64 n6, .slice ah6 h6.length ch6] 42)) := by
  refine Kp.alloc ?_ _
  refine Kp.alloc ?_ _
  iterate 1 refine Kp.set ?_ (Or.inr (by omega)) _ _
  exact KPs3_6
 have SIs3_6x := (StoreFrom.kp hSF3 KPs3_6x).here
 go_upto_region 12 with fail
 generalize (((w6.setCell ⟨w3.heap.size + 1, 1, none⟩ (.string ⟨#[110, 101, 118, 101, 114]⟩)).alloc (.cells #[.int .i64 s6.clock, .int .i64 s6.cas, .int .i64 s6.uses, .int .i64 s6.most, .int .i64 s6.h0, .int .i64 s6.h1, .int .i64 s6.h2, .int .i64 s6.h3, .slice ia6 s6.items.length ic6, .int .i64 s6.fm, .int .i64 s6.fx, .slice pa6 s6.pages.length pc6] 29)).alloc (.cells #[.int .i64 4, .int .i64 n6, .slice ah6 h6.length ch6] 42)) = u6 at *
 clear pxQ_6 pzQ_6 plQ_6
 have xS_6x := fun j => TS_6x.cell j
 have lS_6x := TS_6x.lt
 have xX_6x := fun j => TX_6x.cell j
 have lX_6x := TX_6x.lt
 have xH_6x := fun j => TH_6x.cell j
 have lH_6x := TH_6x.lt
 have xQ_6x := fun j => TQ_6x.cell j
 have lQ_6x := TQ_6x.lt
 have xT_6x := fun j => TT_6x.cell j
 have lT_6x := TT_6x.lt
 have xC_6x := fun j => TC_6x.cell j
 have lC_6x := TC_6x.lt
 have xU_6x := fun j => TU_6x.cell j
 have lU_6x := TU_6x.lt
 have xD_6x := fun j => TD_6x.cell j
 have lD_6x := TD_6x.lt
 have xV_6x := fun j => TV_6x.cell j
 have lV_6x := TV_6x.lt
 have xF_6x := fun j => TF_6x.cell j
 have lF_6x := TF_6x.lt
 go_wp2_with fail
 clear xS_6x lS_6x xX_6x lX_6x xH_6x lH_6x xQ_6x lQ_6x xT_6x lT_6x xC_6x lC_6x xU_6x lU_6x xD_6x lD_6x xV_6x lV_6x xF_6x lF_6x
 refine (kdo s3 ia3 ic3 pa3 pc3 7 ⟨#[110, 101, 118, 101, 114]⟩ 0 0 m ⟨#[50]⟩ _ hA7 SIs3_6x hG3 hF7 husa (hL.later B_6x) (hT.later B_6x)).mono ?_
 rintro e w7 ⟨ia7, ic7, pa7, pc7, ah7, ch7, rfl, hSF7, hb7⟩
 have gb7 : Below u6.heap.size u6 w7 := below_thru (Below.refl _ _) hb7
 have gs7 := gb7.size
 have TS_7 := TS_6x.later gb7
 clear TS_6x
 have TX_7 := TX_6x.later gb7
 clear TX_6x
 have TH_7 := TH_6x.later gb7
 clear TH_6x
 have TQ_7 := TQ_6x.later gb7
 clear TQ_6x
 have TT_7 := TT_6x.later gb7
 clear TT_6x
 have TC_7 := TC_6x.later gb7
 clear TC_6x
 have TU_7 := TU_6x.later gb7
 clear TU_6x
 have TD_7 := TD_6x.later gb7
 clear TD_6x
 have TV_7 := TV_6x.later gb7
 clear TV_6x
 have TF_7 := TF_6x.later gb7
 clear TF_6x
 have SIs3_7 := SIs3_6x.later gb7
 clear SIs3_6x
 have KPs3_7 := Kp.below KPs3_6x gb7
 have B_7 := below_thru B_6x gb7
 have gw7 := Below.size B_7
 have Q_7 : Below w7.heap.size w7 ((w7.alloc (.cells #[.int .i64 s7.clock, .int .i64 s7.cas, .int .i64 s7.uses, .int .i64 s7.most, .int .i64 s7.h0, .int .i64 s7.h1, .int .i64 s7.h2, .int .i64 s7.h3, .slice ia7 s7.items.length ic7, .int .i64 s7.fm, .int .i64 s7.fx, .slice pa7 s7.pages.length pc7] 29)).alloc (.cells #[.int .i64 5, .int .i64 n7, .slice ah7 h7.length ch7] 42)) := (below_al (below_al (Below.refl _ _) _) _)
 have TS_7x := TS_7.later Q_7
 have TX_7x := TX_7.later Q_7
 have TH_7x := TH_7.later Q_7
 have TQ_7x := TQ_7.later Q_7
 have TT_7x := TT_7.later Q_7
 have TC_7x := TC_7.later Q_7
 have TU_7x := TU_7.later Q_7
 have TD_7x := TD_7.later Q_7
 have TV_7x := TV_7.later Q_7
 have TF_7x := TF_7.later Q_7
 have TY_7x : TB 29 ((w7.alloc (.cells #[.int .i64 s7.clock, .int .i64 s7.cas, .int .i64 s7.uses, .int .i64 s7.most, .int .i64 s7.h0, .int .i64 s7.h1, .int .i64 s7.h2, .int .i64 s7.h3, .slice ia7 s7.items.length ic7, .int .i64 s7.fm, .int .i64 s7.fx, .slice pa7 s7.pages.length pc7] 29)).alloc (.cells #[.int .i64 5, .int .i64 n7, .slice ah7 h7.length ch7] 42)) (w7.heap.size) #[.int .i64 s7.clock, .int .i64 s7.cas, .int .i64 s7.uses, .int .i64 s7.most, .int .i64 s7.h0, .int .i64 s7.h1, .int .i64 s7.h2, .int .i64 s7.h3, .slice ia7 s7.items.length ic7, .int .i64 s7.fm, .int .i64 s7.fx, .slice pa7 s7.pages.length pc7] := by
  refine TB.alloc ?_ _
  exact TB.new2 (by first | with_reducible rfl | (simp only [set_size, alloc_size]; done))
 have TJ_7x : TB 42 ((w7.alloc (.cells #[.int .i64 s7.clock, .int .i64 s7.cas, .int .i64 s7.uses, .int .i64 s7.most, .int .i64 s7.h0, .int .i64 s7.h1, .int .i64 s7.h2, .int .i64 s7.h3, .slice ia7 s7.items.length ic7, .int .i64 s7.fm, .int .i64 s7.fx, .slice pa7 s7.pages.length pc7] 29)).alloc (.cells #[.int .i64 5, .int .i64 n7, .slice ah7 h7.length ch7] 42)) (w7.heap.size + 1) #[.int .i64 5, .int .i64 n7, .slice ah7 h7.length ch7] := by
  exact TB.new2 (by first | with_reducible rfl | (simp only [set_size, alloc_size]; done))
 have B_7x := below_thru B_7 Q_7
 have SIs3_7x := SIs3_7.later Q_7
 have KPs3_7x := Kp.below KPs3_7 Q_7
 have xS_7x := fun j => TS_7x.cell j
 have lS_7x := TS_7x.lt
 have xX_7x := fun j => TX_7x.cell j
 have lX_7x := TX_7x.lt
 have xH_7x := fun j => TH_7x.cell j
 have lH_7x := TH_7x.lt
 have xQ_7x := fun j => TQ_7x.cell j
 have lQ_7x := TQ_7x.lt
 have xT_7x := fun j => TT_7x.cell j
 have lT_7x := TT_7x.lt
 have xC_7x := fun j => TC_7x.cell j
 have lC_7x := TC_7x.lt
 have xU_7x := fun j => TU_7x.cell j
 have lU_7x := TU_7x.lt
 have xD_7x := fun j => TD_7x.cell j
 have lD_7x := TD_7x.lt
 have xV_7x := fun j => TV_7x.cell j
 have lV_7x := TV_7x.lt
 have xF_7x := fun j => TF_7x.cell j
 have lF_7x := TF_7x.lt
 have xY_7x := fun j => TY_7x.cell j
 have lY_7x := TY_7x.lt
 have xJ_7x := fun j => TJ_7x.cell j
 have lJ_7x := TJ_7x.lt
 go_wp2_with fail
 go_ret
 exact ⟨rfl, B_7x⟩

end Go.Proofs.YtdblegdgmjakfaaGreatDoor
