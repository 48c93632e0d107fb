/- Parts of the proof. -/
import Derived.Test.YtdblegdgmjakfaaGreatDoorMJ34
import Derived.Deep.RegionHeld3
namespace Go.Proofs.YtdblegdgmjakfaaGreatDoor
open Go.ChangeShapes Go.WideShapes Go.ChangeAt Go.RowKit
set_option linter.unusedVariables false
set_option linter.unusedSimpArgs false

/- dovecotekeep.AddsOnce. -/

def midV : ByteArray := ⟨#[109, 105, 100]⟩
def endV : ByteArray := ⟨#[45, 101, 110, 100]⟩
def begV : ByteArray := ⟨#[98, 101, 103, 105, 110, 45]⟩
def midEnd : ByteArray := ⟨#[109, 105, 100, 45, 101, 110, 100]⟩
def allV : ByteArray := ⟨#[98, 101, 103, 105, 110, 45, 109, 105, 100, 45, 101, 110, 100]⟩
/-- Ahead of a round. -/
structure AInv (w : World) (s : StoreR) (ia : Option Addr) (ic : Nat) (pa : Option Addr) (pc S : Nat) (wr : World) : Prop where
 t : TB 29 wr S #[.int .i64 s.clock, .int .i64 s.cas, .int .i64 s.uses, .int .i64 s.most, .int .i64 s.h0, .int .i64 s.h1, .int .i64 s.h2, .int .i64 s.h3, .slice ia s.items.length ic, .int .i64 s.fm, .int .i64 s.fx, .slice pa s.pages.length pc]
 k : TB 3 wr (S + 1) #[.int .i64 4, .int .i64 5, .int .i64 6]
 si : StoreIn wr s ia pa
 b : Below w.heap.size w wr

/-- What the law says, plain. -/
def AddPl (s5 : StoreR) (cas k3 k4 k5 : Int) : Prop := k3 = 3 ∧ k4 = 2 ∧ k5 = 2 ∧ getB s5 never = true ∧ getH s5 never = ⟨never, 0, cas, allV⟩
theorem add_pl {s s2 : StoreR} (hg : Gd s2) (hus : s2.uses ≤ 1000) (hc0 : 0 ≤ s.cas) (hc1 : s.cas ≤ 1000) (hP : Put s s2 (newI s never 0 0 midV)) :
 AddPl (ansN (ansN s2 (setQ 5 never 0 0 0 endV)).1 (setQ 6 never 0 0 0 begV)).1 (s.cas + 3) (ansN s2 (setQ 3 never 0 0 0 ⟨#[119]⟩)).2.1 (ansN s2 (setQ 5 never 0 0 0 endV)).2.1 (ansN (ansN s2 (setQ 5 never 0 0 0 endV)).1 (setQ 6 never 0 0 0 begV)).2.1 := by
 have hh := hP.has (Or.inl rfl)
 have hkey : (newI s never 0 0 midV).key = never := rfl
 rw [hkey] at hh
 obtain ⟨i, e1, e2, e3, e4, e5, e6⟩ := getB_has hg hh
 have a3 := (unmet_ans (s := s2) (q := setQ 3 never 0 0 0 ⟨#[119]⟩) (by show (3 : Int) ≠ 1; decide) (by show (3 : Int) ≠ 12; decide) (by show (3 : Int) ≠ 13; decide) (m := 3) (by show unmetN 3 (getB s2 never) = 3; rw [e4]; rfl) (by decide)).1
 have hF4 : QFit (setQ 5 never 0 0 0 endV) := setQ_fit ⟨by decide, by decide⟩ never_key ⟨by decide, by decide⟩ ⟨by decide, by decide⟩ ⟨by decide, by decide⟩ (Or.inr rfl) (by decide)
 obtain ⟨b1, b2⟩ := join_ans hg (kind := 5) (value := endV) (V := midEnd) hh rfl (Or.inl rfl) never_key rfl (by decide) rfl (by have := hP.cas; omega)
 have hg4 := hg.next hF4 (by omega)
 have hh4 := b2.has (Or.inl rfl)
 have hF5 : QFit (setQ 6 never 0 0 0 begV) := setQ_fit ⟨by decide, by decide⟩ never_key ⟨by decide, by decide⟩ ⟨by decide, by decide⟩ ⟨by decide, by decide⟩ (Or.inr rfl) (by decide)
 have hc4 := b2.cas
 have hc2 := hP.cas
 have hu4 := uses_next hg hF4
 obtain ⟨d1, d2⟩ := join_ans hg4 (kind := 6) (value := begV) (V := allV) hh4 rfl (Or.inr rfl) never_key rfl (by decide) rfl (by omega)
 have hg5 := hg4.next hF5 (by omega)
 have hh5 := d2.has (Or.inl rfl)
 obtain ⟨j, f1, f2, f3, f4, f5, f6⟩ := getB_has hg5 hh5
 refine ⟨a3, b1, d1, f4, f6.trans ?_⟩
 show HitR.mk never 0 ((ansN s2 (setQ 5 never 0 0 0 endV)).1.cas + 1) allV = _
 rw [hc4, hc2]
 show HitR.mk never 0 (s.cas + 1 + 1 + 1) allV = HitR.mk never 0 (s.cas + 3) allV
 congr 1
 omega

set_option maxHeartbeats 8000000 in
set_option maxRecDepth 100000 in
theorem adds_once (l : List RawR) (ra : Option Addr) (rc : Nat) (r : RawR) (w : World) (hR : RawsAt w ra l) (hok : RawsOk l) (hL : LaidC w) (hT : LaidT w) :
 Calls Tryz.prog 10 #[.slice ra l.length rc, .agg #[.int .i64 r.k, .int .i64 r.a, .int .i64 r.b, .int .i64 r.c]] w fun e w' => e = .returned (.bool true) ∧ Below w.heap.size w w' := by
 have hmin : (min 40 l.length) ≤ 40 := Nat.min_le_left _ _
 have hpl := pl_play (newS_pl (by decide : (0 : Int) ≤ 12) (by decide) (by decide : (0 : Int) ≤ 4) (by decide)) l (min 40 l.length) (by omega) (by omega)
 have hfew := few_play (by decide : (0 : Int) ≤ 12) (by decide) (by decide : (0 : Int) ≤ 4) (by decide) l (min 40 l.length) (by omega) (by omega)
 have hG0 := hpl.gd
 have hu0 := hpl.uses
 have hc0 := hfew.cas
 have hk0 := hfew
 obtain ⟨s, hplay⟩ : ∃ s, play (newS 12 4) l (min 40 l.length) = s := ⟨_, rfl⟩
 rw [hplay] at hG0 hu0 hc0 hk0
 have hG : Gd s := hG0
 have hu : s.uses ≤ 500 := by omega
 have hus : s.uses ≤ 1099511627766 := by omega
 have hc : s.cas ≤ 40 := by omega
 have hcz := (counts_facts hG.parts.1).2.2.1
 have hnone := never_none hk0
 have hnB : getB s never = false := by unfold getB; rw [hnone]; rfl
 have hU : ∀ (kind : Int) (v : ByteArray), kind = 4 ∨ kind = 5 ∨ kind = 6 → (ansN s (setQ kind never 0 0 0 v)).2.1 = 3 ∧ (ansN s (setQ kind never 0 0 0 v)).1 = (foundS s never).1 := fun kind v hk => by
  refine unmet_ans (s := s) (q := setQ kind never 0 0 0 v) (by show kind ≠ 1; omega) (by show kind ≠ 12; omega) (by show kind ≠ 13; omega) (m := 3) ?_ (by decide)
  show unmetN kind (getB s never) = 3
  rw [hnB]
  rcases hk with rfl | rfl | rfl <;> rfl
 have hFB : ∀ kind : Int, kind = 4 ∨ kind = 5 ∨ kind = 6 → QFit (setQ kind never 0 0 0 ⟨#[118]⟩) := fun kind hk => setQ_fit ⟨by omega, by omega⟩ never_key ⟨by decide, by decide⟩ ⟨by decide, by decide⟩ ⟨by decide, by decide⟩ (Or.inr rfl) (by decide)
 have hFB0 : QFit (setQ 4 never 0 0 0 ⟨#[118]⟩) := hFB 4 (by decide)
 have hFB1 : QFit (setQ 5 never 0 0 0 ⟨#[118]⟩) := hFB 5 (by decide)
 have hFB2 : QFit (setQ 6 never 0 0 0 ⟨#[118]⟩) := hFB 6 (by decide)
 obtain ⟨f, hf⟩ : ∃ f, (foundS s never).1 = f := ⟨_, rfl⟩
 have hX : ∀ kind : Int, kind = 4 ∨ kind = 5 ∨ kind = 6 → ∃ m g, ansN s (setQ kind never 0 0 0 ⟨#[118]⟩) = (f, 3, m, g) := fun kind hk => by
  obtain ⟨h1, h2⟩ := hU kind ⟨#[118]⟩ hk
  refine ⟨(ansN s (setQ kind never 0 0 0 ⟨#[118]⟩)).2.2.1, (ansN s (setQ kind never 0 0 0 ⟨#[118]⟩)).2.2.2, ?_⟩
  rw [← hf, ← h2]
  conv => rhs; arg 2; arg 1; rw [← h1]
 obtain ⟨m0, g0, hB0⟩ := hX 4 (by decide)
 obtain ⟨m1, g1, hB1⟩ := hX 5 (by decide)
 obtain ⟨m2, g2, hB2⟩ := hX 6 (by decide)
 have hF2 : QFit (setQ 3 never 0 0 0 midV) := setQ_fit ⟨by decide, by decide⟩ never_key ⟨by decide, by decide⟩ ⟨by decide, by decide⟩ ⟨by decide, by decide⟩ (Or.inr rfl) (by decide)
 have hst0 := set_ans hG (by omega) ((fit_facts hF2).one (by show (3 : Int) ≠ 1; decide) (by show (3 : Int) ≠ 12; decide) (by show (3 : Int) ≠ 13; decide)) (Or.inr (Or.inl rfl)) (show unmetN 3 (getB s never) = 0 by rw [hnB]; rfl)
 have hG20 := hG.next hF2 hus
 have hu20 := uses_next hG hF2
 obtain ⟨s2, k2, n2, h2, hA2⟩ : ∃ a b c d, ansN s (setQ 3 never 0 0 0 midV) = (a, b, c, d) := ⟨_, _, _, _, rfl⟩
 rw [hA2] at hst0 hG20 hu20
 have hG2 : Gd s2 := hG20
 have hu2 : s2.uses ≤ s.uses + 10 := hu20
 have hus2 : s2.uses ≤ 1099511627766 := by omega
 have HST : Hid (k2 = 11 ∨ k2 = 2 ∧ Put s s2 (newI s never 0 (untilN s.clock 0) midV)) := hst0.symm
 obtain ⟨cas, hcasX⟩ : ∃ a, s.cas + 3 = a := ⟨_, rfl⟩
 obtain ⟨s3, k3, n3, h3, hA3⟩ : ∃ a b c d, ansN s2 (setQ 3 never 0 0 0 ⟨#[119]⟩) = (a, b, c, d) := ⟨_, _, _, _, rfl⟩
 obtain ⟨s4, k4, n4, h4, hA4⟩ : ∃ a b c d, ansN s2 (setQ 5 never 0 0 0 endV) = (a, b, c, d) := ⟨_, _, _, _, rfl⟩
 obtain ⟨s5, k5, n5, h5, hA5⟩ : ∃ a b c d, ansN s4 (setQ 6 never 0 0 0 begV) = (a, b, c, d) := ⟨_, _, _, _, rfl⟩
 obtain ⟨s6, hS6⟩ : ∃ a, getS s5 never = a := ⟨_, rfl⟩
 have HPL : Hid (Put s s2 (newI s never 0 (untilN s.clock 0) midV) → AddPl s5 cas k3 k4 k5) := by
  intro hP
  have h := add_pl hG2 (by omega) hcz (by omega) hP
  rw [hcasX, hA3, hA4] at h
  simp only at h
  rw [hA5] at h
  exact h
 have hF3 : QFit (setQ 3 never 0 0 0 ⟨#[119]⟩) := setQ_fit ⟨by decide, by decide⟩ never_key ⟨by decide, by decide⟩ ⟨by decide, by decide⟩ ⟨by decide, by decide⟩ (Or.inr rfl) (by decide)
 have hF4 : QFit (setQ 5 never 0 0 0 endV) := setQ_fit ⟨by decide, by decide⟩ never_key ⟨by decide, by decide⟩ ⟨by decide, by decide⟩ ⟨by decide, by decide⟩ (Or.inr rfl) (by decide)
 have hF5 : QFit (setQ 6 never 0 0 0 begV) := setQ_fit ⟨by decide, by decide⟩ never_key ⟨by decide, by decide⟩ ⟨by decide, by decide⟩ ⟨by decide, by decide⟩ (Or.inr rfl) (by decide)
 have hG4 : Gd s4 := by have := hG2.next hF4 hus2; rw [hA4] at this; exact this
 have hu4 : s4.uses ≤ s2.uses + 10 := by have := uses_next hG2 hF4; rw [hA4] at this; exact this
 have hus4 : s4.uses ≤ 1099511627766 := by omega
 have hG5 : Gd s5 := by have := hG4.next hF5 hus4; rw [hA5] at this; exact this
 have hu5 : s5.uses ≤ s4.uses + 10 := by have := uses_next hG4 hF5; rw [hA5] at this; exact this
 have hus5 : s5.uses ≤ 1099511627766 := by omega
 clear hcasX hst0 hG20 hu20 hk0 hc0 hu0 hG0 hpl hfew hX hFB hU hf hnone hnB hu hc hu2 hu4 hu5 hmin
 have hnev : keyB ⟨#[110, 101, 118, 101, 114]⟩ = true := never_key
 go_enter Tryz.func10, Tryz.ntmps10
 have Q_0 : Below w.heap.size w (w.alloc (.cells #[.int .i64 r.k, .int .i64 r.a, .int .i64 r.b, .int .i64 r.c] 38)) := (below_al (Below.refl _ _) _)
 have TR_0x : TB 38 (w.alloc (.cells #[.int .i64 r.k, .int .i64 r.a, .int .i64 r.b, .int .i64 r.c] 38)) (w.heap.size) #[.int .i64 r.k, .int .i64 r.a, .int .i64 r.b, .int .i64 r.c] := by
  exact TB.new2 (by first | with_reducible rfl | (simp only [set_size, alloc_size]; done))
 have B_0x := Q_0
 have xR_0x := fun j => TR_0x.cell j
 have lR_0x := TR_0x.lt
 go_wp2_with fail
 generalize (w.alloc (.cells #[.int .i64 r.k, .int .i64 r.a, .int .i64 r.b, .int .i64 r.c] 38)) = v1 at *
 clear xR_0x lR_0x
 refine (played_any l ra rc 12 4 40 _ (hR.later B_0x) hok (by decide) (by decide) (by decide) (by decide) (by decide) (hL.later B_0x) (hT.later B_0x)).mono ?_
 rintro e w1 ⟨ia, ic, pa, pc, rv, rfl, hSI, hb1⟩
 have gb1 : Below v1.heap.size v1 w1 := below_thru (Below.refl _ _) hb1
 have gs1 := gb1.size
 have TR_1 := TR_0x.later gb1
 clear TR_0x
 have B_1 := below_thru B_0x gb1
 have gw1 := Below.size B_1
 rw [hplay] at *
 unfold storeV
 have Q_1 : Below w1.heap.size w1 ((w1.alloc (.cells #[.int .i64 s.clock, .int .i64 s.cas, .int .i64 s.uses, .int .i64 s.most, .int .i64 s.h0, .int .i64 s.h1, .int .i64 s.h2, .int .i64 s.h3, .slice ia s.items.length ic, .int .i64 s.fm, .int .i64 s.fx, .slice pa s.pages.length pc] 29)).alloc (.cells #[.int .i64 4, .int .i64 5, .int .i64 6] 3)) := (below_al (below_al (Below.refl _ _) _) _)
 have TS_1x : TB 29 ((w1.alloc (.cells #[.int .i64 s.clock, .int .i64 s.cas, .int .i64 s.uses, .int .i64 s.most, .int .i64 s.h0, .int .i64 s.h1, .int .i64 s.h2, .int .i64 s.h3, .slice ia s.items.length ic, .int .i64 s.fm, .int .i64 s.fx, .slice pa s.pages.length pc] 29)).alloc (.cells #[.int .i64 4, .int .i64 5, .int .i64 6] 3)) (w1.heap.size) #[.int .i64 s.clock, .int .i64 s.cas, .int .i64 s.uses, .int .i64 s.most, .int .i64 s.h0, .int .i64 s.h1, .int .i64 s.h2, .int .i64 s.h3, .slice ia s.items.length ic, .int .i64 s.fm, .int .i64 s.fx, .slice pa s.pages.length pc] := by
  refine TB.alloc ?_ _
  exact TB.new2 (by first | with_reducible rfl | (simp only [set_size, alloc_size]; done))
 have TK_1x : TB 3 ((w1.alloc (.cells #[.int .i64 s.clock, .int .i64 s.cas, .int .i64 s.uses, .int .i64 s.most, .int .i64 s.h0, .int .i64 s.h1, .int .i64 s.h2, .int .i64 s.h3, .slice ia s.items.length ic, .int .i64 s.fm, .int .i64 s.fx, .slice pa s.pages.length pc] 29)).alloc (.cells #[.int .i64 4, .int .i64 5, .int .i64 6] 3)) (w1.heap.size + 1) #[.int .i64 4, .int .i64 5, .int .i64 6] := by
  exact TB.new2 (by first | with_reducible rfl | (simp only [set_size, alloc_size]; done))
 have B_1x := below_thru B_1 Q_1
 have SIs_1x := hSI.later Q_1
 go_wp2_with fail
 generalize ((w1.alloc (.cells #[.int .i64 s.clock, .int .i64 s.cas, .int .i64 s.uses, .int .i64 s.most, .int .i64 s.h0, .int .i64 s.h1, .int .i64 s.h2, .int .i64 s.h3, .slice ia s.items.length ic, .int .i64 s.fm, .int .i64 s.fx, .slice pa s.pages.length pc] 29)).alloc (.cells #[.int .i64 4, .int .i64 5, .int .i64 6] 3)) = W0 at *
 go_loopw [36] (fun i wr => ∃ k : Nat, k ≤ 3 ∧ i = .int .i64 k ∧ AInv w s ia ic pa pc w1.heap.size wr) (fun i _ => 3 - (intOf i).toNat)
 case atStart => exact ⟨0, by omega, rfl, ⟨TS_1x, TK_1x, SIs_1x, B_1x⟩⟩
 case round =>
  obtain ⟨k, hk, rfl, hI⟩ := hrel
  obtain ⟨TS, TK, SI, B⟩ := hI
  have xS := fun j => TS.cell j
  have lS := TS.lt
  have xK := fun j => TK.cell j
  have lK := TK.lt
  have hks : k = 0 ∨ k = 1 ∨ k = 2 ∨ k = 3 := by omega
  clear hk
  rcases hks with rfl | rfl | rfl | rfl
  · go_wp2_with fail
    refine (kdo s ia ic pa pc 4 ⟨#[110, 101, 118, 101, 114]⟩ 0 0 0 ⟨#[118]⟩ _ hB0 SI hG hFB0 hus (hL.later B) (hT.later B)).mono ?_
    rintro e wk ⟨ja, jc, qa, qc, a, c, rfl, hSFk, hbk⟩
    have Qk : Below wr.heap.size wr ((wk.alloc (.cells #[.int .i64 f.clock, .int .i64 f.cas, .int .i64 f.uses, .int .i64 f.most, .int .i64 f.h0, .int .i64 f.h1, .int .i64 f.h2, .int .i64 f.h3, .slice ja f.items.length jc, .int .i64 f.fm, .int .i64 f.fx, .slice qa f.pages.length qc] 29)).alloc (.cells #[.int .i64 3, .int .i64 m0, .slice a g0.length c] 42)) := below_al (below_al hbk _) _
    have IX : AInv w s ia ic pa pc w1.heap.size ((wk.alloc (.cells #[.int .i64 f.clock, .int .i64 f.cas, .int .i64 f.uses, .int .i64 f.most, .int .i64 f.h0, .int .i64 f.h1, .int .i64 f.h2, .int .i64 f.h3, .slice ja f.items.length jc, .int .i64 f.fm, .int .i64 f.fx, .slice qa f.pages.length qc] 29)).alloc (.cells #[.int .i64 3, .int .i64 m0, .slice a g0.length c] 42)) := ⟨TS.later Qk, TK.later Qk, SI.later Qk, below_thru B Qk⟩
    clear TS TK SI B xS lS xK lK
    go_wp2_with fail
    exact ⟨⟨1, by omega, by simp, IX⟩, by simp [intOf]⟩
  · go_wp2_with fail
    refine (kdo s ia ic pa pc 5 ⟨#[110, 101, 118, 101, 114]⟩ 0 0 0 ⟨#[118]⟩ _ hB1 SI hG hFB1 hus (hL.later B) (hT.later B)).mono ?_
    rintro e wk ⟨ja, jc, qa, qc, a, c, rfl, hSFk, hbk⟩
    have Qk : Below wr.heap.size wr ((wk.alloc (.cells #[.int .i64 f.clock, .int .i64 f.cas, .int .i64 f.uses, .int .i64 f.most, .int .i64 f.h0, .int .i64 f.h1, .int .i64 f.h2, .int .i64 f.h3, .slice ja f.items.length jc, .int .i64 f.fm, .int .i64 f.fx, .slice qa f.pages.length qc] 29)).alloc (.cells #[.int .i64 3, .int .i64 m1, .slice a g1.length c] 42)) := below_al (below_al hbk _) _
    have IX : AInv w s ia ic pa pc w1.heap.size ((wk.alloc (.cells #[.int .i64 f.clock, .int .i64 f.cas, .int .i64 f.uses, .int .i64 f.most, .int .i64 f.h0, .int .i64 f.h1, .int .i64 f.h2, .int .i64 f.h3, .slice ja f.items.length jc, .int .i64 f.fm, .int .i64 f.fx, .slice qa f.pages.length qc] 29)).alloc (.cells #[.int .i64 3, .int .i64 m1, .slice a g1.length c] 42)) := ⟨TS.later Qk, TK.later Qk, SI.later Qk, below_thru B Qk⟩
    clear TS TK SI B xS lS xK lK
    go_wp2_with fail
    exact ⟨⟨2, by omega, by simp, IX⟩, by simp [intOf]⟩
  · go_wp2_with fail
    refine (kdo s ia ic pa pc 6 ⟨#[110, 101, 118, 101, 114]⟩ 0 0 0 ⟨#[118]⟩ _ hB2 SI hG hFB2 hus (hL.later B) (hT.later B)).mono ?_
    rintro e wk ⟨ja, jc, qa, qc, a, c, rfl, hSFk, hbk⟩
    have Qk : Below wr.heap.size wr ((wk.alloc (.cells #[.int .i64 f.clock, .int .i64 f.cas, .int .i64 f.uses, .int .i64 f.most, .int .i64 f.h0, .int .i64 f.h1, .int .i64 f.h2, .int .i64 f.h3, .slice ja f.items.length jc, .int .i64 f.fm, .int .i64 f.fx, .slice qa f.pages.length qc] 29)).alloc (.cells #[.int .i64 3, .int .i64 m2, .slice a g2.length c] 42)) := below_al (below_al hbk _) _
    have IX : AInv w s ia ic pa pc w1.heap.size ((wk.alloc (.cells #[.int .i64 f.clock, .int .i64 f.cas, .int .i64 f.uses, .int .i64 f.most, .int .i64 f.h0, .int .i64 f.h1, .int .i64 f.h2, .int .i64 f.h3, .slice ja f.items.length jc, .int .i64 f.fm, .int .i64 f.fx, .slice qa f.pages.length qc] 29)).alloc (.cells #[.int .i64 3, .int .i64 m2, .slice a g2.length c] 42)) := ⟨TS.later Qk, TK.later Qk, SI.later Qk, below_thru B Qk⟩
    clear TS TK SI B xS lS xK lK
    go_wp2_with fail
    exact ⟨⟨3, by omega, by simp, IX⟩, by simp [intOf]⟩
  · clear xS lS xK lK
    have xS_1r := fun j => TS.cell j
    have lS_1r := TS.lt
    go_wp2_with fail
    clear xS_1r lS_1r
    refine (kdo s ia ic pa pc 3 ⟨#[110, 101, 118, 101, 114]⟩ 0 0 0 ⟨#[109, 105, 100]⟩ _ hA2 SI hG hF2 hus (hL.later B) (hT.later B)).mono ?_
    rintro e w2 ⟨ia2, ic2, pa2, pc2, ah2, ch2, rfl, hSF2, hb2⟩
    have gb2 : Below wr.heap.size wr w2 := below_thru (Below.refl _ _) hb2
    have gs2 := gb2.size
    have TS_2 := TS.later gb2
    clear TS
    have SIs_2 := SI.later gb2
    clear SI
    have B_2 := below_thru B gb2
    have gw2 := Below.size B_2
    have Q_2 : Below w2.heap.size w2 ((w2.alloc (.cells #[.int .i64 s2.clock, .int .i64 s2.cas, .int .i64 s2.uses, .int .i64 s2.most, .int .i64 s2.h0, .int .i64 s2.h1, .int .i64 s2.h2, .int .i64 s2.h3, .slice ia2 s2.items.length ic2, .int .i64 s2.fm, .int .i64 s2.fx, .slice pa2 s2.pages.length pc2] 29)).alloc (.cells #[.int .i64 k2, .int .i64 n2, .slice ah2 h2.length ch2] 42)) := (below_al (below_al (Below.refl _ _) _) _)
    have TS_2x := TS_2.later Q_2
    have TT_2x : TB 29 ((w2.alloc (.cells #[.int .i64 s2.clock, .int .i64 s2.cas, .int .i64 s2.uses, .int .i64 s2.most, .int .i64 s2.h0, .int .i64 s2.h1, .int .i64 s2.h2, .int .i64 s2.h3, .slice ia2 s2.items.length ic2, .int .i64 s2.fm, .int .i64 s2.fx, .slice pa2 s2.pages.length pc2] 29)).alloc (.cells #[.int .i64 k2, .int .i64 n2, .slice ah2 h2.length ch2] 42)) (w2.heap.size) #[.int .i64 s2.clock, .int .i64 s2.cas, .int .i64 s2.uses, .int .i64 s2.most, .int .i64 s2.h0, .int .i64 s2.h1, .int .i64 s2.h2, .int .i64 s2.h3, .slice ia2 s2.items.length ic2, .int .i64 s2.fm, .int .i64 s2.fx, .slice pa2 s2.pages.length pc2] := by
     refine TB.alloc ?_ _
     exact TB.new2 (by first | with_reducible rfl | (simp only [set_size, alloc_size]; done))
    have TX_2x : TB 42 ((w2.alloc (.cells #[.int .i64 s2.clock, .int .i64 s2.cas, .int .i64 s2.uses, .int .i64 s2.most, .int .i64 s2.h0, .int .i64 s2.h1, .int .i64 s2.h2, .int .i64 s2.h3, .slice ia2 s2.items.length ic2, .int .i64 s2.fm, .int .i64 s2.fx, .slice pa2 s2.pages.length pc2] 29)).alloc (.cells #[.int .i64 k2, .int .i64 n2, .slice ah2 h2.length ch2] 42)) (w2.heap.size + 1) #[.int .i64 k2, .int .i64 n2, .slice ah2 h2.length ch2] := by
     exact TB.new2 (by first | with_reducible rfl | (simp only [set_size, alloc_size]; done))
    have B_2x := below_thru B_2 Q_2
    have SIs_2x := SIs_2.later Q_2
    have SIs2_2x := hSF2.here.later Q_2
    have xS_2x := fun j => TS_2x.cell j
    have lS_2x := TS_2x.lt
    have xT_2x := fun j => TT_2x.cell j
    have lT_2x := TT_2x.lt
    have xX_2x := fun j => TX_2x.cell j
    have lX_2x := TX_2x.lt
    rcases HST.out with hk2 | ⟨hk2, hP⟩
    · subst hk2
      go_wp2_with fail
      go_ret
      exact ⟨rfl, B_2x⟩
    subst hk2
    obtain ⟨hk3, hk4, hk5, hB6, hH6⟩ := HPL.out hP
    subst hk3 hk4 hk5
    go_wp2_with fail
    generalize ((w2.alloc (.cells #[.int .i64 s2.clock, .int .i64 s2.cas, .int .i64 s2.uses, .int .i64 s2.most, .int .i64 s2.h0, .int .i64 s2.h1, .int .i64 s2.h2, .int .i64 s2.h3, .slice ia2 s2.items.length ic2, .int .i64 s2.fm, .int .i64 s2.fx, .slice pa2 s2.pages.length pc2] 29)).alloc (.cells #[.int .i64 2, .int .i64 n2, .slice ah2 h2.length ch2] 42)) = v3 at *
    clear xS_2x lS_2x xT_2x lT_2x xX_2x lX_2x
    refine (kdo s2 ia2 ic2 pa2 pc2 3 ⟨#[110, 101, 118, 101, 114]⟩ 0 0 0 ⟨#[119]⟩ _ hA3 SIs2_2x hG2 hF3 hus2 (hL.later B_2x) (hT.later B_2x)).mono ?_
    rintro e w3 ⟨ia3, ic3, pa3, pc3, ah3, ch3, rfl, hSF3, hb3⟩
    have gb3 : Below v3.heap.size v3 w3 := below_thru (Below.refl _ _) hb3
    have gs3 := gb3.size
    have TS_3 := TS_2x.later gb3
    clear TS_2x
    have TT_3 := TT_2x.later gb3
    clear TT_2x
    have TX_3 := TX_2x.later gb3
    clear TX_2x
    have SIs_3 := SIs_2x.later gb3
    clear SIs_2x
    have SIs2_3 := SIs2_2x.later gb3
    clear SIs2_2x
    have B_3 := below_thru B_2x gb3
    have gw3 := Below.size B_3
    have Q_3 : Below w3.heap.size w3 ((w3.alloc (.cells #[.int .i64 s3.clock, .int .i64 s3.cas, .int .i64 s3.uses, .int .i64 s3.most, .int .i64 s3.h0, .int .i64 s3.h1, .int .i64 s3.h2, .int .i64 s3.h3, .slice ia3 s3.items.length ic3, .int .i64 s3.fm, .int .i64 s3.fx, .slice pa3 s3.pages.length pc3] 29)).alloc (.cells #[.int .i64 3, .int .i64 n3, .slice ah3 h3.length ch3] 42)) := (below_al (below_al (Below.refl _ _) _) _)
    have TS_3x := TS_3.later Q_3
    have TT_3x := TT_3.later Q_3
    have TX_3x := TX_3.later Q_3
    have TU_3x : TB 29 ((w3.alloc (.cells #[.int .i64 s3.clock, .int .i64 s3.cas, .int .i64 s3.uses, .int .i64 s3.most, .int .i64 s3.h0, .int .i64 s3.h1, .int .i64 s3.h2, .int .i64 s3.h3, .slice ia3 s3.items.length ic3, .int .i64 s3.fm, .int .i64 s3.fx, .slice pa3 s3.pages.length pc3] 29)).alloc (.cells #[.int .i64 3, .int .i64 n3, .slice ah3 h3.length ch3] 42)) (w3.heap.size) #[.int .i64 s3.clock, .int .i64 s3.cas, .int .i64 s3.uses, .int .i64 s3.most, .int .i64 s3.h0, .int .i64 s3.h1, .int .i64 s3.h2, .int .i64 s3.h3, .slice ia3 s3.items.length ic3, .int .i64 s3.fm, .int .i64 s3.fx, .slice pa3 s3.pages.length pc3] := by
     refine TB.alloc ?_ _
     exact TB.new2 (by first | with_reducible rfl | (simp only [set_size, alloc_size]; done))
    have TY_3x : TB 42 ((w3.alloc (.cells #[.int .i64 s3.clock, .int .i64 s3.cas, .int .i64 s3.uses, .int .i64 s3.most, .int .i64 s3.h0, .int .i64 s3.h1, .int .i64 s3.h2, .int .i64 s3.h3, .slice ia3 s3.items.length ic3, .int .i64 s3.fm, .int .i64 s3.fx, .slice pa3 s3.pages.length pc3] 29)).alloc (.cells #[.int .i64 3, .int .i64 n3, .slice ah3 h3.length ch3] 42)) (w3.heap.size + 1) #[.int .i64 3, .int .i64 n3, .slice ah3 h3.length ch3] := by
     exact TB.new2 (by first | with_reducible rfl | (simp only [set_size, alloc_size]; done))
    have B_3x := below_thru B_3 Q_3
    have SIs_3x := SIs_3.later Q_3
    have SIs2_3x := SIs2_3.later Q_3
    have xS_3x := fun j => TS_3x.cell j
    have lS_3x := TS_3x.lt
    have xT_3x := fun j => TT_3x.cell j
    have lT_3x := TT_3x.lt
    have xX_3x := fun j => TX_3x.cell j
    have lX_3x := TX_3x.lt
    have xU_3x := fun j => TU_3x.cell j
    have lU_3x := TU_3x.lt
    have xY_3x := fun j => TY_3x.cell j
    have lY_3x := TY_3x.lt
    go_wp2_with fail
    generalize ((w3.alloc (.cells #[.int .i64 s3.clock, .int .i64 s3.cas, .int .i64 s3.uses, .int .i64 s3.most, .int .i64 s3.h0, .int .i64 s3.h1, .int .i64 s3.h2, .int .i64 s3.h3, .slice ia3 s3.items.length ic3, .int .i64 s3.fm, .int .i64 s3.fx, .slice pa3 s3.pages.length pc3] 29)).alloc (.cells #[.int .i64 3, .int .i64 n3, .slice ah3 h3.length ch3] 42)) = v4 at *
    clear xS_3x lS_3x xT_3x lT_3x xX_3x lX_3x xU_3x lU_3x xY_3x lY_3x
    refine (kdo s2 ia2 ic2 pa2 pc2 5 ⟨#[110, 101, 118, 101, 114]⟩ 0 0 0 ⟨#[45, 101, 110, 100]⟩ _ hA4 SIs2_3x hG2 hF4 hus2 (hL.later B_3x) (hT.later B_3x)).mono ?_
    rintro e w4 ⟨ia4, ic4, pa4, pc4, ah4, ch4, rfl, hSF4, hb4⟩
    have gb4 : Below v4.heap.size v4 w4 := below_thru (Below.refl _ _) hb4
    have gs4 := gb4.size
    have TS_4 := TS_3x.later gb4
    clear TS_3x
    have TT_4 := TT_3x.later gb4
    clear TT_3x
    have TX_4 := TX_3x.later gb4
    clear TX_3x
    have TU_4 := TU_3x.later gb4
    clear TU_3x
    have TY_4 := TY_3x.later gb4
    clear TY_3x
    have SIs_4 := SIs_3x.later gb4
    clear SIs_3x
    have SIs2_4 := SIs2_3x.later gb4
    clear SIs2_3x
    have B_4 := below_thru B_3x gb4
    have gw4 := Below.size B_4
    have Q_4 : Below w4.heap.size w4 ((w4.alloc (.cells #[.int .i64 s4.clock, .int .i64 s4.cas, .int .i64 s4.uses, .int .i64 s4.most, .int .i64 s4.h0, .int .i64 s4.h1, .int .i64 s4.h2, .int .i64 s4.h3, .slice ia4 s4.items.length ic4, .int .i64 s4.fm, .int .i64 s4.fx, .slice pa4 s4.pages.length pc4] 29)).alloc (.cells #[.int .i64 2, .int .i64 n4, .slice ah4 h4.length ch4] 42)) := (below_al (below_al (Below.refl _ _) _) _)
    have TS_4x := TS_4.later Q_4
    have TT_4x := TT_4.later Q_4
    have TX_4x := TX_4.later Q_4
    have TU_4x := TU_4.later Q_4
    have TY_4x := TY_4.later Q_4
    have TV_4x : TB 29 ((w4.alloc (.cells #[.int .i64 s4.clock, .int .i64 s4.cas, .int .i64 s4.uses, .int .i64 s4.most, .int .i64 s4.h0, .int .i64 s4.h1, .int .i64 s4.h2, .int .i64 s4.h3, .slice ia4 s4.items.length ic4, .int .i64 s4.fm, .int .i64 s4.fx, .slice pa4 s4.pages.length pc4] 29)).alloc (.cells #[.int .i64 2, .int .i64 n4, .slice ah4 h4.length ch4] 42)) (w4.heap.size) #[.int .i64 s4.clock, .int .i64 s4.cas, .int .i64 s4.uses, .int .i64 s4.most, .int .i64 s4.h0, .int .i64 s4.h1, .int .i64 s4.h2, .int .i64 s4.h3, .slice ia4 s4.items.length ic4, .int .i64 s4.fm, .int .i64 s4.fx, .slice pa4 s4.pages.length pc4] := by
     refine TB.alloc ?_ _
     exact TB.new2 (by first | with_reducible rfl | (simp only [set_size, alloc_size]; done))
    have TZ_4x : TB 42 ((w4.alloc (.cells #[.int .i64 s4.clock, .int .i64 s4.cas, .int .i64 s4.uses, .int .i64 s4.most, .int .i64 s4.h0, .int .i64 s4.h1, .int .i64 s4.h2, .int .i64 s4.h3, .slice ia4 s4.items.length ic4, .int .i64 s4.fm, .int .i64 s4.fx, .slice pa4 s4.pages.length pc4] 29)).alloc (.cells #[.int .i64 2, .int .i64 n4, .slice ah4 h4.length ch4] 42)) (w4.heap.size + 1) #[.int .i64 2, .int .i64 n4, .slice ah4 h4.length ch4] := by
     exact TB.new2 (by first | with_reducible rfl | (simp only [set_size, alloc_size]; done))
    have B_4x := below_thru B_4 Q_4
    have SIs_4x := SIs_4.later Q_4
    have SIs2_4x := SIs2_4.later Q_4
    have SIs4_4x := hSF4.here.later Q_4
    have xS_4x := fun j => TS_4x.cell j
    have lS_4x := TS_4x.lt
    have xT_4x := fun j => TT_4x.cell j
    have lT_4x := TT_4x.lt
    have xX_4x := fun j => TX_4x.cell j
    have lX_4x := TX_4x.lt
    have xU_4x := fun j => TU_4x.cell j
    have lU_4x := TU_4x.lt
    have xY_4x := fun j => TY_4x.cell j
    have lY_4x := TY_4x.lt
    have xV_4x := fun j => TV_4x.cell j
    have lV_4x := TV_4x.lt
    have xZ_4x := fun j => TZ_4x.cell j
    have lZ_4x := TZ_4x.lt
    go_wp2_with fail
    generalize ((w4.alloc (.cells #[.int .i64 s4.clock, .int .i64 s4.cas, .int .i64 s4.uses, .int .i64 s4.most, .int .i64 s4.h0, .int .i64 s4.h1, .int .i64 s4.h2, .int .i64 s4.h3, .slice ia4 s4.items.length ic4, .int .i64 s4.fm, .int .i64 s4.fx, .slice pa4 s4.pages.length pc4] 29)).alloc (.cells #[.int .i64 2, .int .i64 n4, .slice ah4 h4.length ch4] 42)) = v5 at *
    clear xS_4x lS_4x xT_4x lT_4x xX_4x lX_4x xU_4x lU_4x xY_4x lY_4x xV_4x lV_4x xZ_4x lZ_4x
    refine (kdo s4 ia4 ic4 pa4 pc4 6 ⟨#[110, 101, 118, 101, 114]⟩ 0 0 0 ⟨#[98, 101, 103, 105, 110, 45]⟩ _ hA5 SIs4_4x hG4 hF5 hus4 (hL.later B_4x) (hT.later B_4x)).mono ?_
    rintro e w5 ⟨ia5, ic5, pa5, pc5, ah5, ch5, rfl, hSF5, hb5⟩
    have gb5 : Below v5.heap.size v5 w5 := below_thru (Below.refl _ _) hb5
    have gs5 := gb5.size
    have TS_5 := TS_4x.later gb5
    clear TS_4x
    have TT_5 := TT_4x.later gb5
    clear TT_4x
    have TX_5 := TX_4x.later gb5
    clear TX_4x
    have TU_5 := TU_4x.later gb5
    clear TU_4x
    have TY_5 := TY_4x.later gb5
    clear TY_4x
    have TV_5 := TV_4x.later gb5
    clear TV_4x
    have TZ_5 := TZ_4x.later gb5
    clear TZ_4x
    have SIs_5 := SIs_4x.later gb5
    clear SIs_4x
    have SIs2_5 := SIs2_4x.later gb5
    clear SIs2_4x
    have SIs4_5 := SIs4_4x.later gb5
    clear SIs4_4x
    have B_5 := below_thru B_4x gb5
    have gw5 := Below.size B_5
    have Q_5 : Below w5.heap.size w5 ((w5.alloc (.cells #[.int .i64 s5.clock, .int .i64 s5.cas, .int .i64 s5.uses, .int .i64 s5.most, .int .i64 s5.h0, .int .i64 s5.h1, .int .i64 s5.h2, .int .i64 s5.h3, .slice ia5 s5.items.length ic5, .int .i64 s5.fm, .int .i64 s5.fx, .slice pa5 s5.pages.length pc5] 29)).alloc (.cells #[.int .i64 2, .int .i64 n5, .slice ah5 h5.length ch5] 42)) := (below_al (below_al (Below.refl _ _) _) _)
    have TS_5x := TS_5.later Q_5
    have TT_5x := TT_5.later Q_5
    have TX_5x := TX_5.later Q_5
    have TU_5x := TU_5.later Q_5
    have TY_5x := TY_5.later Q_5
    have TV_5x := TV_5.later Q_5
    have TZ_5x := TZ_5.later Q_5
    have TD_5x : TB 29 ((w5.alloc (.cells #[.int .i64 s5.clock, .int .i64 s5.cas, .int .i64 s5.uses, .int .i64 s5.most, .int .i64 s5.h0, .int .i64 s5.h1, .int .i64 s5.h2, .int .i64 s5.h3, .slice ia5 s5.items.length ic5, .int .i64 s5.fm, .int .i64 s5.fx, .slice pa5 s5.pages.length pc5] 29)).alloc (.cells #[.int .i64 2, .int .i64 n5, .slice ah5 h5.length ch5] 42)) (w5.heap.size) #[.int .i64 s5.clock, .int .i64 s5.cas, .int .i64 s5.uses, .int .i64 s5.most, .int .i64 s5.h0, .int .i64 s5.h1, .int .i64 s5.h2, .int .i64 s5.h3, .slice ia5 s5.items.length ic5, .int .i64 s5.fm, .int .i64 s5.fx, .slice pa5 s5.pages.length pc5] := by
     refine TB.alloc ?_ _
     exact TB.new2 (by first | with_reducible rfl | (simp only [set_size, alloc_size]; done))
    have TE_5x : TB 42 ((w5.alloc (.cells #[.int .i64 s5.clock, .int .i64 s5.cas, .int .i64 s5.uses, .int .i64 s5.most, .int .i64 s5.h0, .int .i64 s5.h1, .int .i64 s5.h2, .int .i64 s5.h3, .slice ia5 s5.items.length ic5, .int .i64 s5.fm, .int .i64 s5.fx, .slice pa5 s5.pages.length pc5] 29)).alloc (.cells #[.int .i64 2, .int .i64 n5, .slice ah5 h5.length ch5] 42)) (w5.heap.size + 1) #[.int .i64 2, .int .i64 n5, .slice ah5 h5.length ch5] := by
     exact TB.new2 (by first | with_reducible rfl | (simp only [set_size, alloc_size]; done))
    have B_5x := below_thru B_5 Q_5
    have SIs_5x := SIs_5.later Q_5
    have SIs2_5x := SIs2_5.later Q_5
    have SIs4_5x := SIs4_5.later Q_5
    have SIs5_5x := hSF5.here.later Q_5
    have xS_5x := fun j => TS_5x.cell j
    have lS_5x := TS_5x.lt
    have xT_5x := fun j => TT_5x.cell j
    have lT_5x := TT_5x.lt
    have xX_5x := fun j => TX_5x.cell j
    have lX_5x := TX_5x.lt
    have xU_5x := fun j => TU_5x.cell j
    have lU_5x := TU_5x.lt
    have xY_5x := fun j => TY_5x.cell j
    have lY_5x := TY_5x.lt
    have xV_5x := fun j => TV_5x.cell j
    have lV_5x := TV_5x.lt
    have xZ_5x := fun j => TZ_5x.cell j
    have lZ_5x := TZ_5x.lt
    have xD_5x := fun j => TD_5x.cell j
    have lD_5x := TD_5x.lt
    have xE_5x := fun j => TE_5x.cell j
    have lE_5x := TE_5x.lt
    go_wp2_with fail
    generalize ((w5.alloc (.cells #[.int .i64 s5.clock, .int .i64 s5.cas, .int .i64 s5.uses, .int .i64 s5.most, .int .i64 s5.h0, .int .i64 s5.h1, .int .i64 s5.h2, .int .i64 s5.h3, .slice ia5 s5.items.length ic5, .int .i64 s5.fm, .int .i64 s5.fx, .slice pa5 s5.pages.length pc5] 29)).alloc (.cells #[.int .i64 2, .int .i64 n5, .slice ah5 h5.length ch5] 42)) = v6 at *
    clear xS_5x lS_5x xT_5x lT_5x xX_5x lX_5x xU_5x lU_5x xY_5x lY_5x xV_5x lV_5x xZ_5x lZ_5x xD_5x lD_5x xE_5x lE_5x
    refine (kget4 (hk := ⟨#[110, 101, 118, 101, 114]⟩) (hv := ⟨#[98, 101, 103, 105, 110, 45, 109, 105, 100, 45, 101, 110, 100]⟩) s5 ia5 ic5 pa5 pc5 ⟨#[110, 101, 118, 101, 114]⟩ _ hS6 hH6 hB6 SIs5_5x hG5 hnev hus5 (hL.later B_5x) (hT.later B_5x)).mono ?_
    rintro e w6 ⟨ia6, ic6, pa6, pc6, rfl, hSF6, hb6⟩
    have gb6 : Below v6.heap.size v6 w6 := below_thru (Below.refl _ _) hb6
    have gs6 := gb6.size
    have TS_6 := TS_5x.later gb6
    clear TS_5x
    have TT_6 := TT_5x.later gb6
    clear TT_5x
    have TX_6 := TX_5x.later gb6
    clear TX_5x
    have TU_6 := TU_5x.later gb6
    clear TU_5x
    have TY_6 := TY_5x.later gb6
    clear TY_5x
    have TV_6 := TV_5x.later gb6
    clear TV_5x
    have TZ_6 := TZ_5x.later gb6
    clear TZ_5x
    have TD_6 := TD_5x.later gb6
    clear TD_5x
    have TE_6 := TE_5x.later gb6
    clear TE_5x
    have SIs_6 := SIs_5x.later gb6
    clear SIs_5x
    have SIs2_6 := SIs2_5x.later gb6
    clear SIs2_5x
    have SIs4_6 := SIs4_5x.later gb6
    clear SIs4_5x
    have SIs5_6 := SIs5_5x.later gb6
    clear SIs5_5x
    have B_6 := below_thru B_5x gb6
    have gw6 := Below.size B_6
    have Q_6 : Below w6.heap.size w6 ((w6.alloc (.cells #[.int .i64 s6.clock, .int .i64 s6.cas, .int .i64 s6.uses, .int .i64 s6.most, .int .i64 s6.h0, .int .i64 s6.h1, .int .i64 s6.h2, .int .i64 s6.h3, .slice ia6 s6.items.length ic6, .int .i64 s6.fm, .int .i64 s6.fx, .slice pa6 s6.pages.length pc6] 29)).alloc (.cells #[.string ⟨#[110, 101, 118, 101, 114]⟩, .int .i64 0, .int .i64 cas, .string ⟨#[98, 101, 103, 105, 110, 45, 109, 105, 100, 45, 101, 110, 100]⟩] 49)) := (below_al (below_al (Below.refl _ _) _) _)
    have TS_6x := TS_6.later Q_6
    have TT_6x := TT_6.later Q_6
    have TX_6x := TX_6.later Q_6
    have TU_6x := TU_6.later Q_6
    have TY_6x := TY_6.later Q_6
    have TV_6x := TV_6.later Q_6
    have TZ_6x := TZ_6.later Q_6
    have TD_6x := TD_6.later Q_6
    have TE_6x := TE_6.later Q_6
    have TM_6x : TB 29 ((w6.alloc (.cells #[.int .i64 s6.clock, .int .i64 s6.cas, .int .i64 s6.uses, .int .i64 s6.most, .int .i64 s6.h0, .int .i64 s6.h1, .int .i64 s6.h2, .int .i64 s6.h3, .slice ia6 s6.items.length ic6, .int .i64 s6.fm, .int .i64 s6.fx, .slice pa6 s6.pages.length pc6] 29)).alloc (.cells #[.string ⟨#[110, 101, 118, 101, 114]⟩, .int .i64 0, .int .i64 cas, .string ⟨#[98, 101, 103, 105, 110, 45, 109, 105, 100, 45, 101, 110, 100]⟩] 49)) (w6.heap.size) #[.int .i64 s6.clock, .int .i64 s6.cas, .int .i64 s6.uses, .int .i64 s6.most, .int .i64 s6.h0, .int .i64 s6.h1, .int .i64 s6.h2, .int .i64 s6.h3, .slice ia6 s6.items.length ic6, .int .i64 s6.fm, .int .i64 s6.fx, .slice pa6 s6.pages.length pc6] := by
     refine TB.alloc ?_ _
     exact TB.new2 (by first | with_reducible rfl | (simp only [set_size, alloc_size]; done))
    have TN_6x : TB 49 ((w6.alloc (.cells #[.int .i64 s6.clock, .int .i64 s6.cas, .int .i64 s6.uses, .int .i64 s6.most, .int .i64 s6.h0, .int .i64 s6.h1, .int .i64 s6.h2, .int .i64 s6.h3, .slice ia6 s6.items.length ic6, .int .i64 s6.fm, .int .i64 s6.fx, .slice pa6 s6.pages.length pc6] 29)).alloc (.cells #[.string ⟨#[110, 101, 118, 101, 114]⟩, .int .i64 0, .int .i64 cas, .string ⟨#[98, 101, 103, 105, 110, 45, 109, 105, 100, 45, 101, 110, 100]⟩] 49)) (w6.heap.size + 1) #[.string ⟨#[110, 101, 118, 101, 114]⟩, .int .i64 0, .int .i64 cas, .string ⟨#[98, 101, 103, 105, 110, 45, 109, 105, 100, 45, 101, 110, 100]⟩] := by
     exact TB.new2 (by first | with_reducible rfl | (simp only [set_size, alloc_size]; done))
    have B_6x := below_thru B_6 Q_6
    have SIs_6x := SIs_6.later Q_6
    have SIs2_6x := SIs2_6.later Q_6
    have SIs4_6x := SIs4_6.later Q_6
    have SIs5_6x := SIs5_6.later Q_6
    have xS_6x := fun j => TS_6x.cell j
    have lS_6x := TS_6x.lt
    have xT_6x := fun j => TT_6x.cell j
    have lT_6x := TT_6x.lt
    have xX_6x := fun j => TX_6x.cell j
    have lX_6x := TX_6x.lt
    have xU_6x := fun j => TU_6x.cell j
    have lU_6x := TU_6x.lt
    have xY_6x := fun j => TY_6x.cell j
    have lY_6x := TY_6x.lt
    have xV_6x := fun j => TV_6x.cell j
    have lV_6x := TV_6x.lt
    have xZ_6x := fun j => TZ_6x.cell j
    have lZ_6x := TZ_6x.lt
    have xD_6x := fun j => TD_6x.cell j
    have lD_6x := TD_6x.lt
    have xE_6x := fun j => TE_6x.cell j
    have lE_6x := TE_6x.lt
    have xM_6x := fun j => TM_6x.cell j
    have lM_6x := TM_6x.lt
    have xN_6x := fun j => TN_6x.cell j
    have lN_6x := TN_6x.lt
    go_wp2_with fail
    go_ret
    exact ⟨rfl, B_6x⟩

end Go.Proofs.YtdblegdgmjakfaaGreatDoor
