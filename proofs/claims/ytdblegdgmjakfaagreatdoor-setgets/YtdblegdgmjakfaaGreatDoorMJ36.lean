/- Parts of the proof. -/
import Derived.Test.YtdblegdgmjakfaaGreatDoorMJ34
import Derived.Deep.RegionHeld3
namespace Go.Proofs.YtdblegdgmjakfaaGreatDoor
open Go.ChangeShapes Go.WideShapes Go.ChangeAt Go.RowKit
set_option linter.unusedVariables false
set_option linter.unusedSimpArgs false

/- dovecotekeep.SetGets. -/

/-- What the law says, plain: what was set is found, also one tick ahead of its end, and then it is not. -/
def SetPl (s s2 s3 s8 s9 : StoreR) (n cas : Int) (V : ByteArray) : Prop :=
 ∃ i : Nat, getS s2 mine = s3 ∧ getB s2 mine = true ∧ getH s2 mine = ⟨mine, 5, cas, V⟩ ∧ Gd s3 ∧ s3.uses ≤ s2.uses + 10 ∧ { s3 with clock := s3.clock + (n - 1) } = s8 ∧ Gd s8 ∧ getB s8 mine = true ∧ getH s8 mine = ⟨mine, 5, cas, V⟩ ∧ { s3 with clock := s3.clock + n } = s9 ∧ Gd s9 ∧ getB s9 mine = false ∧ s2.cas = cas
theorem set_pl {s s2 : StoreR} {n : Int} {V : ByteArray} (hg : Gd s2) (hus : s2.uses ≤ 1000) (hc0 : 0 ≤ s.clock) (hc1 : s.clock ≤ 1000) (hn0 : 1 ≤ n) (hn1 : n ≤ 20) (hP : Put s s2 (newI s mine 5 (untilN s.clock n) V)) :
 SetPl s s2 (getS s2 mine) { getS s2 mine with clock := (getS s2 mine).clock + (n - 1) } { getS s2 mine with clock := (getS s2 mine).clock + n } n (s.cas + 1) V := by
 obtain ⟨u1, u2, u3⟩ := until_live hc0 (by omega : s.clock < 1099511627776) hn0
 have hu : untilN s.clock n = s.clock + n := by unfold untilN; rw [if_neg (by omega)]; omega
 have hh := hP.has (Or.inr (show s.clock < untilN s.clock n from u2))
 have hk : (newI s mine 5 (untilN s.clock n) V).key = mine := rfl
 rw [hk] at hh
 obtain ⟨i, e1, e2, e3, e4, e5, e6⟩ := getB_has hg hh
 have hg3 := hg.get mine_key (by omega)
 have hu3 := uses_get hg mine_key
 have hcl : (getS s2 mine).clock = s.clock := by rw [e5]; exact hP.clock
 have hval : valN s2.pages (newI s mine 5 (untilN s.clock n) V) = V := rfl
 rw [hval] at e6
 have h3 := has_ask hh e2 e3
 rw [← e5] at h3
 have hg8 : Gd { getS s2 mine with clock := (getS s2 mine).clock + (n - 1) } := hg3.clock (by omega) (by omega)
 have hg9 : Gd { getS s2 mine with clock := (getS s2 mine).clock + n } := hg3.clock (by omega) (by omega)
 have h8 : Has { getS s2 mine with clock := (getS s2 mine).clock + (n - 1) } mine { newI s mine 5 (untilN s.clock n) V with used := s2.uses + 1 } := by
  refine ⟨h3.1, h3.2.1, ?_⟩
  unfold overB
  show ((untilN s.clock n != 0) && decide (untilN s.clock n ≤ (getS s2 mine).clock + (n - 1))) = false
  rw [decide_eq_false (by omega)]
  simp
 obtain ⟨j, f1, f2, f3, f4, f5, f6⟩ := getB_has hg8 h8
 refine ⟨i, rfl, e4, e6, hg3, hu3, rfl, hg8, f4, f6, rfl, hg9, getB_not fun it hit => ?_, hP.cas⟩
 have := item_uniq hg9 hit.1 (b := { newI s mine 5 (untilN s.clock n) V with used := s2.uses + 1 }) h3.1 (hit.2.1.trans h3.2.1.symm)
 subst this
 have ho := hit.2.2
 unfold overB at ho
 have ho : ((untilN s.clock n != 0) && decide (untilN s.clock n ≤ (getS s2 mine).clock + n)) = false := ho
 rw [u1, decide_eq_true (by omega)] at ho
 cases ho

set_option maxHeartbeats 8000000 in
set_option maxRecDepth 100000 in
theorem set_gets (l : List RawR) (ra : Option Addr) (rc : Nat) (r : RawR) (exp : Int) (w : World) (hR : RawsAt w ra l) (hok : RawsOk l) (hr : RawOk r) (he : -9223372036854775808 ≤ exp ∧ exp ≤ 9223372036854775807) (hL : LaidC w) (hT : LaidT w) :
 Calls Tryz.prog 4 #[.slice ra l.length rc, .agg #[.int .i64 r.k, .int .i64 r.a, .int .i64 r.b, .int .i64 r.c], .int .i64 exp] w fun e w' => e = .returned (.bool true) ∧ Below w.heap.size w w' := by
 have hmin : (min 50 l.length) ≤ 50 := Nat.min_le_left _ _
 have hpl := pl_play (newS_pl (by decide : (0 : Int) ≤ 12) (by decide) (by decide : (0 : Int) ≤ 4) (by decide)) l (min 50 l.length) (by omega) (by omega)
 have hG0 := hpl.gd
 have hu0 := hpl.uses
 have hc0 := hpl.clock
 obtain ⟨s, hplay⟩ : ∃ s, play (newS 12 4) l (min 50 l.length) = s := ⟨_, rfl⟩
 rw [hplay] at hG0 hu0 hc0
 have hG : Gd s := hG0
 have hus : s.uses ≤ 1099511627766 := by omega
 have hu : s.uses ≤ 500 := by omega
 have hc : s.clock ≤ 400 := by omega
 have hc00 := (counts_facts hG.parts.1).1
 clear hpl hG0 hu0 hc0 hmin
 obtain ⟨hb0, hb1⟩ := hr.2.2.1
 obtain ⟨he0, he1⟩ := he
 have hval := fun w1 => value_anyW r.b w1 hb0 hb1
 have hVs := valS_size r.b
 generalize valS r.b = V at *
 obtain ⟨p0, p1⟩ := pickN_range exp 20 (by decide)
 obtain ⟨n, hn⟩ : ∃ n, 1 + pickN exp 20 = n := ⟨_, rfl⟩
 have hwn : IntKind.i64.wrap (1 + pickN exp 20) = n := by rw [hn]; simp only [IntKind.wrap_i64]; omega
 have hn0 : 1 ≤ n := by omega
 have hn1 : n ≤ 20 := by omega
 have hwm : IntKind.i64.wrap (n - 1) = n - 1 := by simp only [IntKind.wrap_i64]; omega
 have hV2 : ¬ (200 : Int) < (V.size : Int) := by omega
 clear p0 p1 hn
 have hF2 : QFit (setQ 2 mine 5 n 0 V) := setQ_fit ⟨by decide, by decide⟩ mine_key ⟨by decide, by decide⟩ ⟨by omega, by omega⟩ ⟨by decide, by decide⟩ (Or.inr rfl) (by omega)
 have hst0 := set_ans hG (by omega) ((fit_facts hF2).one (by show (2 : Int) ≠ 1; decide) (by show (2 : Int) ≠ 12; decide) (by show (2 : Int) ≠ 13; decide)) (Or.inl rfl) (show unmetN 2 (getB s mine) = 0 from rfl)
 have hG20 := hG.next hF2 hus
 have hu20 := uses_next hG hF2
 obtain ⟨s2, k2, n2, h2, hA2⟩ : ∃ a b c d, ansN s (setQ 2 mine 5 n 0 V) = (a, b, c, d) := ⟨_, _, _, _, rfl⟩
 rw [hA2] at hst0 hG20 hu20
 have hG2 : Gd s2 := hG20
 have hu2 : s2.uses ≤ s.uses + 10 := hu20
 have hus2 : s2.uses ≤ 1099511627766 := by omega
 have HST : Hid (k2 = 11 ∨ k2 = 2 ∧ Put s s2 (newI s mine 5 (untilN s.clock n) V)) := hst0.symm
 obtain ⟨s3, hS3X⟩ : ∃ a, getS s2 mine = a := ⟨_, rfl⟩
 obtain ⟨s8, hS8X⟩ : ∃ a, { getS s2 mine with clock := (getS s2 mine).clock + (n - 1) } = a := ⟨_, rfl⟩
 obtain ⟨s9, hS9X⟩ : ∃ a, { getS s2 mine with clock := (getS s2 mine).clock + n } = a := ⟨_, rfl⟩
 obtain ⟨cas, hcasX⟩ : ∃ a, s.cas + 1 = a := ⟨_, rfl⟩
 have HPL : Hid (Put s s2 (newI s mine 5 (untilN s.clock n) V) → SetPl s s2 s3 s8 s9 n cas V) := by
  intro hP
  rw [← hS3X, ← hS8X, ← hS9X, ← hcasX]
  exact set_pl hG2 (by omega) hc00 (by omega) hn0 hn1 hP
 have hcl3 : s3.clock ≤ 1000 ∧ s8.uses = s3.uses ∧ s9.uses = s3.uses := ⟨by
  rw [← hS3X]
  have h1 := aft_ansN hG2 (getQ_fit mine_key)
  rw [getQ_ans] at h1
  have h2 := aft_ansN hG hF2
  rw [hA2] at h2
  have e1 : (getS s2 mine).clock = s2.clock := h1.clock
  have e2 : s2.clock = s.clock := h2.clock
  omega, by rw [← hS3X, ← hS8X], by rw [← hS3X, ← hS9X]⟩
 have hus3 : s3.uses ≤ 1099511627700 := by
  rw [← hS3X]
  have := uses_get hG2 mine_key
  omega
 obtain ⟨hcl3, hu8, hu9⟩ := hcl3
 have hus8 : s8.uses ≤ 1099511627766 := by omega
 have hus9 : s9.uses ≤ 1099511627766 := by omega
 clear hu8 hu9 hcasX hS3X hS8X hS9X hst0 hG20 hu20
 have hmine : keyB ⟨#[109, 105, 110, 101]⟩ = true := mine_key
 go_enter Tryz.func4, Tryz.ntmps4
 have Q_0 : Below w.heap.size w (w.alloc (.cells #[.int .i64 r.k, .int .i64 r.a, .int .i64 r.b, .int .i64 r.c] 38)) := (below_al (Below.refl _ _) _)
 have TR_0x : TB 38 (w.alloc (.cells #[.int .i64 r.k, .int .i64 r.a, .int .i64 r.b, .int .i64 r.c] 38)) (w.heap.size) #[.int .i64 r.k, .int .i64 r.a, .int .i64 r.b, .int .i64 r.c] := by
  exact (TB.new2 (by first | rfl | (simp; done)))
 have B_0x := Q_0
 have xR_0x := fun j => TR_0x.cell j
 have lR_0x := TR_0x.lt
 go_wp2_with fail
 generalize (w.alloc (.cells #[.int .i64 r.k, .int .i64 r.a, .int .i64 r.b, .int .i64 r.c] 38)) = v1 at *
 clear xR_0x lR_0x
 refine (played_any l ra rc 12 4 50 _ (hR.later B_0x) hok (by decide) (by decide) (by decide) (by decide) (by decide) (hL.later B_0x) (hT.later B_0x)).mono ?_
 rintro e w1 ⟨ia, ic, pa, pc, rv, rfl, hSI, hb1⟩
 have gb1 : Below v1.heap.size v1 w1 := below_thru (Below.refl _ _) hb1
 have gs1 := gb1.size
 have TR_1 := TR_0x.later gb1
 clear TR_0x
 have B_1 := below_thru B_0x gb1
 rw [hplay] at *
 unfold storeV
 have Q_1 : Below w1.heap.size w1 (w1.alloc (.cells #[.int .i64 s.clock, .int .i64 s.cas, .int .i64 s.uses, .int .i64 s.most, .int .i64 s.h0, .int .i64 s.h1, .int .i64 s.h2, .int .i64 s.h3, .slice ia s.items.length ic, .int .i64 s.fm, .int .i64 s.fx, .slice pa s.pages.length pc] 29)) := (below_al (Below.refl _ _) _)
 have TR_1x := TR_1.later Q_1
 have TS_1x : TB 29 (w1.alloc (.cells #[.int .i64 s.clock, .int .i64 s.cas, .int .i64 s.uses, .int .i64 s.most, .int .i64 s.h0, .int .i64 s.h1, .int .i64 s.h2, .int .i64 s.h3, .slice ia s.items.length ic, .int .i64 s.fm, .int .i64 s.fx, .slice pa s.pages.length pc] 29)) (w1.heap.size) #[.int .i64 s.clock, .int .i64 s.cas, .int .i64 s.uses, .int .i64 s.most, .int .i64 s.h0, .int .i64 s.h1, .int .i64 s.h2, .int .i64 s.h3, .slice ia s.items.length ic, .int .i64 s.fm, .int .i64 s.fx, .slice pa s.pages.length pc] := by
  exact (TB.new2 (by first | rfl | (simp; done)))
 have B_1x := below_thru B_1 Q_1
 have SIs_1x := hSI.later Q_1
 have xR_1x := fun j => TR_1x.cell j
 have lR_1x := TR_1x.lt
 have xS_1x := fun j => TS_1x.cell j
 have lS_1x := TS_1x.lt
 go_wp2_with fail
 generalize (w1.alloc (.cells #[.int .i64 s.clock, .int .i64 s.cas, .int .i64 s.uses, .int .i64 s.most, .int .i64 s.h0, .int .i64 s.h1, .int .i64 s.h2, .int .i64 s.h3, .slice ia s.items.length ic, .int .i64 s.fm, .int .i64 s.fx, .slice pa s.pages.length pc] 29)) = v2 at *
 clear xR_1x lR_1x xS_1x lS_1x
 refine (pickB exp 20 _ he0 he1 (by decide) (by decide)).mono ?_
 rintro e w2 ⟨rfl, hb2⟩
 have gb2 : Below v2.heap.size v2 w2 := below_thru (Below.refl _ _) hb2
 have gs2 := gb2.size
 have TR_2 := TR_1x.later gb2
 clear TR_1x
 have TS_2 := TS_1x.later gb2
 clear TS_1x
 have SIs_2 := SIs_1x.later gb2
 clear SIs_1x
 have B_2 := below_thru B_1x gb2
 have TR_2x := TR_2
 have TS_2x := TS_2
 have B_2x := B_2
 have SIs_2x := SIs_2
 have xR_2x := fun j => TR_2x.cell j
 have lR_2x := TR_2x.lt
 have xS_2x := fun j => TS_2x.cell j
 have lS_2x := TS_2x.lt
 go_wp2_with fail
 clear xR_2x lR_2x xS_2x lS_2x
 refine (hval _).mono ?_
 rintro e w3 ⟨rfl, hb3⟩
 have gb3 : Below w2.heap.size w2 w3 := below_thru (Below.refl _ _) hb3
 have gs3 := gb3.size
 have TR_3 := TR_2x.later gb3
 clear TR_2x
 have TS_3 := TS_2x.later gb3
 clear TS_2x
 have SIs_3 := SIs_2x.later gb3
 clear SIs_2x
 have B_3 := below_thru B_2x gb3
 have TR_3x := TR_3
 have TS_3x := TS_3
 have B_3x := B_3
 have SIs_3x := SIs_3
 have xR_3x := fun j => TR_3x.cell j
 have lR_3x := TR_3x.lt
 have xS_3x := fun j => TS_3x.cell j
 have lS_3x := TS_3x.lt
 go_wp2_with fail
 clear xR_3x lR_3x xS_3x lS_3x
 refine (kdo s ia ic pa pc 2 ⟨#[109, 105, 110, 101]⟩ 5 n 0 V _ hA2 SIs_3x hG hF2 hus (hL.later B_3x) (hT.later B_3x)).mono ?_
 rintro e w4 ⟨ia2, ic2, pa2, pc2, ah2, ch2, rfl, hSF2, hb4⟩
 have gb4 : Below w3.heap.size w3 w4 := below_thru (Below.refl _ _) hb4
 have gs4 := gb4.size
 have TR_4 := TR_3x.later gb4
 clear TR_3x
 have TS_4 := TS_3x.later gb4
 clear TS_3x
 have SIs_4 := SIs_3x.later gb4
 clear SIs_3x
 have B_4 := below_thru B_3x gb4
 have Q_4 : Below w4.heap.size w4 ((w4.alloc (.cells #[.int .i64 s2.clock, .int .i64 s2.cas, .int .i64 s2.uses, .int .i64 s2.most, .int .i64 s2.h0, .int .i64 s2.h1, .int .i64 s2.h2, .int .i64 s2.h3, .slice ia2 s2.items.length ic2, .int .i64 s2.fm, .int .i64 s2.fx, .slice pa2 s2.pages.length pc2] 29)).alloc (.cells #[.int .i64 k2, .int .i64 n2, .slice ah2 h2.length ch2] 42)) := (below_al (below_al (Below.refl _ _) _) _)
 have TR_4x := TR_4.later Q_4
 have TS_4x := TS_4.later Q_4
 have TT_4x : TB 29 ((w4.alloc (.cells #[.int .i64 s2.clock, .int .i64 s2.cas, .int .i64 s2.uses, .int .i64 s2.most, .int .i64 s2.h0, .int .i64 s2.h1, .int .i64 s2.h2, .int .i64 s2.h3, .slice ia2 s2.items.length ic2, .int .i64 s2.fm, .int .i64 s2.fx, .slice pa2 s2.pages.length pc2] 29)).alloc (.cells #[.int .i64 k2, .int .i64 n2, .slice ah2 h2.length ch2] 42)) (w4.heap.size) #[.int .i64 s2.clock, .int .i64 s2.cas, .int .i64 s2.uses, .int .i64 s2.most, .int .i64 s2.h0, .int .i64 s2.h1, .int .i64 s2.h2, .int .i64 s2.h3, .slice ia2 s2.items.length ic2, .int .i64 s2.fm, .int .i64 s2.fx, .slice pa2 s2.pages.length pc2] := by
  exact ((TB.new2 (by first | rfl | (simp; done))).alloc _)
 have TX_4x : TB 42 ((w4.alloc (.cells #[.int .i64 s2.clock, .int .i64 s2.cas, .int .i64 s2.uses, .int .i64 s2.most, .int .i64 s2.h0, .int .i64 s2.h1, .int .i64 s2.h2, .int .i64 s2.h3, .slice ia2 s2.items.length ic2, .int .i64 s2.fm, .int .i64 s2.fx, .slice pa2 s2.pages.length pc2] 29)).alloc (.cells #[.int .i64 k2, .int .i64 n2, .slice ah2 h2.length ch2] 42)) (w4.heap.size + 1) #[.int .i64 k2, .int .i64 n2, .slice ah2 h2.length ch2] := by
  exact (TB.new2 (by first | rfl | (simp; done)))
 have B_4x := below_thru B_4 Q_4
 have SIs_4x := SIs_4.later Q_4
 have SIs2_4x := hSF2.here.later Q_4
 have xR_4x := fun j => TR_4x.cell j
 have lR_4x := TR_4x.lt
 have xS_4x := fun j => TS_4x.cell j
 have lS_4x := TS_4x.lt
 have xT_4x := fun j => TT_4x.cell j
 have lT_4x := TT_4x.lt
 have xX_4x := fun j => TX_4x.cell j
 have lX_4x := TX_4x.lt
 rcases HST.out with hk2 | ⟨hk2, hP⟩
 · subst hk2
   go_wp2_with fail
   go_ret
   exact ⟨rfl, B_4x⟩
 subst hk2
 obtain ⟨i3, hS3, hB3, hH3, hG3, hu3, hS8, hG8, hB8, hH8, hS9, hG9, hB9, hc2⟩ := HPL.out hP
 have hcq : (cas == s2.cas) = true := by rw [hc2]; exact beq_self_eq_true _
 clear hc2
 obtain ⟨h9, hH9⟩ : ∃ a, getH s9 ⟨#[109, 105, 110, 101]⟩ = a := ⟨_, rfl⟩
 obtain ⟨s10, hS10⟩ : ∃ a, getS s8 ⟨#[109, 105, 110, 101]⟩ = a := ⟨_, rfl⟩
 obtain ⟨s11, hS11⟩ : ∃ a, getS s9 ⟨#[109, 105, 110, 101]⟩ = a := ⟨_, rfl⟩
 go_wp2_with fail
 generalize ((w4.alloc (.cells #[.int .i64 s2.clock, .int .i64 s2.cas, .int .i64 s2.uses, .int .i64 s2.most, .int .i64 s2.h0, .int .i64 s2.h1, .int .i64 s2.h2, .int .i64 s2.h3, .slice ia2 s2.items.length ic2, .int .i64 s2.fm, .int .i64 s2.fx, .slice pa2 s2.pages.length pc2] 29)).alloc (.cells #[.int .i64 2, .int .i64 n2, .slice ah2 h2.length ch2] 42)) = v5 at *
 clear xR_4x lR_4x xS_4x lS_4x xT_4x lT_4x xX_4x lX_4x
 refine (kget4 (hk := ⟨#[109, 105, 110, 101]⟩) s2 ia2 ic2 pa2 pc2 ⟨#[109, 105, 110, 101]⟩ _ hS3 hH3 hB3 SIs2_4x hG2 hmine hus2 (hL.later B_4x) (hT.later B_4x)).mono ?_
 rintro e w5 ⟨ia3, ic3, pa3, pc3, rfl, hSF3, hb5⟩
 have gb5 : Below v5.heap.size v5 w5 := below_thru (Below.refl _ _) hb5
 have gs5 := gb5.size
 have TR_5 := TR_4x.later gb5
 clear TR_4x
 have TS_5 := TS_4x.later gb5
 clear TS_4x
 have TT_5 := TT_4x.later gb5
 clear TT_4x
 have TX_5 := TX_4x.later gb5
 clear TX_4x
 have SIs_5 := SIs_4x.later gb5
 clear SIs_4x
 have SIs2_5 := SIs2_4x.later gb5
 clear SIs2_4x
 have B_5 := below_thru B_4x gb5
 have Q_5 : Below w5.heap.size w5 ((w5.alloc (.cells #[.int .i64 s3.clock, .int .i64 s3.cas, .int .i64 s3.uses, .int .i64 s3.most, .int .i64 s3.h0, .int .i64 s3.h1, .int .i64 s3.h2, .int .i64 s3.h3, .slice ia3 s3.items.length ic3, .int .i64 s3.fm, .int .i64 s3.fx, .slice pa3 s3.pages.length pc3] 29)).alloc (.cells #[.string ⟨#[109, 105, 110, 101]⟩, .int .i64 5, .int .i64 cas, .string V] 49)) := (below_al (below_al (Below.refl _ _) _) _)
 have TR_5x := TR_5.later Q_5
 have TS_5x := TS_5.later Q_5
 have TT_5x := TT_5.later Q_5
 have TX_5x := TX_5.later Q_5
 have TU_5x : TB 29 ((w5.alloc (.cells #[.int .i64 s3.clock, .int .i64 s3.cas, .int .i64 s3.uses, .int .i64 s3.most, .int .i64 s3.h0, .int .i64 s3.h1, .int .i64 s3.h2, .int .i64 s3.h3, .slice ia3 s3.items.length ic3, .int .i64 s3.fm, .int .i64 s3.fx, .slice pa3 s3.pages.length pc3] 29)).alloc (.cells #[.string ⟨#[109, 105, 110, 101]⟩, .int .i64 5, .int .i64 cas, .string V] 49)) (w5.heap.size) #[.int .i64 s3.clock, .int .i64 s3.cas, .int .i64 s3.uses, .int .i64 s3.most, .int .i64 s3.h0, .int .i64 s3.h1, .int .i64 s3.h2, .int .i64 s3.h3, .slice ia3 s3.items.length ic3, .int .i64 s3.fm, .int .i64 s3.fx, .slice pa3 s3.pages.length pc3] := by
  exact ((TB.new2 (by first | rfl | (simp; done))).alloc _)
 have TH_5x : TB 49 ((w5.alloc (.cells #[.int .i64 s3.clock, .int .i64 s3.cas, .int .i64 s3.uses, .int .i64 s3.most, .int .i64 s3.h0, .int .i64 s3.h1, .int .i64 s3.h2, .int .i64 s3.h3, .slice ia3 s3.items.length ic3, .int .i64 s3.fm, .int .i64 s3.fx, .slice pa3 s3.pages.length pc3] 29)).alloc (.cells #[.string ⟨#[109, 105, 110, 101]⟩, .int .i64 5, .int .i64 cas, .string V] 49)) (w5.heap.size + 1) #[.string ⟨#[109, 105, 110, 101]⟩, .int .i64 5, .int .i64 cas, .string V] := by
  exact (TB.new2 (by first | rfl | (simp; done)))
 have B_5x := below_thru B_5 Q_5
 have SIs_5x := SIs_5.later Q_5
 have SIs2_5x := SIs2_5.later Q_5
 have SIs3_5x := hSF3.here.later Q_5
 have xR_5x := fun j => TR_5x.cell j
 have lR_5x := TR_5x.lt
 have xS_5x := fun j => TS_5x.cell j
 have lS_5x := TS_5x.lt
 have xT_5x := fun j => TT_5x.cell j
 have lT_5x := TT_5x.lt
 have xX_5x := fun j => TX_5x.cell j
 have lX_5x := TX_5x.lt
 have xU_5x := fun j => TU_5x.cell j
 have lU_5x := TU_5x.lt
 have xH_5x := fun j => TH_5x.cell j
 have lH_5x := TH_5x.lt
 go_wp2_with fail
 generalize ((w5.alloc (.cells #[.int .i64 s3.clock, .int .i64 s3.cas, .int .i64 s3.uses, .int .i64 s3.most, .int .i64 s3.h0, .int .i64 s3.h1, .int .i64 s3.h2, .int .i64 s3.h3, .slice ia3 s3.items.length ic3, .int .i64 s3.fm, .int .i64 s3.fx, .slice pa3 s3.pages.length pc3] 29)).alloc (.cells #[.string ⟨#[109, 105, 110, 101]⟩, .int .i64 5, .int .i64 cas, .string V] 49)) = v6 at *
 clear xR_5x lR_5x xS_5x lS_5x xT_5x lT_5x xX_5x lX_5x xU_5x lU_5x xH_5x lH_5x
 refine (ktick4 s3 ia3 ic3 pa3 pc3 (n - 1) _ hS8 SIs3_5x hG3 (by omega) (by omega) (by omega) (hL.later B_5x)).mono ?_
 rintro e w6 ⟨ia4, ic4, pa4, pc4, rfl, hSF4, hb6⟩
 have gb6 : Below v6.heap.size v6 w6 := below_thru (Below.refl _ _) hb6
 have gs6 := gb6.size
 have TR_6 := TR_5x.later gb6
 clear TR_5x
 have TS_6 := TS_5x.later gb6
 clear TS_5x
 have TT_6 := TT_5x.later gb6
 clear TT_5x
 have TX_6 := TX_5x.later gb6
 clear TX_5x
 have TU_6 := TU_5x.later gb6
 clear TU_5x
 have TH_6 := TH_5x.later gb6
 clear TH_5x
 have SIs_6 := SIs_5x.later gb6
 clear SIs_5x
 have SIs2_6 := SIs2_5x.later gb6
 clear SIs2_5x
 have SIs3_6 := SIs3_5x.later gb6
 clear SIs3_5x
 have B_6 := below_thru B_5x gb6
 have Q_6 : Below w6.heap.size w6 (w6.alloc (.cells #[.int .i64 s8.clock, .int .i64 s8.cas, .int .i64 s8.uses, .int .i64 s8.most, .int .i64 s8.h0, .int .i64 s8.h1, .int .i64 s8.h2, .int .i64 s8.h3, .slice ia4 s8.items.length ic4, .int .i64 s8.fm, .int .i64 s8.fx, .slice pa4 s8.pages.length pc4] 29)) := (below_al (Below.refl _ _) _)
 have TR_6x := TR_6.later Q_6
 have TS_6x := TS_6.later Q_6
 have TT_6x := TT_6.later Q_6
 have TX_6x := TX_6.later Q_6
 have TU_6x := TU_6.later Q_6
 have TH_6x := TH_6.later Q_6
 have TY_6x : TB 29 (w6.alloc (.cells #[.int .i64 s8.clock, .int .i64 s8.cas, .int .i64 s8.uses, .int .i64 s8.most, .int .i64 s8.h0, .int .i64 s8.h1, .int .i64 s8.h2, .int .i64 s8.h3, .slice ia4 s8.items.length ic4, .int .i64 s8.fm, .int .i64 s8.fx, .slice pa4 s8.pages.length pc4] 29)) (w6.heap.size) #[.int .i64 s8.clock, .int .i64 s8.cas, .int .i64 s8.uses, .int .i64 s8.most, .int .i64 s8.h0, .int .i64 s8.h1, .int .i64 s8.h2, .int .i64 s8.h3, .slice ia4 s8.items.length ic4, .int .i64 s8.fm, .int .i64 s8.fx, .slice pa4 s8.pages.length pc4] := by
  exact (TB.new2 (by first | rfl | (simp; done)))
 have B_6x := below_thru B_6 Q_6
 have SIs_6x := SIs_6.later Q_6
 have SIs2_6x := SIs2_6.later Q_6
 have SIs3_6x := SIs3_6.later Q_6
 have SIs8_6x := hSF4.here.later Q_6
 have xR_6x := fun j => TR_6x.cell j
 have lR_6x := TR_6x.lt
 have xS_6x := fun j => TS_6x.cell j
 have lS_6x := TS_6x.lt
 have xT_6x := fun j => TT_6x.cell j
 have lT_6x := TT_6x.lt
 have xX_6x := fun j => TX_6x.cell j
 have lX_6x := TX_6x.lt
 have xU_6x := fun j => TU_6x.cell j
 have lU_6x := TU_6x.lt
 have xH_6x := fun j => TH_6x.cell j
 have lH_6x := TH_6x.lt
 have xY_6x := fun j => TY_6x.cell j
 have lY_6x := TY_6x.lt
 go_wp2_with fail
 generalize (w6.alloc (.cells #[.int .i64 s8.clock, .int .i64 s8.cas, .int .i64 s8.uses, .int .i64 s8.most, .int .i64 s8.h0, .int .i64 s8.h1, .int .i64 s8.h2, .int .i64 s8.h3, .slice ia4 s8.items.length ic4, .int .i64 s8.fm, .int .i64 s8.fx, .slice pa4 s8.pages.length pc4] 29)) = v7 at *
 clear xR_6x lR_6x xS_6x lS_6x xT_6x lT_6x xX_6x lX_6x xU_6x lU_6x xH_6x lH_6x xY_6x lY_6x
 refine (kget4 (hk := ⟨#[109, 105, 110, 101]⟩) s8 ia4 ic4 pa4 pc4 ⟨#[109, 105, 110, 101]⟩ _ hS10 hH8 hB8 SIs8_6x hG8 hmine hus8 (hL.later B_6x) (hT.later B_6x)).mono ?_
 rintro e w7 ⟨ia5, ic5, pa5, pc5, rfl, hSF5, hb7⟩
 have gb7 : Below v7.heap.size v7 w7 := below_thru (Below.refl _ _) hb7
 have gs7 := gb7.size
 have TR_7 := TR_6x.later gb7
 clear TR_6x
 have TS_7 := TS_6x.later gb7
 clear TS_6x
 have TT_7 := TT_6x.later gb7
 clear TT_6x
 have TX_7 := TX_6x.later gb7
 clear TX_6x
 have TU_7 := TU_6x.later gb7
 clear TU_6x
 have TH_7 := TH_6x.later gb7
 clear TH_6x
 have TY_7 := TY_6x.later gb7
 clear TY_6x
 have SIs_7 := SIs_6x.later gb7
 clear SIs_6x
 have SIs2_7 := SIs2_6x.later gb7
 clear SIs2_6x
 have SIs3_7 := SIs3_6x.later gb7
 clear SIs3_6x
 have SIs8_7 := SIs8_6x.later gb7
 clear SIs8_6x
 have B_7 := below_thru B_6x gb7
 have Q_7 : Below w7.heap.size w7 ((w7.alloc (.cells #[.int .i64 s10.clock, .int .i64 s10.cas, .int .i64 s10.uses, .int .i64 s10.most, .int .i64 s10.h0, .int .i64 s10.h1, .int .i64 s10.h2, .int .i64 s10.h3, .slice ia5 s10.items.length ic5, .int .i64 s10.fm, .int .i64 s10.fx, .slice pa5 s10.pages.length pc5] 29)).alloc (.cells #[.string ⟨#[109, 105, 110, 101]⟩, .int .i64 5, .int .i64 cas, .string V] 49)) := (below_al (below_al (Below.refl _ _) _) _)
 have TR_7x := TR_7.later Q_7
 have TS_7x := TS_7.later Q_7
 have TT_7x := TT_7.later Q_7
 have TX_7x := TX_7.later Q_7
 have TU_7x := TU_7.later Q_7
 have TH_7x := TH_7.later Q_7
 have TY_7x := TY_7.later Q_7
 have TD_7x : TB 29 ((w7.alloc (.cells #[.int .i64 s10.clock, .int .i64 s10.cas, .int .i64 s10.uses, .int .i64 s10.most, .int .i64 s10.h0, .int .i64 s10.h1, .int .i64 s10.h2, .int .i64 s10.h3, .slice ia5 s10.items.length ic5, .int .i64 s10.fm, .int .i64 s10.fx, .slice pa5 s10.pages.length pc5] 29)).alloc (.cells #[.string ⟨#[109, 105, 110, 101]⟩, .int .i64 5, .int .i64 cas, .string V] 49)) (w7.heap.size) #[.int .i64 s10.clock, .int .i64 s10.cas, .int .i64 s10.uses, .int .i64 s10.most, .int .i64 s10.h0, .int .i64 s10.h1, .int .i64 s10.h2, .int .i64 s10.h3, .slice ia5 s10.items.length ic5, .int .i64 s10.fm, .int .i64 s10.fx, .slice pa5 s10.pages.length pc5] := by
  exact ((TB.new2 (by first | rfl | (simp; done))).alloc _)
 have TI_7x : TB 49 ((w7.alloc (.cells #[.int .i64 s10.clock, .int .i64 s10.cas, .int .i64 s10.uses, .int .i64 s10.most, .int .i64 s10.h0, .int .i64 s10.h1, .int .i64 s10.h2, .int .i64 s10.h3, .slice ia5 s10.items.length ic5, .int .i64 s10.fm, .int .i64 s10.fx, .slice pa5 s10.pages.length pc5] 29)).alloc (.cells #[.string ⟨#[109, 105, 110, 101]⟩, .int .i64 5, .int .i64 cas, .string V] 49)) (w7.heap.size + 1) #[.string ⟨#[109, 105, 110, 101]⟩, .int .i64 5, .int .i64 cas, .string V] := by
  exact (TB.new2 (by first | rfl | (simp; done)))
 have B_7x := below_thru B_7 Q_7
 have SIs_7x := SIs_7.later Q_7
 have SIs2_7x := SIs2_7.later Q_7
 have SIs3_7x := SIs3_7.later Q_7
 have SIs8_7x := SIs8_7.later Q_7
 have xR_7x := fun j => TR_7x.cell j
 have lR_7x := TR_7x.lt
 have xS_7x := fun j => TS_7x.cell j
 have lS_7x := TS_7x.lt
 have xT_7x := fun j => TT_7x.cell j
 have lT_7x := TT_7x.lt
 have xX_7x := fun j => TX_7x.cell j
 have lX_7x := TX_7x.lt
 have xU_7x := fun j => TU_7x.cell j
 have lU_7x := TU_7x.lt
 have xH_7x := fun j => TH_7x.cell j
 have lH_7x := TH_7x.lt
 have xY_7x := fun j => TY_7x.cell j
 have lY_7x := TY_7x.lt
 have xD_7x := fun j => TD_7x.cell j
 have lD_7x := TD_7x.lt
 have xI_7x := fun j => TI_7x.cell j
 have lI_7x := TI_7x.lt
 go_wp2_with fail
 generalize ((w7.alloc (.cells #[.int .i64 s10.clock, .int .i64 s10.cas, .int .i64 s10.uses, .int .i64 s10.most, .int .i64 s10.h0, .int .i64 s10.h1, .int .i64 s10.h2, .int .i64 s10.h3, .slice ia5 s10.items.length ic5, .int .i64 s10.fm, .int .i64 s10.fx, .slice pa5 s10.pages.length pc5] 29)).alloc (.cells #[.string ⟨#[109, 105, 110, 101]⟩, .int .i64 5, .int .i64 cas, .string V] 49)) = v8 at *
 clear xR_7x lR_7x xS_7x lS_7x xT_7x lT_7x xX_7x lX_7x xU_7x lU_7x xH_7x lH_7x xY_7x lY_7x xD_7x lD_7x xI_7x lI_7x
 refine (ktick4 s3 ia3 ic3 pa3 pc3 n _ hS9 SIs3_7x hG3 (by omega) (by omega) (by omega) (hL.later B_7x)).mono ?_
 rintro e w8 ⟨ia6, ic6, pa6, pc6, rfl, hSF6, hb8⟩
 have gb8 : Below v8.heap.size v8 w8 := below_thru (Below.refl _ _) hb8
 have gs8 := gb8.size
 have TR_8 := TR_7x.later gb8
 clear TR_7x
 have TS_8 := TS_7x.later gb8
 clear TS_7x
 have TT_8 := TT_7x.later gb8
 clear TT_7x
 have TX_8 := TX_7x.later gb8
 clear TX_7x
 have TU_8 := TU_7x.later gb8
 clear TU_7x
 have TH_8 := TH_7x.later gb8
 clear TH_7x
 have TY_8 := TY_7x.later gb8
 clear TY_7x
 have TD_8 := TD_7x.later gb8
 clear TD_7x
 have TI_8 := TI_7x.later gb8
 clear TI_7x
 have SIs_8 := SIs_7x.later gb8
 clear SIs_7x
 have SIs2_8 := SIs2_7x.later gb8
 clear SIs2_7x
 have SIs3_8 := SIs3_7x.later gb8
 clear SIs3_7x
 have SIs8_8 := SIs8_7x.later gb8
 clear SIs8_7x
 have B_8 := below_thru B_7x gb8
 have Q_8 : Below w8.heap.size w8 (w8.alloc (.cells #[.int .i64 s9.clock, .int .i64 s9.cas, .int .i64 s9.uses, .int .i64 s9.most, .int .i64 s9.h0, .int .i64 s9.h1, .int .i64 s9.h2, .int .i64 s9.h3, .slice ia6 s9.items.length ic6, .int .i64 s9.fm, .int .i64 s9.fx, .slice pa6 s9.pages.length pc6] 29)) := (below_al (Below.refl _ _) _)
 have TR_8x := TR_8.later Q_8
 have TS_8x := TS_8.later Q_8
 have TT_8x := TT_8.later Q_8
 have TX_8x := TX_8.later Q_8
 have TU_8x := TU_8.later Q_8
 have TH_8x := TH_8.later Q_8
 have TY_8x := TY_8.later Q_8
 have TD_8x := TD_8.later Q_8
 have TI_8x := TI_8.later Q_8
 have TM_8x : TB 29 (w8.alloc (.cells #[.int .i64 s9.clock, .int .i64 s9.cas, .int .i64 s9.uses, .int .i64 s9.most, .int .i64 s9.h0, .int .i64 s9.h1, .int .i64 s9.h2, .int .i64 s9.h3, .slice ia6 s9.items.length ic6, .int .i64 s9.fm, .int .i64 s9.fx, .slice pa6 s9.pages.length pc6] 29)) (w8.heap.size) #[.int .i64 s9.clock, .int .i64 s9.cas, .int .i64 s9.uses, .int .i64 s9.most, .int .i64 s9.h0, .int .i64 s9.h1, .int .i64 s9.h2, .int .i64 s9.h3, .slice ia6 s9.items.length ic6, .int .i64 s9.fm, .int .i64 s9.fx, .slice pa6 s9.pages.length pc6] := by
  exact (TB.new2 (by first | rfl | (simp; done)))
 have B_8x := below_thru B_8 Q_8
 have SIs_8x := SIs_8.later Q_8
 have SIs2_8x := SIs2_8.later Q_8
 have SIs3_8x := SIs3_8.later Q_8
 have SIs8_8x := SIs8_8.later Q_8
 have SIs9_8x := hSF6.here.later Q_8
 have xR_8x := fun j => TR_8x.cell j
 have lR_8x := TR_8x.lt
 have xS_8x := fun j => TS_8x.cell j
 have lS_8x := TS_8x.lt
 have xT_8x := fun j => TT_8x.cell j
 have lT_8x := TT_8x.lt
 have xX_8x := fun j => TX_8x.cell j
 have lX_8x := TX_8x.lt
 have xU_8x := fun j => TU_8x.cell j
 have lU_8x := TU_8x.lt
 have xH_8x := fun j => TH_8x.cell j
 have lH_8x := TH_8x.lt
 have xY_8x := fun j => TY_8x.cell j
 have lY_8x := TY_8x.lt
 have xD_8x := fun j => TD_8x.cell j
 have lD_8x := TD_8x.lt
 have xI_8x := fun j => TI_8x.cell j
 have lI_8x := TI_8x.lt
 have xM_8x := fun j => TM_8x.cell j
 have lM_8x := TM_8x.lt
 go_wp2_with fail
 generalize (w8.alloc (.cells #[.int .i64 s9.clock, .int .i64 s9.cas, .int .i64 s9.uses, .int .i64 s9.most, .int .i64 s9.h0, .int .i64 s9.h1, .int .i64 s9.h2, .int .i64 s9.h3, .slice ia6 s9.items.length ic6, .int .i64 s9.fm, .int .i64 s9.fx, .slice pa6 s9.pages.length pc6] 29)) = v9 at *
 clear xR_8x lR_8x xS_8x lS_8x xT_8x lT_8x xX_8x lX_8x xU_8x lU_8x xH_8x lH_8x xY_8x lY_8x xD_8x lD_8x xI_8x lI_8x xM_8x lM_8x
 refine (kget s9 ia6 ic6 pa6 pc6 ⟨#[109, 105, 110, 101]⟩ _ hS11 hH9 hB9 SIs9_8x hG9 hmine hus9 (hL.later B_8x) (hT.later B_8x)).mono ?_
 rintro e w9 ⟨ia7, ic7, pa7, pc7, rfl, hSF7, hb9⟩
 have gb9 : Below v9.heap.size v9 w9 := below_thru (Below.refl _ _) hb9
 have gs9 := gb9.size
 have TR_9 := TR_8x.later gb9
 clear TR_8x
 have TS_9 := TS_8x.later gb9
 clear TS_8x
 have TT_9 := TT_8x.later gb9
 clear TT_8x
 have TX_9 := TX_8x.later gb9
 clear TX_8x
 have TU_9 := TU_8x.later gb9
 clear TU_8x
 have TH_9 := TH_8x.later gb9
 clear TH_8x
 have TY_9 := TY_8x.later gb9
 clear TY_8x
 have TD_9 := TD_8x.later gb9
 clear TD_8x
 have TI_9 := TI_8x.later gb9
 clear TI_8x
 have TM_9 := TM_8x.later gb9
 clear TM_8x
 have SIs_9 := SIs_8x.later gb9
 clear SIs_8x
 have SIs2_9 := SIs2_8x.later gb9
 clear SIs2_8x
 have SIs3_9 := SIs3_8x.later gb9
 clear SIs3_8x
 have SIs8_9 := SIs8_8x.later gb9
 clear SIs8_8x
 have SIs9_9 := SIs9_8x.later gb9
 clear SIs9_8x
 have B_9 := below_thru B_8x gb9
 have Q_9 : Below w9.heap.size w9 ((w9.alloc (.cells #[.int .i64 s11.clock, .int .i64 s11.cas, .int .i64 s11.uses, .int .i64 s11.most, .int .i64 s11.h0, .int .i64 s11.h1, .int .i64 s11.h2, .int .i64 s11.h3, .slice ia7 s11.items.length ic7, .int .i64 s11.fm, .int .i64 s11.fx, .slice pa7 s11.pages.length pc7] 29)).alloc (.cells #[.string h9.key, .int .i64 h9.flags, .int .i64 h9.cas, .string h9.value] 49)) := (below_al (below_al (Below.refl _ _) _) _)
 have TR_9x := TR_9.later Q_9
 have TS_9x := TS_9.later Q_9
 have TT_9x := TT_9.later Q_9
 have TX_9x := TX_9.later Q_9
 have TU_9x := TU_9.later Q_9
 have TH_9x := TH_9.later Q_9
 have TY_9x := TY_9.later Q_9
 have TD_9x := TD_9.later Q_9
 have TI_9x := TI_9.later Q_9
 have TM_9x := TM_9.later Q_9
 have TN_9x : TB 29 ((w9.alloc (.cells #[.int .i64 s11.clock, .int .i64 s11.cas, .int .i64 s11.uses, .int .i64 s11.most, .int .i64 s11.h0, .int .i64 s11.h1, .int .i64 s11.h2, .int .i64 s11.h3, .slice ia7 s11.items.length ic7, .int .i64 s11.fm, .int .i64 s11.fx, .slice pa7 s11.pages.length pc7] 29)).alloc (.cells #[.string h9.key, .int .i64 h9.flags, .int .i64 h9.cas, .string h9.value] 49)) (w9.heap.size) #[.int .i64 s11.clock, .int .i64 s11.cas, .int .i64 s11.uses, .int .i64 s11.most, .int .i64 s11.h0, .int .i64 s11.h1, .int .i64 s11.h2, .int .i64 s11.h3, .slice ia7 s11.items.length ic7, .int .i64 s11.fm, .int .i64 s11.fx, .slice pa7 s11.pages.length pc7] := by
  exact ((TB.new2 (by first | rfl | (simp; done))).alloc _)
 have TJ_9x : TB 49 ((w9.alloc (.cells #[.int .i64 s11.clock, .int .i64 s11.cas, .int .i64 s11.uses, .int .i64 s11.most, .int .i64 s11.h0, .int .i64 s11.h1, .int .i64 s11.h2, .int .i64 s11.h3, .slice ia7 s11.items.length ic7, .int .i64 s11.fm, .int .i64 s11.fx, .slice pa7 s11.pages.length pc7] 29)).alloc (.cells #[.string h9.key, .int .i64 h9.flags, .int .i64 h9.cas, .string h9.value] 49)) (w9.heap.size + 1) #[.string h9.key, .int .i64 h9.flags, .int .i64 h9.cas, .string h9.value] := by
  exact (TB.new2 (by first | rfl | (simp; done)))
 have B_9x := below_thru B_9 Q_9
 have SIs_9x := SIs_9.later Q_9
 have SIs2_9x := SIs2_9.later Q_9
 have SIs3_9x := SIs3_9.later Q_9
 have SIs8_9x := SIs8_9.later Q_9
 have SIs9_9x := SIs9_9.later Q_9
 have xR_9x := fun j => TR_9x.cell j
 have lR_9x := TR_9x.lt
 have xS_9x := fun j => TS_9x.cell j
 have lS_9x := TS_9x.lt
 have xT_9x := fun j => TT_9x.cell j
 have lT_9x := TT_9x.lt
 have xX_9x := fun j => TX_9x.cell j
 have lX_9x := TX_9x.lt
 have xU_9x := fun j => TU_9x.cell j
 have lU_9x := TU_9x.lt
 have xH_9x := fun j => TH_9x.cell j
 have lH_9x := TH_9x.lt
 have xY_9x := fun j => TY_9x.cell j
 have lY_9x := TY_9x.lt
 have xD_9x := fun j => TD_9x.cell j
 have lD_9x := TD_9x.lt
 have xI_9x := fun j => TI_9x.cell j
 have lI_9x := TI_9x.lt
 have xM_9x := fun j => TM_9x.cell j
 have lM_9x := TM_9x.lt
 have xN_9x := fun j => TN_9x.cell j
 have lN_9x := TN_9x.lt
 have xJ_9x := fun j => TJ_9x.cell j
 have lJ_9x := TJ_9x.lt
 have eqH := eqHit ⟨⟨#[109, 105, 110, 101]⟩, 5, cas, V⟩
 simp only at eqH
 go_wp2_with fail
 go_ret
 exact ⟨rfl, B_9x⟩

end Go.Proofs.YtdblegdgmjakfaaGreatDoor
