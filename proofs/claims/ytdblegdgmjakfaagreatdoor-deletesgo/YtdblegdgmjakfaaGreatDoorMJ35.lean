/- Parts of the proof. -/
import Derived.Test.YtdblegdgmjakfaaGreatDoorMJ34
import Derived.Test.YtdblegdgmjakfaaGreatDoorMJ27
import Derived.Deep.RegionHeld3
namespace Go.Proofs.YtdblegdgmjakfaaGreatDoor
open Go.ChangeShapes Go.WideShapes Go.ChangeAt Go.RowKit
set_option linter.unusedVariables false
set_option linter.unusedSimpArgs false

/- dovecotekeep.DeletesGo. -/

theorem do_all (s : StoreR) (ia : Option Addr) (ic : Nat) (pa : Option Addr) (pc : Nat) (w : World) (b : Nat) (hS : StoreIn w s ia pa) (hg : Gd s) (hus : s.uses ≤ 1099511627766) (hL : LaidC w) (hT : LaidT w) (hA : ansN s allQ = (s, 1, 0, [])) (h4 : TB 9 w b #[.string ⟨#[97]⟩, .string ⟨#[98]⟩, .string ⟨#[99, 99]⟩, .string ⟨#[107, 101, 121]⟩, .string ⟨#[108, 111, 110, 103, 45, 107, 101, 121, 45, 110, 97, 109, 101]⟩, .string ⟨#[120, 47, 121]⟩, .string ⟨#[122, 57]⟩, .string ⟨#[126]⟩]) :
 Calls Tryz.prog 16 #[.agg #[.int .i64 s.clock, .int .i64 s.cas, .int .i64 s.uses, .int .i64 s.most, .int .i64 s.h0, .int .i64 s.h1, .int .i64 s.h2, .int .i64 s.h3, .slice ia s.items.length ic, .int .i64 s.fm, .int .i64 s.fx, .slice pa s.pages.length pc], .agg #[.int .i64 1, .string ⟨#[]⟩, .slice (some ⟨b, 0, none⟩) 8 8, .int .i64 0, .int .i64 0, .int .i64 0, .string ⟨#[]⟩, .bool false]] w
  fun e w' => ∃ ja jc qa qc a c, e = .returned (.tuple #[.agg #[.int .i64 s.clock, .int .i64 s.cas, .int .i64 s.uses, .int .i64 s.most, .int .i64 s.h0, .int .i64 s.h1, .int .i64 s.h2, .int .i64 s.h3, .slice ja s.items.length jc, .int .i64 s.fm, .int .i64 s.fx, .slice qa s.pages.length qc], .agg #[.int .i64 1, .int .i64 0, .slice a 0 c], .int .i64 0]) ∧ StoreFrom w.heap.size w' s ja qa ∧ Below w.heap.size w w' := by
 have hStr : StrsAt w (some ⟨b, 0, none⟩) keyL.length keyL := by
  refine ⟨rfl, by unfold maxLen; show 8 ≤ _; omega, fun k hk => ?_, Or.inr ⟨b, 0, rfl, h4.lt, fun j hj => ?_⟩⟩
  · have : ∀ x ∈ keyL, x.size ≤ 20 := by decide
    have := this k hk
    unfold maxLen
    omega
  · have hj : j < 8 := hj
    have : j = 0 ∨ j = 1 ∨ j = 2 ∨ j = 3 ∨ j = 4 ∨ j = 5 ∨ j = 6 ∨ j = 7 := by omega
    rcases this with rfl | rfl | rfl | rfl | rfl | rfl | rfl | rfl <;> exact h4.cell _
 refine (do_any s ia ic pa pc allQ (some ⟨b, 0, none⟩) 8 w hS hg allQ_fit hus hL hT hStr).mono fun e w' hp => ?_
 rw [hA] at hp
 obtain ⟨ja, jc, qa, qc, hv, rfl, hF, hO, hB⟩ := hp
 obtain ⟨a, c, rfl⟩ := OwnH.none hO
 exact ⟨ja, jc, qa, qc, a, c, rfl, hF, hB⟩

set_option maxHeartbeats 8000000 in
set_option maxRecDepth 100000 in
theorem deletes_go (l : List RawR) (ra : Option Addr) (rc : Nat) (r : RawR) (w : World) (hR : RawsAt w ra l) (hok : RawsOk l) (hr : RawOk r) (hL : LaidC w) (hT : LaidT w) :
 Calls Tryz.prog 11 #[.slice ra l.length rc, .agg #[.int .i64 r.k, .int .i64 r.a, .int .i64 r.b, .int .i64 r.c]] w fun e w' => e = .returned (.bool true) ∧ Below w.heap.size w w' := by
 have hpl := pl_play (newS_pl (by decide : (0 : Int) ≤ 12) (by decide) (by decide : (0 : Int) ≤ 4) (by decide)) l (min 50 l.length) (by omega) (by omega)
 have hG := hpl.gd
 have hu := hpl.uses
 obtain ⟨s, hplay⟩ : ∃ s, play (newS 12 4) l (min 50 l.length) = s := ⟨_, rfl⟩
 rw [hplay] at hG hu
 have hus : s.uses ≤ 1099511627766 := by have : (min 50 l.length) ≤ 50 := Nat.min_le_left _ _; omega
 obtain ⟨ha0, ha1⟩ := hr.2.1
 have hk := keyS_ok r.a
 obtain ⟨hd1, hd2⟩ := del_ans hG (keyS r.a)
 have hF2 : QFit (bareQ 8 (keyS r.a) 0) := bareQ_fit (Or.inl rfl) hk ⟨by decide, by decide⟩ (fun _ => rfl)
 have hG2 := hG.next hF2 hus
 have hu2 := uses_next hG hF2
 obtain ⟨s2, k2, n2, h2, hA2⟩ : ∃ a b c d, ansN s (bareQ 8 (keyS r.a) 0) = (a, b, c, d) := ⟨_, _, _, _, rfl⟩
 rw [hA2] at hd1 hd2 hG2 hu2
 have hd1b : k2 = if getB s (keyS r.a) = true then 6 else 5 := hd1
 have hd2b : getB s2 (keyS r.a) = false := hd2
 have hG2b : Gd s2 := hG2
 have hu2b : s2.uses ≤ s.uses + 10 := hu2
 clear hG2 hu2
 have hus2 : s2.uses ≤ 1099511627766 := by have : (min 50 l.length) ≤ 50 := Nat.min_le_left _ _; omega
 obtain ⟨s1, hS1⟩ : ∃ a, getS s (keyS r.a) = a := ⟨_, rfl⟩
 obtain ⟨h1, hH1⟩ : ∃ a, getH s (keyS r.a) = a := ⟨_, rfl⟩
 obtain ⟨b1, hB1⟩ : ∃ a, getB s (keyS r.a) = a := ⟨_, rfl⟩
 obtain ⟨s3, hS3⟩ : ∃ a, getS s2 (keyS r.a) = a := ⟨_, rfl⟩
 obtain ⟨h3, hH3⟩ : ∃ a, getH s2 (keyS r.a) = a := ⟨_, rfl⟩
 have hd1c : k2 = if b1 = true then 6 else 5 := by rw [← hB1]; exact hd1b
 obtain ⟨s4, hS4⟩ : ∃ a, flushN s = a := ⟨_, rfl⟩
 obtain ⟨k4, n4, h4, hk4, hn4, hh4⟩ : ∃ a b c, a = (9 : Int) ∧ b = (0 : Int) ∧ c = ([] : List HitR) := ⟨_, _, _, rfl, rfl, rfl⟩
 have hA4 : ansN s flushQ = (s4, k4, n4, h4) := by rw [flush_ans, hS4, hk4, hn4, hh4]
 have hkey := fun w1 => keepKey_any r.a w1 ha0 ha1
 generalize keyS r.a = k at *
 have hB3 := hd2b
 have hG4 : Gd s4 := by rw [← hS4]; exact hG.flush
 have hus4 : s4.uses ≤ 1099511627766 := by rw [← hS4]; exact hus
 have HK2 : Hid (k2 = if b1 = true then 6 else 5) := hd1c
 have HK4 : Hid (k4 = 9) := hk4
 have HN4 : Hid (n4 = 0) := hn4
 have HH4 : Hid (h4 = []) := hh4
 have HS4 : Hid (flushN s = s4) := hS4
 clear hd1 hd1b hd1c hd2b hk4 hn4 hh4 hpl hd2
 have hget8 := fun (ia4 : Option Addr) (ic4 : Nat) (pa4 : Option Addr) (pc4 : Nat) (wx : World) (b : Nat) (h1 : StoreIn wx s4 ia4 pa4) (h2 : LaidC wx) (h3 : LaidT wx) (h4 : TB 9 wx b #[.string ⟨#[97]⟩, .string ⟨#[98]⟩, .string ⟨#[99, 99]⟩, .string ⟨#[107, 101, 121]⟩, .string ⟨#[108, 111, 110, 103, 45, 107, 101, 121, 45, 110, 97, 109, 101]⟩, .string ⟨#[120, 47, 121]⟩, .string ⟨#[122, 57]⟩, .string ⟨#[126]⟩]) => do_all s4 ia4 ic4 pa4 pc4 wx b h1 hG4 hus4 h2 h3 (by rw [← hS4]; exact flush_all s) h4
 clear hS4
 go_enter Tryz.func11, Tryz.ntmps11
 have Q_0 : Below w.heap.size w (w.alloc (.cells #[.int .i64 r.k, .int .i64 r.a, .int .i64 r.b, .int .i64 r.c] 38)) := (below_al (Below.refl _ _) _)
 have TR_0x : TB 38 (w.alloc (.cells #[.int .i64 r.k, .int .i64 r.a, .int .i64 r.b, .int .i64 r.c] 38)) (w.heap.size) #[.int .i64 r.k, .int .i64 r.a, .int .i64 r.b, .int .i64 r.c] := by
  exact (TB.new2 (by first | rfl | (simp; done)))
 have B_0x := Q_0
 have xR_0x := fun j => TR_0x.cell j
 have lR_0x := TR_0x.lt
 go_wp2_with fail
 generalize (w.alloc (.cells #[.int .i64 r.k, .int .i64 r.a, .int .i64 r.b, .int .i64 r.c] 38)) = v1 at *
 clear xR_0x lR_0x
 refine (played_any l ra rc 12 4 50 _ (hR.later B_0x) hok (by decide) (by decide) (by decide) (by decide) (by decide) (hL.later B_0x) (hT.later B_0x)).mono ?_
 rintro e w1 ⟨ia, ic, pa, pc, rv, rfl, hSI, hb1⟩
 have gb1 : Below v1.heap.size v1 w1 := below_thru (Below.refl _ _) hb1
 have gs1 := gb1.size
 have TR_1 := TR_0x.later gb1
 clear TR_0x
 have B_1 := below_thru B_0x gb1
 rw [hplay] at *
 unfold storeV
 have Q_1 : Below w1.heap.size w1 (w1.alloc (.cells #[.int .i64 s.clock, .int .i64 s.cas, .int .i64 s.uses, .int .i64 s.most, .int .i64 s.h0, .int .i64 s.h1, .int .i64 s.h2, .int .i64 s.h3, .slice ia s.items.length ic, .int .i64 s.fm, .int .i64 s.fx, .slice pa s.pages.length pc] 29)) := (below_al (Below.refl _ _) _)
 have TR_1x := TR_1.later Q_1
 have TS_1x : TB 29 (w1.alloc (.cells #[.int .i64 s.clock, .int .i64 s.cas, .int .i64 s.uses, .int .i64 s.most, .int .i64 s.h0, .int .i64 s.h1, .int .i64 s.h2, .int .i64 s.h3, .slice ia s.items.length ic, .int .i64 s.fm, .int .i64 s.fx, .slice pa s.pages.length pc] 29)) (w1.heap.size) #[.int .i64 s.clock, .int .i64 s.cas, .int .i64 s.uses, .int .i64 s.most, .int .i64 s.h0, .int .i64 s.h1, .int .i64 s.h2, .int .i64 s.h3, .slice ia s.items.length ic, .int .i64 s.fm, .int .i64 s.fx, .slice pa s.pages.length pc] := by
  exact (TB.new2 (by first | rfl | (simp; done)))
 have B_1x := below_thru B_1 Q_1
 have SIs_1x := hSI.later Q_1
 have xR_1x := fun j => TR_1x.cell j
 have lR_1x := TR_1x.lt
 have xS_1x := fun j => TS_1x.cell j
 have lS_1x := TS_1x.lt
 go_wp2_with fail
 generalize (w1.alloc (.cells #[.int .i64 s.clock, .int .i64 s.cas, .int .i64 s.uses, .int .i64 s.most, .int .i64 s.h0, .int .i64 s.h1, .int .i64 s.h2, .int .i64 s.h3, .slice ia s.items.length ic, .int .i64 s.fm, .int .i64 s.fx, .slice pa s.pages.length pc] 29)) = v2 at *
 clear xR_1x lR_1x xS_1x lS_1x
 refine (hkey _).mono ?_
 rintro e w2 ⟨rfl, hb2⟩
 have gb2 : Below v2.heap.size v2 w2 := below_thru (Below.refl _ _) hb2
 have gs2 := gb2.size
 have TR_2 := TR_1x.later gb2
 clear TR_1x
 have TS_2 := TS_1x.later gb2
 clear TS_1x
 have SIs_2 := SIs_1x.later gb2
 clear SIs_1x
 have B_2 := below_thru B_1x gb2
 have TR_2x := TR_2
 have TS_2x := TS_2
 have B_2x := B_2
 have SIs_2x := SIs_2
 have xR_2x := fun j => TR_2x.cell j
 have lR_2x := TR_2x.lt
 have xS_2x := fun j => TS_2x.cell j
 have lS_2x := TS_2x.lt
 go_wp2_with fail
 clear xR_2x lR_2x xS_2x lS_2x
 refine (kget s ia ic pa pc k _ hS1 hH1 hB1 SIs_2x hG hk hus (hL.later B_2x) (hT.later B_2x)).mono ?_
 rintro e w3 ⟨ia1, ic1, pa1, pc1, rfl, hSF1, hb3⟩
 have gb3 : Below w2.heap.size w2 w3 := below_thru (Below.refl _ _) hb3
 have gs3 := gb3.size
 have TR_3 := TR_2x.later gb3
 clear TR_2x
 have TS_3 := TS_2x.later gb3
 clear TS_2x
 have SIs_3 := SIs_2x.later gb3
 clear SIs_2x
 have B_3 := below_thru B_2x gb3
 have Q_3 : Below w3.heap.size w3 ((w3.alloc (.cells #[.int .i64 s1.clock, .int .i64 s1.cas, .int .i64 s1.uses, .int .i64 s1.most, .int .i64 s1.h0, .int .i64 s1.h1, .int .i64 s1.h2, .int .i64 s1.h3, .slice ia1 s1.items.length ic1, .int .i64 s1.fm, .int .i64 s1.fx, .slice pa1 s1.pages.length pc1] 29)).alloc (.cells #[.string h1.key, .int .i64 h1.flags, .int .i64 h1.cas, .string h1.value] 49)) := (below_al (below_al (Below.refl _ _) _) _)
 have TR_3x := TR_3.later Q_3
 have TS_3x := TS_3.later Q_3
 have TG_3x : TB 29 ((w3.alloc (.cells #[.int .i64 s1.clock, .int .i64 s1.cas, .int .i64 s1.uses, .int .i64 s1.most, .int .i64 s1.h0, .int .i64 s1.h1, .int .i64 s1.h2, .int .i64 s1.h3, .slice ia1 s1.items.length ic1, .int .i64 s1.fm, .int .i64 s1.fx, .slice pa1 s1.pages.length pc1] 29)).alloc (.cells #[.string h1.key, .int .i64 h1.flags, .int .i64 h1.cas, .string h1.value] 49)) (w3.heap.size) #[.int .i64 s1.clock, .int .i64 s1.cas, .int .i64 s1.uses, .int .i64 s1.most, .int .i64 s1.h0, .int .i64 s1.h1, .int .i64 s1.h2, .int .i64 s1.h3, .slice ia1 s1.items.length ic1, .int .i64 s1.fm, .int .i64 s1.fx, .slice pa1 s1.pages.length pc1] := by
  exact ((TB.new2 (by first | rfl | (simp; done))).alloc _)
 have TH_3x : TB 49 ((w3.alloc (.cells #[.int .i64 s1.clock, .int .i64 s1.cas, .int .i64 s1.uses, .int .i64 s1.most, .int .i64 s1.h0, .int .i64 s1.h1, .int .i64 s1.h2, .int .i64 s1.h3, .slice ia1 s1.items.length ic1, .int .i64 s1.fm, .int .i64 s1.fx, .slice pa1 s1.pages.length pc1] 29)).alloc (.cells #[.string h1.key, .int .i64 h1.flags, .int .i64 h1.cas, .string h1.value] 49)) (w3.heap.size + 1) #[.string h1.key, .int .i64 h1.flags, .int .i64 h1.cas, .string h1.value] := by
  exact (TB.new2 (by first | rfl | (simp; done)))
 have B_3x := below_thru B_3 Q_3
 have SIs_3x := SIs_3.later Q_3
 have xR_3x := fun j => TR_3x.cell j
 have lR_3x := TR_3x.lt
 have xS_3x := fun j => TS_3x.cell j
 have lS_3x := TS_3x.lt
 have xG_3x := fun j => TG_3x.cell j
 have lG_3x := TG_3x.lt
 have xH_3x := fun j => TH_3x.cell j
 have lH_3x := TH_3x.lt
 go_wp2_with fail
 generalize ((w3.alloc (.cells #[.int .i64 s1.clock, .int .i64 s1.cas, .int .i64 s1.uses, .int .i64 s1.most, .int .i64 s1.h0, .int .i64 s1.h1, .int .i64 s1.h2, .int .i64 s1.h3, .slice ia1 s1.items.length ic1, .int .i64 s1.fm, .int .i64 s1.fx, .slice pa1 s1.pages.length pc1] 29)).alloc (.cells #[.string h1.key, .int .i64 h1.flags, .int .i64 h1.cas, .string h1.value] 49)) = v4 at *
 clear xR_3x lR_3x xS_3x lS_3x xG_3x lG_3x xH_3x lH_3x
 refine (kdo s ia ic pa pc 8 k 0 0 0 ⟨#[]⟩ _ hA2 SIs_3x hG hF2 hus (hL.later B_3x) (hT.later B_3x)).mono ?_
 rintro e w4 ⟨ia2, ic2, pa2, pc2, ah2, ch2, rfl, hSF2, hb4⟩
 have gb4 : Below v4.heap.size v4 w4 := below_thru (Below.refl _ _) hb4
 have gs4 := gb4.size
 have TR_4 := TR_3x.later gb4
 clear TR_3x
 have TS_4 := TS_3x.later gb4
 clear TS_3x
 have TG_4 := TG_3x.later gb4
 clear TG_3x
 have TH_4 := TH_3x.later gb4
 clear TH_3x
 have SIs_4 := SIs_3x.later gb4
 clear SIs_3x
 have B_4 := below_thru B_3x gb4
 have Q_4 : Below w4.heap.size w4 ((w4.alloc (.cells #[.int .i64 s2.clock, .int .i64 s2.cas, .int .i64 s2.uses, .int .i64 s2.most, .int .i64 s2.h0, .int .i64 s2.h1, .int .i64 s2.h2, .int .i64 s2.h3, .slice ia2 s2.items.length ic2, .int .i64 s2.fm, .int .i64 s2.fx, .slice pa2 s2.pages.length pc2] 29)).alloc (.cells #[.int .i64 k2, .int .i64 n2, .slice ah2 h2.length ch2] 42)) := (below_al (below_al (Below.refl _ _) _) _)
 have TR_4x := TR_4.later Q_4
 have TS_4x := TS_4.later Q_4
 have TG_4x := TG_4.later Q_4
 have TH_4x := TH_4.later Q_4
 have TT_4x : TB 29 ((w4.alloc (.cells #[.int .i64 s2.clock, .int .i64 s2.cas, .int .i64 s2.uses, .int .i64 s2.most, .int .i64 s2.h0, .int .i64 s2.h1, .int .i64 s2.h2, .int .i64 s2.h3, .slice ia2 s2.items.length ic2, .int .i64 s2.fm, .int .i64 s2.fx, .slice pa2 s2.pages.length pc2] 29)).alloc (.cells #[.int .i64 k2, .int .i64 n2, .slice ah2 h2.length ch2] 42)) (w4.heap.size) #[.int .i64 s2.clock, .int .i64 s2.cas, .int .i64 s2.uses, .int .i64 s2.most, .int .i64 s2.h0, .int .i64 s2.h1, .int .i64 s2.h2, .int .i64 s2.h3, .slice ia2 s2.items.length ic2, .int .i64 s2.fm, .int .i64 s2.fx, .slice pa2 s2.pages.length pc2] := by
  exact ((TB.new2 (by first | rfl | (simp; done))).alloc _)
 have TX_4x : TB 42 ((w4.alloc (.cells #[.int .i64 s2.clock, .int .i64 s2.cas, .int .i64 s2.uses, .int .i64 s2.most, .int .i64 s2.h0, .int .i64 s2.h1, .int .i64 s2.h2, .int .i64 s2.h3, .slice ia2 s2.items.length ic2, .int .i64 s2.fm, .int .i64 s2.fx, .slice pa2 s2.pages.length pc2] 29)).alloc (.cells #[.int .i64 k2, .int .i64 n2, .slice ah2 h2.length ch2] 42)) (w4.heap.size + 1) #[.int .i64 k2, .int .i64 n2, .slice ah2 h2.length ch2] := by
  exact (TB.new2 (by first | rfl | (simp; done)))
 have B_4x := below_thru B_4 Q_4
 have SIs_4x := SIs_4.later Q_4
 have SIs2_4x := hSF2.here.later Q_4
 have xR_4x := fun j => TR_4x.cell j
 have lR_4x := TR_4x.lt
 have xS_4x := fun j => TS_4x.cell j
 have lS_4x := TS_4x.lt
 have xG_4x := fun j => TG_4x.cell j
 have lG_4x := TG_4x.lt
 have xH_4x := fun j => TH_4x.cell j
 have lH_4x := TH_4x.lt
 have xT_4x := fun j => TT_4x.cell j
 have lT_4x := TT_4x.lt
 have xX_4x := fun j => TX_4x.cell j
 have lX_4x := TX_4x.lt
 go_wp2_with fail
 generalize ((w4.alloc (.cells #[.int .i64 s2.clock, .int .i64 s2.cas, .int .i64 s2.uses, .int .i64 s2.most, .int .i64 s2.h0, .int .i64 s2.h1, .int .i64 s2.h2, .int .i64 s2.h3, .slice ia2 s2.items.length ic2, .int .i64 s2.fm, .int .i64 s2.fx, .slice pa2 s2.pages.length pc2] 29)).alloc (.cells #[.int .i64 k2, .int .i64 n2, .slice ah2 h2.length ch2] 42)) = v5 at *
 clear xR_4x lR_4x xS_4x lS_4x xG_4x lG_4x xH_4x lH_4x xT_4x lT_4x xX_4x lX_4x
 refine (kget s2 ia2 ic2 pa2 pc2 k _ hS3 hH3 hB3 SIs2_4x hG2b hk hus2 (hL.later B_4x) (hT.later B_4x)).mono ?_
 rintro e w5 ⟨ia3, ic3, pa3, pc3, rfl, hSF3, hb5⟩
 have gb5 : Below v5.heap.size v5 w5 := below_thru (Below.refl _ _) hb5
 have gs5 := gb5.size
 have TR_5 := TR_4x.later gb5
 clear TR_4x
 have TS_5 := TS_4x.later gb5
 clear TS_4x
 have TG_5 := TG_4x.later gb5
 clear TG_4x
 have TH_5 := TH_4x.later gb5
 clear TH_4x
 have TT_5 := TT_4x.later gb5
 clear TT_4x
 have TX_5 := TX_4x.later gb5
 clear TX_4x
 have SIs_5 := SIs_4x.later gb5
 clear SIs_4x
 have SIs2_5 := SIs2_4x.later gb5
 clear SIs2_4x
 have B_5 := below_thru B_4x gb5
 have Q_5 : Below w5.heap.size w5 ((w5.alloc (.cells #[.int .i64 s3.clock, .int .i64 s3.cas, .int .i64 s3.uses, .int .i64 s3.most, .int .i64 s3.h0, .int .i64 s3.h1, .int .i64 s3.h2, .int .i64 s3.h3, .slice ia3 s3.items.length ic3, .int .i64 s3.fm, .int .i64 s3.fx, .slice pa3 s3.pages.length pc3] 29)).alloc (.cells #[.string h3.key, .int .i64 h3.flags, .int .i64 h3.cas, .string h3.value] 49)) := (below_al (below_al (Below.refl _ _) _) _)
 have TR_5x := TR_5.later Q_5
 have TS_5x := TS_5.later Q_5
 have TG_5x := TG_5.later Q_5
 have TH_5x := TH_5.later Q_5
 have TT_5x := TT_5.later Q_5
 have TX_5x := TX_5.later Q_5
 have TI_5x : TB 29 ((w5.alloc (.cells #[.int .i64 s3.clock, .int .i64 s3.cas, .int .i64 s3.uses, .int .i64 s3.most, .int .i64 s3.h0, .int .i64 s3.h1, .int .i64 s3.h2, .int .i64 s3.h3, .slice ia3 s3.items.length ic3, .int .i64 s3.fm, .int .i64 s3.fx, .slice pa3 s3.pages.length pc3] 29)).alloc (.cells #[.string h3.key, .int .i64 h3.flags, .int .i64 h3.cas, .string h3.value] 49)) (w5.heap.size) #[.int .i64 s3.clock, .int .i64 s3.cas, .int .i64 s3.uses, .int .i64 s3.most, .int .i64 s3.h0, .int .i64 s3.h1, .int .i64 s3.h2, .int .i64 s3.h3, .slice ia3 s3.items.length ic3, .int .i64 s3.fm, .int .i64 s3.fx, .slice pa3 s3.pages.length pc3] := by
  exact ((TB.new2 (by first | rfl | (simp; done))).alloc _)
 have TJ_5x : TB 49 ((w5.alloc (.cells #[.int .i64 s3.clock, .int .i64 s3.cas, .int .i64 s3.uses, .int .i64 s3.most, .int .i64 s3.h0, .int .i64 s3.h1, .int .i64 s3.h2, .int .i64 s3.h3, .slice ia3 s3.items.length ic3, .int .i64 s3.fm, .int .i64 s3.fx, .slice pa3 s3.pages.length pc3] 29)).alloc (.cells #[.string h3.key, .int .i64 h3.flags, .int .i64 h3.cas, .string h3.value] 49)) (w5.heap.size + 1) #[.string h3.key, .int .i64 h3.flags, .int .i64 h3.cas, .string h3.value] := by
  exact (TB.new2 (by first | rfl | (simp; done)))
 have B_5x := below_thru B_5 Q_5
 have SIs_5x := SIs_5.later Q_5
 have SIs2_5x := SIs2_5.later Q_5
 have xR_5x := fun j => TR_5x.cell j
 have lR_5x := TR_5x.lt
 have xS_5x := fun j => TS_5x.cell j
 have lS_5x := TS_5x.lt
 have xG_5x := fun j => TG_5x.cell j
 have lG_5x := TG_5x.lt
 have xH_5x := fun j => TH_5x.cell j
 have lH_5x := TH_5x.lt
 have xT_5x := fun j => TT_5x.cell j
 have lT_5x := TT_5x.lt
 have xX_5x := fun j => TX_5x.cell j
 have lX_5x := TX_5x.lt
 have xI_5x := fun j => TI_5x.cell j
 have lI_5x := TI_5x.lt
 have xJ_5x := fun j => TJ_5x.cell j
 have lJ_5x := TJ_5x.lt
 go_wp2_with fail
 generalize ((w5.alloc (.cells #[.int .i64 s3.clock, .int .i64 s3.cas, .int .i64 s3.uses, .int .i64 s3.most, .int .i64 s3.h0, .int .i64 s3.h1, .int .i64 s3.h2, .int .i64 s3.h3, .slice ia3 s3.items.length ic3, .int .i64 s3.fm, .int .i64 s3.fx, .slice pa3 s3.pages.length pc3] 29)).alloc (.cells #[.string h3.key, .int .i64 h3.flags, .int .i64 h3.cas, .string h3.value] 49)) = v6 at *
 clear xR_5x lR_5x xS_5x lS_5x xG_5x lG_5x xH_5x lH_5x xT_5x lT_5x xX_5x lX_5x xI_5x lI_5x xJ_5x lJ_5x
 refine (kdo s ia ic pa pc 12 ⟨#[]⟩ 0 0 0 ⟨#[]⟩ _ hA4 SIs_5x hG flushQ_fit hus (hL.later B_5x) (hT.later B_5x)).mono ?_
 rintro e w6 ⟨ia4, ic4, pa4, pc4, ah4, ch4, rfl, hSF4, hb6⟩
 have gb6 : Below v6.heap.size v6 w6 := below_thru (Below.refl _ _) hb6
 have gs6 := gb6.size
 have TR_6 := TR_5x.later gb6
 clear TR_5x
 have TS_6 := TS_5x.later gb6
 clear TS_5x
 have TG_6 := TG_5x.later gb6
 clear TG_5x
 have TH_6 := TH_5x.later gb6
 clear TH_5x
 have TT_6 := TT_5x.later gb6
 clear TT_5x
 have TX_6 := TX_5x.later gb6
 clear TX_5x
 have TI_6 := TI_5x.later gb6
 clear TI_5x
 have TJ_6 := TJ_5x.later gb6
 clear TJ_5x
 have SIs_6 := SIs_5x.later gb6
 clear SIs_5x
 have SIs2_6 := SIs2_5x.later gb6
 clear SIs2_5x
 have B_6 := below_thru B_5x gb6
 have Q_6 : Below w6.heap.size w6 ((w6.alloc (.cells #[.int .i64 s4.clock, .int .i64 s4.cas, .int .i64 s4.uses, .int .i64 s4.most, .int .i64 s4.h0, .int .i64 s4.h1, .int .i64 s4.h2, .int .i64 s4.h3, .slice ia4 s4.items.length ic4, .int .i64 s4.fm, .int .i64 s4.fx, .slice pa4 s4.pages.length pc4] 29)).alloc (.cells #[.int .i64 k4, .int .i64 n4, .slice ah4 h4.length ch4] 42)) := (below_al (below_al (Below.refl _ _) _) _)
 have hz_6 : Hid (((w6.alloc (.cells #[.int .i64 s4.clock, .int .i64 s4.cas, .int .i64 s4.uses, .int .i64 s4.most, .int .i64 s4.h0, .int .i64 s4.h1, .int .i64 s4.h2, .int .i64 s4.h3, .slice ia4 s4.items.length ic4, .int .i64 s4.fm, .int .i64 s4.fx, .slice pa4 s4.pages.length pc4] 29)).alloc (.cells #[.int .i64 k4, .int .i64 n4, .slice ah4 h4.length ch4] 42)).heap.size = w6.heap.size + 1 + 1) := (show ((w6.alloc (.cells #[.int .i64 s4.clock, .int .i64 s4.cas, .int .i64 s4.uses, .int .i64 s4.most, .int .i64 s4.h0, .int .i64 s4.h1, .int .i64 s4.h2, .int .i64 s4.h3, .slice ia4 s4.items.length ic4, .int .i64 s4.fm, .int .i64 s4.fx, .slice pa4 s4.pages.length pc4] 29)).alloc (.cells #[.int .i64 k4, .int .i64 n4, .slice ah4 h4.length ch4] 42)).heap.size = w6.heap.size + 1 + 1 by simp)
 have TR_6x := TR_6.later Q_6
 have TS_6x := TS_6.later Q_6
 have TG_6x := TG_6.later Q_6
 have TH_6x := TH_6.later Q_6
 have TT_6x := TT_6.later Q_6
 have TX_6x := TX_6.later Q_6
 have TI_6x := TI_6.later Q_6
 have TJ_6x := TJ_6.later Q_6
 have TU_6x : TB 29 ((w6.alloc (.cells #[.int .i64 s4.clock, .int .i64 s4.cas, .int .i64 s4.uses, .int .i64 s4.most, .int .i64 s4.h0, .int .i64 s4.h1, .int .i64 s4.h2, .int .i64 s4.h3, .slice ia4 s4.items.length ic4, .int .i64 s4.fm, .int .i64 s4.fx, .slice pa4 s4.pages.length pc4] 29)).alloc (.cells #[.int .i64 k4, .int .i64 n4, .slice ah4 h4.length ch4] 42)) (w6.heap.size) #[.int .i64 s4.clock, .int .i64 s4.cas, .int .i64 s4.uses, .int .i64 s4.most, .int .i64 s4.h0, .int .i64 s4.h1, .int .i64 s4.h2, .int .i64 s4.h3, .slice ia4 s4.items.length ic4, .int .i64 s4.fm, .int .i64 s4.fx, .slice pa4 s4.pages.length pc4] := by
  exact ((TB.new2 (by first | rfl | (simp; done))).alloc _)
 have TY_6x : TB 42 ((w6.alloc (.cells #[.int .i64 s4.clock, .int .i64 s4.cas, .int .i64 s4.uses, .int .i64 s4.most, .int .i64 s4.h0, .int .i64 s4.h1, .int .i64 s4.h2, .int .i64 s4.h3, .slice ia4 s4.items.length ic4, .int .i64 s4.fm, .int .i64 s4.fx, .slice pa4 s4.pages.length pc4] 29)).alloc (.cells #[.int .i64 k4, .int .i64 n4, .slice ah4 h4.length ch4] 42)) (w6.heap.size + 1) #[.int .i64 k4, .int .i64 n4, .slice ah4 h4.length ch4] := by
  exact (TB.new2 (by first | rfl | (simp; done)))
 have B_6x := below_thru B_6 Q_6
 have SIs_6x := SIs_6.later Q_6
 have SIs2_6x := SIs2_6.later Q_6
 have SIs4_6x := hSF4.here.later Q_6
 have xR_6x := fun j => TR_6x.cell j
 have lR_6x := TR_6x.lt
 have xS_6x := fun j => TS_6x.cell j
 have lS_6x := TS_6x.lt
 have xG_6x := fun j => TG_6x.cell j
 have lG_6x := TG_6x.lt
 have xH_6x := fun j => TH_6x.cell j
 have lH_6x := TH_6x.lt
 have xT_6x := fun j => TT_6x.cell j
 have lT_6x := TT_6x.lt
 have xX_6x := fun j => TX_6x.cell j
 have lX_6x := TX_6x.lt
 have xI_6x := fun j => TI_6x.cell j
 have lI_6x := TI_6x.lt
 have xJ_6x := fun j => TJ_6x.cell j
 have lJ_6x := TJ_6x.lt
 have xU_6x := fun j => TU_6x.cell j
 have lU_6x := TU_6x.lt
 have xY_6x := fun j => TY_6x.cell j
 have lY_6x := TY_6x.lt
 go_wp2_with fail
 generalize ((w6.alloc (.cells #[.int .i64 s4.clock, .int .i64 s4.cas, .int .i64 s4.uses, .int .i64 s4.most, .int .i64 s4.h0, .int .i64 s4.h1, .int .i64 s4.h2, .int .i64 s4.h3, .slice ia4 s4.items.length ic4, .int .i64 s4.fm, .int .i64 s4.fx, .slice pa4 s4.pages.length pc4] 29)).alloc (.cells #[.int .i64 k4, .int .i64 n4, .slice ah4 h4.length ch4] 42)) = v7 at *
 clear xR_6x lR_6x xS_6x lS_6x xG_6x lG_6x xH_6x lH_6x xT_6x lT_6x xX_6x lX_6x xI_6x lI_6x xJ_6x lJ_6x xU_6x lU_6x xY_6x lY_6x
 refine (hget8 ia4 ic4 pa4 pc4 _ (w6.heap.size + 1 + 1) (SIs4_6x.later (below_al (Below.refl _ _) _)) (hL.later (below_thru B_6x (below_al (Below.refl _ _) _))) (hT.later (below_thru B_6x (below_al (Below.refl _ _) _))) (TB.new2 (by rw [← hz_6.out]))).mono ?_
 rintro e w7 ⟨ia5, ic5, pa5, pc5, ah5, ch5, rfl, hSF5, hb7⟩
 have gb7 : Below v7.heap.size v7 w7 := below_thru (below_al (Below.refl _ _) _) hb7
 have gs7 := gb7.size
 have TR_7 := TR_6x.later gb7
 clear TR_6x
 have TS_7 := TS_6x.later gb7
 clear TS_6x
 have TG_7 := TG_6x.later gb7
 clear TG_6x
 have TH_7 := TH_6x.later gb7
 clear TH_6x
 have TT_7 := TT_6x.later gb7
 clear TT_6x
 have TX_7 := TX_6x.later gb7
 clear TX_6x
 have TI_7 := TI_6x.later gb7
 clear TI_6x
 have TJ_7 := TJ_6x.later gb7
 clear TJ_6x
 have TU_7 := TU_6x.later gb7
 clear TU_6x
 have TY_7 := TY_6x.later gb7
 clear TY_6x
 have SIs_7 := SIs_6x.later gb7
 clear SIs_6x
 have SIs2_7 := SIs2_6x.later gb7
 clear SIs2_6x
 have SIs4_7 := SIs4_6x.later gb7
 clear SIs4_6x
 have B_7 := below_thru B_6x gb7
 have Q_7 : Below w7.heap.size w7 ((w7.alloc (.cells #[.int .i64 s4.clock, .int .i64 s4.cas, .int .i64 s4.uses, .int .i64 s4.most, .int .i64 s4.h0, .int .i64 s4.h1, .int .i64 s4.h2, .int .i64 s4.h3, .slice ia5 s4.items.length ic5, .int .i64 s4.fm, .int .i64 s4.fx, .slice pa5 s4.pages.length pc5] 29)).alloc (.cells #[.int .i64 1, .int .i64 0, .slice ah5 0 ch5] 42)) := (below_al (below_al (Below.refl _ _) _) _)
 have TR_7x := TR_7.later Q_7
 have TS_7x := TS_7.later Q_7
 have TG_7x := TG_7.later Q_7
 have TH_7x := TH_7.later Q_7
 have TT_7x := TT_7.later Q_7
 have TX_7x := TX_7.later Q_7
 have TI_7x := TI_7.later Q_7
 have TJ_7x := TJ_7.later Q_7
 have TU_7x := TU_7.later Q_7
 have TY_7x := TY_7.later Q_7
 have TV_7x : TB 29 ((w7.alloc (.cells #[.int .i64 s4.clock, .int .i64 s4.cas, .int .i64 s4.uses, .int .i64 s4.most, .int .i64 s4.h0, .int .i64 s4.h1, .int .i64 s4.h2, .int .i64 s4.h3, .slice ia5 s4.items.length ic5, .int .i64 s4.fm, .int .i64 s4.fx, .slice pa5 s4.pages.length pc5] 29)).alloc (.cells #[.int .i64 1, .int .i64 0, .slice ah5 0 ch5] 42)) (w7.heap.size) #[.int .i64 s4.clock, .int .i64 s4.cas, .int .i64 s4.uses, .int .i64 s4.most, .int .i64 s4.h0, .int .i64 s4.h1, .int .i64 s4.h2, .int .i64 s4.h3, .slice ia5 s4.items.length ic5, .int .i64 s4.fm, .int .i64 s4.fx, .slice pa5 s4.pages.length pc5] := by
  exact ((TB.new2 (by first | rfl | (simp; done))).alloc _)
 have TZ_7x : TB 42 ((w7.alloc (.cells #[.int .i64 s4.clock, .int .i64 s4.cas, .int .i64 s4.uses, .int .i64 s4.most, .int .i64 s4.h0, .int .i64 s4.h1, .int .i64 s4.h2, .int .i64 s4.h3, .slice ia5 s4.items.length ic5, .int .i64 s4.fm, .int .i64 s4.fx, .slice pa5 s4.pages.length pc5] 29)).alloc (.cells #[.int .i64 1, .int .i64 0, .slice ah5 0 ch5] 42)) (w7.heap.size + 1) #[.int .i64 1, .int .i64 0, .slice ah5 0 ch5] := by
  exact (TB.new2 (by first | rfl | (simp; done)))
 have B_7x := below_thru B_7 Q_7
 have SIs_7x := SIs_7.later Q_7
 have SIs2_7x := SIs2_7.later Q_7
 have SIs4_7x := SIs4_7.later Q_7
 have xR_7x := fun j => TR_7x.cell j
 have lR_7x := TR_7x.lt
 have xS_7x := fun j => TS_7x.cell j
 have lS_7x := TS_7x.lt
 have xG_7x := fun j => TG_7x.cell j
 have lG_7x := TG_7x.lt
 have xH_7x := fun j => TH_7x.cell j
 have lH_7x := TH_7x.lt
 have xT_7x := fun j => TT_7x.cell j
 have lT_7x := TT_7x.lt
 have xX_7x := fun j => TX_7x.cell j
 have lX_7x := TX_7x.lt
 have xI_7x := fun j => TI_7x.cell j
 have lI_7x := TI_7x.lt
 have xJ_7x := fun j => TJ_7x.cell j
 have lJ_7x := TJ_7x.lt
 have xU_7x := fun j => TU_7x.cell j
 have lU_7x := TU_7x.lt
 have xY_7x := fun j => TY_7x.cell j
 have lY_7x := TY_7x.lt
 have xV_7x := fun j => TV_7x.cell j
 have lV_7x := TV_7x.lt
 have xZ_7x := fun j => TZ_7x.cell j
 have lZ_7x := TZ_7x.lt
 have hk2 := HK2.out
 have hk4 := HK4.out
 have hh4 := HH4.out
 have hs4 := HS4.out
 have hi4 : ((s4.items.length : Int) == 0) = true := by rw [← hs4]; rfl
 have hc4 : (s4.cas == s.cas) = true := by rw [← hs4]; exact beq_self_eq_true _
 have hy4 : (k4 == 9) = true := by rw [hk4]; rfl
 clear HK2 HK4 HH4 HS4 hs4 hk4 hh4
 have hkk : (b1 = true ∧ (k2 == 6) = true) ∨ (b1 = false ∧ (k2 == 5) = true) := by
  cases b1 with
  | false => exact Or.inr ⟨rfl, by rw [hk2]; rfl⟩
  | true => exact Or.inl ⟨rfl, by rw [hk2]; rfl⟩
 clear hk2
 rcases hkk with ⟨hb, hk2⟩ | ⟨hb, hk2⟩
 · go_wp2_with fail
   go_ret
   exact ⟨rfl, B_7x⟩
 · go_wp2_with fail
   go_ret
   exact ⟨rfl, B_7x⟩

end Go.Proofs.YtdblegdgmjakfaaGreatDoor
