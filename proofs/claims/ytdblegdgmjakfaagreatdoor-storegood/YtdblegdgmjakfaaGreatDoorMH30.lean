/- store.New and dovecoteref.StoreNew answer the same. -/
import Derived.Test.YtdblegdgmjakfaaGreatDoorMH05
import Derived.Test.YtdblegdgmjakfaaGreatDoorMH29
import Derived.Test.YtdblegdgmjakfaaGreatDoorMH07
import Derived.Test.YtdblegdgmjakfaaGreatDoorMH26
namespace Go.Proofs.YtdblegdgmjakfaaGreatDoor
open Go.ChangeShapes Go.WideShapes Go.ChangeAt Go.RowKit
set_option linter.unusedVariables false
set_option linter.unusedSimpArgs false

def snB (p m : Int) : Bool := inB p 0 40 && inB m 0 20
def SNewPost (p m : Int) (w : World) (e : Ending) (w' : World) : Prop :=
  e = .returned (.tuple #[.agg #[.int .i64 0, .int .i64 0, .int .i64 0, .int .i64 (if snB p m = true then p else 0), .int .i64 0, .int .i64 0, .int .i64 0, .int .i64 0, .slice none 0 0, .int .i64 (if snB p m = true then m else 0), .int .i64 (if snB p m = true then 1 else 0), .slice none 0 0], .int .i64 (if snB p m = true then 0 else 2)]) ∧ Below w.heap.size w w'

theorem snew_no {p m : Int} {w w' : World} (h : snB p m = false) (hb : Below w.heap.size w w') : SNewPost p m w (.returned (.tuple #[.agg #[.int .i64 0, .int .i64 0, .int .i64 0, .int .i64 0, .int .i64 0, .int .i64 0, .int .i64 0, .int .i64 0, .slice none 0 0, .int .i64 0, .int .i64 0, .slice none 0 0], .int .i64 2])) w' := by
  refine ⟨?_, hb⟩
  rw [h]
  rfl
theorem snew_yes {p m : Int} {w w' : World} (h : snB p m = true) (hb : Below w.heap.size w w') : SNewPost p m w (.returned (.tuple #[.agg #[.int .i64 0, .int .i64 0, .int .i64 0, .int .i64 p, .int .i64 0, .int .i64 0, .int .i64 0, .int .i64 0, .slice none 0 0, .int .i64 m, .int .i64 1, .slice none 0 0], .int .i64 0])) w' := by
  refine ⟨?_, hb⟩
  rw [h]
  rfl

theorem below_alW {w w' : World} (h : Below w.heap.size w w') (o : Obj) : Below w.heap.size w (w'.alloc o) := h.alloc h.size o

/-- What a store or an allocation above leaves below. -/
theorem below_step {n : Nat} {w w' : World} {b j : Nat} (h : Below n w w') (hb : n ≤ b) (v : Value) : Below n w (w'.setCell ⟨b, j, none⟩ v) := h.setCell hb v

set_option maxHeartbeats 1000000 in
set_option maxRecDepth 100000 in
theorem snew_any (p m : Int) (w : World) : Calls Tryz.prog 19 #[.agg #[.int .i64 p, .int .i64 m]] w (SNewPost p m w) := by
  have hw := within_any p 0 40
  have hn := fun w1 => new_any m w1
  cases h1 : inB p 0 40
  · have S : Hid (snB p m = false) := by unfold Hid snB; rw [h1]; rfl
    rw [h1] at hw
    clear h1 hn
    have hbw : Below w.heap.size w ((w.alloc (.cells #[.int .i64 p, .int .i64 m] 57)).alloc (.cells #[.int .i64 0, .int .i64 0, .int .i64 0, .int .i64 0, .int .i64 0, .int .i64 0, .int .i64 0, .int .i64 0, .slice none 0 0, .int .i64 0, .int .i64 0, .slice none 0 0] 29)) := ((Below.refl w.heap.size w).alloc (Nat.le_refl _) _).alloc (by simp) _
    go_enter Tryz.func19, Tryz.ntmps19
    go_wp2_with (go_at_call 37; refine (hw _).mono ?_; rintro e w' ⟨rfl, hw'⟩; obtain rfl := hw'.symm)
    exact bodyPost_ret (v := .tuple #[.agg #[.int .i64 0, .int .i64 0, .int .i64 0, .int .i64 0, .int .i64 0, .int .i64 0, .int .i64 0, .int .i64 0, .slice none 0 0, .int .i64 0, .int .i64 0, .slice none 0 0], .int .i64 2]) (by simp [results, Tryz.results19, go_sem]) rfl (snew_no S.out hbw)
  · cases h2 : inB m 0 20
    · have S : Hid (snB p m = false) := by unfold Hid snB; rw [h1, h2]; rfl
      rw [h1] at hw
      unfold NewPost newM newX newE at hn
      rw [h2] at hn
      simp only [Bool.false_eq_true, if_false] at hn
      clear h1 h2
      go_enter Tryz.func19, Tryz.ntmps19
      go_wp2_with (go_at_call 37; refine (hw _).mono ?_; rintro e w' ⟨rfl, hw'⟩; obtain rfl := hw'.symm)
      refine (hn _).mono ?_
      rintro e w1 ⟨rfl, hb1⟩
      have hz1 : w.heap.size + 1 < w1.heap.size := by have := hb1.size; simp at this; omega
      have hz0 : w.heap.size < w1.heap.size := by omega
      have hn1 : w1.heap.size ≠ w.heap.size + 1 := by omega
      have hn2 : w.heap.size + 1 ≠ w1.heap.size := by omega
      have hn3 : w1.heap.size ≠ w.heap.size := by omega
      have hn4 : w.heap.size ≠ w1.heap.size := by omega
      have r1 : ∀ j, w1.cell? ⟨w.heap.size + 1, j, none⟩ = (#[.int .i64 0, .int .i64 0, .int .i64 0, .int .i64 0, .int .i64 0, .int .i64 0, .int .i64 0, .int .i64 0, .slice none 0 0, .int .i64 0, .int .i64 0, .slice none 0 0] : Array Value)[j]? := fun j => by rw [hb1.cell (p := ⟨w.heap.size + 1, j, none⟩) (by simp)]; simp [go_sem]
      have r2 : ∀ j, w1.frozen? ⟨w.heap.size + 1, j, none⟩ = false := fun j => by rw [hb1.frozen (p := ⟨w.heap.size + 1, j, none⟩) (by simp)]; simp [go_sem]
      have r0 : ∀ j, w1.cell? ⟨w.heap.size, j, none⟩ = (#[.int .i64 p, .int .i64 m] : Array Value)[j]? := fun j => by rw [hb1.cell (p := ⟨w.heap.size, j, none⟩) (by simp; omega)]; simp [go_sem]
      have hbw : Below w.heap.size w w1 := (((Below.refl w.heap.size w).alloc (Nat.le_refl _) _).alloc (by simp) _).trans (hb1.mono (by simp; omega))
      clear hb1
      go_wp2
      exact bodyPost_ret (v := .tuple #[.agg #[.int .i64 0, .int .i64 0, .int .i64 0, .int .i64 0, .int .i64 0, .int .i64 0, .int .i64 0, .int .i64 0, .slice none 0 0, .int .i64 0, .int .i64 0, .slice none 0 0], .int .i64 2]) (by simp [results, Tryz.results19, go_sem, hz1, r1, hn1, hn2]) rfl (snew_no S.out (by refine below_alW ?_ _; (iterate 12 (refine below_step ?_ (by omega) _)); exact hbw))
    · have S : Hid (snB p m = true) := by unfold Hid snB; rw [h1, h2]; rfl
      rw [h1] at hw
      unfold NewPost newM newX newE at hn
      rw [h2] at hn
      simp only [if_true] at hn
      clear h1 h2
      go_enter Tryz.func19, Tryz.ntmps19
      go_wp2_with (go_at_call 37; refine (hw _).mono ?_; rintro e w' ⟨rfl, hw'⟩; obtain rfl := hw'.symm)
      refine (hn _).mono ?_
      rintro e w1 ⟨rfl, hb1⟩
      have hz1 : w.heap.size + 1 < w1.heap.size := by have := hb1.size; simp at this; omega
      have hz0 : w.heap.size < w1.heap.size := by omega
      have hn1 : w1.heap.size ≠ w.heap.size + 1 := by omega
      have hn2 : w.heap.size + 1 ≠ w1.heap.size := by omega
      have hn3 : w1.heap.size ≠ w.heap.size := by omega
      have hn4 : w.heap.size ≠ w1.heap.size := by omega
      have r1 : ∀ j, w1.cell? ⟨w.heap.size + 1, j, none⟩ = (#[.int .i64 0, .int .i64 0, .int .i64 0, .int .i64 0, .int .i64 0, .int .i64 0, .int .i64 0, .int .i64 0, .slice none 0 0, .int .i64 0, .int .i64 0, .slice none 0 0] : Array Value)[j]? := fun j => by rw [hb1.cell (p := ⟨w.heap.size + 1, j, none⟩) (by simp)]; simp [go_sem]
      have r2 : ∀ j, w1.frozen? ⟨w.heap.size + 1, j, none⟩ = false := fun j => by rw [hb1.frozen (p := ⟨w.heap.size + 1, j, none⟩) (by simp)]; simp [go_sem]
      have r0 : ∀ j, w1.cell? ⟨w.heap.size, j, none⟩ = (#[.int .i64 p, .int .i64 m] : Array Value)[j]? := fun j => by rw [hb1.cell (p := ⟨w.heap.size, j, none⟩) (by simp; omega)]; simp [go_sem]
      have hbw : Below w.heap.size w w1 := (((Below.refl w.heap.size w).alloc (Nat.le_refl _) _).alloc (by simp) _).trans (hb1.mono (by simp; omega))
      clear hb1
      go_wp2
      exact bodyPost_ret (v := .tuple #[.agg #[.int .i64 0, .int .i64 0, .int .i64 0, .int .i64 p, .int .i64 0, .int .i64 0, .int .i64 0, .int .i64 0, .slice none 0 0, .int .i64 m, .int .i64 1, .slice none 0 0], .int .i64 0]) (by simp [results, Tryz.results19, go_sem, hz1, r1, hn1, hn2]) rfl (snew_yes S.out (by refine below_alW ?_ _; (iterate 12 (refine below_step ?_ (by omega) _)); exact hbw))

end Go.Proofs.YtdblegdgmjakfaaGreatDoor

/- The contract of store.Tick. -/
namespace Go.Proofs.YtdblegdgmjakfaaGreatDoor
open Go.ChangeShapes Go.WideShapes Go.ChangeAt Go.RowKit
set_option linter.unusedVariables false
set_option linter.unusedSimpArgs false

set_option maxHeartbeats 4000000 in
set_option maxRecDepth 100000 in
theorem tick_any (s : StoreR) (ia : Option Addr) (ic : Nat) (pa : Option Addr) (pc : Nat) (n : Int) (w : World) (hS : StoreIn w s ia pa) (hok : ItemsOk s.items) (hL : LaidC w) :
    Calls Tryz.prog 18 #[storeV s ia ic pa pc, .int .i64 n] w (TickPost s n w) := by
  have hc1 := fun (w1 : World) (hb : Below w.heap.size w w1) => scheck_any s ia ic pa pc w1 (hS.later hb) hok (hL.later hb)
  have hcn := fun (w1 : World) => within_any n 0 1000 w1
  have hcp := fun (hz : Sizes s) (w1 : World) (hb : Below w.heap.size w w1) => scopy_own s ia ic pa pc w1 (hS.later hb) (by have := hz.items; omega) hz.texts (by have := hz.pages; omega) hz.bytes
  have hN : Hid (tickN s n = if storeB s = true then (if tickOk s n = true then 0 else 2) else 8) := rfl
  have hT : Hid (tickS s n = if storeB s = true then (if tickOk s n = true then { s with clock := s.clock + n } else zeroS) else zeroS) := rfl
  have hO : Hid (tickOk s n = (inB n 0 1000 && decide (s.clock + n ≤ 1099511627776))) := rfl
  have hZ := sizes_of s
  have T0 : codeN true = 0 := rfl
  have T8 : codeN false = 8 := rfl
  unfold TickPost
  generalize tickN s n = RN at *
  generalize tickS s n = RS at *
  generalize tickOk s n = OK at *
  generalize storeB s = R at *
  clear hS hok hL
  obtain ⟨clock, scas, uses, most, h0, h1, h2, h3, items, fm, fx, pages⟩ := s
  unfold storeV at hc1 hcp
  have hsv : ∀ (x y : Option Addr) (p q : Nat), storeV ⟨clock, scas, uses, most, h0, h1, h2, h3, items, fm, fx, pages⟩ x p y q = .agg #[.int .i64 clock, .int .i64 scas, .int .i64 uses, .int .i64 most, .int .i64 h0, .int .i64 h1, .int .i64 h2, .int .i64 h3, .slice x items.length p, .int .i64 fm, .int .i64 fx, .slice y pages.length q] := fun _ _ _ _ => rfl
  rw [hsv]
  clear hsv
  simp only at hc1 hcp
  have B0 : Below w.heap.size w (w.alloc (.cells #[.int .i64 clock, .int .i64 scas, .int .i64 uses, .int .i64 most, .int .i64 h0, .int .i64 h1, .int .i64 h2, .int .i64 h3, .slice ia items.length ic, .int .i64 fm, .int .i64 fx, .slice pa pages.length pc] 29)) := (Below.refl _ _).alloc (Nat.le_refl _) _
  have B1 : Below w.heap.size w ((w.alloc (.cells #[.int .i64 clock, .int .i64 scas, .int .i64 uses, .int .i64 most, .int .i64 h0, .int .i64 h1, .int .i64 h2, .int .i64 h3, .slice ia items.length ic, .int .i64 fm, .int .i64 fx, .slice pa pages.length pc] 29)).alloc (.cells #[.int .i64 0, .int .i64 0, .int .i64 0, .int .i64 0, .int .i64 0, .int .i64 0, .int .i64 0, .int .i64 0, .slice none 0 0, .int .i64 0, .int .i64 0, .slice none 0 0] 29)) := B0.alloc (by simp) _
  have U0 := (TB.new 29 w #[.int .i64 clock, .int .i64 scas, .int .i64 uses, .int .i64 most, .int .i64 h0, .int .i64 h1, .int .i64 h2, .int .i64 h3, .slice ia items.length ic, .int .i64 fm, .int .i64 fx, .slice pa pages.length pc]).alloc (.cells #[.int .i64 0, .int .i64 0, .int .i64 0, .int .i64 0, .int .i64 0, .int .i64 0, .int .i64 0, .int .i64 0, .slice none 0 0, .int .i64 0, .int .i64 0, .slice none 0 0] 29)
  have U1 := TB.new 29 (w.alloc (.cells #[.int .i64 clock, .int .i64 scas, .int .i64 uses, .int .i64 most, .int .i64 h0, .int .i64 h1, .int .i64 h2, .int .i64 h3, .slice ia items.length ic, .int .i64 fm, .int .i64 fx, .slice pa pages.length pc] 29)) #[.int .i64 0, .int .i64 0, .int .i64 0, .int .i64 0, .int .i64 0, .int .i64 0, .int .i64 0, .int .i64 0, .slice none 0 0, .int .i64 0, .int .i64 0, .slice none 0 0]
  rw [show (w.alloc (.cells #[.int .i64 clock, .int .i64 scas, .int .i64 uses, .int .i64 most, .int .i64 h0, .int .i64 h1, .int .i64 h2, .int .i64 h3, .slice ia items.length ic, .int .i64 fm, .int .i64 fx, .slice pa pages.length pc] 29)).heap.size = w.heap.size + 1 by simp] at U1
  have hs0 : ((w.alloc (.cells #[.int .i64 clock, .int .i64 scas, .int .i64 uses, .int .i64 most, .int .i64 h0, .int .i64 h1, .int .i64 h2, .int .i64 h3, .slice ia items.length ic, .int .i64 fm, .int .i64 fx, .slice pa pages.length pc] 29)).alloc (.cells #[.int .i64 0, .int .i64 0, .int .i64 0, .int .i64 0, .int .i64 0, .int .i64 0, .int .i64 0, .int .i64 0, .slice none 0 0, .int .i64 0, .int .i64 0, .slice none 0 0] 29)).heap.size = w.heap.size + 1 + 1 := by simp
  cases R
  · rw [T8] at hc1
    have eN : RN = 8 := hN.out
    have eS : RS = zeroS := hT.out
    clear hN hT hcp hZ hO
    go_enter Tryz.func18, Tryz.ntmps18
    go_wp2_with fail
    refine (hc1 _ B1).mono ?_
    rintro e w1 ⟨rfl, hb1⟩
    have V0 := U0.later hb1
    have V1 := U1.later hb1
    have x0 := fun j => V0.cell j
    have x1 := fun j => V0.frozen j
    have x2 := fun j => V1.cell j
    have x3 := fun j => V1.frozen j
    have l0 := V0.lt
    have l1 := V1.lt
    have hbw1 := B1.trans (hb1.mono B1.size)
    have hs1 : w.heap.size + 1 + 1 ≤ w1.heap.size := by rw [← hs0]; exact hb1.size
    clear U0 U1 V0 V1 hc1 B0 B1 hcn hb1
    go_wp2_with fail
    refine bodyPost_ret (v := .tuple #[.agg #[.int .i64 0, .int .i64 0, .int .i64 0, .int .i64 0, .int .i64 0, .int .i64 0, .int .i64 0, .int .i64 0, .slice none 0 0, .int .i64 0, .int .i64 0, .slice none 0 0], .int .i64 8]) (by simp [results, Tryz.results18, go_sem, l0, l1, x0, x2]) rfl ⟨none, 0, none, 0, by rw [eS, eN]; rfl, by rw [eS]; exact zero_from _ _, ?_⟩
    exact ((((((((((((hbw1.setCell (Nat.le_succ _) _).setCell (Nat.le_succ _) _).setCell (Nat.le_succ _) _).setCell (Nat.le_succ _) _).setCell (Nat.le_succ _) _).setCell (Nat.le_succ _) _).setCell (Nat.le_succ _) _).setCell (Nat.le_succ _) _).setCell (Nat.le_succ _) _).setCell (Nat.le_succ _) _).setCell (Nat.le_succ _) _).setCell (Nat.le_succ _) _)
  · rw [T0] at hc1
    have hz := hZ rfl
    obtain ⟨z1, z2⟩ := hz.clock
    have hcp := hcp hz
    simp only at z1 z2
    have hO := hO.out
    simp only at hO
    cases hin : inB n 0 1000
    · have eO : OK = false := by rw [hO, hin]; rfl
      have eN : RN = 2 := by rw [hN.out, eO]; rfl
      have eS : RS = zeroS := by rw [hT.out, eO]; rfl
      rw [hin] at hcn
      clear hN hT hcp hZ hO
      go_enter Tryz.func18, Tryz.ntmps18
      go_wp2_with fail
      refine (hc1 _ B1).mono ?_
      rintro e w1 ⟨rfl, hb1⟩
      have V0 := U0.later hb1
      have V1 := U1.later hb1
      have x0 := fun j => V0.cell j
      have x1 := fun j => V0.frozen j
      have x2 := fun j => V1.cell j
      have x3 := fun j => V1.frozen j
      have l0 := V0.lt
      have l1 := V1.lt
      have hbw1 := B1.trans (hb1.mono B1.size)
      have hs1 : w.heap.size + 1 + 1 ≤ w1.heap.size := by rw [← hs0]; exact hb1.size
      clear U0 U1 V0 V1 hc1 B0 B1 hb1
      go_wp2_with (go_at_call 37; refine (hcn _).mono ?_; rintro e w' ⟨rfl, rfl⟩)
      refine bodyPost_ret (v := .tuple #[.agg #[.int .i64 0, .int .i64 0, .int .i64 0, .int .i64 0, .int .i64 0, .int .i64 0, .int .i64 0, .int .i64 0, .slice none 0 0, .int .i64 0, .int .i64 0, .slice none 0 0], .int .i64 2]) (by simp [results, Tryz.results18, go_sem, l0, l1, x0, x2]) rfl ⟨none, 0, none, 0, by rw [eS, eN]; rfl, by rw [eS]; exact zero_from _ _, ?_⟩
      exact ((((((((((((hbw1.setCell (Nat.le_succ _) _).setCell (Nat.le_succ _) _).setCell (Nat.le_succ _) _).setCell (Nat.le_succ _) _).setCell (Nat.le_succ _) _).setCell (Nat.le_succ _) _).setCell (Nat.le_succ _) _).setCell (Nat.le_succ _) _).setCell (Nat.le_succ _) _).setCell (Nat.le_succ _) _).setCell (Nat.le_succ _) _).setCell (Nat.le_succ _) _)
    · obtain ⟨n1, n2⟩ := (inB_iff n 0 1000).1 hin
      rw [hin] at hcn
      have hwr : IntKind.i64.wrap (clock + n) = clock + n := by simp only [IntKind.wrap_i64]; omega
      by_cases hgt : clock + n ≤ 1099511627776
      · have eO : OK = true := by rw [hO, hin]; simpa using hgt
        have eN : RN = 0 := by rw [hN.out, eO]; rfl
        have eS : RS = ⟨clock + n, scas, uses, most, h0, h1, h2, h3, items, fm, fx, pages⟩ := by rw [hT.out, eO]; rfl
        have hgt' : ¬ (1099511627776 < clock + n) := by omega
        clear hN hT hZ hO
        go_enter Tryz.func18, Tryz.ntmps18
        go_wp2_with fail
        refine (hc1 _ B1).mono ?_
        rintro e w1 ⟨rfl, hb1⟩
        have V0 := U0.later hb1
        have V1 := U1.later hb1
        have x0 := fun j => V0.cell j
        have x1 := fun j => V0.frozen j
        have x2 := fun j => V1.cell j
        have x3 := fun j => V1.frozen j
        have l0 := V0.lt
        have l1 := V1.lt
        have hbw1 := B1.trans (hb1.mono B1.size)
        have hs1 : w.heap.size + 1 + 1 ≤ w1.heap.size := by rw [← hs0]; exact hb1.size
        clear U0 U1 hc1 B0 B1
        go_wp2_with (go_at_call 37; refine (hcn _).mono ?_; rintro e w' ⟨rfl, rfl⟩)
        refine (hcp _ hbw1).mono ?_
        rintro e w2 ⟨ja, jc, qa, qc, rfl, hF, hb2⟩
        have W0 := V0.later hb2
        have W1 := V1.later hb2
        have y0 := fun j => W0.cell j
        have y1 := fun j => W0.frozen j
        have y2 := fun j => W1.cell j
        have y3 := fun j => W1.frozen j
        have m0 := W0.lt
        have m1 := W1.lt
        have hbw2 := hbw1.trans (hb2.mono hbw1.size)
        have hs2 := hb2.size
        unfold storeV
        clear V0 V1 W0 W1 x0 x1 x2 x3 l0 l1 hcp hb1 hb2 hbw1
        go_wp2_with fail
        refine bodyPost_ret (v := .tuple #[.agg #[.int .i64 (clock + n), .int .i64 scas, .int .i64 uses, .int .i64 most, .int .i64 h0, .int .i64 h1, .int .i64 h2, .int .i64 h3, .slice ja items.length jc, .int .i64 fm, .int .i64 fx, .slice qa pages.length qc], .int .i64 0]) (by simp [results, Tryz.results18, go_sem, m0, m1, y0, y2]) rfl ⟨ja, jc, qa, qc, by rw [eS, eN]; rfl, ?_, ?_⟩
        · rw [eS]
          intro w9 hs9 h9
          have hs8 : w2.heap.size ≤ w9.heap.size := by simpa [World.setCell] using hs9
          refine hF w9 hs8 fun b hb hl => ?_
          have hb1 : b ≠ w.heap.size + 1 := by omega
          have hb0 : b ≠ w.heap.size := by omega
          rw [h9 b (by omega) (by simpa [World.setCell] using hl)]
          iterate 12 rw [heap_setCell_other _ _ _ _ hb1]
          iterate 13 rw [heap_setCell_other _ _ _ _ hb0]
        · exact (((((((((((((((((((((((((hbw2.setCell (Nat.le_refl _) _).setCell (Nat.le_refl _) _).setCell (Nat.le_refl _) _).setCell (Nat.le_refl _) _).setCell (Nat.le_refl _) _).setCell (Nat.le_refl _) _).setCell (Nat.le_refl _) _).setCell (Nat.le_refl _) _).setCell (Nat.le_refl _) _).setCell (Nat.le_refl _) _).setCell (Nat.le_refl _) _).setCell (Nat.le_refl _) _).setCell (Nat.le_refl _) _).setCell (Nat.le_succ _) _).setCell (Nat.le_succ _) _).setCell (Nat.le_succ _) _).setCell (Nat.le_succ _) _).setCell (Nat.le_succ _) _).setCell (Nat.le_succ _) _).setCell (Nat.le_succ _) _).setCell (Nat.le_succ _) _).setCell (Nat.le_succ _) _).setCell (Nat.le_succ _) _).setCell (Nat.le_succ _) _).setCell (Nat.le_succ _) _)
      · have eO : OK = false := by rw [hO, hin]; simpa using hgt
        have eN : RN = 2 := by rw [hN.out, eO]; rfl
        have eS : RS = zeroS := by rw [hT.out, eO]; rfl
        have hgt' : 1099511627776 < clock + n := by omega
        clear hN hT hcp hZ hO
        go_enter Tryz.func18, Tryz.ntmps18
        go_wp2_with fail
        refine (hc1 _ B1).mono ?_
        rintro e w1 ⟨rfl, hb1⟩
        have V0 := U0.later hb1
        have V1 := U1.later hb1
        have x0 := fun j => V0.cell j
        have x1 := fun j => V0.frozen j
        have x2 := fun j => V1.cell j
        have x3 := fun j => V1.frozen j
        have l0 := V0.lt
        have l1 := V1.lt
        have hbw1 := B1.trans (hb1.mono B1.size)
        have hs1 : w.heap.size + 1 + 1 ≤ w1.heap.size := by rw [← hs0]; exact hb1.size
        clear U0 U1 V0 V1 hc1 B0 B1 hb1
        go_wp2_with (go_at_call 37; refine (hcn _).mono ?_; rintro e w' ⟨rfl, rfl⟩)
        refine bodyPost_ret (v := .tuple #[.agg #[.int .i64 0, .int .i64 0, .int .i64 0, .int .i64 0, .int .i64 0, .int .i64 0, .int .i64 0, .int .i64 0, .slice none 0 0, .int .i64 0, .int .i64 0, .slice none 0 0], .int .i64 2]) (by simp [results, Tryz.results18, go_sem, l0, l1, x0, x2]) rfl ⟨none, 0, none, 0, by rw [eS, eN]; rfl, by rw [eS]; exact zero_from _ _, ?_⟩
        exact ((((((((((((hbw1.setCell (Nat.le_succ _) _).setCell (Nat.le_succ _) _).setCell (Nat.le_succ _) _).setCell (Nat.le_succ _) _).setCell (Nat.le_succ _) _).setCell (Nat.le_succ _) _).setCell (Nat.le_succ _) _).setCell (Nat.le_succ _) _).setCell (Nat.le_succ _) _).setCell (Nat.le_succ _) _).setCell (Nat.le_succ _) _).setCell (Nat.le_succ _) _)
end Go.Proofs.YtdblegdgmjakfaaGreatDoor
