/- store.New and dovecoteref.StoreNew answer the same. -/
import Derived.Test.YtdgmifkdfjpcgacSSame
import Derived.Test.YtdgmifkdfjpcgacFNew
namespace Go.Proofs.Ytdgmifkdfjpcgac
open Go.ChangeShapes Go.WideShapes Go.ChangeAt Go.RowKit
set_option linter.unusedVariables false
set_option linter.unusedSimpArgs false

theorem within_any (n lo hi : Int) (w : World) :
    Calls Try.prog 31 #[.int .i64 n, .int .i64 lo, .int .i64 hi] w fun e w' => e = .returned (.bool (inB n lo hi)) ∧ w' = w := by
  by_cases h1 : lo ≤ n
  · have e : inB n lo hi = decide (n ≤ hi) := by unfold inB; simp [h1]
    rw [e]
    clear e
    go_enter Try.func31, Try.ntmps31
    go_wp2
    go_ret
    exact ⟨rfl, rfl⟩
  · have e : inB n lo hi = false := by unfold inB; simp; omega
    rw [e]
    clear e
    go_enter Try.func31, Try.ntmps31
    go_wp2
    go_ret
    exact ⟨rfl, rfl⟩

def snB (p m : Int) : Bool := inB p 0 40 && inB m 0 20
def SNewPost (p m : Int) (w : World) (e : Ending) (w' : World) : Prop :=
  e = .returned (.tuple #[.agg #[.int .i64 0, .int .i64 0, .int .i64 0, .int .i64 (if snB p m = true then p else 0), .int .i64 0, .int .i64 0, .int .i64 0, .int .i64 0, .slice none 0 0, .int .i64 (if snB p m = true then m else 0), .int .i64 (if snB p m = true then 1 else 0), .slice none 0 0], .int .i64 (if snB p m = true then 0 else 2)]) ∧ Below w.heap.size w w'

theorem snew_no {p m : Int} {w w' : World} (h : snB p m = false) (hb : Below w.heap.size w w') : SNewPost p m w (.returned (.tuple #[.agg #[.int .i64 0, .int .i64 0, .int .i64 0, .int .i64 0, .int .i64 0, .int .i64 0, .int .i64 0, .int .i64 0, .slice none 0 0, .int .i64 0, .int .i64 0, .slice none 0 0], .int .i64 2])) w' := by
  refine ⟨?_, hb⟩
  rw [h]
  rfl
theorem snew_yes {p m : Int} {w w' : World} (h : snB p m = true) (hb : Below w.heap.size w w') : SNewPost p m w (.returned (.tuple #[.agg #[.int .i64 0, .int .i64 0, .int .i64 0, .int .i64 p, .int .i64 0, .int .i64 0, .int .i64 0, .int .i64 0, .slice none 0 0, .int .i64 m, .int .i64 1, .slice none 0 0], .int .i64 0])) w' := by
  refine ⟨?_, hb⟩
  rw [h]
  rfl

theorem below_al {w w' : World} (h : Below w.heap.size w w') (o : Obj) : Below w.heap.size w (w'.alloc o) := h.alloc h.size o

/-- What a store or an allocation above leaves below. -/
theorem below_step {n : Nat} {w w' : World} {b j : Nat} (h : Below n w w') (hb : n ≤ b) (v : Value) : Below n w (w'.setCell ⟨b, j, none⟩ v) := h.setCell hb v

set_option maxHeartbeats 1000000 in
set_option maxRecDepth 100000 in
theorem snew_any (p m : Int) (w : World) : Calls Try.prog 16 #[.agg #[.int .i64 p, .int .i64 m]] w (SNewPost p m w) := by
  have hw := within_any p 0 40
  have hn := fun w1 => new_any m w1
  cases h1 : inB p 0 40
  · have S : Hid (snB p m = false) := by unfold Hid snB; rw [h1]; rfl
    rw [h1] at hw
    clear h1 hn
    have hbw : Below w.heap.size w ((w.alloc (.cells #[.int .i64 p, .int .i64 m] 48)).alloc (.cells #[.int .i64 0, .int .i64 0, .int .i64 0, .int .i64 0, .int .i64 0, .int .i64 0, .int .i64 0, .int .i64 0, .slice none 0 0, .int .i64 0, .int .i64 0, .slice none 0 0] 52)) := ((Below.refl w.heap.size w).alloc (Nat.le_refl _) _).alloc (by simp) _
    go_enter Try.func16, Try.ntmps16
    go_wp2_with (go_at_call 31; refine (hw _).mono ?_; rintro e w' ⟨rfl, hw'⟩; obtain rfl := hw'.symm)
    exact bodyPost_ret (v := .tuple #[.agg #[.int .i64 0, .int .i64 0, .int .i64 0, .int .i64 0, .int .i64 0, .int .i64 0, .int .i64 0, .int .i64 0, .slice none 0 0, .int .i64 0, .int .i64 0, .slice none 0 0], .int .i64 2]) (by simp [results, Try.results16, go_sem]) rfl (snew_no S.out hbw)
  · cases h2 : inB m 0 20
    · have S : Hid (snB p m = false) := by unfold Hid snB; rw [h1, h2]; rfl
      rw [h1] at hw
      unfold NewPost newM newX newE at hn
      rw [h2] at hn
      simp only [Bool.false_eq_true, if_false] at hn
      clear h1 h2
      go_enter Try.func16, Try.ntmps16
      go_wp2_with (go_at_call 31; refine (hw _).mono ?_; rintro e w' ⟨rfl, hw'⟩; obtain rfl := hw'.symm)
      refine (hn _).mono ?_
      rintro e w1 ⟨rfl, hb1⟩
      have hz1 : w.heap.size + 1 < w1.heap.size := by have := hb1.size; simp at this; omega
      have hz0 : w.heap.size < w1.heap.size := by omega
      have hn1 : w1.heap.size ≠ w.heap.size + 1 := by omega
      have hn2 : w.heap.size + 1 ≠ w1.heap.size := by omega
      have hn3 : w1.heap.size ≠ w.heap.size := by omega
      have hn4 : w.heap.size ≠ w1.heap.size := by omega
      have r1 : ∀ j, w1.cell? ⟨w.heap.size + 1, j, none⟩ = (#[.int .i64 0, .int .i64 0, .int .i64 0, .int .i64 0, .int .i64 0, .int .i64 0, .int .i64 0, .int .i64 0, .slice none 0 0, .int .i64 0, .int .i64 0, .slice none 0 0] : Array Value)[j]? := fun j => by rw [hb1.cell (p := ⟨w.heap.size + 1, j, none⟩) (by simp)]; simp [go_sem]
      have r2 : ∀ j, w1.frozen? ⟨w.heap.size + 1, j, none⟩ = false := fun j => by rw [hb1.frozen (p := ⟨w.heap.size + 1, j, none⟩) (by simp)]; simp [go_sem]
      have r0 : ∀ j, w1.cell? ⟨w.heap.size, j, none⟩ = (#[.int .i64 p, .int .i64 m] : Array Value)[j]? := fun j => by rw [hb1.cell (p := ⟨w.heap.size, j, none⟩) (by simp; omega)]; simp [go_sem]
      have hbw : Below w.heap.size w w1 := (((Below.refl w.heap.size w).alloc (Nat.le_refl _) _).alloc (by simp) _).trans (hb1.mono (by simp; omega))
      clear hb1
      go_wp2
      exact bodyPost_ret (v := .tuple #[.agg #[.int .i64 0, .int .i64 0, .int .i64 0, .int .i64 0, .int .i64 0, .int .i64 0, .int .i64 0, .int .i64 0, .slice none 0 0, .int .i64 0, .int .i64 0, .slice none 0 0], .int .i64 2]) (by simp [results, Try.results16, go_sem, hz1, r1, hn1, hn2]) rfl (snew_no S.out (by refine below_al ?_ _; (iterate 12 (refine below_step ?_ (by omega) _)); exact hbw))
    · have S : Hid (snB p m = true) := by unfold Hid snB; rw [h1, h2]; rfl
      rw [h1] at hw
      unfold NewPost newM newX newE at hn
      rw [h2] at hn
      simp only [if_true] at hn
      clear h1 h2
      go_enter Try.func16, Try.ntmps16
      go_wp2_with (go_at_call 31; refine (hw _).mono ?_; rintro e w' ⟨rfl, hw'⟩; obtain rfl := hw'.symm)
      refine (hn _).mono ?_
      rintro e w1 ⟨rfl, hb1⟩
      have hz1 : w.heap.size + 1 < w1.heap.size := by have := hb1.size; simp at this; omega
      have hz0 : w.heap.size < w1.heap.size := by omega
      have hn1 : w1.heap.size ≠ w.heap.size + 1 := by omega
      have hn2 : w.heap.size + 1 ≠ w1.heap.size := by omega
      have hn3 : w1.heap.size ≠ w.heap.size := by omega
      have hn4 : w.heap.size ≠ w1.heap.size := by omega
      have r1 : ∀ j, w1.cell? ⟨w.heap.size + 1, j, none⟩ = (#[.int .i64 0, .int .i64 0, .int .i64 0, .int .i64 0, .int .i64 0, .int .i64 0, .int .i64 0, .int .i64 0, .slice none 0 0, .int .i64 0, .int .i64 0, .slice none 0 0] : Array Value)[j]? := fun j => by rw [hb1.cell (p := ⟨w.heap.size + 1, j, none⟩) (by simp)]; simp [go_sem]
      have r2 : ∀ j, w1.frozen? ⟨w.heap.size + 1, j, none⟩ = false := fun j => by rw [hb1.frozen (p := ⟨w.heap.size + 1, j, none⟩) (by simp)]; simp [go_sem]
      have r0 : ∀ j, w1.cell? ⟨w.heap.size, j, none⟩ = (#[.int .i64 p, .int .i64 m] : Array Value)[j]? := fun j => by rw [hb1.cell (p := ⟨w.heap.size, j, none⟩) (by simp; omega)]; simp [go_sem]
      have hbw : Below w.heap.size w w1 := (((Below.refl w.heap.size w).alloc (Nat.le_refl _) _).alloc (by simp) _).trans (hb1.mono (by simp; omega))
      clear hb1
      go_wp2
      exact bodyPost_ret (v := .tuple #[.agg #[.int .i64 0, .int .i64 0, .int .i64 0, .int .i64 p, .int .i64 0, .int .i64 0, .int .i64 0, .int .i64 0, .slice none 0 0, .int .i64 m, .int .i64 1, .slice none 0 0], .int .i64 0]) (by simp [results, Try.results16, go_sem, hz1, r1, hn1, hn2]) rfl (snew_yes S.out (by refine below_al ?_ _; (iterate 12 (refine below_step ?_ (by omega) _)); exact hbw))

set_option maxHeartbeats 1000000 in
set_option maxRecDepth 100000 in
theorem rsnew_any (p m : Int) (w : World) : Calls Try.prog 17 #[.agg #[.int .i64 p, .int .i64 m]] w (SNewPost p m w) := by
  have hw := in_any p 0 40
  have hn := fun w1 => rnew_any m w1
  cases h1 : inB p 0 40
  · have S : Hid (snB p m = false) := by unfold Hid snB; rw [h1]; rfl
    rw [h1] at hw
    clear h1 hn
    have hbw : Below w.heap.size w ((w.alloc (.cells #[.int .i64 p, .int .i64 m] 48)).alloc (.cells #[.int .i64 0, .int .i64 0, .int .i64 0, .int .i64 0, .int .i64 0, .int .i64 0, .int .i64 0, .int .i64 0, .slice none 0 0, .int .i64 0, .int .i64 0, .slice none 0 0] 52)) := ((Below.refl w.heap.size w).alloc (Nat.le_refl _) _).alloc (by simp) _
    go_enter Try.func17, Try.ntmps17
    go_wp2_with (go_at_call 32; refine (hw _).mono ?_; rintro e w' ⟨rfl, hw'⟩; obtain rfl := hw'.symm)
    exact bodyPost_ret (v := .tuple #[.agg #[.int .i64 0, .int .i64 0, .int .i64 0, .int .i64 0, .int .i64 0, .int .i64 0, .int .i64 0, .int .i64 0, .slice none 0 0, .int .i64 0, .int .i64 0, .slice none 0 0], .int .i64 2]) (by simp [results, Try.results17, go_sem]) rfl (snew_no S.out hbw)
  · cases h2 : inB m 0 20
    · have S : Hid (snB p m = false) := by unfold Hid snB; rw [h1, h2]; rfl
      rw [h1] at hw
      unfold NewPost newM newX newE at hn
      rw [h2] at hn
      simp only [Bool.false_eq_true, if_false] at hn
      clear h1 h2
      go_enter Try.func17, Try.ntmps17
      go_wp2_with (go_at_call 32; refine (hw _).mono ?_; rintro e w' ⟨rfl, hw'⟩; obtain rfl := hw'.symm)
      refine (hn _).mono ?_
      rintro e w1 ⟨rfl, hb1⟩
      have hz1 : w.heap.size + 1 < w1.heap.size := by have := hb1.size; simp at this; omega
      have hz0 : w.heap.size < w1.heap.size := by omega
      have hn1 : w1.heap.size ≠ w.heap.size + 1 := by omega
      have hn2 : w.heap.size + 1 ≠ w1.heap.size := by omega
      have hn3 : w1.heap.size ≠ w.heap.size := by omega
      have hn4 : w.heap.size ≠ w1.heap.size := by omega
      have r1 : ∀ j, w1.cell? ⟨w.heap.size + 1, j, none⟩ = (#[.int .i64 0, .int .i64 0, .int .i64 0, .int .i64 0, .int .i64 0, .int .i64 0, .int .i64 0, .int .i64 0, .slice none 0 0, .int .i64 0, .int .i64 0, .slice none 0 0] : Array Value)[j]? := fun j => by rw [hb1.cell (p := ⟨w.heap.size + 1, j, none⟩) (by simp)]; simp [go_sem]
      have r2 : ∀ j, w1.frozen? ⟨w.heap.size + 1, j, none⟩ = false := fun j => by rw [hb1.frozen (p := ⟨w.heap.size + 1, j, none⟩) (by simp)]; simp [go_sem]
      have r0 : ∀ j, w1.cell? ⟨w.heap.size, j, none⟩ = (#[.int .i64 p, .int .i64 m] : Array Value)[j]? := fun j => by rw [hb1.cell (p := ⟨w.heap.size, j, none⟩) (by simp; omega)]; simp [go_sem]
      have hbw : Below w.heap.size w w1 := (((Below.refl w.heap.size w).alloc (Nat.le_refl _) _).alloc (by simp) _).trans (hb1.mono (by simp; omega))
      clear hb1
      go_wp2
      exact bodyPost_ret (v := .tuple #[.agg #[.int .i64 0, .int .i64 0, .int .i64 0, .int .i64 0, .int .i64 0, .int .i64 0, .int .i64 0, .int .i64 0, .slice none 0 0, .int .i64 0, .int .i64 0, .slice none 0 0], .int .i64 2]) (by simp [results, Try.results17, go_sem, hz1, r1, hn1, hn2]) rfl (snew_no S.out (by refine below_al ?_ _; (iterate 12 (refine below_step ?_ (by omega) _)); exact hbw))
    · have S : Hid (snB p m = true) := by unfold Hid snB; rw [h1, h2]; rfl
      rw [h1] at hw
      unfold NewPost newM newX newE at hn
      rw [h2] at hn
      simp only [if_true] at hn
      clear h1 h2
      go_enter Try.func17, Try.ntmps17
      go_wp2_with (go_at_call 32; refine (hw _).mono ?_; rintro e w' ⟨rfl, hw'⟩; obtain rfl := hw'.symm)
      refine (hn _).mono ?_
      rintro e w1 ⟨rfl, hb1⟩
      have hz1 : w.heap.size + 1 < w1.heap.size := by have := hb1.size; simp at this; omega
      have hz0 : w.heap.size < w1.heap.size := by omega
      have hn1 : w1.heap.size ≠ w.heap.size + 1 := by omega
      have hn2 : w.heap.size + 1 ≠ w1.heap.size := by omega
      have hn3 : w1.heap.size ≠ w.heap.size := by omega
      have hn4 : w.heap.size ≠ w1.heap.size := by omega
      have r1 : ∀ j, w1.cell? ⟨w.heap.size + 1, j, none⟩ = (#[.int .i64 0, .int .i64 0, .int .i64 0, .int .i64 0, .int .i64 0, .int .i64 0, .int .i64 0, .int .i64 0, .slice none 0 0, .int .i64 0, .int .i64 0, .slice none 0 0] : Array Value)[j]? := fun j => by rw [hb1.cell (p := ⟨w.heap.size + 1, j, none⟩) (by simp)]; simp [go_sem]
      have r2 : ∀ j, w1.frozen? ⟨w.heap.size + 1, j, none⟩ = false := fun j => by rw [hb1.frozen (p := ⟨w.heap.size + 1, j, none⟩) (by simp)]; simp [go_sem]
      have r0 : ∀ j, w1.cell? ⟨w.heap.size, j, none⟩ = (#[.int .i64 p, .int .i64 m] : Array Value)[j]? := fun j => by rw [hb1.cell (p := ⟨w.heap.size, j, none⟩) (by simp; omega)]; simp [go_sem]
      have hbw : Below w.heap.size w w1 := (((Below.refl w.heap.size w).alloc (Nat.le_refl _) _).alloc (by simp) _).trans (hb1.mono (by simp; omega))
      clear hb1
      go_wp2
      exact bodyPost_ret (v := .tuple #[.agg #[.int .i64 0, .int .i64 0, .int .i64 0, .int .i64 p, .int .i64 0, .int .i64 0, .int .i64 0, .int .i64 0, .slice none 0 0, .int .i64 m, .int .i64 1, .slice none 0 0], .int .i64 0]) (by simp [results, Try.results17, go_sem, hz1, r1, hn1, hn2]) rfl (snew_yes S.out (by refine below_al ?_ _; (iterate 12 (refine below_step ?_ (by omega) _)); exact hbw))

end Go.Proofs.Ytdgmifkdfjpcgac
