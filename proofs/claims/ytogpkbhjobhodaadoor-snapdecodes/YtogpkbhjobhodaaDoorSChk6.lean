/- The contract of store.Check. -/
import Derived.Test.YtogpkbhjobhodaaDoorSChk5
import Derived.Test.YtogpkbhjobhodaaDoorFReadR
namespace Go.Proofs.YtogpkbhjobhodaaDoor
open Go.ChangeShapes Go.WideShapes Go.ChangeAt Go.RowKit
set_option linter.unusedVariables false
set_option linter.unusedSimpArgs false

/-- What a store that may be is. -/
def storeB (s : StoreR) : Bool := countsB s && (heldB s && (mayB s.fm s.fx s.pages && (itemsB s && chunksB s)))

theorem items_each {s : StoreR} (h : itemsB s = true) : s.items.length ≤ 1000 ∧ ∀ j, j < s.items.length → okAt s j = true := by
  unfold itemsB at h
  rw [Bool.and_eq_true] at h
  exact ⟨of_decide_eq_true h.1, fun j hj => List.all_eq_true.1 h.2 j (List.mem_range.2 hj)⟩

theorem class_some {k v : Int} (hk : 1 ≤ k ∧ k ≤ 20) (hv : 0 ≤ v ∧ v ≤ 200) : ∃ n : Nat, n ≤ 3 ∧ classN k v = n := by
  have e : (inB k 1 20 && inB v 0 200) = true := by unfold inB; simp; omega
  unfold classN
  rw [if_pos e]
  split
  · exact ⟨0, by omega, rfl⟩
  split
  · exact ⟨1, by omega, rfl⟩
  split
  · exact ⟨2, by omega, rfl⟩
  · exact ⟨3, by omega, rfl⟩

theorem key_size {s : ByteArray} (h : keyB s = true) : 1 ≤ (s.size : Int) ∧ (s.size : Int) ≤ 20 := by
  unfold keyB at h
  rw [Bool.and_eq_true] at h
  exact (inB_iff _ _ _).1 h.1

theorem near_class {s : StoreR} (h : itemsB s = true) : ∀ j, j < s.items.length → (s.items.getD j default).far = false → ∃ n : Nat, n ≤ 3 ∧ classN (s.items.getD j default).key.size (s.items.getD j default).value.size = n := fun j hj hf => by
  have h2 := (items_each h).2 j hj
  unfold okAt fieldsB valueB at h2
  rw [hf] at h2
  simp only [Bool.and_eq_true] at h2
  obtain ⟨_, ⟨hk, _⟩, h3⟩ := h2
  have hv : (s.items.getD j default).value.size ≤ 200 := by simp at h3; exact h3.1
  exact class_some (key_size hk) ⟨by omega, by omega⟩

theorem held_range {s : StoreR} (h0 : countsB s = true) (h : heldB s = true) : ∀ m, m ≤ 3 → 0 ≤ heldN s m ∧ heldN s m ≤ 40 := by
  unfold countsB at h0
  unfold heldB at h
  simp only [Bool.and_eq_true] at h h0
  obtain ⟨q0, q1, q2, q3, _⟩ := h
  obtain ⟨_, _, _, hm⟩ := h0
  have a0 := (inB_iff _ _ _).1 q0
  have a1 := (inB_iff _ _ _).1 q1
  have a2 := (inB_iff _ _ _).1 q2
  have a3 := (inB_iff _ _ _).1 q3
  have am := (inB_iff _ _ _).1 hm
  intro m hm
  have hn : m = 0 ∨ m = 1 ∨ m = 2 ∨ m = 3 := by omega
  rcases hn with rfl | rfl | rfl | rfl
  · exact ⟨a0.1, by show s.h0 ≤ 40; omega⟩
  · exact ⟨a1.1, by show s.h1 ≤ 40; omega⟩
  · exact ⟨a2.1, by show s.h2 ≤ 40; omega⟩
  · exact ⟨a3.1, by show s.h3 ≤ 40; omega⟩

def codeN (b : Bool) : Int := if b = true then 0 else 8

set_option maxHeartbeats 2000000 in
set_option maxRecDepth 100000 in
theorem scheck_any (s : StoreR) (ia : Option Addr) (ic : Nat) (pa : Option Addr) (pc : Nat) (w : World) (hS : StoreIn w s ia pa) (hok : ItemsOk s.items) (hL : LaidC w) :
    Calls Tryd.prog 9 #[storeV s ia ic pa pc] w fun e w' => e = .returned (.int .i64 (codeN (storeB s))) ∧ Below w.heap.size w w' := by
  have E : Hid (codeN (storeB s) = codeN (countsB s && (heldB s && (mayB s.fm s.fx s.pages && (itemsB s && chunksB s))))) := rfl
  generalize codeN (storeB s) = R at *
  have c1 := fun w1 => counts_any s ia ic pa pc w1
  have c2 := fun (h : countsB s = true) w1 => heldFits_any s ia ic pa pc w1 (by unfold countsB at h; simp only [Bool.and_eq_true] at h; exact ((inB_iff _ _ _).1 h.2.2.2).2)
  have c3 := fun w1 hb => fcheck_any s.fm s.fx s.pages pa pc w1 (hS.2.later hb)
  have c4 := fun (h : mayB s.fm s.fx s.pages = true) w1 hb => items_any s ia ic pa pc w1 (hS.later hb) hok fun j hj => (may_bytes h j hj).1
  have c5 := fun (h0 : countsB s = true) (h1 : heldB s = true) (h : itemsB s = true) w1 hb => chunks_any s ia ic pa pc w1 (hS.1.later hb) hok (hL.later hb) (items_each h).1 (near_class h) (held_range h0 h1)
  generalize countsB s = b1 at *
  generalize heldB s = b2 at *
  generalize mayB s.fm s.fx s.pages = b3 at *
  generalize itemsB s = b4 at *
  generalize chunksB s = b5 at *
  clear hS hok hL
  obtain ⟨clock, scas, uses, most, h0, h1, h2, h3, items, fm, fx, pages⟩ := s
  unfold storeV at *
  simp only at *
  have hB0 : ∀ o, Below w.heap.size w (w.alloc o) := fun o => (Below.refl _ _).alloc (Nat.le_refl _) _
  have BS : Hid (∀ w1, Below (w.alloc (.cells #[.int .i64 clock, .int .i64 scas, .int .i64 uses, .int .i64 most, .int .i64 h0, .int .i64 h1, .int .i64 h2, .int .i64 h3, .slice ia items.length ic, .int .i64 fm, .int .i64 fx, .slice pa pages.length pc] 29)).heap.size (w.alloc (.cells #[.int .i64 clock, .int .i64 scas, .int .i64 uses, .int .i64 most, .int .i64 h0, .int .i64 h1, .int .i64 h2, .int .i64 h3, .slice ia items.length ic, .int .i64 fm, .int .i64 fx, .slice pa pages.length pc] 29)) w1 → ∀ j, w1.cell? ⟨w.heap.size, j, none⟩ = (#[.int .i64 clock, .int .i64 scas, .int .i64 uses, .int .i64 most, .int .i64 h0, .int .i64 h1, .int .i64 h2, .int .i64 h3, .slice ia items.length ic, .int .i64 fm, .int .i64 fx, .slice pa pages.length pc] : Array Value)[j]?) := fun w1 hb j => by rw [hb.cell (p := ⟨w.heap.size, j, none⟩) (by simp)]; simp [go_sem]
  go_enter Tryd.func9, Tryd.ntmps9
  go_wp2_with fail
  refine (c1 _).mono ?_
  rintro e w1 ⟨rfl, hb1⟩
  have hz1 := bsize hb1
  have hB1 : Below w.heap.size w w1 := (hB0 _).trans (hb1.mono (by simp))
  have bs1 := BS.out w1 hb1
  cases b1
  · have E2 : Hid (R = 8) := E.out
    clear c1 c2 c3 c4 c5 E
    go_wp2
    go_ret
    exact ⟨ret_i64 E2.out.symm, hB1⟩
  go_wp2_with fail
  refine (c2 (by trivial) _).mono ?_
  rintro e w2 ⟨rfl, hb2⟩
  have hz2 := Nat.lt_of_lt_of_le hz1 hb2.size
  have hC2 := hb1.trans (hb2.mono hb1.size)
  have hB2 := hB1.trans (hb2.mono hB1.size)
  have bs2 := BS.out w2 hC2
  clear bs1
  cases b2
  · have E2 : Hid (R = 8) := E.out
    clear c1 c2 c3 c4 c5 E
    go_wp2
    go_ret
    exact ⟨ret_i64 E2.out.symm, hB2⟩
  go_wp2_with fail
  refine (c3 _ hB2).mono ?_
  rintro e w3 ⟨rfl, hb3⟩
  have hz3 := Nat.lt_of_lt_of_le hz2 hb3.size
  have hC3 := hC2.trans (hb3.mono hC2.size)
  have hB3 := hB2.trans (hb3.mono hB2.size)
  have bs3 := BS.out w3 hC3
  clear bs2
  cases b3
  · have E2 : Hid (R = 8) := E.out
    clear c1 c2 c3 c4 c5 E
    go_wp2
    go_ret
    exact ⟨ret_i64 E2.out.symm, hB3⟩
  go_wp2_with fail
  refine (c4 (by trivial) _ hB3).mono ?_
  rintro e w4 ⟨rfl, hb4⟩
  have hz4 := Nat.lt_of_lt_of_le hz3 hb4.size
  have hC4 := hC3.trans (hb4.mono hC3.size)
  have hB4 := hB3.trans (hb4.mono hB3.size)
  have bs4 := BS.out w4 hC4
  clear bs3
  cases b4
  · have E2 : Hid (R = 8) := E.out
    clear c1 c2 c3 c4 c5 E
    go_wp2
    go_ret
    exact ⟨ret_i64 E2.out.symm, hB4⟩
  go_wp2_with fail
  refine (c5 (by trivial) (by trivial) (by trivial) _ hB4).mono ?_
  rintro e w5 ⟨rfl, hb5⟩
  have hB5 := hB4.trans (hb5.mono hB4.size)
  cases b5
  · have E2 : Hid (R = 8) := E.out
    clear c1 c2 c3 c4 c5 E
    go_wp2
    go_ret
    exact ⟨ret_i64 E2.out.symm, hB5⟩
  · have E2 : Hid (R = 0) := E.out
    clear c1 c2 c3 c4 c5 E
    go_wp2
    go_ret
    exact ⟨ret_i64 E2.out.symm, hB5⟩
end Go.Proofs.YtogpkbhjobhodaaDoor
