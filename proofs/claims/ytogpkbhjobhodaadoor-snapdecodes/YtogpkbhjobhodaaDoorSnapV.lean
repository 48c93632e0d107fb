/- The contract of snap.readAll. -/
import Derived.Test.YtogpkbhjobhodaaDoorSnapU
namespace Go.Proofs.YtogpkbhjobhodaaDoor
open Go.ChangeShapes Go.WideShapes Go.ChangeAt Go.RowKit
set_option linter.unusedVariables false
set_option linter.unusedSimpArgs false

def endR (st : RS) : RS := if 0 < st.left.length then refuseR 4 st else st
/-- What is read of all bytes: a store, and what was wrong. -/
def readR (l : List UInt8) : StoreR × Int := ((storeR ⟨l, 0⟩).2, (endR (storeR ⟨l, 0⟩).1).e)

theorem Only.below {B : Nat} {w0 w w' : World} (h : Only B w w') (hb : Below w0.heap.size w0 w) (hB : w0.heap.size ≤ B) : Below w0.heap.size w0 w' := hb.grown h hb.size (fun k hk => by cases hk; exact hB)

def ReadPost (p : StoreR × Int) (w : World) (e : Ending) (w' : World) : Prop := ∃ ia ic pa pc, e = .returned (.tuple #[storeV p.1 ia ic pa pc, .int .i64 p.2]) ∧ StoreFrom w.heap.size w' p.1 ia pa ∧ Below w.heap.size w w'

theorem from12 {n : Nat} {w3 w5 : World} {s : StoreR} {ia pa : Option Addr} (hF : StoreFrom n w3 s ia pa) (hs : w3.heap.size ≤ w5.heap.size) (hk : ∀ b, n ≤ b → b < w3.heap.size → w5.heap[b]? = w3.heap[b]?) {N : Nat} (hN : N ≤ n) : StoreFrom N w5 s ia pa := fun w' hs' h' =>
  hF w' (Nat.le_trans hs hs') fun b hb hl => by rw [h' b (by omega) (by omega)]; exact hk b hb hl

theorem drew_heap (w : World) : w.drew.heap = w.heap := rfl
theorem drew_cell (w : World) (a : Addr) : w.drew.cell? a = w.cell? a := rfl
/-- Twelve cells of a box are set. -/
def set12 (w5 : World) (H : Nat) (v0 v1 v2 v3 v4 v5 v6 v7 v8 v9 v10 v11 : Value) : World := ((((((((((((w5.setCell ⟨H, 0, none⟩ v0).setCell ⟨H, 1, none⟩ v1).setCell ⟨H, 2, none⟩ v2).setCell ⟨H, 3, none⟩ v3).setCell ⟨H, 4, none⟩ v4).setCell ⟨H, 5, none⟩ v5).setCell ⟨H, 6, none⟩ v6).setCell ⟨H, 7, none⟩ v7).setCell ⟨H, 8, none⟩ v8).setCell ⟨H, 9, none⟩ v9).setCell ⟨H, 10, none⟩ v10).setCell ⟨H, 11, none⟩ v11)
theorem set12_cell (w5 : World) (H b j : Nat) (v0 v1 v2 v3 v4 v5 v6 v7 v8 v9 v10 v11 : Value) (h : H ≠ b) : ((((((((((((w5.setCell ⟨H, 0, none⟩ v0).setCell ⟨H, 1, none⟩ v1).setCell ⟨H, 2, none⟩ v2).setCell ⟨H, 3, none⟩ v3).setCell ⟨H, 4, none⟩ v4).setCell ⟨H, 5, none⟩ v5).setCell ⟨H, 6, none⟩ v6).setCell ⟨H, 7, none⟩ v7).setCell ⟨H, 8, none⟩ v8).setCell ⟨H, 9, none⟩ v9).setCell ⟨H, 10, none⟩ v10).setCell ⟨H, 11, none⟩ v11).cell? ⟨b, j, none⟩ = w5.cell? ⟨b, j, none⟩ := by
  iterate 12 rw [World.cell?_setCell_far _ _ ⟨b, j, none⟩ _ h]
theorem set12_heap (w5 : World) (H b : Nat) (v0 v1 v2 v3 v4 v5 v6 v7 v8 v9 v10 v11 : Value) (h : b ≠ H) : ((((((((((((w5.setCell ⟨H, 0, none⟩ v0).setCell ⟨H, 1, none⟩ v1).setCell ⟨H, 2, none⟩ v2).setCell ⟨H, 3, none⟩ v3).setCell ⟨H, 4, none⟩ v4).setCell ⟨H, 5, none⟩ v5).setCell ⟨H, 6, none⟩ v6).setCell ⟨H, 7, none⟩ v7).setCell ⟨H, 8, none⟩ v8).setCell ⟨H, 9, none⟩ v9).setCell ⟨H, 10, none⟩ v10).setCell ⟨H, 11, none⟩ v11).heap[b]? = w5.heap[b]? := by
  iterate 12 rw [heap_setCell_other _ _ _ _ h]

set_option maxHeartbeats 4000000 in
set_option maxRecDepth 100000 in
theorem readAll_any (l : List UInt8) (a : Option Addr) (c : Nat) (w : World) (hA : BytesAt w a l) (hlc : l.length ≤ c) (hcm : c ≤ maxLen) (ha : ∀ x : Addr, a = some x → x.block < w.heap.size) :
    Calls Tryd.prog 8 #[.slice a l.length c] w (ReadPost (readR l) w) := by
  have c1 := fun w1 (hr : RdAt w.heap.size w1 (w.heap.size + 1) ⟨l, 0⟩) => rstore_m w.heap.size ⟨l, 0⟩ (w.heap.size + 1) w1 hr
  unfold readR
  generalize storeR ⟨l, 0⟩ = P at *
  obtain ⟨s1, s⟩ := P
  unfold StorePost at c1
  simp only at *
  obtain ⟨clock, scas, uses, most, h0, h1, h2, h3, items, fm, fx, pages⟩ := s
  have hpost : Hid (∀ (ia : Option Addr) (ic : Nat) (pa : Option Addr) (pc : Nat) (w' : World), StoreFrom w.heap.size w' ⟨clock, scas, uses, most, h0, h1, h2, h3, items, fm, fx, pages⟩ ia pa → Below w.heap.size w w' → ReadPost (⟨clock, scas, uses, most, h0, h1, h2, h3, items, fm, fx, pages⟩, (endR s1).e) w (.returned (.tuple #[storeV ⟨clock, scas, uses, most, h0, h1, h2, h3, items, fm, fx, pages⟩ ia ic pa pc, .int .i64 (endR s1).e])) w') := fun ia ic pa pc w' q1 q2 => ⟨ia, ic, pa, pc, rfl, q1, q2⟩
  unfold storeV at hpost c1
  simp only at hpost c1
  generalize ReadPost ((⟨clock, scas, uses, most, h0, h1, h2, h3, items, fm, fx, pages⟩ : StoreR), (endR s1).e) w = PO at *
  have A1 : Below w.heap.size w (w.alloc (.cells #[.int .i64 0, .int .i64 0, .int .i64 0, .int .i64 0, .int .i64 0, .int .i64 0, .int .i64 0, .int .i64 0, .slice none 0 0, .int .i64 0, .int .i64 0, .slice none 0 0] 29)) := (Below.refl _ _).alloc (Nat.le_refl _) _
  have hs1 : (w.alloc (.cells #[.int .i64 0, .int .i64 0, .int .i64 0, .int .i64 0, .int .i64 0, .int .i64 0, .int .i64 0, .int .i64 0, .slice none 0 0, .int .i64 0, .int .i64 0, .slice none 0 0] 29)).heap.size = w.heap.size + 1 := by simp
  have A2 : Below (w.alloc (.cells #[.int .i64 0, .int .i64 0, .int .i64 0, .int .i64 0, .int .i64 0, .int .i64 0, .int .i64 0, .int .i64 0, .slice none 0 0, .int .i64 0, .int .i64 0, .slice none 0 0] 29)).heap.size (w.alloc (.cells #[.int .i64 0, .int .i64 0, .int .i64 0, .int .i64 0, .int .i64 0, .int .i64 0, .int .i64 0, .int .i64 0, .slice none 0 0, .int .i64 0, .int .i64 0, .slice none 0 0] 29)) ((w.alloc (.cells #[.int .i64 0, .int .i64 0, .int .i64 0, .int .i64 0, .int .i64 0, .int .i64 0, .int .i64 0, .int .i64 0, .slice none 0 0, .int .i64 0, .int .i64 0, .slice none 0 0] 29)).alloc (.cells #[.slice a l.length c, .int .i64 0] 54)) := (Below.refl _ _).alloc (Nat.le_refl _) _
  have T2 := TB.new 54 (w.alloc (.cells #[.int .i64 0, .int .i64 0, .int .i64 0, .int .i64 0, .int .i64 0, .int .i64 0, .int .i64 0, .int .i64 0, .slice none 0 0, .int .i64 0, .int .i64 0, .slice none 0 0] 29)) #[.slice a l.length c, .int .i64 0]
  rw [hs1] at T2
  have A12 := A1.trans (A2.mono A1.size)
  have T1 := (TB.new 29 w #[.int .i64 0, .int .i64 0, .int .i64 0, .int .i64 0, .int .i64 0, .int .i64 0, .int .i64 0, .int .i64 0, .slice none 0 0, .int .i64 0, .int .i64 0, .slice none 0 0]).later A2
  have hR2 : RdAt w.heap.size ((w.alloc (.cells #[.int .i64 0, .int .i64 0, .int .i64 0, .int .i64 0, .int .i64 0, .int .i64 0, .int .i64 0, .int .i64 0, .slice none 0 0, .int .i64 0, .int .i64 0, .slice none 0 0] 29)).alloc (.cells #[.slice a l.length c, .int .i64 0] 54)) (w.heap.size + 1) ⟨l, 0⟩ := ⟨by omega, a, c, T2, hA.later A12, hlc, hcm, ha⟩
  have hs2 : ((w.alloc (.cells #[.int .i64 0, .int .i64 0, .int .i64 0, .int .i64 0, .int .i64 0, .int .i64 0, .int .i64 0, .int .i64 0, .slice none 0 0, .int .i64 0, .int .i64 0, .slice none 0 0] 29)).alloc (.cells #[.slice a l.length c, .int .i64 0] 54)).heap.size = w.heap.size + 1 + 1 := by simp
  go_enter Tryd.func8, Tryd.ntmps8
  go_wp2_with fail
  refine (c1 _ hR2).mono ?_
  rintro e w3 ⟨ia, ic, pa, pc, rfl, hF3, hR3, hO3⟩
  have hB3 := hO3.below A12 (by omega)
  have T3 := hO3.tb T1 (by omega)
  have hsz3 := hO3.size
  rw [hs2] at hF3 hsz3
  clear T1 T2 hR2 hO3 A1 A2 A12 hs1 hs2 c1
  have A4 : Below w3.heap.size w3 (w3.alloc (.cells #[.int .i64 clock, .int .i64 scas, .int .i64 uses, .int .i64 most, .int .i64 h0, .int .i64 h1, .int .i64 h2, .int .i64 h3, .slice ia items.length ic, .int .i64 fm, .int .i64 fx, .slice pa pages.length pc] 29)) := (Below.refl _ _).alloc (Nat.le_refl _) _
  have hR4 := hR3.later A4
  have T4 := T3.later A4
  have X4 := TB.new 29 w3 #[.int .i64 clock, .int .i64 scas, .int .i64 uses, .int .i64 most, .int .i64 h0, .int .i64 h1, .int .i64 h2, .int .i64 h3, .slice ia items.length ic, .int .i64 fm, .int .i64 fx, .slice pa pages.length pc]
  obtain ⟨q0, a4, c4, r1, r2, r3, r4, r5⟩ := hR4
  have hR4 : RdAt w.heap.size (w3.alloc (.cells #[.int .i64 clock, .int .i64 scas, .int .i64 uses, .int .i64 most, .int .i64 h0, .int .i64 h1, .int .i64 h2, .int .i64 h3, .slice ia items.length ic, .int .i64 fm, .int .i64 fx, .slice pa pages.length pc] 29)) (w.heap.size + 1) s1 := ⟨q0, a4, c4, r1, r2, r3, r4, r5⟩
  have x4 := fun j => r1.cell j
  have l4 := r1.lt
  by_cases hl : 0 < s1.left.length
  · have hlz : (0 : Int) < (s1.left.length : Int) := by omega
    have hE : endR s1 = refuseR 4 s1 := by unfold endR; rw [if_pos hl]
    rw [hE] at hpost
    go_wp2_with fail
    refine (refuse_any w.heap.size 4 s1 (w.heap.size + 1) _ hR4).mono ?_
    rintro e w5 ⟨rfl, hR5, hO5⟩
    have hB5 := hO5.below (hB3.trans (A4.mono hB3.size)) (by omega)
    have T5 := hO5.tb T4 (by omega)
    have X5 := hO5.tb X4 (by omega)
    obtain ⟨q5, a5, c5, t1, t2, t3, t4, t5⟩ := hR5
    have xs : w5.cell? ⟨w.heap.size + 1, 1, none⟩ = some (.int .i64 (refuseR 4 s1).e) := t1.cell 1
    have xx := fun j => X5.cell j
    have xl := X5.lt
    have yl := T5.lt
    have y0 := fun j => T5.cell j
    have y1 := fun j => T5.frozen j
    have hk5 : ∀ b, w.heap.size + 1 + 1 ≤ b → b < w3.heap.size → w5.heap[b]? = w3.heap[b]? := fun b hb hl => by
      rw [hO5.block b (Nat.lt_of_lt_of_le hl A4.size) (fun e => by cases e; omega)]
      exact A4.block b hl
    have hz5 : w3.heap.size ≤ w5.heap.size := Nat.le_trans A4.size hO5.size
    generalize (refuseR 4 s1).e = E5 at *
    clear x4 l4 t1 t2 t3 t4 t5 hR4 r1 r2 r3 r4 r5 T3 T4 X4 hO5
    have hH3 : w.heap.size + 1 + 1 ≤ w3.heap.size := hsz3
    generalize hH : w3.heap.size = H3 at *
    have hkeep : ∀ v0 v1 v2 v3 v4 v5 v6 v7 v8 v9 v10 v11 : Value, (∀ j, ((((((((((((w5.setCell ⟨w.heap.size, 0, none⟩ v0).setCell ⟨w.heap.size, 1, none⟩ v1).setCell ⟨w.heap.size, 2, none⟩ v2).setCell ⟨w.heap.size, 3, none⟩ v3).setCell ⟨w.heap.size, 4, none⟩ v4).setCell ⟨w.heap.size, 5, none⟩ v5).setCell ⟨w.heap.size, 6, none⟩ v6).setCell ⟨w.heap.size, 7, none⟩ v7).setCell ⟨w.heap.size, 8, none⟩ v8).setCell ⟨w.heap.size, 9, none⟩ v9).setCell ⟨w.heap.size, 10, none⟩ v10).setCell ⟨w.heap.size, 11, none⟩ v11).cell? ⟨H3, j, none⟩ = (#[.int .i64 clock, .int .i64 scas, .int .i64 uses, .int .i64 most, .int .i64 h0, .int .i64 h1, .int .i64 h2, .int .i64 h3, .slice ia items.length ic, .int .i64 fm, .int .i64 fx, .slice pa pages.length pc] : Array Value)[j]?) ∧ ((((((((((((w5.setCell ⟨w.heap.size, 0, none⟩ v0).setCell ⟨w.heap.size, 1, none⟩ v1).setCell ⟨w.heap.size, 2, none⟩ v2).setCell ⟨w.heap.size, 3, none⟩ v3).setCell ⟨w.heap.size, 4, none⟩ v4).setCell ⟨w.heap.size, 5, none⟩ v5).setCell ⟨w.heap.size, 6, none⟩ v6).setCell ⟨w.heap.size, 7, none⟩ v7).setCell ⟨w.heap.size, 8, none⟩ v8).setCell ⟨w.heap.size, 9, none⟩ v9).setCell ⟨w.heap.size, 10, none⟩ v10).setCell ⟨w.heap.size, 11, none⟩ v11).cell? ⟨w.heap.size + 1, 1, none⟩ = some (.int .i64 E5) := fun v0 v1 v2 v3 v4 v5 v6 v7 v8 v9 v10 v11 => ⟨fun j => (set12_cell w5 w.heap.size H3 j v0 v1 v2 v3 v4 v5 v6 v7 v8 v9 v10 v11 (by omega)).trans (xx j), (set12_cell w5 w.heap.size (w.heap.size + 1) 1 v0 v1 v2 v3 v4 v5 v6 v7 v8 v9 v10 v11 (by omega)).trans xs⟩
    have hkeep1 : ∀ v0 v1 v2 v3 v4 v5 v6 v7 v8 v9 v10 v11 : Value, (∀ j, ((((((((((((w5.setCell ⟨w.heap.size, 0, none⟩ v0).setCell ⟨w.heap.size, 1, none⟩ v1).setCell ⟨w.heap.size, 2, none⟩ v2).setCell ⟨w.heap.size, 3, none⟩ v3).setCell ⟨w.heap.size, 4, none⟩ v4).setCell ⟨w.heap.size, 5, none⟩ v5).setCell ⟨w.heap.size, 6, none⟩ v6).setCell ⟨w.heap.size, 7, none⟩ v7).setCell ⟨w.heap.size, 8, none⟩ v8).setCell ⟨w.heap.size, 9, none⟩ v9).setCell ⟨w.heap.size, 10, none⟩ v10).setCell ⟨w.heap.size, 11, none⟩ v11).drew.cell? ⟨H3, j, none⟩ = (#[.int .i64 clock, .int .i64 scas, .int .i64 uses, .int .i64 most, .int .i64 h0, .int .i64 h1, .int .i64 h2, .int .i64 h3, .slice ia items.length ic, .int .i64 fm, .int .i64 fx, .slice pa pages.length pc] : Array Value)[j]?) ∧ ((((((((((((w5.setCell ⟨w.heap.size, 0, none⟩ v0).setCell ⟨w.heap.size, 1, none⟩ v1).setCell ⟨w.heap.size, 2, none⟩ v2).setCell ⟨w.heap.size, 3, none⟩ v3).setCell ⟨w.heap.size, 4, none⟩ v4).setCell ⟨w.heap.size, 5, none⟩ v5).setCell ⟨w.heap.size, 6, none⟩ v6).setCell ⟨w.heap.size, 7, none⟩ v7).setCell ⟨w.heap.size, 8, none⟩ v8).setCell ⟨w.heap.size, 9, none⟩ v9).setCell ⟨w.heap.size, 10, none⟩ v10).setCell ⟨w.heap.size, 11, none⟩ v11).drew.cell? ⟨w.heap.size + 1, 1, none⟩ = some (.int .i64 E5) := fun v0 v1 v2 v3 v4 v5 v6 v7 v8 v9 v10 v11 => ⟨fun j => (drew_cell _ _).trans ((hkeep v0 v1 v2 v3 v4 v5 v6 v7 v8 v9 v10 v11).1 j), (drew_cell _ _).trans (hkeep v0 v1 v2 v3 v4 v5 v6 v7 v8 v9 v10 v11).2⟩
    have hkeep2 : (∀ j, w5.drew.cell? ⟨H3, j, none⟩ = (#[.int .i64 clock, .int .i64 scas, .int .i64 uses, .int .i64 most, .int .i64 h0, .int .i64 h1, .int .i64 h2, .int .i64 h3, .slice ia items.length ic, .int .i64 fm, .int .i64 fx, .slice pa pages.length pc] : Array Value)[j]?) ∧ w5.drew.cell? ⟨w.heap.size + 1, 1, none⟩ = some (.int .i64 E5) := ⟨fun j => (drew_cell _ _).trans (xx j), (drew_cell _ _).trans xs⟩
    go_wp2_with fail
    go_region_held3 (fun w' => (∀ j, w'.cell? ⟨H3, j, none⟩ = (#[.int .i64 clock, .int .i64 scas, .int .i64 uses, .int .i64 most, .int .i64 h0, .int .i64 h1, .int .i64 h2, .int .i64 h3, .slice ia items.length ic, .int .i64 fm, .int .i64 fx, .slice pa pages.length pc] : Array Value)[j]?) ∧ w'.cell? ⟨w.heap.size + 1, 1, none⟩ = some (.int .i64 E5)) (first | (with_reducible exact hkeep _ _ _ _ _ _ _ _ _ _ _ _) | (with_reducible exact hkeep1 _ _ _ _ _ _ _ _ _ _ _ _) | (with_reducible exact hkeep2) | (with_reducible exact ⟨xx, xs⟩)) (fail)
    clear hkeep hkeep1 hkeep2
    go_wp2_with fail
    refine bodyPost_ret (v := .tuple #[.agg #[.int .i64 clock, .int .i64 scas, .int .i64 uses, .int .i64 most, .int .i64 h0, .int .i64 h1, .int .i64 h2, .int .i64 h3, .slice ia items.length ic, .int .i64 fm, .int .i64 fx, .slice pa pages.length pc], .int .i64 E5]) (by simp [results, Tryd.results8, go_sem, yl, y0]) rfl (hpost.out ia ic pa pc _ ?_ ?_)
    · refine from12 hF3 ?_ (fun b hb hl => ?_) (by omega)
      · rw [hH, drew_heap]; exact Nat.le_trans hz5 (by simp [World.setCell])
      · rw [hH] at hl
        rw [← hk5 b hb hl]
        rw [drew_heap]
        exact set12_heap w5 w.heap.size b _ _ _ _ _ _ _ _ _ _ _ _ (by omega)
    · exact ((((((((((((hB5.setCell (Nat.le_refl _) _).setCell (Nat.le_refl _) _).setCell (Nat.le_refl _) _).setCell (Nat.le_refl _) _).setCell (Nat.le_refl _) _).setCell (Nat.le_refl _) _).setCell (Nat.le_refl _) _).setCell (Nat.le_refl _) _).setCell (Nat.le_refl _) _).setCell (Nat.le_refl _) _).setCell (Nat.le_refl _) _).setCell (Nat.le_refl _) _).drew
  · have hlz : ¬ (0 : Int) < (s1.left.length : Int) := by omega
    have hE : endR s1 = s1 := by unfold endR; rw [if_neg hl]
    rw [hE] at hpost
    have hO5 := Only.refl (w.heap.size + 1) (w3.alloc (.cells #[.int .i64 clock, .int .i64 scas, .int .i64 uses, .int .i64 most, .int .i64 h0, .int .i64 h1, .int .i64 h2, .int .i64 h3, .slice ia items.length ic, .int .i64 fm, .int .i64 fx, .slice pa pages.length pc] 29))
    have hR5 := hR4
    go_wp2_with fail
    generalize hw5 : w3.alloc (.cells #[.int .i64 clock, .int .i64 scas, .int .i64 uses, .int .i64 most, .int .i64 h0, .int .i64 h1, .int .i64 h2, .int .i64 h3, .slice ia items.length ic, .int .i64 fm, .int .i64 fx, .slice pa pages.length pc] 29) = w5 at *
    clear hw5
    have hB5 := hO5.below (hB3.trans (A4.mono hB3.size)) (by omega)
    have T5 := hO5.tb T4 (by omega)
    have X5 := hO5.tb X4 (by omega)
    obtain ⟨q5, a5, c5, t1, t2, t3, t4, t5⟩ := hR5
    have xs : w5.cell? ⟨w.heap.size + 1, 1, none⟩ = some (.int .i64 s1.e) := t1.cell 1
    have xx := fun j => X5.cell j
    have xl := X5.lt
    have yl := T5.lt
    have y0 := fun j => T5.cell j
    have y1 := fun j => T5.frozen j
    have hk5 : ∀ b, w.heap.size + 1 + 1 ≤ b → b < w3.heap.size → w5.heap[b]? = w3.heap[b]? := fun b hb hl => by
      rw [hO5.block b (Nat.lt_of_lt_of_le hl A4.size) (fun e => by cases e; omega)]
      exact A4.block b hl
    have hz5 : w3.heap.size ≤ w5.heap.size := Nat.le_trans A4.size hO5.size
    generalize hE5 : s1.e = E5 at *
    clear x4 l4 t1 t2 t3 t4 t5 hR4 r1 r2 r3 r4 r5 T3 T4 X4 hO5
    have hH3 : w.heap.size + 1 + 1 ≤ w3.heap.size := hsz3
    generalize hH : w3.heap.size = H3 at *
    have hkeep : ∀ v0 v1 v2 v3 v4 v5 v6 v7 v8 v9 v10 v11 : Value, (∀ j, ((((((((((((w5.setCell ⟨w.heap.size, 0, none⟩ v0).setCell ⟨w.heap.size, 1, none⟩ v1).setCell ⟨w.heap.size, 2, none⟩ v2).setCell ⟨w.heap.size, 3, none⟩ v3).setCell ⟨w.heap.size, 4, none⟩ v4).setCell ⟨w.heap.size, 5, none⟩ v5).setCell ⟨w.heap.size, 6, none⟩ v6).setCell ⟨w.heap.size, 7, none⟩ v7).setCell ⟨w.heap.size, 8, none⟩ v8).setCell ⟨w.heap.size, 9, none⟩ v9).setCell ⟨w.heap.size, 10, none⟩ v10).setCell ⟨w.heap.size, 11, none⟩ v11).cell? ⟨H3, j, none⟩ = (#[.int .i64 clock, .int .i64 scas, .int .i64 uses, .int .i64 most, .int .i64 h0, .int .i64 h1, .int .i64 h2, .int .i64 h3, .slice ia items.length ic, .int .i64 fm, .int .i64 fx, .slice pa pages.length pc] : Array Value)[j]?) ∧ ((((((((((((w5.setCell ⟨w.heap.size, 0, none⟩ v0).setCell ⟨w.heap.size, 1, none⟩ v1).setCell ⟨w.heap.size, 2, none⟩ v2).setCell ⟨w.heap.size, 3, none⟩ v3).setCell ⟨w.heap.size, 4, none⟩ v4).setCell ⟨w.heap.size, 5, none⟩ v5).setCell ⟨w.heap.size, 6, none⟩ v6).setCell ⟨w.heap.size, 7, none⟩ v7).setCell ⟨w.heap.size, 8, none⟩ v8).setCell ⟨w.heap.size, 9, none⟩ v9).setCell ⟨w.heap.size, 10, none⟩ v10).setCell ⟨w.heap.size, 11, none⟩ v11).cell? ⟨w.heap.size + 1, 1, none⟩ = some (.int .i64 E5) := fun v0 v1 v2 v3 v4 v5 v6 v7 v8 v9 v10 v11 => ⟨fun j => (set12_cell w5 w.heap.size H3 j v0 v1 v2 v3 v4 v5 v6 v7 v8 v9 v10 v11 (by omega)).trans (xx j), (set12_cell w5 w.heap.size (w.heap.size + 1) 1 v0 v1 v2 v3 v4 v5 v6 v7 v8 v9 v10 v11 (by omega)).trans xs⟩
    have hkeep1 : ∀ v0 v1 v2 v3 v4 v5 v6 v7 v8 v9 v10 v11 : Value, (∀ j, ((((((((((((w5.setCell ⟨w.heap.size, 0, none⟩ v0).setCell ⟨w.heap.size, 1, none⟩ v1).setCell ⟨w.heap.size, 2, none⟩ v2).setCell ⟨w.heap.size, 3, none⟩ v3).setCell ⟨w.heap.size, 4, none⟩ v4).setCell ⟨w.heap.size, 5, none⟩ v5).setCell ⟨w.heap.size, 6, none⟩ v6).setCell ⟨w.heap.size, 7, none⟩ v7).setCell ⟨w.heap.size, 8, none⟩ v8).setCell ⟨w.heap.size, 9, none⟩ v9).setCell ⟨w.heap.size, 10, none⟩ v10).setCell ⟨w.heap.size, 11, none⟩ v11).drew.cell? ⟨H3, j, none⟩ = (#[.int .i64 clock, .int .i64 scas, .int .i64 uses, .int .i64 most, .int .i64 h0, .int .i64 h1, .int .i64 h2, .int .i64 h3, .slice ia items.length ic, .int .i64 fm, .int .i64 fx, .slice pa pages.length pc] : Array Value)[j]?) ∧ ((((((((((((w5.setCell ⟨w.heap.size, 0, none⟩ v0).setCell ⟨w.heap.size, 1, none⟩ v1).setCell ⟨w.heap.size, 2, none⟩ v2).setCell ⟨w.heap.size, 3, none⟩ v3).setCell ⟨w.heap.size, 4, none⟩ v4).setCell ⟨w.heap.size, 5, none⟩ v5).setCell ⟨w.heap.size, 6, none⟩ v6).setCell ⟨w.heap.size, 7, none⟩ v7).setCell ⟨w.heap.size, 8, none⟩ v8).setCell ⟨w.heap.size, 9, none⟩ v9).setCell ⟨w.heap.size, 10, none⟩ v10).setCell ⟨w.heap.size, 11, none⟩ v11).drew.cell? ⟨w.heap.size + 1, 1, none⟩ = some (.int .i64 E5) := fun v0 v1 v2 v3 v4 v5 v6 v7 v8 v9 v10 v11 => ⟨fun j => (drew_cell _ _).trans ((hkeep v0 v1 v2 v3 v4 v5 v6 v7 v8 v9 v10 v11).1 j), (drew_cell _ _).trans (hkeep v0 v1 v2 v3 v4 v5 v6 v7 v8 v9 v10 v11).2⟩
    have hkeep2 : (∀ j, w5.drew.cell? ⟨H3, j, none⟩ = (#[.int .i64 clock, .int .i64 scas, .int .i64 uses, .int .i64 most, .int .i64 h0, .int .i64 h1, .int .i64 h2, .int .i64 h3, .slice ia items.length ic, .int .i64 fm, .int .i64 fx, .slice pa pages.length pc] : Array Value)[j]?) ∧ w5.drew.cell? ⟨w.heap.size + 1, 1, none⟩ = some (.int .i64 E5) := ⟨fun j => (drew_cell _ _).trans (xx j), (drew_cell _ _).trans xs⟩
    go_region_held3 (fun w' => (∀ j, w'.cell? ⟨H3, j, none⟩ = (#[.int .i64 clock, .int .i64 scas, .int .i64 uses, .int .i64 most, .int .i64 h0, .int .i64 h1, .int .i64 h2, .int .i64 h3, .slice ia items.length ic, .int .i64 fm, .int .i64 fx, .slice pa pages.length pc] : Array Value)[j]?) ∧ w'.cell? ⟨w.heap.size + 1, 1, none⟩ = some (.int .i64 E5)) (first | (with_reducible exact hkeep _ _ _ _ _ _ _ _ _ _ _ _) | (with_reducible exact hkeep1 _ _ _ _ _ _ _ _ _ _ _ _) | (with_reducible exact hkeep2) | (with_reducible exact ⟨xx, xs⟩)) (fail)
    clear hkeep hkeep1 hkeep2
    go_wp2_with fail
    refine bodyPost_ret (v := .tuple #[.agg #[.int .i64 clock, .int .i64 scas, .int .i64 uses, .int .i64 most, .int .i64 h0, .int .i64 h1, .int .i64 h2, .int .i64 h3, .slice ia items.length ic, .int .i64 fm, .int .i64 fx, .slice pa pages.length pc], .int .i64 E5]) (by simp [results, Tryd.results8, go_sem, yl, y0]) rfl (hpost.out ia ic pa pc _ ?_ ?_)
    · refine from12 hF3 ?_ (fun b hb hl => ?_) (by omega)
      · rw [hH, drew_heap]; exact Nat.le_trans hz5 (by simp [World.setCell])
      · rw [hH] at hl
        rw [← hk5 b hb hl]
        rw [drew_heap]
        exact set12_heap w5 w.heap.size b _ _ _ _ _ _ _ _ _ _ _ _ (by omega)
    · exact ((((((((((((hB5.setCell (Nat.le_refl _) _).setCell (Nat.le_refl _) _).setCell (Nat.le_refl _) _).setCell (Nat.le_refl _) _).setCell (Nat.le_refl _) _).setCell (Nat.le_refl _) _).setCell (Nat.le_refl _) _).setCell (Nat.le_refl _) _).setCell (Nat.le_refl _) _).setCell (Nat.le_refl _) _).setCell (Nat.le_refl _) _).setCell (Nat.le_refl _) _).drew
end Go.Proofs.YtogpkbhjobhodaaDoor
