/- The walk of store.Copy. -/
import Derived.Test.YtojbhnoiiikdfaaDoorSCopy
namespace Go.Proofs.YtojbhnoiiikdfaaDoor
open Go.ChangeShapes Go.WideShapes Go.ChangeAt Go.RowKit
set_option linter.unusedVariables false
set_option linter.unusedSimpArgs false

/-- The store lies in blocks from n on: what changes below does not matter. -/
def StoreFrom (n : Nat) (w : World) (s : StoreR) (ia pa : Option Addr) : Prop := ∀ w' : World, w.heap.size ≤ w'.heap.size → (∀ b, n ≤ b → b < w.heap.size → w'.heap[b]? = w.heap[b]?) → StoreIn w' s ia pa
def SCopyPost2 (s : StoreR) (w : World) (e : Ending) (w' : World) : Prop := ∃ ia ic pa pc, e = .returned (storeV s ia ic pa pc) ∧ StoreFrom w.heap.size w' s ia pa ∧ Below w.heap.size w w'
def SCopyPost (s : StoreR) (w : World) (e : Ending) (w' : World) : Prop := ∃ ia ic pa pc, e = .returned (storeV s ia ic pa pc) ∧ StoreIn w' s ia pa ∧ Below w.heap.size w w'

set_option maxHeartbeats 4000000 in
set_option maxRecDepth 100000 in
theorem scopy_own (s : StoreR) (ia : Option Addr) (ic : Nat) (pa : Option Addr) (pc : Nat) (w : World) (hS : StoreIn w s ia pa) (hn : s.items.length * 88 ≤ 140737488351232) (hks : ∀ j, j < s.items.length → (s.items.getD j default).key.size ≤ 281474976710656 ∧ (s.items.getD j default).value.size ≤ 281474976710656)
    (hpn : s.pages.length * 32 ≤ 140737488351232) (hbs : ∀ j, j < s.pages.length → (s.pages.getD j default).bs.length ≤ 140737488351232) :
    Calls Tryd.prog 16 #[storeV s ia ic pa pc] w (SCopyPost2 s w) := by
  obtain ⟨⟨hmax, hmm⟩, hP⟩ := hS
  have hfc := fun w1 hb => copy_own s.fm s.fx s.pages pa pc w1 (hP.later hb) hpn hbs
  obtain ⟨i0, hi, iz0, iz1, iz2⟩ := info_parts infoItem
  unfold maxLen at hmax
  obtain ⟨clock, scas, uses, most, h0, h1, h2, h3, items, fm, fx, pages⟩ := s
  unfold storeV
  simp only at *
  go_enter Tryd.func16, Tryd.ntmps16
  go_wp2_with (refine wpList_make_full _ rfl (.tmp 8) (.tmp 8) 23 rfl w.heap.size 47 i0 (.agg #[.string ByteArray.empty, .int .i64 0, .int .i64 0, .int .i64 0, .int .i64 0, .string ByteArray.empty, .bool false, .int .i64 0, .int .i64 0]) 9 Tryd.underlying23 hi iz0 iz1 .i64 .i64 _ _ items.length rfl rfl rfl rfl (by rw [iz2]; omega) (by unfold maxLen; omega) (by simp; omega) ?_; intro w1 hO hg; obtain ⟨p1, p2⟩ := bcell (made_keeps hg); have hy1 := (made_keeps hg).size; have hy2 : w.heap.size < w1.heap.size := Nat.lt_of_lt_of_le (by simp; omega) hy1; have hy3 : w.heap.size + 1 < w1.heap.size := Nat.lt_of_lt_of_le (by simp) hy1)
  have hK := made_keeps hg
  have hrow : ∃ cur : Array Value, w1.heap[w.heap.size + 1 + 1]? = some (.cells cur 47 (0, 0)) ∧ cur.size = items.length * 9 := by
    rcases hO.2 with ⟨h0, _⟩ | ⟨g, cap, cur, hv, _, hcur, _, _, hcs, _⟩
    · simp at h0
    · simp at hv
      obtain ⟨rfl, rfl⟩ := hv
      exact ⟨cur, by simpa using hcur, hcs⟩
  have hWb : Below w.heap.size w w1 := (((Below.refl w.heap.size w).alloc (Nat.le_refl _) _).alloc (by simp) _).trans (hK.mono (by simp; omega))
  obtain ⟨cur0, hc0, hs0⟩ := hrow
  have hHlt : w.heap.size + 1 + 1 < w1.heap.size := by
    rcases Nat.lt_or_ge (w.heap.size + 1 + 1) w1.heap.size with h | h
    · exact h
    · rw [Array.getElem?_eq_none h] at hc0; cases hc0
  clear hO hg hK iz0 iz1 iz2 hi
  go_loopw [13] (fun i wr => ∃ k : Nat, k ≤ items.length ∧ i = .int .i64 k ∧ SCopR items w1 (w.heap.size + 1 + 1) k wr) (fun i _ => items.length - (intOf i).toNat)
  case atStart => exact ⟨0, Nat.zero_le _, rfl, cur0, hc0, hs0, Below.refl _ _, fun j hj => absurd hj (Nat.not_lt_zero j)⟩
  case round =>
    obtain ⟨k, hk, rfl, cur, hcur, hcs, hb, hP9⟩ := hrel
    have hbw : Below w.heap.size w wr := hWb.trans (hb.mono (by omega))
    by_cases hlt : k < items.length
    · have hltz : (k : Int) < (items.length : Int) := by omega
      have hk0 : (0 : Int) ≤ (k : Int) := Int.natCast_nonneg _
      rcases hmm with hmm | ⟨b, o, rfl, hbl, hc⟩
      · omega
      obtain ⟨n0, n1, n2, n3, n4, n5, n6, n7, n8⟩ := (hc k hlt).later hbl hbw
      obtain ⟨z1, z2⟩ := hks k hlt
      have hl2 : b < wr.heap.size := Nat.lt_of_lt_of_le hbl hbw.size
      have hHr : w.heap.size + 1 + 1 < wr.heap.size := Nat.lt_of_lt_of_le hHlt hb.size
      clear hc hks
      generalize hit : items.getD k default = it at *
      obtain ⟨key, flags, until_, cas, used, value, far, page, at_⟩ := it
      simp only at *
      have hA1 : Below wr.heap.size wr (wr.alloc (.cells #[.string key, .int .i64 flags, .int .i64 until_, .int .i64 cas, .int .i64 used, .string value, .bool far, .int .i64 page, .int .i64 at_] 47)) := (Below.refl _ _).alloc (Nat.le_refl _) _
      have bx : ∀ wx, Below (wr.alloc (.cells #[.string key, .int .i64 flags, .int .i64 until_, .int .i64 cas, .int .i64 used, .string value, .bool far, .int .i64 page, .int .i64 at_] 47)).heap.size (wr.alloc (.cells #[.string key, .int .i64 flags, .int .i64 until_, .int .i64 cas, .int .i64 used, .string value, .bool far, .int .i64 page, .int .i64 at_] 47)) wx → ∀ j, wx.cell? ⟨wr.heap.size, j, none⟩ = (#[.string key, .int .i64 flags, .int .i64 until_, .int .i64 cas, .int .i64 used, .string value, .bool far, .int .i64 page, .int .i64 at_] : Array Value)[j]? := fun wx hx j => by rw [hx.cell (p := ⟨wr.heap.size, j, none⟩) (by simp)]; simp [go_sem]
      have bf : ∀ wx, Below (wr.alloc (.cells #[.string key, .int .i64 flags, .int .i64 until_, .int .i64 cas, .int .i64 used, .string value, .bool far, .int .i64 page, .int .i64 at_] 47)).heap.size (wr.alloc (.cells #[.string key, .int .i64 flags, .int .i64 until_, .int .i64 cas, .int .i64 used, .string value, .bool far, .int .i64 page, .int .i64 at_] 47)) wx → ∀ j, wx.frozen? ⟨wr.heap.size, j, none⟩ = false := fun wx hx j => by rw [hx.frozen (p := ⟨wr.heap.size, j, none⟩) (by simp)]; simp [go_sem]
      have hWd := (Below.refl (wr.alloc (.cells #[.string key, .int .i64 flags, .int .i64 until_, .int .i64 cas, .int .i64 used, .string value, .bool far, .int .i64 page, .int .i64 at_] 47)).heap.size (wr.alloc (.cells #[.string key, .int .i64 flags, .int .i64 until_, .int .i64 cas, .int .i64 used, .string value, .bool far, .int .i64 page, .int .i64 at_] 47))).drew
      have hcl1 := fun w2 (hB : Below (wr.alloc (.cells #[.string key, .int .i64 flags, .int .i64 until_, .int .i64 cas, .int .i64 used, .string value, .bool far, .int .i64 page, .int .i64 at_] 47)).heap.size (wr.alloc (.cells #[.string key, .int .i64 flags, .int .i64 until_, .int .i64 cas, .int .i64 used, .string value, .bool far, .int .i64 page, .int .i64 at_] 47)) w2) => (clone_any key w2 z1).mono fun e w' (h : _ ∧ _) => (⟨h.1, hB.trans (h.2.mono hB.size)⟩ : e = .returned (.string key) ∧ Below (wr.alloc (.cells #[.string key, .int .i64 flags, .int .i64 until_, .int .i64 cas, .int .i64 used, .string value, .bool far, .int .i64 page, .int .i64 at_] 47)).heap.size (wr.alloc (.cells #[.string key, .int .i64 flags, .int .i64 until_, .int .i64 cas, .int .i64 used, .string value, .bool far, .int .i64 page, .int .i64 at_] 47)) w')
      have hcl2 := fun w2 (hB : Below (wr.alloc (.cells #[.string key, .int .i64 flags, .int .i64 until_, .int .i64 cas, .int .i64 used, .string value, .bool far, .int .i64 page, .int .i64 at_] 47)).heap.size (wr.alloc (.cells #[.string key, .int .i64 flags, .int .i64 until_, .int .i64 cas, .int .i64 used, .string value, .bool far, .int .i64 page, .int .i64 at_] 47)) w2) => (clone_any value w2 z2).mono fun e w' (h : _ ∧ _) => (⟨h.1, hB.trans (h.2.mono hB.size)⟩ : e = .returned (.string value) ∧ Below (wr.alloc (.cells #[.string key, .int .i64 flags, .int .i64 until_, .int .i64 cas, .int .i64 used, .string value, .bool far, .int .i64 page, .int .i64 at_] 47)).heap.size (wr.alloc (.cells #[.string key, .int .i64 flags, .int .i64 until_, .int .i64 cas, .int .i64 used, .string value, .bool far, .int .i64 page, .int .i64 at_] 47)) w')
      go_wp2_with fail
      go_region_held3 (fun w' => w'.cell? ⟨wr.heap.size, 0, none⟩ = some (.string key) ∧ w'.cell? ⟨wr.heap.size, 5, none⟩ = some (.string value))
        (first | exact ⟨bx _ hWd 0, bx _ hWd 5⟩ | exact ⟨bx _ hWa 0, bx _ hWa 5⟩ | exact ⟨bx _ hWb2 0, bx _ hWb2 5⟩ | exact ⟨by simp [go_sem, bx _ hWb2], by simp [go_sem, bx _ hWb2]⟩)
        (first
          | (go_at_call_of 36 (Value.string key); refine (hcl1 _ hWd).mono ?_; rintro e wa ⟨rfl, hWa⟩)
          | (go_at_call_of 36 (Value.string value); refine (hcl2 _ hWa).mono ?_; rintro e wb ⟨rfl, hWb2⟩; have bcl := bx _ hWb2; have bfr := bf _ hWb2; have hzb : wr.heap.size < wb.heap.size := bsize hWb2))
      have hBb : Below wr.heap.size wr wb := hA1.trans (hWb2.mono (by simp))
      have hcb : wb.heap[w.heap.size + 1 + 1]? = some (.cells cur 47 (0, 0)) := by rw [hBb.block _ hHr]; exact hcur
      have hNe : wr.heap.size ≠ w.heap.size + 1 + 1 := by omega
      have hNe' : w.heap.size + 1 + 1 ≠ wr.heap.size := by omega
      have hHb : w.heap.size + 1 + 1 < wb.heap.size := Nat.lt_of_lt_of_le hHr hBb.size
      have ra : wb.cell? ⟨w.heap.size + 1 + 1, k * 9, none⟩ = some (cur[k * 9]'(by omega)) := by rw [cell_rowI hcb, Array.getElem?_eq_getElem]
      have r1 : wb.cell? ⟨w.heap.size + 1 + 1, k * 9 + 1, none⟩ = some (cur[k * 9 + 1]'(by omega)) := by rw [cell_rowI hcb, Array.getElem?_eq_getElem]
      have r2 : wb.cell? ⟨w.heap.size + 1 + 1, k * 9 + 2, none⟩ = some (cur[k * 9 + 2]'(by omega)) := by rw [cell_rowI hcb, Array.getElem?_eq_getElem]
      have r3 : wb.cell? ⟨w.heap.size + 1 + 1, k * 9 + 3, none⟩ = some (cur[k * 9 + 3]'(by omega)) := by rw [cell_rowI hcb, Array.getElem?_eq_getElem]
      have r4 : wb.cell? ⟨w.heap.size + 1 + 1, k * 9 + 4, none⟩ = some (cur[k * 9 + 4]'(by omega)) := by rw [cell_rowI hcb, Array.getElem?_eq_getElem]
      have r5 : wb.cell? ⟨w.heap.size + 1 + 1, k * 9 + 5, none⟩ = some (cur[k * 9 + 5]'(by omega)) := by rw [cell_rowI hcb, Array.getElem?_eq_getElem]
      have r6 : wb.cell? ⟨w.heap.size + 1 + 1, k * 9 + 6, none⟩ = some (cur[k * 9 + 6]'(by omega)) := by rw [cell_rowI hcb, Array.getElem?_eq_getElem]
      have r7 : wb.cell? ⟨w.heap.size + 1 + 1, k * 9 + 7, none⟩ = some (cur[k * 9 + 7]'(by omega)) := by rw [cell_rowI hcb, Array.getElem?_eq_getElem]
      have r8 : wb.cell? ⟨w.heap.size + 1 + 1, k * 9 + 8, none⟩ = some (cur[k * 9 + 8]'(by omega)) := by rw [cell_rowI hcb, Array.getElem?_eq_getElem]
      have fz : ∀ j, wb.frozen? ⟨w.heap.size + 1 + 1, j, none⟩ = false := fun j => frozen_of_row wb (w.heap.size + 1 + 1) j cur 47 hcb
      clear hcl1 hcl2 bx bf n0 n1 n2 n3 n4 n5 n6 n7 n8 hWa hWd
      have hX : SCopR items w1 (w.heap.size + 1 + 1) (k + 1) (set9 ((wb.setCell ⟨wr.heap.size, 0, none⟩ (.string key)).setCell ⟨wr.heap.size, 5, none⟩ (.string value)) (w.heap.size + 1 + 1) k ⟨key, flags, until_, cas, used, value, far, page, at_⟩) :=
        SCopR.step hlt (by rw [heap_setCell_other _ _ _ _ hNe', heap_setCell_other _ _ _ _ hNe']; exact hcb) hcs (((hb.trans (hBb.mono (by omega))).setCell (by show _ ≤ wr.heap.size; omega) _).setCell (by show _ ≤ wr.heap.size; omega) _) hP9 _ hit
      unfold set9 at hX
      simp only at hX
      go_wp2_with fail
      exact ⟨⟨k + 1, hlt, by simp, hX⟩, by simp [intOf]; omega⟩
    · have hke : k = items.length := by omega
      have hHr : w.heap.size + 1 + 1 < wr.heap.size := Nat.lt_of_lt_of_le hHlt hb.size
      have c0 : ∀ j, wr.cell? ⟨w.heap.size, j, none⟩ = (#[.int .i64 clock, .int .i64 scas, .int .i64 uses, .int .i64 most, .int .i64 h0, .int .i64 h1, .int .i64 h2, .int .i64 h3, .slice ia items.length ic, .int .i64 fm, .int .i64 fx, .slice pa pages.length pc] : Array Value)[j]? := fun j => by rw [hb.cell (p := ⟨w.heap.size, j, none⟩) (by simp; omega), p1 _ _ (by simp; omega)]; simp [go_sem]
      have d0 : ∀ j, wr.cell? ⟨w.heap.size + 1, j, none⟩ = (#[.int .i64 0, .int .i64 0, .int .i64 0, .int .i64 0, .int .i64 0, .int .i64 0, .int .i64 0, .int .i64 0, .slice none 0 0, .int .i64 0, .int .i64 0, .slice none 0 0] : Array Value)[j]? := fun j => by rw [hb.cell (p := ⟨w.heap.size + 1, j, none⟩) (by simp), p1 _ _ (by simp)]; simp [go_sem]
      have g0 : ∀ j, wr.frozen? ⟨w.heap.size, j, none⟩ = false := fun j => by rw [hb.frozen (p := ⟨w.heap.size, j, none⟩) (by simp; omega), p2 _ _ (by simp; omega)]; simp [go_sem]
      have g1 : ∀ j, wr.frozen? ⟨w.heap.size + 1, j, none⟩ = false := fun j => by rw [hb.frozen (p := ⟨w.heap.size + 1, j, none⟩) (by simp), p2 _ _ (by simp)]; simp [go_sem]
      have hz1 : w.heap.size < wr.heap.size := by omega
      have hz2 : w.heap.size + 1 < wr.heap.size := by omega
      subst hke
      have hlt2 : ¬ ((items.length : Int) < (items.length : Int)) := by omega
      have hmx : items.length ≤ maxLen := by unfold maxLen; exact hmax
      clear hlt hmm
      have hA1 : Below w.heap.size w (wr.setCell ⟨w.heap.size, 8, none⟩ (.slice (some ⟨w.heap.size + 1 + 1, 0, none⟩) items.length items.length)) := hbw.setCell (Nat.le_refl _) _
      go_wp2_with fail
      refine (hfc _ hA1).mono ?_
      rintro e w2 ⟨a', c', rfl, hPF, hb2⟩
      have hs2 : wr.heap.size ≤ w2.heap.size := by have := hb2.size; simpa [World.setCell] using this
      have e0 : ∀ j, w2.cell? ⟨w.heap.size, j, none⟩ = (#[.int .i64 clock, .int .i64 scas, .int .i64 uses, .int .i64 most, .int .i64 h0, .int .i64 h1, .int .i64 h2, .int .i64 h3, .slice (some ⟨w.heap.size + 1 + 1, 0, none⟩) items.length items.length, .int .i64 fm, .int .i64 fx, .slice pa pages.length pc] : Array Value)[j]? := fun j => by
        rw [hb2.cell (p := ⟨w.heap.size, j, none⟩) (by simp [World.setCell]; omega)]
        by_cases hj : j = 8
        · subst hj
          simp [go_sem, c0]
        · rw [World.cell?_setCell_other _ _ _ _ (by simp [hj] <;> omega), c0]
          match j, hj with
          | 0, _ | 1, _ | 2, _ | 3, _ | 4, _ | 5, _ | 6, _ | 7, _ | 9, _ | 10, _ | 11, _ => rfl
          | n + 12, _ => rfl
      have e1 : ∀ j, w2.cell? ⟨w.heap.size + 1, j, none⟩ = (#[.int .i64 0, .int .i64 0, .int .i64 0, .int .i64 0, .int .i64 0, .int .i64 0, .int .i64 0, .int .i64 0, .slice none 0 0, .int .i64 0, .int .i64 0, .slice none 0 0] : Array Value)[j]? := fun j => by
        rw [hb2.cell (p := ⟨w.heap.size + 1, j, none⟩) (by simp [World.setCell]; omega), World.cell?_setCell_far _ _ _ _ (by show w.heap.size ≠ w.heap.size + 1; omega), d0]
      have e2 : ∀ j, w2.frozen? ⟨w.heap.size, j, none⟩ = false := fun j => by
        rw [hb2.frozen (p := ⟨w.heap.size, j, none⟩) (by simp [World.setCell]; omega)]
        simp [go_sem, g0]
      have e3 : ∀ j, w2.frozen? ⟨w.heap.size + 1, j, none⟩ = false := fun j => by
        rw [hb2.frozen (p := ⟨w.heap.size + 1, j, none⟩) (by simp [World.setCell]; omega)]
        simp [go_sem, g1]
      have hy4 : w.heap.size < w2.heap.size := by omega
      have hy5 : w.heap.size + 1 < w2.heap.size := by omega
      have hcur2 : w2.heap[w.heap.size + 1 + 1]? = some (.cells cur 47 (0, 0)) := by
        rw [hb2.block _ (by simp [World.setCell]; omega), heap_setCell_other _ _ _ _ (show w.heap.size + 1 + 1 ≠ w.heap.size by omega)]
        exact hcur
      have hbw2 : Below w.heap.size w w2 := hA1.trans (hb2.mono (by simp [World.setCell]; omega))
      clear c0 d0 g0 g1 p1 p2 hfc hb2
      go_wp2_with fail
      refine bodyPost_ret (v := .agg #[.int .i64 clock, .int .i64 scas, .int .i64 uses, .int .i64 most, .int .i64 h0, .int .i64 h1, .int .i64 h2, .int .i64 h3, .slice (some ⟨w.heap.size + 1 + 1, 0, none⟩) items.length items.length, .int .i64 fm, .int .i64 fx, .slice a' pages.length c']) (by simp [results, Tryd.results16, go_sem, hy4, hy5, e0, e1]) rfl ⟨_, _, _, _, rfl, ?_, ?_⟩
      · intro w9 hs9 h9
        have hs8 : w2.heap.size ≤ w9.heap.size := by simpa [World.setCell] using hs9
        have hk : ∀ b, w.heap.size + 1 + 1 ≤ b → b < w2.heap.size → w9.heap[b]? = w2.heap[b]? := fun b hb hl => by
          have hb1 : b ≠ w.heap.size + 1 := by omega
          have hb0 : b ≠ w.heap.size := by omega
          rw [h9 b (by omega) (by simpa [World.setCell] using hl)]
          iterate 12 rw [heap_setCell_other _ _ _ _ hb1]
          iterate 3 rw [heap_setCell_other _ _ _ _ hb0]
        refine ⟨row_items hmx (Nat.lt_of_lt_of_le hHr hs2) hcur2 hP9 hs8 (hk _ (Nat.le_refl _) (Nat.lt_of_lt_of_le hHr hs2)), hPF _ hs8 fun b hbn hbl => hk b ?_ hbl⟩
        have hbn' : wr.heap.size ≤ b := by simpa [World.setCell] using hbn
        omega
      · exact (((((((((((((((hbw2.setCell (Nat.le_refl _) _).setCell (Nat.le_refl _) _).setCell (Nat.le_refl _) _).setCell (Nat.le_succ _) _).setCell (Nat.le_succ _) _).setCell (Nat.le_succ _) _).setCell (Nat.le_succ _) _).setCell (Nat.le_succ _) _).setCell (Nat.le_succ _) _).setCell (Nat.le_succ _) _).setCell (Nat.le_succ _) _).setCell (Nat.le_succ _) _).setCell (Nat.le_succ _) _).setCell (Nat.le_succ _) _).setCell (Nat.le_succ _) _)

theorem scopy_any (s : StoreR) (ia : Option Addr) (ic : Nat) (pa : Option Addr) (pc : Nat) (w : World) (hS : StoreIn w s ia pa) (hn : s.items.length * 88 ≤ 140737488351232) (hks : ∀ j, j < s.items.length → (s.items.getD j default).key.size ≤ 281474976710656 ∧ (s.items.getD j default).value.size ≤ 281474976710656)
    (hpn : s.pages.length * 32 ≤ 140737488351232) (hbs : ∀ j, j < s.pages.length → (s.pages.getD j default).bs.length ≤ 140737488351232) :
    Calls Tryd.prog 16 #[storeV s ia ic pa pc] w (SCopyPost s w) :=
  (scopy_own s ia ic pa pc w hS hn hks hpn hbs).mono fun e w' ⟨ia', ic', pa', pc', h1, h2, h3⟩ => ⟨ia', ic', pa', pc', h1, h2 w' (Nat.le_refl _) (fun _ _ _ => rfl), h3⟩
end Go.Proofs.YtojbhnoiiikdfaaDoor
