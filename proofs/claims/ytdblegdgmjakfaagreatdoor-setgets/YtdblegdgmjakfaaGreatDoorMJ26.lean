/- Parts of the proof. -/
import Derived.Test.YtdblegdgmjakfaaGreatDoorMJ25
import Derived.Test.YtdblegdgmjakfaaGreatDoorMJ13
import Derived.Test.YtdblegdgmjakfaaGreatDoorMJ19
import Derived.Test.YtdblegdgmjakfaaGreatDoorMJ01
import Derived.Deep.DeepCutAuto
namespace Go.Proofs.YtdblegdgmjakfaaGreatDoor
open Go.ChangeShapes Go.WideShapes Go.ChangeAt Go.RowKit
set_option linter.unusedVariables false
set_option linter.unusedSimpArgs false

/- The walk of store.Copy. -/

/-- The store lies in blocks from n on: what changes below does not matter. -/
def SCopyPost2 (s : StoreR) (w : World) (e : Ending) (w' : World) : Prop := ∃ ia ic pa pc, e = .returned (storeV s ia ic pa pc) ∧ StoreFrom w.heap.size w' s ia pa ∧ Below w.heap.size w w'
set_option maxHeartbeats 4000000 in
set_option maxRecDepth 100000 in
theorem scopy_own (s : StoreR) (ia : Option Addr) (ic : Nat) (pa : Option Addr) (pc : Nat) (w : World) (hS : StoreIn w s ia pa) (hn : s.items.length * 88 ≤ 140737488351232) (hks : ∀ j, j < s.items.length → (s.items.getD j default).key.size ≤ 281474976710656 ∧ (s.items.getD j default).value.size ≤ 281474976710656)
 (hpn : s.pages.length * 32 ≤ 140737488351232) (hbs : ∀ j, j < s.pages.length → (s.pages.getD j default).bs.length ≤ 140737488351232) :
 Calls Tryz.prog 35 #[storeV s ia ic pa pc] w (SCopyPost2 s w) := by
 obtain ⟨⟨hmax, hmm⟩, hP⟩ := hS
 have hfc := fun w1 hb => copy_own s.fm s.fx s.pages pa pc w1 (hP.later hb) hpn hbs
 obtain ⟨i0, hi, iz0, iz1, iz2⟩ := info_parts infoItem
 unfold maxLen at hmax
 obtain ⟨clock, scas, uses, most, h0, h1, h2, h3, items, fm, fx, pages⟩ := s
 unfold storeV
 simp only at *
 go_enter Tryz.func35, Tryz.ntmps35
 go_wp2_with (refine wpList_make_full _ rfl (.tmp 8) (.tmp 8) 24 rfl w.heap.size 62 i0 (.agg #[.string ByteArray.empty, .int .i64 0, .int .i64 0, .int .i64 0, .int .i64 0, .string ByteArray.empty, .bool false, .int .i64 0, .int .i64 0]) 9 Tryz.underlying24 hi iz0 iz1 .i64 .i64 _ _ items.length rfl rfl rfl rfl (by rw [iz2]; omega) (by unfold maxLen; omega) (by simp; omega) ?_; intro w1 hO hg; obtain ⟨p1, p2⟩ := bcell (made_keeps hg); have hy1 := (made_keeps hg).size; have hy2 : w.heap.size < w1.heap.size := Nat.lt_of_lt_of_le (by simp; omega) hy1; have hy3 : w.heap.size + 1 < w1.heap.size := Nat.lt_of_lt_of_le (by simp) hy1)
 have hK := made_keeps hg
 have hrow : ∃ cur : Array Value, w1.heap[w.heap.size + 1 + 1]? = some (.cells cur 62 (0, 0)) ∧ cur.size = items.length * 9 := by
  rcases hO.2 with ⟨h0, _⟩ | ⟨g, cap, cur, hv, _, hcur, _, _, hcs, _⟩
  · simp at h0
  · simp at hv
    obtain ⟨rfl, rfl⟩ := hv
    exact ⟨cur, by simpa using hcur, hcs⟩
 have hWb : Below w.heap.size w w1 := (((Below.refl w.heap.size w).alloc (Nat.le_refl _) _).alloc (by simp) _).trans (hK.mono (by simp; omega))
 obtain ⟨cur0, hc0, hs0⟩ := hrow
 have hHlt : w.heap.size + 1 + 1 < w1.heap.size := by
  rcases Nat.lt_or_ge (w.heap.size + 1 + 1) w1.heap.size with h | h
  · exact h
  · rw [Array.getElem?_eq_none h] at hc0; cases hc0
 clear hO hg hK iz0 iz1 iz2 hi
 go_loopw [13] (fun i wr => ∃ k : Nat, k ≤ items.length ∧ i = .int .i64 k ∧ SCopR items w1 (w.heap.size + 1 + 1) k wr) (fun i _ => items.length - (intOf i).toNat)
 case atStart => exact ⟨0, Nat.zero_le _, rfl, cur0, hc0, hs0, Below.refl _ _, fun j hj => absurd hj (Nat.not_lt_zero j)⟩
 case round =>
  obtain ⟨k, hk, rfl, cur, hcur, hcs, hb, hP9⟩ := hrel
  have hbw : Below w.heap.size w wr := hWb.trans (hb.mono (by omega))
  by_cases hlt : k < items.length
  · have hltz : (k : Int) < (items.length : Int) := by omega
    have hk0 : (0 : Int) ≤ (k : Int) := Int.natCast_nonneg _
    rcases hmm with hmm | ⟨b, o, rfl, hbl, hc⟩
    · omega
    obtain ⟨n0, n1, n2, n3, n4, n5, n6, n7, n8⟩ := (hc k hlt).later hbl hbw
    obtain ⟨z1, z2⟩ := hks k hlt
    have hl2 : b < wr.heap.size := Nat.lt_of_lt_of_le hbl hbw.size
    have hHr : w.heap.size + 1 + 1 < wr.heap.size := Nat.lt_of_lt_of_le hHlt hb.size
    clear hc hks
    generalize hit : items.getD k default = it at *
    obtain ⟨key, flags, until_, cas, used, value, far, page, at_⟩ := it
    simp only at *
    have hA1 : Below wr.heap.size wr (wr.alloc (.cells #[.string key, .int .i64 flags, .int .i64 until_, .int .i64 cas, .int .i64 used, .string value, .bool far, .int .i64 page, .int .i64 at_] 62)) := (Below.refl _ _).alloc (Nat.le_refl _) _
    have bx : ∀ wx, Below (wr.alloc (.cells #[.string key, .int .i64 flags, .int .i64 until_, .int .i64 cas, .int .i64 used, .string value, .bool far, .int .i64 page, .int .i64 at_] 62)).heap.size (wr.alloc (.cells #[.string key, .int .i64 flags, .int .i64 until_, .int .i64 cas, .int .i64 used, .string value, .bool far, .int .i64 page, .int .i64 at_] 62)) wx → ∀ j, wx.cell? ⟨wr.heap.size, j, none⟩ = (#[.string key, .int .i64 flags, .int .i64 until_, .int .i64 cas, .int .i64 used, .string value, .bool far, .int .i64 page, .int .i64 at_] : Array Value)[j]? := fun wx hx j => by rw [hx.cell (p := ⟨wr.heap.size, j, none⟩) (by simp)]; simp [go_sem]
    have bf : ∀ wx, Below (wr.alloc (.cells #[.string key, .int .i64 flags, .int .i64 until_, .int .i64 cas, .int .i64 used, .string value, .bool far, .int .i64 page, .int .i64 at_] 62)).heap.size (wr.alloc (.cells #[.string key, .int .i64 flags, .int .i64 until_, .int .i64 cas, .int .i64 used, .string value, .bool far, .int .i64 page, .int .i64 at_] 62)) wx → ∀ j, wx.frozen? ⟨wr.heap.size, j, none⟩ = false := fun wx hx j => by rw [hx.frozen (p := ⟨wr.heap.size, j, none⟩) (by simp)]; simp [go_sem]
    have hWd := (Below.refl (wr.alloc (.cells #[.string key, .int .i64 flags, .int .i64 until_, .int .i64 cas, .int .i64 used, .string value, .bool far, .int .i64 page, .int .i64 at_] 62)).heap.size (wr.alloc (.cells #[.string key, .int .i64 flags, .int .i64 until_, .int .i64 cas, .int .i64 used, .string value, .bool far, .int .i64 page, .int .i64 at_] 62))).drew
    have hcl1 := fun w2 (hB : Below (wr.alloc (.cells #[.string key, .int .i64 flags, .int .i64 until_, .int .i64 cas, .int .i64 used, .string value, .bool far, .int .i64 page, .int .i64 at_] 62)).heap.size (wr.alloc (.cells #[.string key, .int .i64 flags, .int .i64 until_, .int .i64 cas, .int .i64 used, .string value, .bool far, .int .i64 page, .int .i64 at_] 62)) w2) => (clone_any key w2 z1).mono fun e w' (h : _ ∧ _) => (⟨h.1, hB.trans (h.2.mono hB.size)⟩ : e = .returned (.string key) ∧ Below (wr.alloc (.cells #[.string key, .int .i64 flags, .int .i64 until_, .int .i64 cas, .int .i64 used, .string value, .bool far, .int .i64 page, .int .i64 at_] 62)).heap.size (wr.alloc (.cells #[.string key, .int .i64 flags, .int .i64 until_, .int .i64 cas, .int .i64 used, .string value, .bool far, .int .i64 page, .int .i64 at_] 62)) w')
    have hcl2 := fun w2 (hB : Below (wr.alloc (.cells #[.string key, .int .i64 flags, .int .i64 until_, .int .i64 cas, .int .i64 used, .string value, .bool far, .int .i64 page, .int .i64 at_] 62)).heap.size (wr.alloc (.cells #[.string key, .int .i64 flags, .int .i64 until_, .int .i64 cas, .int .i64 used, .string value, .bool far, .int .i64 page, .int .i64 at_] 62)) w2) => (clone_any value w2 z2).mono fun e w' (h : _ ∧ _) => (⟨h.1, hB.trans (h.2.mono hB.size)⟩ : e = .returned (.string value) ∧ Below (wr.alloc (.cells #[.string key, .int .i64 flags, .int .i64 until_, .int .i64 cas, .int .i64 used, .string value, .bool far, .int .i64 page, .int .i64 at_] 62)).heap.size (wr.alloc (.cells #[.string key, .int .i64 flags, .int .i64 until_, .int .i64 cas, .int .i64 used, .string value, .bool far, .int .i64 page, .int .i64 at_] 62)) w')
    go_wp2_with fail
    go_region_held3 (fun w' => w'.cell? ⟨wr.heap.size, 0, none⟩ = some (.string key) ∧ w'.cell? ⟨wr.heap.size, 5, none⟩ = some (.string value))
     (first | exact ⟨bx _ hWd 0, bx _ hWd 5⟩ | exact ⟨bx _ hWa 0, bx _ hWa 5⟩ | exact ⟨bx _ hWb2 0, bx _ hWb2 5⟩ | exact ⟨by simp [go_sem, bx _ hWb2], by simp [go_sem, bx _ hWb2]⟩)
     (first
       | (go_at_call_of 55 (Value.string key); refine (hcl1 _ hWd).mono ?_; rintro e wa ⟨rfl, hWa⟩)
       | (go_at_call_of 55 (Value.string value); refine (hcl2 _ hWa).mono ?_; rintro e wb ⟨rfl, hWb2⟩; have bcl := bx _ hWb2; have bfr := bf _ hWb2; have hzb : wr.heap.size < wb.heap.size := bsize hWb2))
    have hBb : Below wr.heap.size wr wb := hA1.trans (hWb2.mono (by simp))
    have hcb : wb.heap[w.heap.size + 1 + 1]? = some (.cells cur 62 (0, 0)) := by rw [hBb.block _ hHr]; exact hcur
    have hNe : wr.heap.size ≠ w.heap.size + 1 + 1 := by omega
    have hNe' : w.heap.size + 1 + 1 ≠ wr.heap.size := by omega
    have hHb : w.heap.size + 1 + 1 < wb.heap.size := Nat.lt_of_lt_of_le hHr hBb.size
    have ra : wb.cell? ⟨w.heap.size + 1 + 1, k * 9, none⟩ = some (cur[k * 9]'(by omega)) := by rw [cell_rowI hcb, Array.getElem?_eq_getElem]
    have r1 : wb.cell? ⟨w.heap.size + 1 + 1, k * 9 + 1, none⟩ = some (cur[k * 9 + 1]'(by omega)) := by rw [cell_rowI hcb, Array.getElem?_eq_getElem]
    have r2 : wb.cell? ⟨w.heap.size + 1 + 1, k * 9 + 2, none⟩ = some (cur[k * 9 + 2]'(by omega)) := by rw [cell_rowI hcb, Array.getElem?_eq_getElem]
    have r3 : wb.cell? ⟨w.heap.size + 1 + 1, k * 9 + 3, none⟩ = some (cur[k * 9 + 3]'(by omega)) := by rw [cell_rowI hcb, Array.getElem?_eq_getElem]
    have r4 : wb.cell? ⟨w.heap.size + 1 + 1, k * 9 + 4, none⟩ = some (cur[k * 9 + 4]'(by omega)) := by rw [cell_rowI hcb, Array.getElem?_eq_getElem]
    have r5 : wb.cell? ⟨w.heap.size + 1 + 1, k * 9 + 5, none⟩ = some (cur[k * 9 + 5]'(by omega)) := by rw [cell_rowI hcb, Array.getElem?_eq_getElem]
    have r6 : wb.cell? ⟨w.heap.size + 1 + 1, k * 9 + 6, none⟩ = some (cur[k * 9 + 6]'(by omega)) := by rw [cell_rowI hcb, Array.getElem?_eq_getElem]
    have r7 : wb.cell? ⟨w.heap.size + 1 + 1, k * 9 + 7, none⟩ = some (cur[k * 9 + 7]'(by omega)) := by rw [cell_rowI hcb, Array.getElem?_eq_getElem]
    have r8 : wb.cell? ⟨w.heap.size + 1 + 1, k * 9 + 8, none⟩ = some (cur[k * 9 + 8]'(by omega)) := by rw [cell_rowI hcb, Array.getElem?_eq_getElem]
    have fz : ∀ j, wb.frozen? ⟨w.heap.size + 1 + 1, j, none⟩ = false := fun j => frozen_of_row wb (w.heap.size + 1 + 1) j cur 62 hcb
    clear hcl1 hcl2 bx bf n0 n1 n2 n3 n4 n5 n6 n7 n8 hWa hWd
    have hX : SCopR items w1 (w.heap.size + 1 + 1) (k + 1) (set9 ((wb.setCell ⟨wr.heap.size, 0, none⟩ (.string key)).setCell ⟨wr.heap.size, 5, none⟩ (.string value)) (w.heap.size + 1 + 1) k ⟨key, flags, until_, cas, used, value, far, page, at_⟩) :=
     SCopR.step hlt (by rw [heap_setCell_other _ _ _ _ hNe', heap_setCell_other _ _ _ _ hNe']; exact hcb) hcs (((hb.trans (hBb.mono (by omega))).setCell (by show _ ≤ wr.heap.size; omega) _).setCell (by show _ ≤ wr.heap.size; omega) _) hP9 _ hit
    unfold set9 at hX
    simp only at hX
    go_wp2_with fail
    exact ⟨⟨k + 1, hlt, by simp, hX⟩, by simp [intOf]; omega⟩
  · have hke : k = items.length := by omega
    have hHr : w.heap.size + 1 + 1 < wr.heap.size := Nat.lt_of_lt_of_le hHlt hb.size
    have c0 : ∀ j, wr.cell? ⟨w.heap.size, j, none⟩ = (#[.int .i64 clock, .int .i64 scas, .int .i64 uses, .int .i64 most, .int .i64 h0, .int .i64 h1, .int .i64 h2, .int .i64 h3, .slice ia items.length ic, .int .i64 fm, .int .i64 fx, .slice pa pages.length pc] : Array Value)[j]? := fun j => by rw [hb.cell (p := ⟨w.heap.size, j, none⟩) (by simp; omega), p1 _ _ (by simp; omega)]; simp [go_sem]
    have d0 : ∀ j, wr.cell? ⟨w.heap.size + 1, j, none⟩ = (#[.int .i64 0, .int .i64 0, .int .i64 0, .int .i64 0, .int .i64 0, .int .i64 0, .int .i64 0, .int .i64 0, .slice none 0 0, .int .i64 0, .int .i64 0, .slice none 0 0] : Array Value)[j]? := fun j => by rw [hb.cell (p := ⟨w.heap.size + 1, j, none⟩) (by simp), p1 _ _ (by simp)]; simp [go_sem]
    have g0 : ∀ j, wr.frozen? ⟨w.heap.size, j, none⟩ = false := fun j => by rw [hb.frozen (p := ⟨w.heap.size, j, none⟩) (by simp; omega), p2 _ _ (by simp; omega)]; simp [go_sem]
    have g1 : ∀ j, wr.frozen? ⟨w.heap.size + 1, j, none⟩ = false := fun j => by rw [hb.frozen (p := ⟨w.heap.size + 1, j, none⟩) (by simp), p2 _ _ (by simp)]; simp [go_sem]
    have hz1 : w.heap.size < wr.heap.size := by omega
    have hz2 : w.heap.size + 1 < wr.heap.size := by omega
    subst hke
    have hlt2 : ¬ ((items.length : Int) < (items.length : Int)) := by omega
    have hmx : items.length ≤ maxLen := by unfold maxLen; exact hmax
    clear hlt hmm
    have hA1 : Below w.heap.size w (wr.setCell ⟨w.heap.size, 8, none⟩ (.slice (some ⟨w.heap.size + 1 + 1, 0, none⟩) items.length items.length)) := hbw.setCell (Nat.le_refl _) _
    go_wp2_with fail
    refine (hfc _ hA1).mono ?_
    rintro e w2 ⟨a', c', rfl, hPF, hb2⟩
    have hs2 : wr.heap.size ≤ w2.heap.size := by have := hb2.size; simpa [World.setCell] using this
    have e0 : ∀ j, w2.cell? ⟨w.heap.size, j, none⟩ = (#[.int .i64 clock, .int .i64 scas, .int .i64 uses, .int .i64 most, .int .i64 h0, .int .i64 h1, .int .i64 h2, .int .i64 h3, .slice (some ⟨w.heap.size + 1 + 1, 0, none⟩) items.length items.length, .int .i64 fm, .int .i64 fx, .slice pa pages.length pc] : Array Value)[j]? := fun j => by
     rw [hb2.cell (p := ⟨w.heap.size, j, none⟩) (by simp [World.setCell]; omega)]
     by_cases hj : j = 8
     · subst hj
       simp [go_sem, c0]
     · rw [World.cell?_setCell_other _ _ _ _ (by simp [hj] <;> omega), c0]
       match j, hj with
       | 0, _ | 1, _ | 2, _ | 3, _ | 4, _ | 5, _ | 6, _ | 7, _ | 9, _ | 10, _ | 11, _ => rfl
       | n + 12, _ => rfl
    have e1 : ∀ j, w2.cell? ⟨w.heap.size + 1, j, none⟩ = (#[.int .i64 0, .int .i64 0, .int .i64 0, .int .i64 0, .int .i64 0, .int .i64 0, .int .i64 0, .int .i64 0, .slice none 0 0, .int .i64 0, .int .i64 0, .slice none 0 0] : Array Value)[j]? := fun j => by
     rw [hb2.cell (p := ⟨w.heap.size + 1, j, none⟩) (by simp [World.setCell]; omega), World.cell?_setCell_far _ _ _ _ (by show w.heap.size ≠ w.heap.size + 1; omega), d0]
    have e2 : ∀ j, w2.frozen? ⟨w.heap.size, j, none⟩ = false := fun j => by
     rw [hb2.frozen (p := ⟨w.heap.size, j, none⟩) (by simp [World.setCell]; omega)]
     simp [go_sem, g0]
    have e3 : ∀ j, w2.frozen? ⟨w.heap.size + 1, j, none⟩ = false := fun j => by
     rw [hb2.frozen (p := ⟨w.heap.size + 1, j, none⟩) (by simp [World.setCell]; omega)]
     simp [go_sem, g1]
    have hy4 : w.heap.size < w2.heap.size := by omega
    have hy5 : w.heap.size + 1 < w2.heap.size := by omega
    have hcur2 : w2.heap[w.heap.size + 1 + 1]? = some (.cells cur 62 (0, 0)) := by
     rw [hb2.block _ (by simp [World.setCell]; omega), heap_setCell_other _ _ _ _ (show w.heap.size + 1 + 1 ≠ w.heap.size by omega)]
     exact hcur
    have hbw2 : Below w.heap.size w w2 := hA1.trans (hb2.mono (by simp [World.setCell]; omega))
    clear c0 d0 g0 g1 p1 p2 hfc hb2
    go_wp2_with fail
    refine bodyPost_ret (v := .agg #[.int .i64 clock, .int .i64 scas, .int .i64 uses, .int .i64 most, .int .i64 h0, .int .i64 h1, .int .i64 h2, .int .i64 h3, .slice (some ⟨w.heap.size + 1 + 1, 0, none⟩) items.length items.length, .int .i64 fm, .int .i64 fx, .slice a' pages.length c']) (by simp [results, Tryz.results35, go_sem, hy4, hy5, e0, e1]) rfl ⟨_, _, _, _, rfl, ?_, ?_⟩
    · intro w9 hs9 h9
      have hs8 : w2.heap.size ≤ w9.heap.size := by simpa [World.setCell] using hs9
      have hk : ∀ b, w.heap.size + 1 + 1 ≤ b → b < w2.heap.size → w9.heap[b]? = w2.heap[b]? := fun b hb hl => by
       have hb1 : b ≠ w.heap.size + 1 := by omega
       have hb0 : b ≠ w.heap.size := by omega
       rw [h9 b (by omega) (by simpa [World.setCell] using hl)]
       iterate 12 rw [heap_setCell_other _ _ _ _ hb1]
       iterate 3 rw [heap_setCell_other _ _ _ _ hb0]
      refine ⟨row_items hmx (Nat.lt_of_lt_of_le hHr hs2) hcur2 hP9 hs8 (hk _ (Nat.le_refl _) (Nat.lt_of_lt_of_le hHr hs2)), hPF _ hs8 fun b hbn hbl => hk b ?_ hbl⟩
      have hbn' : wr.heap.size ≤ b := by simpa [World.setCell] using hbn
      omega
    · exact (((((((((((((((hbw2.setCell (Nat.le_refl _) _).setCell (Nat.le_refl _) _).setCell (Nat.le_refl _) _).setCell (Nat.le_succ _) _).setCell (Nat.le_succ _) _).setCell (Nat.le_succ _) _).setCell (Nat.le_succ _) _).setCell (Nat.le_succ _) _).setCell (Nat.le_succ _) _).setCell (Nat.le_succ _) _).setCell (Nat.le_succ _) _).setCell (Nat.le_succ _) _).setCell (Nat.le_succ _) _).setCell (Nat.le_succ _) _).setCell (Nat.le_succ _) _)

/- What both Tick and TickedOf answer; the sizes of a store that may be. -/

def zeroS : StoreR := ⟨0, 0, 0, 0, 0, 0, 0, 0, [], 0, 0, []⟩
def tickOk (s : StoreR) (n : Int) : Bool := inB n 0 1000 && decide (s.clock + n ≤ 1099511627776)
def tickN (s : StoreR) (n : Int) : Int := if storeB s = true then (if tickOk s n = true then 0 else 2) else 8
def tickS (s : StoreR) (n : Int) : StoreR := if storeB s = true then (if tickOk s n = true then { s with clock := s.clock + n } else zeroS) else zeroS
def TickPost (s : StoreR) (n : Int) (w : World) (e : Ending) (w' : World) : Prop := ∃ ia ic pa pc, e = .returned (.tuple #[storeV (tickS s n) ia ic pa pc, .int .i64 (tickN s n)]) ∧ StoreFrom w.heap.size w' (tickS s n) ia pa ∧ Below w.heap.size w w'

theorem zero_from (n : Nat) (w : World) : StoreFrom n w zeroS none none := fun w' _ _ => ⟨items_none _ _, pages_none _ _⟩

theorem pagesF_len : ∀ (ps : List PageR) (x : Int), pagesF x ps = true → ∀ j, j < ps.length → (ps.getD j default).bs.length ≤ 256
 | [], _, _, j, hj => absurd hj (Nat.not_lt_zero _)
 | p :: r, x, h, 0, _ => by
  unfold pagesF bytesB at h
  simp [Bool.and_eq_true] at h
  simpa using h.2.1.2.1
 | p :: r, x, h, j + 1, hj => by
  unfold pagesF at h
  simp only [Bool.and_eq_true] at h
  have := pagesF_len r (x + 1) h.2.2 j (by simpa using hj)
  simpa using this

structure Sizes (s : StoreR) : Prop where
 items : s.items.length ≤ 1000
 texts : ∀ j, j < s.items.length → (s.items.getD j default).key.size ≤ 281474976710656 ∧ (s.items.getD j default).value.size ≤ 281474976710656
 pages : s.pages.length ≤ 20
 bytes : ∀ j, j < s.pages.length → (s.pages.getD j default).bs.length ≤ 140737488351232
 clock : 0 ≤ s.clock ∧ s.clock ≤ 1099511627776

theorem sizes_of (s : StoreR) (h : storeB s = true) : Sizes s := by
 unfold storeB at h
 simp only [Bool.and_eq_true] at h
 obtain ⟨h1, h2, h3, h4, h5⟩ := h
 obtain ⟨hi, hj⟩ := items_each h4
 unfold mayB boundsB pagesB at h3
 simp only [Bool.and_eq_true, decide_eq_true_eq, inB_iff] at h3
 unfold countsB at h1
 simp only [Bool.and_eq_true, inB_iff] at h1
 refine ⟨hi, fun j hjl => ?_, by omega, fun j hjl => Nat.le_trans (pagesF_len _ _ h3.2.2 j hjl) (by omega), h1.1⟩
 have ho := hj j hjl
 unfold okAt fieldsB keyB at ho
 simp only [Bool.and_eq_true, inB_iff] at ho
 refine ⟨by omega, ?_⟩
 have hv := ho.2.2
 unfold valueB at hv
 split at hv
 · simp only [Bool.and_eq_true] at hv
   have he : (s.items.getD j default).value.toList = [] := by simpa using hv.1
   have : (s.items.getD j default).value.size = 0 := by
    rw [ByteArray.size, ← Array.length_toList]
    rw [ByteArray.toList_eq] at he
    rw [he]; rfl
   omega
 · simp only [Bool.and_eq_true, decide_eq_true_eq] at hv
   omega

/- The contracts of wire.keysFit, wire.fieldsFit and wire.Check. -/

set_option maxHeartbeats 400000 in
theorem keysFit_any (kind : Int) (key : ByteArray) (ka : Option Addr) (kn kc : Nat) (keys : List ByteArray) (flags exp nn : Int) (value : ByteArray) (quiet : Bool) (w : World) (hK : StrsAt w ka kn keys) (hk : key.size ≤ maxLen) :
 Calls Tryz.prog 76 #[.agg #[.int .i64 kind, .string key, .slice ka kn kc, .int .i64 flags, .int .i64 exp, .int .i64 nn, .string value, .bool quiet]] w fun e w' => e = .returned (.bool (keysFitB kind key keys)) ∧ Below w.heap.size w w' := by
 obtain ⟨rfl, hmax, hall, hmem⟩ := hK
 have hmax' := hmax
 unfold maxLen at hmax'
 have hc := hasKey_any kind
 cases hh : inB kind 2 11
 · rw [hh] at hc
   cases h1 : key.toList.isEmpty
   · have E : Hid (keysFitB kind key keys = false) := by unfold Hid keysFitB; simp [hh, h1]
     clear hh hall hmem
     go_enter Tryz.func76, Tryz.ntmps76
     go_wp2_with (go_at_call 96; refine (hc _).mono ?_; rintro e w' ⟨rfl, rfl⟩)
     go_ret
     exact ⟨ret_bool E.out.symm, (Below.refl _ _).alloc (Nat.le_refl _) _⟩
   · by_cases h2 : kind = 1
     · by_cases h3 : keys.length < 1
       · have E : Hid (keysFitB kind key keys = false) := by unfold Hid keysFitB; simp [h1, h2, inB]; omega
         have h3' : (keys.length : Int) < 1 := by omega
         have h2' : (kind != 1) = false := by simp [h2]
         clear hh hall hmem h2
         go_enter Tryz.func76, Tryz.ntmps76
         go_wp2_with (go_at_call 96; refine (hc _).mono ?_; rintro e w' ⟨rfl, rfl⟩)
         go_ret
         exact ⟨ret_bool E.out.symm, (Below.refl _ _).alloc (Nat.le_refl _) _⟩
       · by_cases h4 : 10 < keys.length
         · have E : Hid (keysFitB kind key keys = false) := by unfold Hid keysFitB; simp [h1, h2, inB]; omega
           have h3' : ¬ (keys.length : Int) < 1 := by omega
           have h4' : 10 < (keys.length : Int) := by omega
           have h2' : (kind != 1) = false := by simp [h2]
           clear hh hall hmem h2
           go_enter Tryz.func76, Tryz.ntmps76
           go_wp2_with (go_at_call 96; refine (hc _).mono ?_; rintro e w' ⟨rfl, rfl⟩)
           go_ret
           exact ⟨ret_bool E.out.symm, (Below.refl _ _).alloc (Nat.le_refl _) _⟩
         · have E : Hid (keysFitB kind key keys = !(noKeyIn keys)) := by
            have : inB keys.length 1 10 = true := by unfold inB; simp; omega
            unfold Hid keysFitB
            simp [h1, h2, this]
            intro h
            exact absurd h (by decide)
           have h3' : ¬ (keys.length : Int) < 1 := by omega
           have h4' : ¬ 10 < (keys.length : Int) := by omega
           have h2' : (kind != 1) = false := by simp [h2]
           rcases hmem with hmem | ⟨b, off, rfl, hlt, hcell⟩
           · omega
           have hcon := fun (w1 : World) (hb : Below w.heap.size w w1) => cons_any keys b off kc w1 hmax hall (Nat.lt_of_lt_of_le hlt hb.size) (fun j hj => by rw [hb.cell (p := ⟨b, off + j, none⟩) hlt]; exact hcell j hj)
           clear hh hall hcell h2
           go_enter Tryz.func76, Tryz.ntmps76
           go_wp2_with (first | (go_at_call 96; refine (hc _).mono ?_; rintro e w' ⟨rfl, rfl⟩) | (go_at_call 106; refine (hcon _ ((Below.refl _ _).alloc (Nat.le_refl _) _)).mono ?_; rintro e w1 ⟨rfl, hb⟩))
           go_ret
           exact ⟨ret_bool E.out.symm, ((Below.refl _ _).alloc (Nat.le_refl _) _).trans (hb.mono (by simp))⟩
     · have h2' : (kind != 1) = true := by simp [h2]
       have E : Hid (keysFitB kind key keys = ((keys.length : Int) == 0)) := by
        unfold Hid keysFitB
        rw [Bool.eq_iff_iff]
        simp [hh, h1, h2]
       clear hh hall hmem h2
       go_enter Tryz.func76, Tryz.ntmps76
       go_wp2_with (go_at_call 96; refine (hc _).mono ?_; rintro e w' ⟨rfl, rfl⟩)
       go_ret
       exact ⟨ret_bool E.out.symm, (Below.refl _ _).alloc (Nat.le_refl _) _⟩
 · rw [hh] at hc
   by_cases h1 : keys.length = 0
   · have E : Hid (keysFitB kind key keys = keyB key) := by unfold Hid keysFitB; simp [hh, h1]
     have h1' : ((keys.length : Int) == 0) = true := by simp [h1]
     clear hh hall hmem h1
     go_enter Tryz.func76, Tryz.ntmps76
     go_wp2_with (first | (go_at_call 96; refine (hc _).mono ?_; rintro e w' ⟨rfl, rfl⟩) | (go_at_call 68; refine (key_any _ _ hk).mono ?_; rintro e w1 ⟨rfl, hb⟩))
     go_ret
     exact ⟨ret_bool E.out.symm, ((Below.refl _ _).alloc (Nat.le_refl _) _).trans (hb.mono (by simp))⟩
   · have E : Hid (keysFitB kind key keys = false) := by unfold Hid keysFitB; simp [hh, h1]
     have h1' : ((keys.length : Int) == 0) = false := by rw [beq_eq_false_iff_ne]; omega
     clear hh hall hmem h1
     go_enter Tryz.func76, Tryz.ntmps76
     go_wp2_with (go_at_call 96; refine (hc _).mono ?_; rintro e w' ⟨rfl, rfl⟩)
     go_ret
     exact ⟨ret_bool E.out.symm, (Below.refl _ _).alloc (Nat.le_refl _) _⟩

def fieldsFitB (kind flags exp nn : Int) (value : ByteArray) (quiet : Bool) : Bool :=
 if inB kind 2 7 = false ∧ (flags ≠ 0 ∨ value.toList.isEmpty = false) then false
 else if hasExpB kind = false ∧ exp ≠ 0 then false
 else if hasNB kind = false ∧ nn ≠ 0 then false
 else mayQuietB kind || !quiet

theorem fieldsFit_of (kind flags exp nn : Int) (value : ByteArray) (quiet c1 c2 c3 c4 : Bool)
 (h1 : c1 = (!(inB kind 2 7) && ((flags != 0) || !(value.toList.isEmpty)))) (h2 : c2 = (!(hasExpB kind) && (exp != 0))) (h3 : c3 = (!(hasNB kind) && (nn != 0))) (h4 : c4 = (mayQuietB kind || !quiet)) :
 fieldsFitB kind flags exp nn value quiet = (!c1 && (!c2 && (!c3 && c4))) := by
 unfold fieldsFitB
 subst h1 h2 h3 h4
 cases inB kind 2 7 <;> cases hasExpB kind <;> cases hasNB kind <;> cases mayQuietB kind <;> cases value.toList.isEmpty <;> by_cases f : flags = 0 <;> by_cases e : exp = 0 <;> by_cases n : nn = 0 <;> simp [f, e, n]

set_option maxHeartbeats 1000000 in
theorem fieldsFit_any (kind : Int) (key : ByteArray) (ka : Option Addr) (kn kc : Nat) (keys : List ByteArray) (flags exp nn : Int) (value : ByteArray) (quiet : Bool) (w : World) :
 Calls Tryz.prog 77 #[.agg #[.int .i64 kind, .string key, .slice ka kn kc, .int .i64 flags, .int .i64 exp, .int .i64 nn, .string value, .bool quiet]] w fun e w' => e = .returned (.bool (fieldsFitB kind flags exp nn value quiet)) ∧ Below w.heap.size w w' := by
 have hc1 := bringsV_any kind
 have hc2 := hasExp_any kind
 have hc3 := hasN_any kind
 have hc4 := mayQuiet_any kind
 have F := fieldsFit_of kind flags exp nn value quiet _ _ _ _ rfl rfl rfl rfl
 generalize fieldsFitB kind flags exp nn value quiet = B at *
 generalize inB kind 2 7 = b1 at *
 generalize hasExpB kind = b2 at *
 generalize hasNB kind = b3 at *
 generalize mayQuietB kind = b4 at *
 generalize hf : (flags != 0) = f at *
 generalize hv : value.toList.isEmpty = v at *
 generalize he : (exp != 0) = ee at *
 generalize hn : (nn != 0) = n at *
 have HF : Hid (B = (!(!b1 && (f || !v)) && (!(!b2 && ee) && (!(!b3 && n) && (b4 || !quiet))))) := F
 clear F
 go_enter Tryz.func77, Tryz.ntmps77
 go_upto_region 1 with fail
 go_cut [3] (fun s wx => s = .bool (!b1 && (f || !v)) ∧ wx = w.alloc (.cells #[.int .i64 kind, .string key, .slice ka kn kc, .int .i64 flags, .int .i64 exp, .int .i64 nn, .string value, .bool quiet] 47))
 case first =>
  cases b1 <;> cases f <;> cases v <;> (go_wp2_with (go_at_call 64; refine (hc1 _).mono ?_; rintro e w' ⟨rfl, rfl⟩)) <;> (go_meet; exact ⟨rfl, rfl⟩)
 case rest =>
  obtain ⟨rfl, rfl⟩ := hcut
  generalize hd1 : (!b1 && (f || !v)) = c1 at *
  clear hd1
  cases c1
  case true =>
   go_wp2
   go_ret
   exact ⟨ret_bool HF.out.symm, (Below.refl _ _).alloc (Nat.le_refl _) _⟩
  case false =>
   go_upto_region 3 with fail
   go_cut [18] (fun s wx => s = .bool (!b2 && ee) ∧ wx = w.alloc (.cells #[.int .i64 kind, .string key, .slice ka kn kc, .int .i64 flags, .int .i64 exp, .int .i64 nn, .string value, .bool quiet] 47))
   case first =>
    cases b2 <;> cases ee <;> (go_wp2_with (go_at_call 108; refine (hc2 _).mono ?_; rintro e w' ⟨rfl, rfl⟩)) <;> (go_meet; exact ⟨rfl, rfl⟩)
   case rest =>
    obtain ⟨rfl, rfl⟩ := hcut
    generalize hd1 : (!b2 && ee) = c2 at *
    clear hd1
    cases c2
    case true =>
     go_wp2
     go_ret
     exact ⟨ret_bool HF.out.symm, (Below.refl _ _).alloc (Nat.le_refl _) _⟩
    case false =>
     go_upto_region 5 with fail
     go_cut [28] (fun s wx => s = .bool (!b3 && n) ∧ wx = w.alloc (.cells #[.int .i64 kind, .string key, .slice ka kn kc, .int .i64 flags, .int .i64 exp, .int .i64 nn, .string value, .bool quiet] 47))
     case first =>
      cases b3 <;> cases n <;> (go_wp2_with (go_at_call 109; refine (hc3 _).mono ?_; rintro e w' ⟨rfl, rfl⟩)) <;> (go_meet; exact ⟨rfl, rfl⟩)
     case rest =>
      obtain ⟨rfl, rfl⟩ := hcut
      generalize hd1 : (!b3 && n) = c3 at *
      clear hd1
      cases c3
      case true =>
       go_wp2
       go_ret
       exact ⟨ret_bool HF.out.symm, (Below.refl _ _).alloc (Nat.le_refl _) _⟩
      case false =>
       cases b4 <;> (go_wp2_with (go_at_call 110; refine (hc4 _).mono ?_; rintro e w' ⟨rfl, rfl⟩)) <;> (go_ret; exact ⟨ret_bool (by rw [HF.out]; rfl), (Below.refl _ _).alloc (Nat.le_refl _) _⟩)

/-- What wire.Check answers. -/
def checkN (kind : Int) (key : ByteArray) (keys : List ByteArray) (flags exp nn : Int) (value : ByteArray) (quiet : Bool) : Int :=
 if inB kind 1 13 = false then 3
 else if keysFitB kind key keys = false then 4
 else if fieldsFitB kind flags exp nn value quiet = false then 4
 else if (outB flags 65535 || (outB exp 1099511627776 || outB nn 1099511627776)) = true then 2
 else if 200 < value.size then 1
 else 0

set_option maxHeartbeats 1000000 in
theorem check_any (kind : Int) (key : ByteArray) (ka : Option Addr) (kn kc : Nat) (keys : List ByteArray) (flags exp nn : Int) (value : ByteArray) (quiet : Bool) (w : World) (hK : StrsAt w ka kn keys) (hk : key.size ≤ maxLen) (hv : value.size ≤ maxLen) :
 Calls Tryz.prog 54 #[.agg #[.int .i64 kind, .string key, .slice ka kn kc, .int .i64 flags, .int .i64 exp, .int .i64 nn, .string value, .bool quiet]] w fun e w' => e = .returned (.int .i64 (checkN kind key keys flags exp nn value quiet)) ∧ Below w.heap.size w w' := by
 unfold maxLen at hv
 have hc1 := fun (w1 : World) (hb : Below w.heap.size w w1) => keysFit_any kind key ka kn kc keys flags exp nn value quiet w1 (hK.later hb) hk
 have hc2 := fieldsFit_any kind key ka kn kc keys flags exp nn value quiet
 have hc3 := outside_any flags 65535
 have hc4 := outside_any exp 1099511627776
 have hc5 := outside_any nn 1099511627776
 generalize hE : checkN kind key keys flags exp nn value quiet = E
 unfold checkN at hE
 generalize keysFitB kind key keys = b1 at *
 generalize fieldsFitB kind flags exp nn value quiet = b2 at *
 generalize outB flags 65535 = o1 at *
 generalize outB exp 1099511627776 = o2 at *
 generalize outB nn 1099511627776 = o3 at *
 by_cases h1 : kind < 1
 · have HE : Hid (3 = E) := by rw [← hE, if_pos (by unfold inB; simp; omega)]; exact rfl
   clear hE hc1 hc2 hc3 hc4 hc5
   go_enter Tryz.func54, Tryz.ntmps54
   go_wp2
   go_ret
   exact ⟨ret_i64 HE.out, (Below.refl _ _).alloc (Nat.le_refl _) _⟩
 by_cases h2 : 13 < kind
 · have HE : Hid (3 = E) := by rw [← hE, if_pos (by unfold inB; simp; omega)]; exact rfl
   clear hE hc1 hc2 hc3 hc4 hc5
   go_enter Tryz.func54, Tryz.ntmps54
   go_wp2
   go_ret
   exact ⟨ret_i64 HE.out, (Below.refl _ _).alloc (Nat.le_refl _) _⟩
 rw [if_neg (by unfold inB; simp; omega)] at hE
 cases b1
 · have HE : Hid (4 = E) := hE
   clear hE hc2 hc3 hc4 hc5
   go_enter Tryz.func54, Tryz.ntmps54
   go_wp2_with (go_at_call 76; refine (hc1 _ ((Below.refl _ _).alloc (Nat.le_refl _) _)).mono ?_; rintro e w1 ⟨rfl, hb⟩)
   go_ret
   exact ⟨ret_i64 HE.out, ((Below.refl _ _).alloc (Nat.le_refl _) _).trans (hb.mono (by simp))⟩
 rw [if_neg (by simp)] at hE
 cases b2
 · have HE : Hid (4 = E) := hE
   clear hE hc3 hc4 hc5
   go_enter Tryz.func54, Tryz.ntmps54
   go_wp2_with (first | (go_at_call 76; refine (hc1 _ ((Below.refl _ _).alloc (Nat.le_refl _) _)).mono ?_; rintro e w1 ⟨rfl, hb⟩; obtain ⟨q1, q2⟩ := bcell hb; have hz := bsize hb) | (go_at_call 77; refine (hc2 _).mono ?_; rintro e w2 ⟨rfl, hb2⟩))
   go_ret
   exact ⟨ret_i64 HE.out, (((Below.refl _ _).alloc (Nat.le_refl _) _).trans (hb.mono (by simp))).trans (hb2.mono (by omega))⟩
 rw [if_neg (by simp)] at hE
 go_enter Tryz.func54, Tryz.ntmps54
 go_upto_region 5 with (first | (go_at_call 76; refine (hc1 _ ((Below.refl _ _).alloc (Nat.le_refl _) _)).mono ?_; rintro e w1 ⟨rfl, hb⟩; obtain ⟨q1, q2⟩ := bcell hb; have hz := bsize hb) | (go_at_call 77; refine (hc2 _).mono ?_; rintro e w2 ⟨rfl, hb2⟩; obtain ⟨r1, r2⟩ := bcell hb2; have hz2 := hb2.size))
 have hb3 : Below w.heap.size w w2 := (((Below.refl _ _).alloc (Nat.le_refl _) _).trans (hb.mono (by simp))).trans (hb2.mono (by omega))
 clear hc1 hc2
 go_cut [21] (fun s wx => s = .bool (o1 || (o2 || o3)) ∧ wx = w2)
 case first =>
  cases o1
  · go_wp2_with fail
    refine (hc3 _).mono ?_
    rintro e w' ⟨rfl, rfl⟩
    cases o2
    · go_wp2_with fail
      refine (hc4 _).mono ?_
      rintro e w' ⟨rfl, rfl⟩
      go_wp2_with fail
      refine (hc5 _).mono ?_
      rintro e w' ⟨rfl, rfl⟩
      go_wp2_with fail
      go_meet
      exact ⟨rfl, rfl⟩
    · go_wp2_with fail
      refine (hc4 _).mono ?_
      rintro e w' ⟨rfl, rfl⟩
      go_wp2_with fail
      go_meet
      exact ⟨rfl, rfl⟩
  · go_wp2_with fail
    refine (hc3 _).mono ?_
    rintro e w' ⟨rfl, rfl⟩
    go_wp2_with fail
    go_meet
    exact ⟨rfl, rfl⟩
 case rest =>
  obtain ⟨rfl, rfl⟩ := hcut
  clear hc3 hc4 hc5
  generalize (o1 || (o2 || o3)) = o at *
  cases o
  case true =>
   have HE : Hid (2 = E) := hE
   clear hE
   go_wp2
   go_ret
   exact ⟨ret_i64 HE.out, hb3⟩
  case false =>
   by_cases h3 : 200 < value.size
   · have h3' : 200 < (value.size : Int) := by omega
     have HE : Hid (1 = E) := by rw [← hE, if_neg (by simp), if_pos h3]; exact rfl
     clear hE
     go_wp2
     go_ret
     exact ⟨ret_i64 HE.out, hb3⟩
   · have h3' : ¬ 200 < (value.size : Int) := by omega
     have HE : Hid (0 = E) := by rw [← hE, if_neg (by simp), if_neg h3]; exact rfl
     clear hE
     go_wp2
     go_ret
     exact ⟨ret_i64 HE.out, hb3⟩

/- store.refused. -/

/-- What keeps a request from being looked at: the store, the request, the count of uses. -/
def srefN (b : Bool) (c uses : Int) : Int := if b = true then (if c = 0 then (if 1099511627766 < uses then 2 else 0) else c) else 8

set_option maxHeartbeats 2000000 in
set_option maxRecDepth 100000 in
theorem srefused_any (s : StoreR) (ia : Option Addr) (ic : Nat) (pa : Option Addr) (pc : Nat) (kind flags exp nn : Int) (key value : ByteArray) (ka : Option Addr) (kn kc : Nat) (keys : List ByteArray) (quiet : Bool) (w : World) (hS : StoreIn w s ia pa) (hok : ItemsOk s.items) (hL : LaidC w) (hK : StrsAt w ka kn keys) (hk : key.size ≤ maxLen) (hv : value.size ≤ maxLen) :
 Calls Tryz.prog 34 #[storeV s ia ic pa pc, .agg #[.int .i64 kind, .string key, .slice ka kn kc, .int .i64 flags, .int .i64 exp, .int .i64 nn, .string value, .bool quiet]] w fun e w' => e = .returned (.int .i64 (srefN (storeB s) (checkN kind key keys flags exp nn value quiet) s.uses)) ∧ Below w.heap.size w w' := by
 have hc := fun w1 hb => scheck_any s ia ic pa pc w1 (hS.later hb) hok (hL.later hb)
 have hq := fun w1 (hb : Below w.heap.size w w1) => check_any kind key ka kn kc keys flags exp nn value quiet w1 (hK.later hb) hk hv
 have T0 := (TB.new 29 w #[.int .i64 s.clock, .int .i64 s.cas, .int .i64 s.uses, .int .i64 s.most, .int .i64 s.h0, .int .i64 s.h1, .int .i64 s.h2, .int .i64 s.h3, .slice ia s.items.length ic, .int .i64 s.fm, .int .i64 s.fx, .slice pa s.pages.length pc]).alloc (.cells #[.int .i64 kind, .string key, .slice ka kn kc, .int .i64 flags, .int .i64 exp, .int .i64 nn, .string value, .bool quiet] 47)
 have T1 := TB.new 47 (w.alloc (.cells #[.int .i64 s.clock, .int .i64 s.cas, .int .i64 s.uses, .int .i64 s.most, .int .i64 s.h0, .int .i64 s.h1, .int .i64 s.h2, .int .i64 s.h3, .slice ia s.items.length ic, .int .i64 s.fm, .int .i64 s.fx, .slice pa s.pages.length pc] 29)) #[.int .i64 kind, .string key, .slice ka kn kc, .int .i64 flags, .int .i64 exp, .int .i64 nn, .string value, .bool quiet]
 have A1 := ((Below.refl w.heap.size w).alloc (Nat.le_refl _) (.cells #[.int .i64 s.clock, .int .i64 s.cas, .int .i64 s.uses, .int .i64 s.most, .int .i64 s.h0, .int .i64 s.h1, .int .i64 s.h2, .int .i64 s.h3, .slice ia s.items.length ic, .int .i64 s.fm, .int .i64 s.fx, .slice pa s.pages.length pc] 29)).alloc (by simp) (.cells #[.int .i64 kind, .string key, .slice ka kn kc, .int .i64 flags, .int .i64 exp, .int .i64 nn, .string value, .bool quiet] 47)
 rw [show (w.alloc (.cells #[.int .i64 s.clock, .int .i64 s.cas, .int .i64 s.uses, .int .i64 s.most, .int .i64 s.h0, .int .i64 s.h1, .int .i64 s.h2, .int .i64 s.h3, .slice ia s.items.length ic, .int .i64 s.fm, .int .i64 s.fx, .slice pa s.pages.length pc] 29)).heap.size = w.heap.size + 1 by simp] at T1
 have hca := hc _ A1
 unfold storeV at *
 have E : Hid (srefN (storeB s) (checkN kind key keys flags exp nn value quiet) s.uses = if storeB s = true then (if checkN kind key keys flags exp nn value quiet = 0 then (if 1099511627766 < s.uses then 2 else 0) else checkN kind key keys flags exp nn value quiet) else 8) := rfl
 generalize srefN (storeB s) (checkN kind key keys flags exp nn value quiet) s.uses = R at *
 generalize checkN kind key keys flags exp nn value quiet = C at *
 generalize storeB s = b at *
 unfold codeN at hca
 clear hc
 cases b
 · have E2 : Hid (R = 8) := E.out
   simp only [Bool.false_eq_true, if_false] at hca
   go_enter Tryz.func34, Tryz.ntmps34
   go_wp2_with fail
   refine hca.mono ?_
   rintro e w1 ⟨rfl, hb1⟩
   go_wp2_with fail
   go_ret
   exact ⟨by rw [E2.out]; rfl, A1.trans (hb1.mono A1.size)⟩
 · simp only [if_true] at hca
   by_cases hC : C = 0
   · subst hC
     have E2 : Hid (R = if 1099511627766 < s.uses then 2 else 0) := E.out
     by_cases hu : 1099511627766 < s.uses
     · have E3 : Hid (R = 2) := (show R = 2 by rw [E2.out, if_pos hu])
       clear E E2
       go_enter Tryz.func34, Tryz.ntmps34
       go_wp2_with fail
       refine hca.mono ?_
       rintro e w1 ⟨rfl, hb1⟩
       have B1 := A1.trans (hb1.mono A1.size)
       have y1 := fun j => (T1.later hb1).cell j
       have l1 := (T1.later hb1).lt
       have hq1 := hq _ B1
       go_wp2_with fail
       refine hq1.mono ?_
       rintro e w2 ⟨rfl, hb2⟩
       have y0 := fun j => ((T0.later hb1).later hb2).cell j
       have l0 := ((T0.later hb1).later hb2).lt
       clear y1 l1
       go_wp2_with fail
       go_ret
       exact ⟨by rw [E3.out]; rfl, B1.trans (hb2.mono B1.size)⟩
     · have E3 : Hid (R = 0) := (show R = 0 by rw [E2.out, if_neg hu])
       clear E E2
       go_enter Tryz.func34, Tryz.ntmps34
       go_wp2_with fail
       refine hca.mono ?_
       rintro e w1 ⟨rfl, hb1⟩
       have B1 := A1.trans (hb1.mono A1.size)
       have y1 := fun j => (T1.later hb1).cell j
       have l1 := (T1.later hb1).lt
       have hq1 := hq _ B1
       go_wp2_with fail
       refine hq1.mono ?_
       rintro e w2 ⟨rfl, hb2⟩
       have y0 := fun j => ((T0.later hb1).later hb2).cell j
       have l0 := ((T0.later hb1).later hb2).lt
       clear y1 l1
       go_wp2_with fail
       go_ret
       exact ⟨by rw [E3.out]; rfl, B1.trans (hb2.mono B1.size)⟩
   · have E3 : Hid (R = C) := (show R = C by rw [E.out, if_pos rfl, if_neg hC])
     have hC2 : (C != 0) = true := by simp [hC]
     have hC3 : (C == 0) = false := by simp [hC]
     clear E
     go_enter Tryz.func34, Tryz.ntmps34
     go_wp2_with fail
     refine hca.mono ?_
     rintro e w1 ⟨rfl, hb1⟩
     have B1 := A1.trans (hb1.mono A1.size)
     have y1 := fun j => (T1.later hb1).cell j
     have l1 := (T1.later hb1).lt
     have hq1 := hq _ B1
     go_wp2_with fail
     refine hq1.mono ?_
     rintro e w2 ⟨rfl, hb2⟩
     go_wp2_with fail
     go_ret
     exact ⟨by rw [E3.out]; rfl, B1.trans (hb2.mono B1.size)⟩

end Go.Proofs.YtdblegdgmjakfaaGreatDoor
