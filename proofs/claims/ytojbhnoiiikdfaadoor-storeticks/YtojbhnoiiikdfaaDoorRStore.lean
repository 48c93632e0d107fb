/- The contract of dovecoteref.StoreCopy: the same store, in memory of its own. -/
import Derived.Test.YtojbhnoiiikdfaaDoorRItems
import Derived.Test.YtojbhnoiiikdfaaDoorRFlashW
import Derived.Test.YtojbhnoiiikdfaaDoorSCopyW
namespace Go.Proofs.YtojbhnoiiikdfaaDoor
open Go.ChangeShapes Go.WideShapes Go.ChangeAt Go.RowKit
set_option linter.unusedVariables false
set_option linter.unusedSimpArgs false

set_option maxHeartbeats 4000000 in
set_option maxRecDepth 100000 in
theorem rstore_own (s : StoreR) (ia : Option Addr) (ic : Nat) (pa : Option Addr) (pc : Nat) (w : World) (hS : StoreIn w s ia pa) (hn : (s.items.length + 1) * 88 ≤ 140737488351232)
    (hpn : (s.pages.length + 1) * 32 ≤ 140737488351232) (hbs : ∀ j, j < s.pages.length → (s.pages.getD j default).bs.length ≤ 140737488351232) :
    Calls Tryd.prog 19 #[storeV s ia ic pa pc] w (SCopyPost2 s w) := by
  obtain ⟨hI, hP⟩ := hS
  have hfi := fun w1 (hb : Below w.heap.size w w1) => ritems_any s.items ia ic w1 (hI.later hb) hn
  have hff := fun w1 (hb : Below w.heap.size w w1) => rflash_any s.fm s.fx s.pages pa pc w1 (hP.later hb) hpn hbs
  obtain ⟨clock, scas, uses, most, h0, h1, h2, h3, items, fm, fx, pages⟩ := s
  unfold storeV
  simp only at *
  generalize hcs : (#[.int .i64 clock, .int .i64 scas, .int .i64 uses, .int .i64 most, .int .i64 h0, .int .i64 h1, .int .i64 h2, .int .i64 h3, .slice ia items.length ic, .int .i64 fm, .int .i64 fx, .slice pa pages.length pc] : Array Value) = cs
  have B0 : Below w.heap.size w (w.alloc (.cells cs 28)) := (Below.refl _ _).alloc (Nat.le_refl _) _
  have B1 : Below w.heap.size w ((w.alloc (.cells cs 28)).alloc (.cells #[.int .i64 0, .int .i64 0, .int .i64 0, .int .i64 0, .int .i64 0, .int .i64 0, .int .i64 0, .int .i64 0, .slice none 0 0, .int .i64 0, .int .i64 0, .slice none 0 0] 28)) := B0.alloc (by simp) _
  have T0 := (TB.new 28 w cs).alloc (.cells #[.int .i64 0, .int .i64 0, .int .i64 0, .int .i64 0, .int .i64 0, .int .i64 0, .int .i64 0, .int .i64 0, .slice none 0 0, .int .i64 0, .int .i64 0, .slice none 0 0] 28)
  have T1 := TB.new 28 (w.alloc (.cells cs 28)) #[.int .i64 0, .int .i64 0, .int .i64 0, .int .i64 0, .int .i64 0, .int .i64 0, .int .i64 0, .int .i64 0, .slice none 0 0, .int .i64 0, .int .i64 0, .slice none 0 0]
  rw [show (w.alloc (.cells cs 28)).heap.size = w.heap.size + 1 by simp] at T1
  subst hcs
  go_enter Tryd.func19, Tryd.ntmps19
  go_wp2_with fail
  refine (hfi _ B1).mono ?_
  rintro e w1 ⟨a1, c1, rfl, hI1, hb1⟩
  have T0' := T0.later hb1
  have T1' := T1.later hb1
  have hbw1 := B1.trans (hb1.mono B1.size)
  have x0 := fun j => T0'.cell j
  have x1 := fun j => T0'.frozen j
  have l0 := T0'.lt
  have l1 := T1'.lt
  clear T0 T1 B0 B1
  have B2 : Below w.heap.size w (w1.setCell ⟨w.heap.size, 8, none⟩ (.slice a1 items.length c1)) := hbw1.setCell (Nat.le_refl _) _
  go_wp2_with fail
  refine (hff _ B2).mono ?_
  rintro e w2 ⟨a', c', rfl, hPF, hb2⟩
  have hs2 : w1.heap.size ≤ w2.heap.size := by have := hb2.size; simpa [World.setCell] using this
  have T0'' := (T0'.set 8 (.slice a1 items.length c1)).later hb2
  have T1'' := (T1'.far ⟨w.heap.size, 8, none⟩ (.slice a1 items.length c1) (show w.heap.size + 1 ≠ w.heap.size by omega)).later hb2
  have hbw2 := B2.trans (hb2.mono B2.size)
  have y0 : ∀ j, w2.cell? ⟨w.heap.size, j, none⟩ = (#[.int .i64 clock, .int .i64 scas, .int .i64 uses, .int .i64 most, .int .i64 h0, .int .i64 h1, .int .i64 h2, .int .i64 h3, .slice a1 items.length c1, .int .i64 fm, .int .i64 fx, .slice pa pages.length pc] : Array Value)[j]? := fun j => T0''.cell j
  have y1 := fun j => T0''.frozen j
  have y2 := fun j => T1''.cell j
  have y3 := fun j => T1''.frozen j
  have l2 := T0''.lt
  have l3 := T1''.lt
  have hkb : ∀ b, w.heap.size + 1 + 1 ≤ b → b < w1.heap.size → w2.heap[b]? = w1.heap[b]? := fun b hb hl => by
    rw [hb2.block b (by simpa [World.setCell] using hl), heap_setCell_other _ _ _ _ (show b ≠ w.heap.size by omega)]
  have hsz0 : ((w.alloc (.cells #[.int .i64 clock, .int .i64 scas, .int .i64 uses, .int .i64 most, .int .i64 h0, .int .i64 h1, .int .i64 h2, .int .i64 h3, .slice ia items.length ic, .int .i64 fm, .int .i64 fx, .slice pa pages.length pc] 28)).alloc (.cells #[.int .i64 0, .int .i64 0, .int .i64 0, .int .i64 0, .int .i64 0, .int .i64 0, .int .i64 0, .int .i64 0, .slice none 0 0, .int .i64 0, .int .i64 0, .slice none 0 0] 28)).heap.size = w.heap.size + 1 + 1 := by simp
  rw [hsz0] at hI1
  have hl1 : w.heap.size + 1 + 1 ≤ w1.heap.size := by rw [← hsz0]; exact hb1.size
  clear x0 x1 l0 l1 T0' T1' T0'' T1'' B2 hb1 hb2 hfi hff
  go_wp2_with fail
  refine bodyPost_ret (v := .agg #[.int .i64 clock, .int .i64 scas, .int .i64 uses, .int .i64 most, .int .i64 h0, .int .i64 h1, .int .i64 h2, .int .i64 h3, .slice a1 items.length c1, .int .i64 fm, .int .i64 fx, .slice a' pages.length c']) (by simp [results, Tryd.results19, go_sem, l2, l3, y0, y2]) rfl ⟨_, _, _, _, rfl, ?_, ?_⟩
  · intro w9 hs9 h9
    have hs8 : w2.heap.size ≤ w9.heap.size := by simpa [World.setCell] using hs9
    have hk : ∀ b, w.heap.size + 1 + 1 ≤ b → b < w2.heap.size → w9.heap[b]? = w2.heap[b]? := fun b hb hl => by
      have hb1 : b ≠ w.heap.size + 1 := by omega
      have hb0 : b ≠ w.heap.size := by omega
      rw [h9 b (by omega) (by simpa [World.setCell] using hl)]
      iterate 12 rw [heap_setCell_other _ _ _ _ hb1]
      iterate 3 rw [heap_setCell_other _ _ _ _ hb0]
    refine ⟨hI1 w9 (by omega) fun b hb hl => by rw [hk b hb (by omega), hkb b hb hl], hPF w9 hs8 fun b hbn hbl => hk b ?_ hbl⟩
    have hbn' : w1.heap.size ≤ b := by simpa [World.setCell] using hbn
    omega
  · exact (((((((((((((((hbw2.setCell (Nat.le_refl _) _).setCell (Nat.le_refl _) _).setCell (Nat.le_refl _) _).setCell (Nat.le_succ _) _).setCell (Nat.le_succ _) _).setCell (Nat.le_succ _) _).setCell (Nat.le_succ _) _).setCell (Nat.le_succ _) _).setCell (Nat.le_succ _) _).setCell (Nat.le_succ _) _).setCell (Nat.le_succ _) _).setCell (Nat.le_succ _) _).setCell (Nat.le_succ _) _).setCell (Nat.le_succ _) _).setCell (Nat.le_succ _) _)
end Go.Proofs.YtojbhnoiiikdfaaDoor
