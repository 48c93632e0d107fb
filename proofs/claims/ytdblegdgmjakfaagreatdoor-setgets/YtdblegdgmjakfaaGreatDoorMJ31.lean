/- Parts of the proof. -/
import Derived.Test.YtdblegdgmjakfaaGreatDoorMJ30
import Derived.Test.YtdblegdgmjakfaaGreatDoorMJ11
import Derived.Deep.RegionHeld3
namespace Go.Proofs.YtdblegdgmjakfaaGreatDoor
open Go.ChangeShapes Go.WideShapes Go.ChangeAt Go.RowKit
set_option linter.unusedVariables false
set_option linter.unusedSimpArgs false

/- dovecotekeep.get: a get of one key. -/

def hitV (h : HitR) : Value := .agg #[.string h.key, .int .i64 h.flags, .int .i64 h.cas, .string h.value]
/-- What get tells. -/
def KGetPost (s : StoreR) (k : ByteArray) (w : World) (e : Ending) (w' : World) : Prop := ∃ ia ic pa pc, e = .returned (.tuple #[storeV (getS s k) ia ic pa pc, hitV (getH s k), .bool (getB s k)]) ∧ StoreFrom w.heap.size w' (getS s k) ia pa ∧ Below w.heap.size w w'

theorem strs_one {w : World} {k : ByteArray} (hk : k.size ≤ 20) {b : Nat} (T : TB 9 w b #[.string k]) : StrsAt w (some ⟨b, 0, none⟩) [k].length [k] := by
 refine ⟨rfl, by unfold maxLen; show 1 ≤ _; omega, fun s hs => ?_, Or.inr ⟨b, 0, rfl, T.lt, fun j hj => ?_⟩⟩
 · rw [List.mem_singleton] at hs
   subst hs
   unfold maxLen
   omega
 · have hj : j = 0 := by have : j < 1 := hj; omega
   subst hj
   exact T.cell 0

theorem OwnH.one {n : Nat} {w : World} {v : Value} {h : HitR} (hO : OwnH n w v [h]) : ∃ g c, v = .slice (some ⟨g, 0, none⟩) 1 c ∧ n ≤ g ∧ g < w.heap.size ∧ (∀ j, j < 4 → w.cell? ⟨g, j, none⟩ = (hitCells h)[j]?) := by
 obtain ⟨_, ⟨_, h0⟩ | ⟨g, cap, cur, hv, hb, hh, h1, h2, h3, h4⟩⟩ := hO
 · cases h0
 · have hlt : g < w.heap.size := by
    rcases Nat.lt_or_ge g w.heap.size with h' | h'
    · exact h'
    · rw [Array.getElem?_eq_none h'] at hh; cases hh
   have h4 : cur.toList.take 4 = hitCells h := by simpa using h4
   have T : TB 49 w g cur := hh
   refine ⟨g, cap, hv, hb, hlt, fun j hj => ?_⟩
   rw [T.cell j, ← h4, List.getElem?_take_of_lt hj]
   exact Array.getElem?_toList.symm
theorem OwnH.none {n : Nat} {w : World} {v : Value} (hO : OwnH n w v []) : ∃ a c, v = .slice a 0 c := hO.form
theorem StoreFrom.drew {n : Nat} {w : World} {s : StoreR} {ia pa : Option Addr} (h : StoreFrom n w s ia pa) : StoreFrom n w.drew s ia pa := h
theorem StoreFrom.here {n : Nat} {w : World} {s : StoreR} {ia pa : Option Addr} (h : StoreFrom n w s ia pa) : StoreIn w s ia pa := h w (Nat.le_refl _) (fun _ _ _ => rfl)

set_option maxHeartbeats 8000000 in
set_option maxRecDepth 100000 in
theorem kget_any (s : StoreR) (ia : Option Addr) (ic : Nat) (pa : Option Addr) (pc : Nat) (k : ByteArray) (w : World) (hS : StoreIn w s ia pa) (hg : Gd s) (hk : keyB k = true) (hus : s.uses ≤ 1099511627766) (hL : LaidC w) (hT : LaidT w) :
 Calls Tryz.prog 17 #[storeV s ia ic pa pc, .string k] w (KGetPost s k w) := by
 have hks : k.size ≤ 20 := by have := (key_size hk).2; omega
 have hA := getQ_ans s k
 have hdo := fun (w1 : World) (b : Nat) (hB : Below w.heap.size w w1) (T : TB 9 w1 b #[.string k]) => do_any s ia ic pa pc (getQ k) (some ⟨b, 0, none⟩) 1 w1 (hS.later hB) hg (getQ_fit hk) hus (hL.later hB) (hT.later hB) (strs_one hks T)
 rw [hA] at hdo
 unfold DoPost at hdo
 unfold KGetPost
 unfold getQ storeV at hdo
 simp only [List.length_cons, List.length_nil, Nat.zero_add] at hdo
 have hdef : getB s k = false → getH s k = default := fun h => by unfold getB at h; unfold getH; rw [if_neg (of_decide_eq_false h)]
 generalize getS s k = S1 at *
 generalize getH s k = h1 at *
 generalize getB s k = b1 at *
 clear hA
 unfold storeV hitV
 go_enter Tryz.func17, Tryz.ntmps17
 go_wp2_with fail
 refine (hdo _ (w.heap.size + 3) ?_ ?_).mono ?_
 · exact below_al (below_al (below_al (below_al (Below.refl _ _) _) _) _) _
 · exact TB.new2 (by simp)
 rintro e w1 ⟨ia1, ic1, pa1, pc1, hv, rfl, hSF, hO, hb⟩
 clear hdo
 have hB1 : Below w.heap.size w w1 := below_thru (below_al (below_al (below_al (below_al (Below.refl _ _) _) _) _) _) hb
 have hS1 : StoreIn w1 S1 ia1 pa1 := hSF.here
 have U4 : TB 29 w1 (w.heap.size + 1) #[.int .i64 0, .int .i64 0, .int .i64 0, .int .i64 0, .int .i64 0, .int .i64 0, .int .i64 0, .int .i64 0, .slice none 0 0, .int .i64 0, .int .i64 0, .slice none 0 0] := (((TB.new2 (w := w.alloc _) (by simp)).alloc _).alloc _).later hb
 have U5 : TB 49 w1 (w.heap.size + 1 + 1) #[.string ByteArray.empty, .int .i64 0, .int .i64 0, .string ByteArray.empty] := ((TB.new2 (w := (w.alloc _).alloc _) (by simp)).alloc _).later hb
 have hsz : w.heap.size + 3 < w1.heap.size := by have := hb.size; simp at this; omega
 cases b1 with
 | false =>
  obtain ⟨ha, hc, rfl⟩ := OwnH.none hO
  obtain rfl := (hdef rfl)
  have V4 := (U4.alloc (.cells #[.int .i64 S1.clock, .int .i64 S1.cas, .int .i64 S1.uses, .int .i64 S1.most, .int .i64 S1.h0, .int .i64 S1.h1, .int .i64 S1.h2, .int .i64 S1.h3, .slice ia1 S1.items.length ic1, .int .i64 S1.fm, .int .i64 S1.fx, .slice pa1 S1.pages.length pc1] 29)).alloc (.cells #[.int .i64 1, .int .i64 0, .slice ha 0 hc] 42)
  have V5 := (U5.alloc (.cells #[.int .i64 S1.clock, .int .i64 S1.cas, .int .i64 S1.uses, .int .i64 S1.most, .int .i64 S1.h0, .int .i64 S1.h1, .int .i64 S1.h2, .int .i64 S1.h3, .slice ia1 S1.items.length ic1, .int .i64 S1.fm, .int .i64 S1.fx, .slice pa1 S1.pages.length pc1] 29)).alloc (.cells #[.int .i64 1, .int .i64 0, .slice ha 0 hc] 42)
  have BW2 : Below w.heap.size w ((w1.alloc (.cells #[.int .i64 S1.clock, .int .i64 S1.cas, .int .i64 S1.uses, .int .i64 S1.most, .int .i64 S1.h0, .int .i64 S1.h1, .int .i64 S1.h2, .int .i64 S1.h3, .slice ia1 S1.items.length ic1, .int .i64 S1.fm, .int .i64 S1.fx, .slice pa1 S1.pages.length pc1] 29)).alloc (.cells #[.int .i64 1, .int .i64 0, .slice ha 0 hc] 42)) := below_al (below_al hB1 _) _
  have sW2 : ((w1.alloc (.cells #[.int .i64 S1.clock, .int .i64 S1.cas, .int .i64 S1.uses, .int .i64 S1.most, .int .i64 S1.h0, .int .i64 S1.h1, .int .i64 S1.h2, .int .i64 S1.h3, .slice ia1 S1.items.length ic1, .int .i64 S1.fm, .int .i64 S1.fx, .slice pa1 S1.pages.length pc1] 29)).alloc (.cells #[.int .i64 1, .int .i64 0, .slice ha 0 hc] 42)).heap.size = w1.heap.size + 2 := by simp
  have F7 : TB 29 ((w1.alloc (.cells #[.int .i64 S1.clock, .int .i64 S1.cas, .int .i64 S1.uses, .int .i64 S1.most, .int .i64 S1.h0, .int .i64 S1.h1, .int .i64 S1.h2, .int .i64 S1.h3, .slice ia1 S1.items.length ic1, .int .i64 S1.fm, .int .i64 S1.fx, .slice pa1 S1.pages.length pc1] 29)).alloc (.cells #[.int .i64 1, .int .i64 0, .slice ha 0 hc] 42)) w1.heap.size #[.int .i64 S1.clock, .int .i64 S1.cas, .int .i64 S1.uses, .int .i64 S1.most, .int .i64 S1.h0, .int .i64 S1.h1, .int .i64 S1.h2, .int .i64 S1.h3, .slice ia1 S1.items.length ic1, .int .i64 S1.fm, .int .i64 S1.fx, .slice pa1 S1.pages.length pc1] := (TB.new2 rfl).alloc _
  have F8 : TB 42 ((w1.alloc (.cells #[.int .i64 S1.clock, .int .i64 S1.cas, .int .i64 S1.uses, .int .i64 S1.most, .int .i64 S1.h0, .int .i64 S1.h1, .int .i64 S1.h2, .int .i64 S1.h3, .slice ia1 S1.items.length ic1, .int .i64 S1.fm, .int .i64 S1.fx, .slice pa1 S1.pages.length pc1] 29)).alloc (.cells #[.int .i64 1, .int .i64 0, .slice ha 0 hc] 42)) (w1.heap.size + 1) #[.int .i64 1, .int .i64 0, .slice ha 0 hc] := TB.new2 (by simp)
  have oW2 : ∀ b, b < w1.heap.size → ((w1.alloc (.cells #[.int .i64 S1.clock, .int .i64 S1.cas, .int .i64 S1.uses, .int .i64 S1.most, .int .i64 S1.h0, .int .i64 S1.h1, .int .i64 S1.h2, .int .i64 S1.h3, .slice ia1 S1.items.length ic1, .int .i64 S1.fm, .int .i64 S1.fx, .slice pa1 S1.pages.length pc1] 29)).alloc (.cells #[.int .i64 1, .int .i64 0, .slice ha 0 hc] 42)).heap[b]? = w1.heap[b]? := fun b hb => by
   have q := below_al (below_al (Below.refl w1.heap.size w1) (.cells #[.int .i64 S1.clock, .int .i64 S1.cas, .int .i64 S1.uses, .int .i64 S1.most, .int .i64 S1.h0, .int .i64 S1.h1, .int .i64 S1.h2, .int .i64 S1.h3, .slice ia1 S1.items.length ic1, .int .i64 S1.fm, .int .i64 S1.fx, .slice pa1 S1.pages.length pc1] 29)) (.cells #[.int .i64 1, .int .i64 0, .slice ha 0 hc] 42)
   exact q.block b hb
  have F4 : TB 29 ((((((((((((((((((w1.alloc (.cells #[.int .i64 S1.clock, .int .i64 S1.cas, .int .i64 S1.uses, .int .i64 S1.most, .int .i64 S1.h0, .int .i64 S1.h1, .int .i64 S1.h2, .int .i64 S1.h3, .slice ia1 S1.items.length ic1, .int .i64 S1.fm, .int .i64 S1.fx, .slice pa1 S1.pages.length pc1] 29)).alloc (.cells #[.int .i64 1, .int .i64 0, .slice ha 0 hc] 42)).setCell ⟨w.heap.size + 1, 0, none⟩ (.int .i64 S1.clock)).setCell ⟨w.heap.size + 1, 1, none⟩ (.int .i64 S1.cas)).setCell ⟨w.heap.size + 1, 2, none⟩ (.int .i64 S1.uses)).setCell ⟨w.heap.size + 1, 3, none⟩ (.int .i64 S1.most)).setCell ⟨w.heap.size + 1, 4, none⟩ (.int .i64 S1.h0)).setCell ⟨w.heap.size + 1, 5, none⟩ (.int .i64 S1.h1)).setCell ⟨w.heap.size + 1, 6, none⟩ (.int .i64 S1.h2)).setCell ⟨w.heap.size + 1, 7, none⟩ (.int .i64 S1.h3)).setCell ⟨w.heap.size + 1, 8, none⟩ (.slice ia1 S1.items.length ic1)).setCell ⟨w.heap.size + 1, 9, none⟩ (.int .i64 S1.fm)).setCell ⟨w.heap.size + 1, 10, none⟩ (.int .i64 S1.fx)).setCell ⟨w.heap.size + 1, 11, none⟩ (.slice pa1 S1.pages.length pc1)).setCell ⟨w.heap.size + 1 + 1, 0, none⟩ (.string ⟨#[]⟩)).setCell ⟨w.heap.size + 1 + 1, 1, none⟩ (.int .i64 0)).setCell ⟨w.heap.size + 1 + 1, 2, none⟩ (.int .i64 0)).setCell ⟨w.heap.size + 1 + 1, 3, none⟩ (.string ⟨#[]⟩)) (w.heap.size + 1) #[.int .i64 S1.clock, .int .i64 S1.cas, .int .i64 S1.uses, .int .i64 S1.most, .int .i64 S1.h0, .int .i64 S1.h1, .int .i64 S1.h2, .int .i64 S1.h3, .slice ia1 S1.items.length ic1, .int .i64 S1.fm, .int .i64 S1.fx, .slice pa1 S1.pages.length pc1] := by
   iterate 4 refine TB.far ?_ _ _ (by show w.heap.size + 1 ≠ w.heap.size + 1 + 1; omega)
   exact twelve_set _ _ V4
  have F5 : TB 49 ((((((((((((((((((w1.alloc (.cells #[.int .i64 S1.clock, .int .i64 S1.cas, .int .i64 S1.uses, .int .i64 S1.most, .int .i64 S1.h0, .int .i64 S1.h1, .int .i64 S1.h2, .int .i64 S1.h3, .slice ia1 S1.items.length ic1, .int .i64 S1.fm, .int .i64 S1.fx, .slice pa1 S1.pages.length pc1] 29)).alloc (.cells #[.int .i64 1, .int .i64 0, .slice ha 0 hc] 42)).setCell ⟨w.heap.size + 1, 0, none⟩ (.int .i64 S1.clock)).setCell ⟨w.heap.size + 1, 1, none⟩ (.int .i64 S1.cas)).setCell ⟨w.heap.size + 1, 2, none⟩ (.int .i64 S1.uses)).setCell ⟨w.heap.size + 1, 3, none⟩ (.int .i64 S1.most)).setCell ⟨w.heap.size + 1, 4, none⟩ (.int .i64 S1.h0)).setCell ⟨w.heap.size + 1, 5, none⟩ (.int .i64 S1.h1)).setCell ⟨w.heap.size + 1, 6, none⟩ (.int .i64 S1.h2)).setCell ⟨w.heap.size + 1, 7, none⟩ (.int .i64 S1.h3)).setCell ⟨w.heap.size + 1, 8, none⟩ (.slice ia1 S1.items.length ic1)).setCell ⟨w.heap.size + 1, 9, none⟩ (.int .i64 S1.fm)).setCell ⟨w.heap.size + 1, 10, none⟩ (.int .i64 S1.fx)).setCell ⟨w.heap.size + 1, 11, none⟩ (.slice pa1 S1.pages.length pc1)).setCell ⟨w.heap.size + 1 + 1, 0, none⟩ (.string ⟨#[]⟩)).setCell ⟨w.heap.size + 1 + 1, 1, none⟩ (.int .i64 0)).setCell ⟨w.heap.size + 1 + 1, 2, none⟩ (.int .i64 0)).setCell ⟨w.heap.size + 1 + 1, 3, none⟩ (.string ⟨#[]⟩)) (w.heap.size + 1 + 1) #[.string ⟨#[]⟩, .int .i64 0, .int .i64 0, .string ⟨#[]⟩] := by
   have q : TB 49 ((((((((((((((w1.alloc (.cells #[.int .i64 S1.clock, .int .i64 S1.cas, .int .i64 S1.uses, .int .i64 S1.most, .int .i64 S1.h0, .int .i64 S1.h1, .int .i64 S1.h2, .int .i64 S1.h3, .slice ia1 S1.items.length ic1, .int .i64 S1.fm, .int .i64 S1.fx, .slice pa1 S1.pages.length pc1] 29)).alloc (.cells #[.int .i64 1, .int .i64 0, .slice ha 0 hc] 42)).setCell ⟨w.heap.size + 1, 0, none⟩ (.int .i64 S1.clock)).setCell ⟨w.heap.size + 1, 1, none⟩ (.int .i64 S1.cas)).setCell ⟨w.heap.size + 1, 2, none⟩ (.int .i64 S1.uses)).setCell ⟨w.heap.size + 1, 3, none⟩ (.int .i64 S1.most)).setCell ⟨w.heap.size + 1, 4, none⟩ (.int .i64 S1.h0)).setCell ⟨w.heap.size + 1, 5, none⟩ (.int .i64 S1.h1)).setCell ⟨w.heap.size + 1, 6, none⟩ (.int .i64 S1.h2)).setCell ⟨w.heap.size + 1, 7, none⟩ (.int .i64 S1.h3)).setCell ⟨w.heap.size + 1, 8, none⟩ (.slice ia1 S1.items.length ic1)).setCell ⟨w.heap.size + 1, 9, none⟩ (.int .i64 S1.fm)).setCell ⟨w.heap.size + 1, 10, none⟩ (.int .i64 S1.fx)).setCell ⟨w.heap.size + 1, 11, none⟩ (.slice pa1 S1.pages.length pc1)) (w.heap.size + 1 + 1) #[.string ByteArray.empty, .int .i64 0, .int .i64 0, .string ByteArray.empty] := by
    iterate 12 refine TB.far ?_ _ _ (by show w.heap.size + 1 + 1 ≠ w.heap.size + 1; omega)
    exact V5
   have q2 := (((q.set 0 (.string ⟨#[]⟩)).set 1 (.int .i64 0)).set 2 (.int .i64 0)).set 3 (.string ⟨#[]⟩)
   simp only [sIB, sZB, sSB] at q2
   exact q2
  have FB : Below w.heap.size w ((((((((((((((((((w1.alloc (.cells #[.int .i64 S1.clock, .int .i64 S1.cas, .int .i64 S1.uses, .int .i64 S1.most, .int .i64 S1.h0, .int .i64 S1.h1, .int .i64 S1.h2, .int .i64 S1.h3, .slice ia1 S1.items.length ic1, .int .i64 S1.fm, .int .i64 S1.fx, .slice pa1 S1.pages.length pc1] 29)).alloc (.cells #[.int .i64 1, .int .i64 0, .slice ha 0 hc] 42)).setCell ⟨w.heap.size + 1, 0, none⟩ (.int .i64 S1.clock)).setCell ⟨w.heap.size + 1, 1, none⟩ (.int .i64 S1.cas)).setCell ⟨w.heap.size + 1, 2, none⟩ (.int .i64 S1.uses)).setCell ⟨w.heap.size + 1, 3, none⟩ (.int .i64 S1.most)).setCell ⟨w.heap.size + 1, 4, none⟩ (.int .i64 S1.h0)).setCell ⟨w.heap.size + 1, 5, none⟩ (.int .i64 S1.h1)).setCell ⟨w.heap.size + 1, 6, none⟩ (.int .i64 S1.h2)).setCell ⟨w.heap.size + 1, 7, none⟩ (.int .i64 S1.h3)).setCell ⟨w.heap.size + 1, 8, none⟩ (.slice ia1 S1.items.length ic1)).setCell ⟨w.heap.size + 1, 9, none⟩ (.int .i64 S1.fm)).setCell ⟨w.heap.size + 1, 10, none⟩ (.int .i64 S1.fx)).setCell ⟨w.heap.size + 1, 11, none⟩ (.slice pa1 S1.pages.length pc1)).setCell ⟨w.heap.size + 1 + 1, 0, none⟩ (.string ⟨#[]⟩)).setCell ⟨w.heap.size + 1 + 1, 1, none⟩ (.int .i64 0)).setCell ⟨w.heap.size + 1 + 1, 2, none⟩ (.int .i64 0)).setCell ⟨w.heap.size + 1 + 1, 3, none⟩ (.string ⟨#[]⟩)) := by
   iterate 4 refine below_st ?_ _ (by show w.heap.size ≤ w.heap.size + 1 + 1; omega)
   iterate 12 refine below_st ?_ _ (by show w.heap.size ≤ w.heap.size + 1; omega)
   exact BW2
  have FZ : w1.heap.size ≤ ((((((((((((((((((w1.alloc (.cells #[.int .i64 S1.clock, .int .i64 S1.cas, .int .i64 S1.uses, .int .i64 S1.most, .int .i64 S1.h0, .int .i64 S1.h1, .int .i64 S1.h2, .int .i64 S1.h3, .slice ia1 S1.items.length ic1, .int .i64 S1.fm, .int .i64 S1.fx, .slice pa1 S1.pages.length pc1] 29)).alloc (.cells #[.int .i64 1, .int .i64 0, .slice ha 0 hc] 42)).setCell ⟨w.heap.size + 1, 0, none⟩ (.int .i64 S1.clock)).setCell ⟨w.heap.size + 1, 1, none⟩ (.int .i64 S1.cas)).setCell ⟨w.heap.size + 1, 2, none⟩ (.int .i64 S1.uses)).setCell ⟨w.heap.size + 1, 3, none⟩ (.int .i64 S1.most)).setCell ⟨w.heap.size + 1, 4, none⟩ (.int .i64 S1.h0)).setCell ⟨w.heap.size + 1, 5, none⟩ (.int .i64 S1.h1)).setCell ⟨w.heap.size + 1, 6, none⟩ (.int .i64 S1.h2)).setCell ⟨w.heap.size + 1, 7, none⟩ (.int .i64 S1.h3)).setCell ⟨w.heap.size + 1, 8, none⟩ (.slice ia1 S1.items.length ic1)).setCell ⟨w.heap.size + 1, 9, none⟩ (.int .i64 S1.fm)).setCell ⟨w.heap.size + 1, 10, none⟩ (.int .i64 S1.fx)).setCell ⟨w.heap.size + 1, 11, none⟩ (.slice pa1 S1.pages.length pc1)).setCell ⟨w.heap.size + 1 + 1, 0, none⟩ (.string ⟨#[]⟩)).setCell ⟨w.heap.size + 1 + 1, 1, none⟩ (.int .i64 0)).setCell ⟨w.heap.size + 1 + 1, 2, none⟩ (.int .i64 0)).setCell ⟨w.heap.size + 1 + 1, 3, none⟩ (.string ⟨#[]⟩)).heap.size := by
   simp [World.setCell]
   omega
  have FS : StoreFrom w.heap.size ((((((((((((((((((w1.alloc (.cells #[.int .i64 S1.clock, .int .i64 S1.cas, .int .i64 S1.uses, .int .i64 S1.most, .int .i64 S1.h0, .int .i64 S1.h1, .int .i64 S1.h2, .int .i64 S1.h3, .slice ia1 S1.items.length ic1, .int .i64 S1.fm, .int .i64 S1.fx, .slice pa1 S1.pages.length pc1] 29)).alloc (.cells #[.int .i64 1, .int .i64 0, .slice ha 0 hc] 42)).setCell ⟨w.heap.size + 1, 0, none⟩ (.int .i64 S1.clock)).setCell ⟨w.heap.size + 1, 1, none⟩ (.int .i64 S1.cas)).setCell ⟨w.heap.size + 1, 2, none⟩ (.int .i64 S1.uses)).setCell ⟨w.heap.size + 1, 3, none⟩ (.int .i64 S1.most)).setCell ⟨w.heap.size + 1, 4, none⟩ (.int .i64 S1.h0)).setCell ⟨w.heap.size + 1, 5, none⟩ (.int .i64 S1.h1)).setCell ⟨w.heap.size + 1, 6, none⟩ (.int .i64 S1.h2)).setCell ⟨w.heap.size + 1, 7, none⟩ (.int .i64 S1.h3)).setCell ⟨w.heap.size + 1, 8, none⟩ (.slice ia1 S1.items.length ic1)).setCell ⟨w.heap.size + 1, 9, none⟩ (.int .i64 S1.fm)).setCell ⟨w.heap.size + 1, 10, none⟩ (.int .i64 S1.fx)).setCell ⟨w.heap.size + 1, 11, none⟩ (.slice pa1 S1.pages.length pc1)).setCell ⟨w.heap.size + 1 + 1, 0, none⟩ (.string ⟨#[]⟩)).setCell ⟨w.heap.size + 1 + 1, 1, none⟩ (.int .i64 0)).setCell ⟨w.heap.size + 1 + 1, 2, none⟩ (.int .i64 0)).setCell ⟨w.heap.size + 1 + 1, 3, none⟩ (.string ⟨#[]⟩)) S1 ia1 pa1 := fun wz hz hzb => by
   refine hSF _ (Nat.le_trans FZ hz) fun b hb hlt => ?_
   · have hb : w.heap.size + 4 ≤ b := by simp at hb; omega
     rw [hzb b (by omega) (Nat.lt_of_lt_of_le hlt FZ)]
     iterate 4 rw [heap_setCell_other _ _ _ _ (show b ≠ w.heap.size + 1 + 1 by omega)]
     iterate 12 rw [heap_setCell_other _ _ _ _ (show b ≠ w.heap.size + 1 by omega)]
     exact oW2 b hlt
  have x4 := fun j => V4.cell j
  have z4 := fun j => V4.frozen j
  have m4 := V4.lt
  have x5 := fun j => V5.cell j
  have z5 := fun j => V5.frozen j
  have m5 := V5.lt
  clear oW2 BW2 sW2
  go_wp2_with fail
  generalize ((((((((((((((((((w1.alloc (.cells #[.int .i64 S1.clock, .int .i64 S1.cas, .int .i64 S1.uses, .int .i64 S1.most, .int .i64 S1.h0, .int .i64 S1.h1, .int .i64 S1.h2, .int .i64 S1.h3, .slice ia1 S1.items.length ic1, .int .i64 S1.fm, .int .i64 S1.fx, .slice pa1 S1.pages.length pc1] 29)).alloc (.cells #[.int .i64 1, .int .i64 0, .slice ha 0 hc] 42)).setCell ⟨w.heap.size + 1, 0, none⟩ (.int .i64 S1.clock)).setCell ⟨w.heap.size + 1, 1, none⟩ (.int .i64 S1.cas)).setCell ⟨w.heap.size + 1, 2, none⟩ (.int .i64 S1.uses)).setCell ⟨w.heap.size + 1, 3, none⟩ (.int .i64 S1.most)).setCell ⟨w.heap.size + 1, 4, none⟩ (.int .i64 S1.h0)).setCell ⟨w.heap.size + 1, 5, none⟩ (.int .i64 S1.h1)).setCell ⟨w.heap.size + 1, 6, none⟩ (.int .i64 S1.h2)).setCell ⟨w.heap.size + 1, 7, none⟩ (.int .i64 S1.h3)).setCell ⟨w.heap.size + 1, 8, none⟩ (.slice ia1 S1.items.length ic1)).setCell ⟨w.heap.size + 1, 9, none⟩ (.int .i64 S1.fm)).setCell ⟨w.heap.size + 1, 10, none⟩ (.int .i64 S1.fx)).setCell ⟨w.heap.size + 1, 11, none⟩ (.slice pa1 S1.pages.length pc1)).setCell ⟨w.heap.size + 1 + 1, 0, none⟩ (.string ⟨#[]⟩)).setCell ⟨w.heap.size + 1 + 1, 1, none⟩ (.int .i64 0)).setCell ⟨w.heap.size + 1 + 1, 2, none⟩ (.int .i64 0)).setCell ⟨w.heap.size + 1 + 1, 3, none⟩ (.string ⟨#[]⟩)) = W3 at *
  have y4 := fun j => F4.cell j
  have y5 := fun j => F5.cell j
  exact bodyPost_ret (v := .tuple #[.agg #[.int .i64 S1.clock, .int .i64 S1.cas, .int .i64 S1.uses, .int .i64 S1.most, .int .i64 S1.h0, .int .i64 S1.h1, .int .i64 S1.h2, .int .i64 S1.h3, .slice ia1 S1.items.length ic1, .int .i64 S1.fm, .int .i64 S1.fx, .slice pa1 S1.pages.length pc1], .agg #[.string ⟨#[]⟩, .int .i64 0, .int .i64 0, .string ⟨#[]⟩], .bool false]) (by simp [results, Tryz.results17, go_sem, y4, y5]) rfl ⟨ia1, ic1, pa1, pc1, rfl, FS, FB⟩
 | true =>
  obtain ⟨g, c, rfl, hg1, hg2, hc⟩ := OwnH.one hO
  have hg3 : w.heap.size + 4 ≤ g := by simp at hg1; omega
  have n1 : ¬ g = w.heap.size + 1 := by omega
  have n2 : ¬ g = w.heap.size + 1 + 1 := by omega
  have n3 : ¬ w.heap.size + 1 = g := by omega
  have n4 : ¬ w.heap.size + 1 + 1 = g := by omega
  have n5 : ¬ w1.heap.size = w.heap.size + 1 := by omega
  have n6 : ¬ w1.heap.size = w.heap.size + 1 + 1 := by omega
  have n7 : ¬ w1.heap.size + 1 = w.heap.size + 1 := by omega
  have n8 : ¬ w1.heap.size + 1 = w.heap.size + 1 + 1 := by omega
  have V4 := (U4.alloc (.cells #[.int .i64 S1.clock, .int .i64 S1.cas, .int .i64 S1.uses, .int .i64 S1.most, .int .i64 S1.h0, .int .i64 S1.h1, .int .i64 S1.h2, .int .i64 S1.h3, .slice ia1 S1.items.length ic1, .int .i64 S1.fm, .int .i64 S1.fx, .slice pa1 S1.pages.length pc1] 29)).alloc (.cells #[.int .i64 1, .int .i64 0, .slice (some ⟨g, 0, none⟩) 1 c] 42)
  have V5 := (U5.alloc (.cells #[.int .i64 S1.clock, .int .i64 S1.cas, .int .i64 S1.uses, .int .i64 S1.most, .int .i64 S1.h0, .int .i64 S1.h1, .int .i64 S1.h2, .int .i64 S1.h3, .slice ia1 S1.items.length ic1, .int .i64 S1.fm, .int .i64 S1.fx, .slice pa1 S1.pages.length pc1] 29)).alloc (.cells #[.int .i64 1, .int .i64 0, .slice (some ⟨g, 0, none⟩) 1 c] 42)
  have BW2 : Below w.heap.size w ((w1.alloc (.cells #[.int .i64 S1.clock, .int .i64 S1.cas, .int .i64 S1.uses, .int .i64 S1.most, .int .i64 S1.h0, .int .i64 S1.h1, .int .i64 S1.h2, .int .i64 S1.h3, .slice ia1 S1.items.length ic1, .int .i64 S1.fm, .int .i64 S1.fx, .slice pa1 S1.pages.length pc1] 29)).alloc (.cells #[.int .i64 1, .int .i64 0, .slice (some ⟨g, 0, none⟩) 1 c] 42)) := below_al (below_al hB1 _) _
  have sW2 : ((w1.alloc (.cells #[.int .i64 S1.clock, .int .i64 S1.cas, .int .i64 S1.uses, .int .i64 S1.most, .int .i64 S1.h0, .int .i64 S1.h1, .int .i64 S1.h2, .int .i64 S1.h3, .slice ia1 S1.items.length ic1, .int .i64 S1.fm, .int .i64 S1.fx, .slice pa1 S1.pages.length pc1] 29)).alloc (.cells #[.int .i64 1, .int .i64 0, .slice (some ⟨g, 0, none⟩) 1 c] 42)).heap.size = w1.heap.size + 2 := by simp
  have F7 : TB 29 ((w1.alloc (.cells #[.int .i64 S1.clock, .int .i64 S1.cas, .int .i64 S1.uses, .int .i64 S1.most, .int .i64 S1.h0, .int .i64 S1.h1, .int .i64 S1.h2, .int .i64 S1.h3, .slice ia1 S1.items.length ic1, .int .i64 S1.fm, .int .i64 S1.fx, .slice pa1 S1.pages.length pc1] 29)).alloc (.cells #[.int .i64 1, .int .i64 0, .slice (some ⟨g, 0, none⟩) 1 c] 42)) w1.heap.size #[.int .i64 S1.clock, .int .i64 S1.cas, .int .i64 S1.uses, .int .i64 S1.most, .int .i64 S1.h0, .int .i64 S1.h1, .int .i64 S1.h2, .int .i64 S1.h3, .slice ia1 S1.items.length ic1, .int .i64 S1.fm, .int .i64 S1.fx, .slice pa1 S1.pages.length pc1] := (TB.new2 rfl).alloc _
  have F8 : TB 42 ((w1.alloc (.cells #[.int .i64 S1.clock, .int .i64 S1.cas, .int .i64 S1.uses, .int .i64 S1.most, .int .i64 S1.h0, .int .i64 S1.h1, .int .i64 S1.h2, .int .i64 S1.h3, .slice ia1 S1.items.length ic1, .int .i64 S1.fm, .int .i64 S1.fx, .slice pa1 S1.pages.length pc1] 29)).alloc (.cells #[.int .i64 1, .int .i64 0, .slice (some ⟨g, 0, none⟩) 1 c] 42)) (w1.heap.size + 1) #[.int .i64 1, .int .i64 0, .slice (some ⟨g, 0, none⟩) 1 c] := TB.new2 (by simp)
  have oW2 : ∀ b, b < w1.heap.size → ((w1.alloc (.cells #[.int .i64 S1.clock, .int .i64 S1.cas, .int .i64 S1.uses, .int .i64 S1.most, .int .i64 S1.h0, .int .i64 S1.h1, .int .i64 S1.h2, .int .i64 S1.h3, .slice ia1 S1.items.length ic1, .int .i64 S1.fm, .int .i64 S1.fx, .slice pa1 S1.pages.length pc1] 29)).alloc (.cells #[.int .i64 1, .int .i64 0, .slice (some ⟨g, 0, none⟩) 1 c] 42)).heap[b]? = w1.heap[b]? := fun b hb => by
   have q := below_al (below_al (Below.refl w1.heap.size w1) (.cells #[.int .i64 S1.clock, .int .i64 S1.cas, .int .i64 S1.uses, .int .i64 S1.most, .int .i64 S1.h0, .int .i64 S1.h1, .int .i64 S1.h2, .int .i64 S1.h3, .slice ia1 S1.items.length ic1, .int .i64 S1.fm, .int .i64 S1.fx, .slice pa1 S1.pages.length pc1] 29)) (.cells #[.int .i64 1, .int .i64 0, .slice (some ⟨g, 0, none⟩) 1 c] 42)
   exact q.block b hb
  have dd : ∀ j, j < 4 → ((w1.alloc (.cells #[.int .i64 S1.clock, .int .i64 S1.cas, .int .i64 S1.uses, .int .i64 S1.most, .int .i64 S1.h0, .int .i64 S1.h1, .int .i64 S1.h2, .int .i64 S1.h3, .slice ia1 S1.items.length ic1, .int .i64 S1.fm, .int .i64 S1.fx, .slice pa1 S1.pages.length pc1] 29)).alloc (.cells #[.int .i64 1, .int .i64 0, .slice (some ⟨g, 0, none⟩) 1 c] 42)).cell? ⟨g, j, none⟩ = (hitCells h1)[j]? := fun j hj => by
   have q := below_al (below_al (Below.refl w1.heap.size w1) (.cells #[.int .i64 S1.clock, .int .i64 S1.cas, .int .i64 S1.uses, .int .i64 S1.most, .int .i64 S1.h0, .int .i64 S1.h1, .int .i64 S1.h2, .int .i64 S1.h3, .slice ia1 S1.items.length ic1, .int .i64 S1.fm, .int .i64 S1.fx, .slice pa1 S1.pages.length pc1] 29)) (.cells #[.int .i64 1, .int .i64 0, .slice (some ⟨g, 0, none⟩) 1 c] 42)
   rw [q.cell (p := ⟨g, j, none⟩) hg2]
   exact hc j hj
  have d0 := dd 0 (by omega)
  have d1 := dd 1 (by omega)
  have d2 := dd 2 (by omega)
  have d3 := dd 3 (by omega)
  simp only [hitCells, List.getElem?_cons_zero, List.getElem?_cons_succ] at d0 d1 d2 d3
  clear dd hc
  have F4 : TB 29 ((((((((((((((((((w1.alloc (.cells #[.int .i64 S1.clock, .int .i64 S1.cas, .int .i64 S1.uses, .int .i64 S1.most, .int .i64 S1.h0, .int .i64 S1.h1, .int .i64 S1.h2, .int .i64 S1.h3, .slice ia1 S1.items.length ic1, .int .i64 S1.fm, .int .i64 S1.fx, .slice pa1 S1.pages.length pc1] 29)).alloc (.cells #[.int .i64 1, .int .i64 0, .slice (some ⟨g, 0, none⟩) 1 c] 42)).setCell ⟨w.heap.size + 1, 0, none⟩ (.int .i64 S1.clock)).setCell ⟨w.heap.size + 1, 1, none⟩ (.int .i64 S1.cas)).setCell ⟨w.heap.size + 1, 2, none⟩ (.int .i64 S1.uses)).setCell ⟨w.heap.size + 1, 3, none⟩ (.int .i64 S1.most)).setCell ⟨w.heap.size + 1, 4, none⟩ (.int .i64 S1.h0)).setCell ⟨w.heap.size + 1, 5, none⟩ (.int .i64 S1.h1)).setCell ⟨w.heap.size + 1, 6, none⟩ (.int .i64 S1.h2)).setCell ⟨w.heap.size + 1, 7, none⟩ (.int .i64 S1.h3)).setCell ⟨w.heap.size + 1, 8, none⟩ (.slice ia1 S1.items.length ic1)).setCell ⟨w.heap.size + 1, 9, none⟩ (.int .i64 S1.fm)).setCell ⟨w.heap.size + 1, 10, none⟩ (.int .i64 S1.fx)).setCell ⟨w.heap.size + 1, 11, none⟩ (.slice pa1 S1.pages.length pc1)).setCell ⟨w.heap.size + 1 + 1, 0, none⟩ (.string h1.key)).setCell ⟨w.heap.size + 1 + 1, 1, none⟩ (.int .i64 h1.flags)).setCell ⟨w.heap.size + 1 + 1, 2, none⟩ (.int .i64 h1.cas)).setCell ⟨w.heap.size + 1 + 1, 3, none⟩ (.string h1.value)) (w.heap.size + 1) #[.int .i64 S1.clock, .int .i64 S1.cas, .int .i64 S1.uses, .int .i64 S1.most, .int .i64 S1.h0, .int .i64 S1.h1, .int .i64 S1.h2, .int .i64 S1.h3, .slice ia1 S1.items.length ic1, .int .i64 S1.fm, .int .i64 S1.fx, .slice pa1 S1.pages.length pc1] := by
   iterate 4 refine TB.far ?_ _ _ (by show w.heap.size + 1 ≠ w.heap.size + 1 + 1; omega)
   exact twelve_set _ _ V4
  have F5 : TB 49 ((((((((((((((((((w1.alloc (.cells #[.int .i64 S1.clock, .int .i64 S1.cas, .int .i64 S1.uses, .int .i64 S1.most, .int .i64 S1.h0, .int .i64 S1.h1, .int .i64 S1.h2, .int .i64 S1.h3, .slice ia1 S1.items.length ic1, .int .i64 S1.fm, .int .i64 S1.fx, .slice pa1 S1.pages.length pc1] 29)).alloc (.cells #[.int .i64 1, .int .i64 0, .slice (some ⟨g, 0, none⟩) 1 c] 42)).setCell ⟨w.heap.size + 1, 0, none⟩ (.int .i64 S1.clock)).setCell ⟨w.heap.size + 1, 1, none⟩ (.int .i64 S1.cas)).setCell ⟨w.heap.size + 1, 2, none⟩ (.int .i64 S1.uses)).setCell ⟨w.heap.size + 1, 3, none⟩ (.int .i64 S1.most)).setCell ⟨w.heap.size + 1, 4, none⟩ (.int .i64 S1.h0)).setCell ⟨w.heap.size + 1, 5, none⟩ (.int .i64 S1.h1)).setCell ⟨w.heap.size + 1, 6, none⟩ (.int .i64 S1.h2)).setCell ⟨w.heap.size + 1, 7, none⟩ (.int .i64 S1.h3)).setCell ⟨w.heap.size + 1, 8, none⟩ (.slice ia1 S1.items.length ic1)).setCell ⟨w.heap.size + 1, 9, none⟩ (.int .i64 S1.fm)).setCell ⟨w.heap.size + 1, 10, none⟩ (.int .i64 S1.fx)).setCell ⟨w.heap.size + 1, 11, none⟩ (.slice pa1 S1.pages.length pc1)).setCell ⟨w.heap.size + 1 + 1, 0, none⟩ (.string h1.key)).setCell ⟨w.heap.size + 1 + 1, 1, none⟩ (.int .i64 h1.flags)).setCell ⟨w.heap.size + 1 + 1, 2, none⟩ (.int .i64 h1.cas)).setCell ⟨w.heap.size + 1 + 1, 3, none⟩ (.string h1.value)) (w.heap.size + 1 + 1) #[.string h1.key, .int .i64 h1.flags, .int .i64 h1.cas, .string h1.value] := by
   have q : TB 49 ((((((((((((((w1.alloc (.cells #[.int .i64 S1.clock, .int .i64 S1.cas, .int .i64 S1.uses, .int .i64 S1.most, .int .i64 S1.h0, .int .i64 S1.h1, .int .i64 S1.h2, .int .i64 S1.h3, .slice ia1 S1.items.length ic1, .int .i64 S1.fm, .int .i64 S1.fx, .slice pa1 S1.pages.length pc1] 29)).alloc (.cells #[.int .i64 1, .int .i64 0, .slice (some ⟨g, 0, none⟩) 1 c] 42)).setCell ⟨w.heap.size + 1, 0, none⟩ (.int .i64 S1.clock)).setCell ⟨w.heap.size + 1, 1, none⟩ (.int .i64 S1.cas)).setCell ⟨w.heap.size + 1, 2, none⟩ (.int .i64 S1.uses)).setCell ⟨w.heap.size + 1, 3, none⟩ (.int .i64 S1.most)).setCell ⟨w.heap.size + 1, 4, none⟩ (.int .i64 S1.h0)).setCell ⟨w.heap.size + 1, 5, none⟩ (.int .i64 S1.h1)).setCell ⟨w.heap.size + 1, 6, none⟩ (.int .i64 S1.h2)).setCell ⟨w.heap.size + 1, 7, none⟩ (.int .i64 S1.h3)).setCell ⟨w.heap.size + 1, 8, none⟩ (.slice ia1 S1.items.length ic1)).setCell ⟨w.heap.size + 1, 9, none⟩ (.int .i64 S1.fm)).setCell ⟨w.heap.size + 1, 10, none⟩ (.int .i64 S1.fx)).setCell ⟨w.heap.size + 1, 11, none⟩ (.slice pa1 S1.pages.length pc1)) (w.heap.size + 1 + 1) #[.string ByteArray.empty, .int .i64 0, .int .i64 0, .string ByteArray.empty] := by
    iterate 12 refine TB.far ?_ _ _ (by show w.heap.size + 1 + 1 ≠ w.heap.size + 1; omega)
    exact V5
   have q2 := (((q.set 0 (.string h1.key)).set 1 (.int .i64 h1.flags)).set 2 (.int .i64 h1.cas)).set 3 (.string h1.value)
   simp only [sIB, sZB, sSB] at q2
   exact q2
  have FB : Below w.heap.size w ((((((((((((((((((w1.alloc (.cells #[.int .i64 S1.clock, .int .i64 S1.cas, .int .i64 S1.uses, .int .i64 S1.most, .int .i64 S1.h0, .int .i64 S1.h1, .int .i64 S1.h2, .int .i64 S1.h3, .slice ia1 S1.items.length ic1, .int .i64 S1.fm, .int .i64 S1.fx, .slice pa1 S1.pages.length pc1] 29)).alloc (.cells #[.int .i64 1, .int .i64 0, .slice (some ⟨g, 0, none⟩) 1 c] 42)).setCell ⟨w.heap.size + 1, 0, none⟩ (.int .i64 S1.clock)).setCell ⟨w.heap.size + 1, 1, none⟩ (.int .i64 S1.cas)).setCell ⟨w.heap.size + 1, 2, none⟩ (.int .i64 S1.uses)).setCell ⟨w.heap.size + 1, 3, none⟩ (.int .i64 S1.most)).setCell ⟨w.heap.size + 1, 4, none⟩ (.int .i64 S1.h0)).setCell ⟨w.heap.size + 1, 5, none⟩ (.int .i64 S1.h1)).setCell ⟨w.heap.size + 1, 6, none⟩ (.int .i64 S1.h2)).setCell ⟨w.heap.size + 1, 7, none⟩ (.int .i64 S1.h3)).setCell ⟨w.heap.size + 1, 8, none⟩ (.slice ia1 S1.items.length ic1)).setCell ⟨w.heap.size + 1, 9, none⟩ (.int .i64 S1.fm)).setCell ⟨w.heap.size + 1, 10, none⟩ (.int .i64 S1.fx)).setCell ⟨w.heap.size + 1, 11, none⟩ (.slice pa1 S1.pages.length pc1)).setCell ⟨w.heap.size + 1 + 1, 0, none⟩ (.string h1.key)).setCell ⟨w.heap.size + 1 + 1, 1, none⟩ (.int .i64 h1.flags)).setCell ⟨w.heap.size + 1 + 1, 2, none⟩ (.int .i64 h1.cas)).setCell ⟨w.heap.size + 1 + 1, 3, none⟩ (.string h1.value)) := by
   iterate 4 refine below_st ?_ _ (by show w.heap.size ≤ w.heap.size + 1 + 1; omega)
   iterate 12 refine below_st ?_ _ (by show w.heap.size ≤ w.heap.size + 1; omega)
   exact BW2
  have FZ : w1.heap.size ≤ ((((((((((((((((((w1.alloc (.cells #[.int .i64 S1.clock, .int .i64 S1.cas, .int .i64 S1.uses, .int .i64 S1.most, .int .i64 S1.h0, .int .i64 S1.h1, .int .i64 S1.h2, .int .i64 S1.h3, .slice ia1 S1.items.length ic1, .int .i64 S1.fm, .int .i64 S1.fx, .slice pa1 S1.pages.length pc1] 29)).alloc (.cells #[.int .i64 1, .int .i64 0, .slice (some ⟨g, 0, none⟩) 1 c] 42)).setCell ⟨w.heap.size + 1, 0, none⟩ (.int .i64 S1.clock)).setCell ⟨w.heap.size + 1, 1, none⟩ (.int .i64 S1.cas)).setCell ⟨w.heap.size + 1, 2, none⟩ (.int .i64 S1.uses)).setCell ⟨w.heap.size + 1, 3, none⟩ (.int .i64 S1.most)).setCell ⟨w.heap.size + 1, 4, none⟩ (.int .i64 S1.h0)).setCell ⟨w.heap.size + 1, 5, none⟩ (.int .i64 S1.h1)).setCell ⟨w.heap.size + 1, 6, none⟩ (.int .i64 S1.h2)).setCell ⟨w.heap.size + 1, 7, none⟩ (.int .i64 S1.h3)).setCell ⟨w.heap.size + 1, 8, none⟩ (.slice ia1 S1.items.length ic1)).setCell ⟨w.heap.size + 1, 9, none⟩ (.int .i64 S1.fm)).setCell ⟨w.heap.size + 1, 10, none⟩ (.int .i64 S1.fx)).setCell ⟨w.heap.size + 1, 11, none⟩ (.slice pa1 S1.pages.length pc1)).setCell ⟨w.heap.size + 1 + 1, 0, none⟩ (.string h1.key)).setCell ⟨w.heap.size + 1 + 1, 1, none⟩ (.int .i64 h1.flags)).setCell ⟨w.heap.size + 1 + 1, 2, none⟩ (.int .i64 h1.cas)).setCell ⟨w.heap.size + 1 + 1, 3, none⟩ (.string h1.value)).heap.size := by
   simp [World.setCell]
   omega
  have FS : StoreFrom w.heap.size ((((((((((((((((((w1.alloc (.cells #[.int .i64 S1.clock, .int .i64 S1.cas, .int .i64 S1.uses, .int .i64 S1.most, .int .i64 S1.h0, .int .i64 S1.h1, .int .i64 S1.h2, .int .i64 S1.h3, .slice ia1 S1.items.length ic1, .int .i64 S1.fm, .int .i64 S1.fx, .slice pa1 S1.pages.length pc1] 29)).alloc (.cells #[.int .i64 1, .int .i64 0, .slice (some ⟨g, 0, none⟩) 1 c] 42)).setCell ⟨w.heap.size + 1, 0, none⟩ (.int .i64 S1.clock)).setCell ⟨w.heap.size + 1, 1, none⟩ (.int .i64 S1.cas)).setCell ⟨w.heap.size + 1, 2, none⟩ (.int .i64 S1.uses)).setCell ⟨w.heap.size + 1, 3, none⟩ (.int .i64 S1.most)).setCell ⟨w.heap.size + 1, 4, none⟩ (.int .i64 S1.h0)).setCell ⟨w.heap.size + 1, 5, none⟩ (.int .i64 S1.h1)).setCell ⟨w.heap.size + 1, 6, none⟩ (.int .i64 S1.h2)).setCell ⟨w.heap.size + 1, 7, none⟩ (.int .i64 S1.h3)).setCell ⟨w.heap.size + 1, 8, none⟩ (.slice ia1 S1.items.length ic1)).setCell ⟨w.heap.size + 1, 9, none⟩ (.int .i64 S1.fm)).setCell ⟨w.heap.size + 1, 10, none⟩ (.int .i64 S1.fx)).setCell ⟨w.heap.size + 1, 11, none⟩ (.slice pa1 S1.pages.length pc1)).setCell ⟨w.heap.size + 1 + 1, 0, none⟩ (.string h1.key)).setCell ⟨w.heap.size + 1 + 1, 1, none⟩ (.int .i64 h1.flags)).setCell ⟨w.heap.size + 1 + 1, 2, none⟩ (.int .i64 h1.cas)).setCell ⟨w.heap.size + 1 + 1, 3, none⟩ (.string h1.value)) S1 ia1 pa1 := fun wz hz hzb => by
   refine hSF _ (Nat.le_trans FZ hz) fun b hb hlt => ?_
   · have hb : w.heap.size + 4 ≤ b := by simp at hb; omega
     rw [hzb b (by omega) (Nat.lt_of_lt_of_le hlt FZ)]
     iterate 4 rw [heap_setCell_other _ _ _ _ (show b ≠ w.heap.size + 1 + 1 by omega)]
     iterate 12 rw [heap_setCell_other _ _ _ _ (show b ≠ w.heap.size + 1 by omega)]
     exact oW2 b hlt
  have x4 := fun j => V4.cell j
  have z4 := fun j => V4.frozen j
  have m4 := V4.lt
  have x5 := fun j => V5.cell j
  have z5 := fun j => V5.frozen j
  have m5 := V5.lt
  clear oW2 BW2 sW2
  go_wp2_with fail
  go_region
  have G4 := F4.drew
  have G5 := F5.drew
  have GB := FB.drew
  have GS := FS.drew
  clear FZ FS FB F4 F5
  generalize ((((((((((((((((((w1.alloc (.cells #[.int .i64 S1.clock, .int .i64 S1.cas, .int .i64 S1.uses, .int .i64 S1.most, .int .i64 S1.h0, .int .i64 S1.h1, .int .i64 S1.h2, .int .i64 S1.h3, .slice ia1 S1.items.length ic1, .int .i64 S1.fm, .int .i64 S1.fx, .slice pa1 S1.pages.length pc1] 29)).alloc (.cells #[.int .i64 1, .int .i64 0, .slice (some ⟨g, 0, none⟩) 1 c] 42)).setCell ⟨w.heap.size + 1, 0, none⟩ (.int .i64 S1.clock)).setCell ⟨w.heap.size + 1, 1, none⟩ (.int .i64 S1.cas)).setCell ⟨w.heap.size + 1, 2, none⟩ (.int .i64 S1.uses)).setCell ⟨w.heap.size + 1, 3, none⟩ (.int .i64 S1.most)).setCell ⟨w.heap.size + 1, 4, none⟩ (.int .i64 S1.h0)).setCell ⟨w.heap.size + 1, 5, none⟩ (.int .i64 S1.h1)).setCell ⟨w.heap.size + 1, 6, none⟩ (.int .i64 S1.h2)).setCell ⟨w.heap.size + 1, 7, none⟩ (.int .i64 S1.h3)).setCell ⟨w.heap.size + 1, 8, none⟩ (.slice ia1 S1.items.length ic1)).setCell ⟨w.heap.size + 1, 9, none⟩ (.int .i64 S1.fm)).setCell ⟨w.heap.size + 1, 10, none⟩ (.int .i64 S1.fx)).setCell ⟨w.heap.size + 1, 11, none⟩ (.slice pa1 S1.pages.length pc1)).setCell ⟨w.heap.size + 1 + 1, 0, none⟩ (.string h1.key)).setCell ⟨w.heap.size + 1 + 1, 1, none⟩ (.int .i64 h1.flags)).setCell ⟨w.heap.size + 1 + 1, 2, none⟩ (.int .i64 h1.cas)).setCell ⟨w.heap.size + 1 + 1, 3, none⟩ (.string h1.value)).drew = W3 at *
  have y4 := fun j => G4.cell j
  have y5 := fun j => G5.cell j
  go_wp2_with fail
  exact bodyPost_ret (v := .tuple #[.agg #[.int .i64 S1.clock, .int .i64 S1.cas, .int .i64 S1.uses, .int .i64 S1.most, .int .i64 S1.h0, .int .i64 S1.h1, .int .i64 S1.h2, .int .i64 S1.h3, .slice ia1 S1.items.length ic1, .int .i64 S1.fm, .int .i64 S1.fx, .slice pa1 S1.pages.length pc1], .agg #[.string h1.key, .int .i64 h1.flags, .int .i64 h1.cas, .string h1.value], .bool true]) (by simp [results, Tryz.results17, go_sem, y4, y5]) rfl ⟨ia1, ic1, pa1, pc1, rfl, GS, GB⟩

/- What requests do to keys and numbers, plain; a played store has keys of the eight, and small numbers. -/

theorem set_fromX {l : List ItemR} {n : Nat} {x : ItemR} (hk : x.key = (l.getD n default).key) (hc : x.cas = (l.getD n default).cas) : ∀ it ∈ l.set n x, ∃ jt ∈ l, jt.key = it.key ∧ jt.cas = it.cas := by
 rcases Nat.lt_or_ge n l.length with hn | hn
 · exact set_from hn hk hc
 · rw [List.set_eq_of_length_le hn]
   exact fun it h => ⟨it, h, rfl, rfl⟩
theorem askS_from (s : StoreR) (n : Nat) : FromI s (askS s n) := set_fromX rfl rfl
theorem untilS_from (s : StoreR) (n : Nat) (u : Int) : FromI s (untilS s n u) := set_fromX rfl rfl
theorem found_from (s : StoreR) (key : ByteArray) : FromI s (foundS s key).1 := by
 rcases found_sub s key with e | e
 · rw [e]; exact FromI.refl s
 · rw [e]; exact takeN_from s key
theorem putR_stp {s : StoreR} (h : Gd s) {like : ItemR} {key value : ByteArray} (k n : Int) (hkey : keyB key = true) (hv : value.size ≤ 200) : Stp s (putR s (mkI like key value) k n).1 key :=
 (putS_facts h (it := mkI like key value) hkey hv).stp
theorem oneF_stp {F : StoreR} (h : Gd F) {i : Int} {q : RqR} (hq : QOk q) : Stp F (oneF F i q).1 q.key := by
 have h0 : Stp F F q.key := (FromI.refl F).stp rfl _
 unfold oneF
 split
 · exact h0
 split
 · unfold joinN
   split
   · exact h0
   · next hz => exact putR_stp h 2 0 hq.key (by omega)
 split
 · exact h0
 split
 · exact (takeN_from F q.key).stp rfl _
 split
 · unfold countN
   split
   · next hz =>
     have hr := numV_range hz
     have hr2 := countV_range hq hr.1 hr.2
     exact putR_stp h 7 _ hq.key (decS_le hr2.1 hr2.2)
   · exact h0
 split
 · exact ((askS_from F i.toNat).trans (untilS_from _ _ _)).stp rfl _
 · exact putR_stp h 2 0 hq.key hq.vl
theorem getK_from (s : StoreR) (keys : List ByteArray) : ∀ k : Nat, FromI s (getK s keys k).1 ∧ (getK s keys k).1.cas = s.cas
 | 0 => ⟨by simp only [getK, List.take_zero, List.foldl_nil]; exact FromI.refl s, rfl⟩
 | k + 1 => by
  obtain ⟨ih, ic⟩ := getK_from s keys k
  by_cases hk : k < keys.length
  · rw [getK_succ s keys k hk]
    generalize getK s keys k = P at *
    generalize keys.getD k ByteArray.empty = key
    have hF := found_from P.1 key
    have hc := (found_kept P.1 key).cas
    unfold gstep
    split
    · exact ⟨(ih.trans hF).trans (askS_from _ _), by show (foundS P.1 key).1.cas = _; omega⟩
    · exact ⟨ih.trans hF, by show (foundS P.1 key).1.cas = _; omega⟩
  · have e : getK s keys (k + 1) = getK s keys k := by unfold getK; rw [List.take_of_length_le (by omega), List.take_of_length_le (by omega)]
    rw [e]
    exact ⟨ih, ic⟩
theorem ansN_stp {s : StoreR} (h : Gd s) {q : RqR} (hf : QFit q) : Stp s (ansN s q).1 q.key := by
 obtain ⟨f1, f2, _, _⟩ := fit_facts hf
 unfold ansN
 split
 · exact (getK_from s q.keys _).1.stp (getK_from s q.keys _).2 _
 split
 · exact (FromI.sub (s := s) (s' := flushN s) fun it hi => nomatch hi).stp rfl _
 split
 · exact (FromI.refl s).stp rfl _
 · next h1 h2 h3 =>
   have hq := f1 h1 h2 h3
   exact Stp.after (found_from s q.key) (found_kept s q.key).cas (oneF_stp (h.found q.key) hq)
theorem putS_clock {s : StoreR} (h : Gd s) {it : ItemR} (hkey : keyB it.key = true) (hv : it.value.size ≤ 200) : (putS s it).1.clock = s.clock := (putS_facts h hkey hv).clock

theorem keyS_in (n : Int) : keyS n ∈ keyL := by
 unfold keyS
 obtain ⟨h0, h1⟩ := pickN_range n 8 (by decide)
 have hl : (pickN n 8).toNat < keyL.length := by show _ < 8; omega
 rw [List.getD_eq_getElem?_getD, List.getElem?_eq_getElem hl]
 exact List.getElem_mem hl
/-- Keys of the eight alone, numbers up to k. -/
structure Few (s : StoreR) (k : Nat) : Prop where
 keys : ∀ it ∈ s.items, it.key ∈ keyL
 cas : s.cas ≤ k
theorem rawQ_key (r : RawR) : (rawQ r).key = ⟨#[]⟩ ∨ (rawQ r).key ∈ keyL := by
 unfold rawQ reqR
 split
 · exact Or.inl rfl
 split
 · exact Or.inr (keyS_in _)
 split
 · exact Or.inr (keyS_in _)
 split
 · exact Or.inr (keyS_in _)
 split
 · exact Or.inr (keyS_in _)
 split
 · exact Or.inr (keyS_in _)
 split
 · exact Or.inl rfl
 · exact Or.inr (keyS_in _)
theorem emptyKey : keyB ⟨#[]⟩ = false := by decide
theorem Few.step {s : StoreR} {k : Nat} {p m : Int} (h : Few s k) (hp : Pl s k p m) (hk : k ≤ 1000) (r : RawR) : Few (playR s r) (k + 1) := by
 obtain ⟨t1, t2, t3, t4, t5⟩ := hp.tick hk r
 have hf := rawQ_fit r
 have hst := ansN_stp t1 hf
 have hg := (hp.step hk r).gd
 have e1 : (tickR s r).items = s.items := by unfold tickR; split <;> rfl
 have e2 : (tickR s r).cas = s.cas := by unfold tickR; split <;> rfl
 have hc := h.cas
 refine ⟨fun it hi => ?_, ?_⟩
 · rcases hst.from_ it hi with ⟨jt, hj, e, _⟩ | ⟨e, _⟩
   · rw [← e]
     rw [e1] at hj
     exact h.keys jt hj
   · rcases rawQ_key r with h2 | h2
     · have hb := ((gd_iff.1 hg).2.2.2.2.2.1 it hi).1
       unfold fieldsB at hb
       rw [e, h2, emptyKey] at hb
       cases hb
     · rw [e]; exact h2
 · rcases hst.cas with e | e
   · show (ansN (tickR s r) (rawQ r)).1.cas ≤ _
     omega
   · show (ansN (tickR s r) (rawQ r)).1.cas ≤ _
     omega
theorem few_play {p m : Int} (hp : 0 ≤ p) (hp2 : p ≤ 40) (hm : 0 ≤ m) (hm2 : m ≤ 20) (l : List RawR) : ∀ k : Nat, k ≤ l.length → k ≤ 1000 → Few (play (newS p m) l k) k
 | 0, _, _ => by
  simp only [play, List.take_zero, List.foldl_nil]
  exact ⟨fun it hi => (nomatch hi), Int.le_refl _⟩
 | k + 1, hk, hm3 => by
  rw [play_succ _ l k (by omega)]
  exact (few_play hp hp2 hm hm2 l k (by omega) (by omega)).step (pl_play (newS_pl hp hp2 hm hm2) l k (by omega) (by omega)) (by omega) _

end Go.Proofs.YtdblegdgmjakfaaGreatDoor
