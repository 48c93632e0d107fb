/- Parts of the proof. -/
import Derived.Test.YtdblegdgmjakfaaGreatDoorMJ06
import Derived.Test.YtdblegdgmjakfaaGreatDoorMJ00
import Derived.Laws.Cover1
import Derived.Deep.QuietTactic
import Derived.BigQuiet
import Derived.Deep.RegionHeld3
namespace Go.Proofs.YtdblegdgmjakfaaGreatDoor
open Go.ChangeShapes Go.WideShapes Go.ChangeAt Go.RowKit
set_option linter.unusedVariables false
set_option linter.unusedSimpArgs false

/- The contracts of slices.IndexFunc and slices.DeleteFunc over items, at the closure dovecote/store.takeAway$1. -/

/-- The closure answers p of an item, whatever the world, if its captured cell is as it was. -/
def ClosT (p : ItemR → Bool) (tK : TypeId) (K : Nat) (csK : Array Value) : Prop := ∀ (it : ItemR) (w : World), TB tK w K csK → Calls Tryz.prog 114 #[.agg #[.string it.key, .int .i64 it.flags, .int .i64 it.until_, .int .i64 it.cas, .int .i64 it.used, .string it.value, .bool it.far, .int .i64 it.page, .int .i64 it.at_], .pointer (some ⟨K, 0, none⟩)] w fun e w' => e = .returned (.bool (p it)) ∧ Below w.heap.size w w'

set_option maxHeartbeats 1000000 in
set_option maxRecDepth 100000 in
theorem idxT_any (p : ItemR → Bool) (tK : TypeId) (K : Nat) (csK : Array Value) (hcl : ClosT p tK K csK) (l : List ItemR) (a : Option Addr) (c : Nat) (w : World) (hP : ItemsAt w a l) (hK : TB tK w K csK) :
 Calls Tryz.prog 21 #[.slice a l.length c, .func (.func 114) #[] #[.pointer (some ⟨K, 0, none⟩)]] w fun e w' => e = .returned (.int .i64 (idxV p l)) ∧ Below w.heap.size w w' := by
 obtain ⟨hn, hmem⟩ := hP
 unfold maxLen at hn
 have EI : Hid (idxV p l = if l.findIdx p < l.length then ((l.findIdx p : Nat) : Int) else -1) := rfl
 generalize idxV p l = J at *
 unfold ClosT at hcl
 go_enter Tryz.func21, Tryz.ntmps21
 go_wp2
 go_loopw [5, 8] (fun _ i wr => ∃ k : Nat, k ≤ l.length ∧ i = .int .i64 k ∧ Hid (k ≤ l.findIdx p) ∧ Below w.heap.size w wr) (fun _ i _ => l.length - (intOf i).toNat)
 case atStart => exact ⟨0, Nat.zero_le _, rfl, Nat.zero_le _, Below.refl _ _⟩
 case round =>
  obtain ⟨k, hk, rfl, A, hb⟩ := hrel
  by_cases hlt2 : k < l.length
  · have hltz : (k : Int) < (l.length : Int) := by omega
    have hk0 : (0 : Int) ≤ (k : Int) := Int.natCast_nonneg _
    rcases hmem with hmem | ⟨b, off, rfl, hlt, hc⟩
    · omega
    obtain ⟨c0, c1, c2, c3, c4, c5, c6, c7, c8⟩ := (hc k hlt2).later hlt hb
    have hKr := hK.later hb
    have hgk : l[k] = l.getD k default := by rw [List.getD_eq_getElem?_getD, List.getElem?_eq_getElem hlt2]; rfl
    clear hc
    have hcall := hcl (l.getD k default) wr hKr
    generalize l.getD k default = it at *
    cases hq : p it with
    | true =>
     have C : Hid (l.findIdx p = k) := by
      show l.findIdx p = k
      refine (List.findIdx_eq hlt2).2 ⟨by rw [hgk]; exact hq, fun j hj => ?_⟩
      have := List.not_of_lt_findIdx (p := p) (xs := l) (i := j) (Nat.lt_of_lt_of_le hj A.out)
      simpa using this
     rw [hq] at hcall
     clear hq hgk hcl
     go_wp2_with (go_at_call 114; refine hcall.mono ?_; rintro e w' ⟨rfl, hb2⟩)
     go_ret
     exact ⟨ret_i64 (by rw [EI.out, C.out, if_pos hlt2]), hb.trans (hb2.mono hb.size)⟩
    | false =>
     have D : Hid (k + 1 ≤ l.findIdx p) := by
      show k + 1 ≤ l.findIdx p
      rcases Nat.lt_or_ge k (l.findIdx p) with h | h
      · exact h
      · have e : l.findIdx p = k := Nat.le_antisymm h A.out
        have := List.findIdx_getElem (p := p) (xs := l) (w := by omega)
        have e2 : l[List.findIdx p l]'(by omega) = l[k] := by congr 1
        rw [e2, hgk, hq] at this
        cases this
     rw [hq] at hcall
     clear hq hgk hcl
     go_wp2_with (go_at_call 114; refine hcall.mono ?_; rintro e w' ⟨rfl, hb2⟩)
     go_roundw
     case rel => exact ⟨k + 1, by omega, by go_num, D, hb.trans (hb2.mono hb.size)⟩
     case measure => simp [intOf]; omega
  · have hltz : ¬ (k : Int) < (l.length : Int) := by omega
    have C : Hid (¬ l.findIdx p < l.length) := by have := A.out; show ¬ _; omega
    clear hmem hcl
    go_wp2
    go_ret
    exact ⟨ret_i64 (by rw [EI.out, if_neg C.out]), hb⟩

set_option maxHeartbeats 4000000 in
set_option maxRecDepth 100000 in
theorem delT_any (p : ItemR → Bool) (tK : TypeId) (K : Nat) (csK : Array Value) (hcl : ClosT p tK K csK) (l : List ItemR) (v : Value) (w : World) (hR : RowIt w v l) (hK : TB tK w K csK) (hKv : v.ownBlock ≠ some K) (hl : l.length ≤ 1000) :
 Calls Tryz.prog 113 #[v, .func (.func 114) #[] #[.pointer (some ⟨K, 0, none⟩)]] w fun e w' => ∃ v', e = .returned v' ∧ RowIt w' v' (l.filter fun it => !(p it)) ∧ w.grownBy w' v.ownBlock ∧ v'.ownBlock = v.ownBlock := by
 obtain ⟨a, c, rfl, hA⟩ := hR.items (by unfold maxLen; omega)
 have hidx := idxT_any p tK K csK hcl l a c w hA hK
 by_cases hno : l.findIdx p < l.length
 · obtain ⟨g, cap, hv, cur0, hg0, hcap, hcm, hcs, ht0⟩ := hR.block (by omega)
   have hgl : g < w.heap.size := (Array.getElem?_eq_some_iff.1 hg0).1
   have hKg : K ≠ g := fun e => hKv (by rw [hv, e]; rfl)
   obtain ⟨rfl, rfl⟩ : a = some ⟨g, 0, none⟩ ∧ c = cap := by simp at hv; exact hv
   have hidx2 : idxV p l = ((l.findIdx p : Nat) : Int) := by unfold idxV; rw [if_pos hno]
   rw [hidx2] at hidx
   have S0 : DelAt p l g c (l.findIdx p) (l.findIdx p + 1) cur0 := DelAt.start p l g c cur0 hcap hcs ht0 hno
   have hcm2 : c ≤ 9223372036854775807 := by unfold maxLen at hcm; exact hcm
   have hm1 : ((l.findIdx p : Nat) : Int) ≤ 1000 := by omega
   have hm2 : (0 : Int) ≤ ((l.findIdx p : Nat) : Int) := by omega
   have hne1 : (((l.findIdx p : Nat) : Int) == -1) = false := by rw [beq_eq_false_iff_ne]; omega
   have hil := hno
   generalize hi0 : l.findIdx p = i0 at *
   clear hidx2
   unfold ClosT at hcl
   go_enter Tryz.func113, Tryz.ntmps113
   go_wp2_with (go_at_call 21; refine hidx.mono ?_; rintro e w1 ⟨rfl, hb1⟩)
   have hg1 : w1.heap[g]? = some (.cells cur0 62 (0, 0)) := by rw [hb1.block g hgl]; exact hg0
   have F1 : w.grownBy w1 (some g) := ⟨hb1.os, hb1.tape, hb1.output, hb1.size, fun k hk _ => hb1.block k hk⟩
   have K1 := hK.later hb1
   clear hidx hg0 hK hb1
   go_loopw [5, 6] (fun i j wr => ∃ (ii jj : Nat) (cur : Array Value), i = .int .i64 ii ∧ j = .int .i64 jj ∧ DelAt p l g c ii jj cur ∧ wr.heap[g]? = some (.cells cur 62 (0, 0)) ∧ w.grownBy wr (some g) ∧ TB tK wr K csK) (fun _ j _ => l.length - (intOf j).toNat)
   case atStart => exact ⟨i0, i0 + 1, cur0, rfl, by simp, S0, hg1, F1, K1⟩
   case round =>
    clear S0 hg1 F1 K1
    obtain ⟨ii, jj, cur, rfl, rfl, hD, hg, hF, hKr⟩ := hrel
    obtain ⟨hij, hjl, hsz, hD1, hD2⟩ := hD.facts
    have hT : TB 62 wr g cur := hg
    by_cases hlt : jj < l.length
    · have hltz : (jj : Int) < (l.length : Int) := by omega
      have hj0 : (0 : Int) ≤ (jj : Int) := Int.natCast_nonneg _
      have hj1 : (jj : Int) ≤ 1000 := by omega
      have hi0' : (0 : Int) ≤ (ii : Int) := Int.natCast_nonneg _
      have hi1' : (ii : Int) < (l.length : Int) := by omega
      have hi2' : (ii : Int) ≤ 1000 := by omega
      have hgr := hT.lt
      have hD0 := hD
      have hrow := hD.rest jj (Nat.le_refl _) hlt
      have e0 := hrow 0 (by omega)
      have e1 := hrow 1 (by omega)
      have e2 := hrow 2 (by omega)
      have e3 := hrow 3 (by omega)
      have e4 := hrow 4 (by omega)
      have e5 := hrow 5 (by omega)
      have e6 := hrow 6 (by omega)
      have e7 := hrow 7 (by omega)
      have e8 := hrow 8 (by omega)
      have hnext := fun h => hD0.drop h hlt
      have hkeep := fun h => hD0.keep h hlt
      clear hrow hD hD0
      generalize l.getD jj default = it at *
      simp only [itemCells, Nat.add_zero] at e0 e1 e2 e3 e4 e5 e6 e7 e8
      have c0 : wr.cell? ⟨g, jj * 9, none⟩ = some (.string it.key) := by rw [hT.cell]; exact e0
      have c1 : wr.cell? ⟨g, jj * 9 + 1, none⟩ = some (.int .i64 it.flags) := by rw [hT.cell]; exact e1
      have c2 : wr.cell? ⟨g, jj * 9 + 2, none⟩ = some (.int .i64 it.until_) := by rw [hT.cell]; exact e2
      have c3 : wr.cell? ⟨g, jj * 9 + 3, none⟩ = some (.int .i64 it.cas) := by rw [hT.cell]; exact e3
      have c4 : wr.cell? ⟨g, jj * 9 + 4, none⟩ = some (.int .i64 it.used) := by rw [hT.cell]; exact e4
      have c5 : wr.cell? ⟨g, jj * 9 + 5, none⟩ = some (.string it.value) := by rw [hT.cell]; exact e5
      have c6 : wr.cell? ⟨g, jj * 9 + 6, none⟩ = some (.bool it.far) := by rw [hT.cell]; exact e6
      have c7 : wr.cell? ⟨g, jj * 9 + 7, none⟩ = some (.int .i64 it.page) := by rw [hT.cell]; exact e7
      have c8 : wr.cell? ⟨g, jj * 9 + 8, none⟩ = some (.int .i64 it.at_) := by rw [hT.cell]; exact e8
      have A1 : Below wr.heap.size wr (wr.alloc (.cells #[.string it.key, .int .i64 it.flags, .int .i64 it.until_, .int .i64 it.cas, .int .i64 it.used, .string it.value, .bool it.far, .int .i64 it.page, .int .i64 it.at_] 62)) := (Below.refl _ _).alloc (Nat.le_refl _) _
      have T1 := hT.later A1
      have B1 := TB.new 62 wr #[.string it.key, .int .i64 it.flags, .int .i64 it.until_, .int .i64 it.cas, .int .i64 it.used, .string it.value, .bool it.far, .int .i64 it.page, .int .i64 it.at_]
      have K1 := hKr.later A1
      have F1 : w.grownBy (wr.alloc (.cells #[.string it.key, .int .i64 it.flags, .int .i64 it.until_, .int .i64 it.cas, .int .i64 it.used, .string it.value, .bool it.far, .int .i64 it.page, .int .i64 it.at_] 62)) (some g) := hF.trans ⟨A1.os, A1.tape, A1.output, A1.size, fun k hk _ => A1.block k hk⟩
      have hcall := hcl it _ K1
      clear e0 e1 e2 e3 e4 e5 e6 e7 e8 hg hT hKr hF A1
      cases hq : p it with
      | true =>
       have hN := hnext hq
       rw [hq] at hcall
       clear hq hnext hkeep hcl
       go_wp2_with fail
       refine hcall.mono ?_
       rintro e w2 ⟨rfl, hb2⟩
       have T2 := T1.later hb2
       have K2 := K1.later hb2
       have F2 : w.grownBy w2 (some g) := F1.trans ⟨hb2.os, hb2.tape, hb2.output, hb2.size, fun k hk _ => hb2.block k hk⟩
       go_wp2_with fail
       exact ⟨⟨ii, jj + 1, cur, rfl, by simp, hN, T2, F2, K2⟩, by simp [intOf]; omega⟩
      | false =>
       have hN := hkeep hq
       rw [hq] at hcall
       clear hq hnext hkeep hcl
       go_wp2_with fail
       refine hcall.mono ?_
       rintro e w2 ⟨rfl, hb2⟩
       have T2 := T1.later hb2
       have K2 := K1.later hb2
       have B2 := B1.later hb2
       have F2 : w.grownBy w2 (some g) := F1.trans ⟨hb2.os, hb2.tape, hb2.output, hb2.size, fun k hk _ => hb2.block k hk⟩
       have x2 := fun j => B2.cell j
       have lx2 := B2.lt
       have u2 := fun j => T2.frozen j
       have v2 := T2.lt
       have hsz9 : ii * 9 + 9 ≤ cur.size := by rw [hsz]; omega
       have r0 : w2.cell? ⟨g, ii * 9, none⟩ = some (cur[ii * 9]'(by omega)) := by rw [T2.cell, Array.getElem?_eq_getElem]
       have r1 : w2.cell? ⟨g, ii * 9 + 1, none⟩ = some (cur[ii * 9 + 1]'(by omega)) := by rw [T2.cell, Array.getElem?_eq_getElem]
       have r2 : w2.cell? ⟨g, ii * 9 + 2, none⟩ = some (cur[ii * 9 + 2]'(by omega)) := by rw [T2.cell, Array.getElem?_eq_getElem]
       have r3 : w2.cell? ⟨g, ii * 9 + 3, none⟩ = some (cur[ii * 9 + 3]'(by omega)) := by rw [T2.cell, Array.getElem?_eq_getElem]
       have r4 : w2.cell? ⟨g, ii * 9 + 4, none⟩ = some (cur[ii * 9 + 4]'(by omega)) := by rw [T2.cell, Array.getElem?_eq_getElem]
       have r5 : w2.cell? ⟨g, ii * 9 + 5, none⟩ = some (cur[ii * 9 + 5]'(by omega)) := by rw [T2.cell, Array.getElem?_eq_getElem]
       have r6 : w2.cell? ⟨g, ii * 9 + 6, none⟩ = some (cur[ii * 9 + 6]'(by omega)) := by rw [T2.cell, Array.getElem?_eq_getElem]
       have r7 : w2.cell? ⟨g, ii * 9 + 7, none⟩ = some (cur[ii * 9 + 7]'(by omega)) := by rw [T2.cell, Array.getElem?_eq_getElem]
       have r8 : w2.cell? ⟨g, ii * 9 + 8, none⟩ = some (cur[ii * 9 + 8]'(by omega)) := by rw [T2.cell, Array.getElem?_eq_getElem]
       have hs9 := set9_laid (g := g) T2 ii it
       have hs9F : w.grownBy (set9 w2 g ii it) (some g) := F2.trans (set9_grown w2 g ii it)
       have hs9K : TB tK (set9 w2 g ii it) K csK := set9_far K2 ii it hKg
       unfold set9 at hs9 hs9F hs9K
       clear T1 K1 B1 F1 T2 K2 B2 F2 c0 c1 c2 c3 c4 c5 c6 c7 c8
       go_wp2_with fail
       exact ⟨⟨ii + 1, jj + 1, laid9 cur ii it, by simp, by simp, hN, hs9, hs9F, hs9K⟩, by simp [intOf]; omega⟩
    · have hje : jj = l.length := by omega
      have hltz : ¬ (jj : Int) < (l.length : Int) := by omega
      have hcz : ¬ c = ii := by omega
      have hz1 : (ii : Int) ≤ (l.length : Int) := by omega
      have hz2 : (0 : Int) ≤ (ii : Int) := Int.natCast_nonneg _
      have hz3 : (ii : Int) ≤ (c : Int) := by omega
      have hzl : (Builtin.zeroCells (Value.agg #[.string ByteArray.empty, .int .i64 0, .int .i64 0, .int .i64 0, .int .i64 0, .string ByteArray.empty, .bool false, .int .i64 0, .int .i64 0]).cells (l.length - ii)).toList.length = (l.length - ii) * 9 := by simp [Builtin.zeroCells, Value.cells]
      have hfit : ii * 9 + (l.length - ii) * 9 ≤ cur.size := by rw [hsz]; omega
      have hclr : ∀ ty, (Builtin.clear_ #[24] ty #[.slice (some ⟨g, ii * 9, none⟩) (l.length - ii) (c - ii)]).run Tryz.prog wr = .ok (.tuple #[]) (wr.setCells g (ii * 9) (Builtin.zeroCells (Value.agg #[.string ByteArray.empty, .int .i64 0, .int .i64 0, .int .i64 0, .int .i64 0, .string ByteArray.empty, .bool false, .int .i64 0, .int .i64 0]).cells (l.length - ii)).toList) :=
       fun ty => run_clear_row wr 24 62 ty _ Tryz.underlying24 zeroItem (by intro u hu; simp [Value.cells] at hu; rcases hu with rfl | rfl | rfl | rfl | rfl | rfl | rfl | rfl | rfl <;> rfl) g _ (l.length - ii) _ (by omega) (fun j hj => (row_there hg _ (by have : j < (l.length - ii) * 9 := hj; omega)).1) (fun j hj => (row_there hg _ (by have : j < (l.length - ii) * 9 := hj; omega)).2)
      have hend : Hid (RowIt (wr.setCells g (ii * 9) (Builtin.zeroCells (Value.agg #[.string ByteArray.empty, .int .i64 0, .int .i64 0, .int .i64 0, .int .i64 0, .string ByteArray.empty, .bool false, .int .i64 0, .int .i64 0]).cells (l.length - ii)).toList) (.slice (some ⟨g, 0, none⟩) ii c) (l.filter fun it => !(p it)) ∧ w.grownBy (wr.setCells g (ii * 9) (Builtin.zeroCells (Value.agg #[.string ByteArray.empty, .int .i64 0, .int .i64 0, .int .i64 0, .int .i64 0, .string ByteArray.empty, .bool false, .int .i64 0, .int .i64 0]).cells (l.length - ii)).toList) (some g)) := by
       refine ⟨?_, hF.trans (setCells_grown g _ _ wr)⟩
       have hlen := hD.len
       have hhead := hD.head
       rw [hje, List.take_length] at hlen hhead
       have hrow := setCells_row (Builtin.zeroCells (Value.agg #[.string ByteArray.empty, .int .i64 0, .int .i64 0, .int .i64 0, .int .i64 0, .string ByteArray.empty, .bool false, .int .i64 0, .int .i64 0]).cells (l.length - ii)).toList (ii * 9) wr cur hg (by rw [hzl]; omega)
       unfold RowIt
       rw [hlen]
       refine owns_shorter (Nat.zero_le _) hrow (by omega) hcm (by rw [laid_size (by rw [hzl]; omega), hsz]) ?_
       rw [← hhead]
       apply List.ext_getElem?
       intro q
       by_cases hq : q < ii * 9
       · rw [List.getElem?_take_of_lt hq, Array.getElem?_toList, laid_get (by rw [hzl]; omega), if_pos hq, List.getElem?_take_of_lt hq, Array.getElem?_toList]
       · rw [List.getElem?_eq_none (by rw [List.length_take]; omega), List.getElem?_eq_none (by rw [List.length_take]; omega)]
      clear hcl hD hT hg hF hKr hzl
      subst hje
      go_wp2_with fail
      go_ret
      exact ⟨_, rfl, hend.out.1, hend.out.2, rfl⟩
 · have hidx2 : idxV p l = -1 := by unfold idxV; rw [if_neg hno]
   rw [hidx2] at hidx
   have hfl : (l.filter fun it => !(p it)) = l := by
    rw [List.filter_eq_self]
    intro x hx
    obtain ⟨q, hq, rfl⟩ := List.getElem_of_mem hx
    have hge : q < l.findIdx p := by have := List.findIdx_le_length (p := p) (xs := l); omega
    have := List.not_of_lt_findIdx (p := p) (xs := l) (i := q) hge
    simpa using this
   rw [hfl]
   clear hno hidx2 hfl hcl
   go_enter Tryz.func113, Tryz.ntmps113
   go_wp2_with (go_at_call 21; refine hidx.mono ?_; rintro e w1 ⟨rfl, hb1⟩)
   go_ret
   exact ⟨_, rfl, hR.later hb1, ⟨hb1.os, hb1.tape, hb1.output, hb1.size, fun k hk _ => hb1.block k hk⟩, rfl⟩

/- A store that is the callee's own, behind a pointer; takeAway. -/

/-- The pages lie in blocks of O: what changes elsewhere does not matter. -/
def PgIn (O : Nat → Prop) (w : World) (a : Option Addr) (ps : List PageR) : Prop := ∀ w' : World, w.heap.size ≤ w'.heap.size → (∀ b, O b → b < w.heap.size → w'.heap[b]? = w.heap[b]?) → PagesAt w' a ps
theorem PgIn.kept {O : Nat → Prop} {w w' : World} {a : Option Addr} {ps : List PageR} (h : PgIn O w a ps) (hs : w.heap.size ≤ w'.heap.size) (hk : ∀ b, O b → b < w.heap.size → w'.heap[b]? = w.heap[b]?) : PgIn O w' a ps :=
 fun w2 h1 h2 => h w2 (Nat.le_trans hs h1) fun b hb hl => by rw [h2 b hb (Nat.lt_of_lt_of_le hl hs)]; exact hk b hb hl

def stCells (s : StoreR) (iv : Value) (pa : Option Addr) (pc : Nat) : Array Value := #[.int .i64 s.clock, .int .i64 s.cas, .int .i64 s.uses, .int .i64 s.most, .int .i64 s.h0, .int .i64 s.h1, .int .i64 s.h2, .int .i64 s.h3, iv, .int .i64 s.fm, .int .i64 s.fx, .slice pa s.pages.length pc]

/-- The store s in the box B; its items in a row of their own, its pages; all in blocks of O. -/
structure StAt (O : Nat → Prop) (w : World) (B : Nat) (s : StoreR) (iv : Value) (pa : Option Addr) (pc : Nat) (Op : Nat → Prop) : Prop where
 box : TB 29 w B (stCells s iv pa pc)
 row : RowIt w iv s.items
 pages : PgIn Op w pa s.pages
 apart : ∀ b, Op b → O b ∧ b ≠ B ∧ iv.ownBlock ≠ some b
 rowO : ∀ g, iv.ownBlock = some g → O g ∧ g ≠ B
 boxO : O B
 lt : ∀ b, O b → b < w.heap.size
/-- Some such store. -/
def StO (O : Nat → Prop) (w : World) (B : Nat) (s : StoreR) : Prop := ∃ iv pa pc Op, StAt O w B s iv pa pc Op
/-- Behind a call that changes the store: it is s' now, in its old blocks or new ones; nothing else has changed. -/
def StPost (O : Nat → Prop) (w : World) (B : Nat) (s' : StoreR) (w' : World) : Prop := (∃ O', StO O' w' B s' ∧ ∀ b, O' b → O b ∨ w.heap.size ≤ b) ∧ Fr O w w'

theorem StAt.kept {O : Nat → Prop} {w w' : World} {B : Nat} {s : StoreR} {iv : Value} {pa : Option Addr} {pc : Nat} {Op : Nat → Prop} (h : StAt O w B s iv pa pc Op) (hs : w.heap.size ≤ w'.heap.size) (hk : ∀ b, O b → b < w.heap.size → w'.heap[b]? = w.heap[b]?) : StAt O w' B s iv pa pc Op where
 box := by have := h.box; unfold TB at *; rw [hk B h.boxO h.box.lt]; exact this
 row := h.row.kept fun b hb hl => hk b (h.rowO b hb).1 hl
 pages := h.pages.kept hs fun b hb hl => hk b (h.apart b hb).1 hl
 apart := h.apart
 rowO := h.rowO
 boxO := h.boxO
 lt := fun b hb => Nat.lt_of_lt_of_le (h.lt b hb) hs
theorem StAt.later {O : Nat → Prop} {w w' : World} {B : Nat} {s : StoreR} {iv : Value} {pa : Option Addr} {pc : Nat} {Op : Nat → Prop} (h : StAt O w B s iv pa pc Op) (hb : Below w.heap.size w w') : StAt O w' B s iv pa pc Op := h.kept hb.size fun b _ hl => hb.block b hl
theorem StO.later {O : Nat → Prop} {w w' : World} {B : Nat} {s : StoreR} (h : StO O w B s) (hb : Below w.heap.size w w') : StO O w' B s := by
 obtain ⟨iv, pa, pc, Op, h⟩ := h
 exact ⟨iv, pa, pc, Op, h.later hb⟩
theorem StO.fr {O O' : Nat → Prop} {w w' : World} {B : Nat} {s : StoreR} (h : StO O w B s) (hf : Fr O' w w') (ho : ∀ b, O b → ¬ O' b) : StO O w' B s := by
 obtain ⟨iv, pa, pc, Op, h⟩ := h
 exact ⟨iv, pa, pc, Op, h.kept hf.size fun b hb hl => hf.block b hl (ho b hb)⟩
theorem StPost.same {O : Nat → Prop} {w w' : World} {B : Nat} {s : StoreR} (h : StO O w B s) (hb : Below w.heap.size w w') : StPost O w B s w' := ⟨⟨O, h.later hb, fun b hb => Or.inl hb⟩, Fr.of_below hb⟩
theorem StPost.trans {O : Nat → Prop} {w w1 w2 : World} {B : Nat} {s1 s2 : StoreR} (h : StPost O w B s1 w1) (k : ∀ O', StO O' w1 B s1 → (∀ b, O' b → O b ∨ w.heap.size ≤ b) → StPost O' w1 B s2 w2) : StPost O w B s2 w2 := by
 obtain ⟨⟨O1, h1, h2⟩, h3⟩ := h
 obtain ⟨⟨O2, k1, k2⟩, k3⟩ := k O1 h1 h2
 refine ⟨⟨O2, k1, fun b hb => ?_⟩, h3.trans k3 h2⟩
 rcases k2 b hb with q | q
 · exact h2 b q
 · exact Or.inr (Nat.le_trans h3.size q)

/-- Another row of items. -/
theorem StAt.items {O O' : Nat → Prop} {w w' : World} {B : Nat} {s : StoreR} {iv iv' : Value} {pa : Option Addr} {pc : Nat} {Op : Nat → Prop} (h : StAt O w B s iv pa pc Op) (l : List ItemR) (hR : RowIt w' iv' l) (hF : Fr (fun b => iv.ownBlock = some b) w w') (hv : ∀ g, iv'.ownBlock = some g → iv.ownBlock = some g ∨ w.heap.size ≤ g) (ho : ∀ b, O b → O' b) (hi : ∀ g, iv'.ownBlock = some g → O' g) (hl : ∀ b, O' b → b < w'.heap.size) :
 StAt O' (w'.setCell ⟨B, 8, none⟩ iv') B { s with items := l } iv' pa pc Op where
 box := by
  have h1 : TB 29 w' B (stCells s iv pa pc) := hF.tb h.box (fun e => (h.rowO B e).2 rfl)
  exact h1.set 8 iv'
 row := hR.kept fun b hb _ => heap_setCell_other w' ⟨B, 8, none⟩ b iv' (show b ≠ B by
  rcases hv b hb with e | e
  · exact (h.rowO b e).2
  · have := h.box.lt; omega)
 pages := by
  have h1 : PgIn Op w' pa s.pages := h.pages.kept hF.size fun b hb hl => hF.block b hl (h.apart b hb).2.2
  exact h1.kept (by simp [World.setCell]) fun b hb _ => heap_setCell_other w' ⟨B, 8, none⟩ b iv' (h.apart b hb).2.1
 apart := fun b hb => ⟨ho b (h.apart b hb).1, (h.apart b hb).2.1, fun e => by
  rcases hv b e with q | q
  · exact (h.apart b hb).2.2 q
  · have := h.lt b (h.apart b hb).1; omega⟩
 rowO := fun g hg => ⟨hi g hg, by
  rcases hv g hg with q | q
  · exact (h.rowO g q).2
  · have := h.box.lt; omega⟩
 boxO := ho B h.boxO
 lt := fun b hb => by have := hl b hb; simpa [World.setCell] using this

/-- Two keys. -/
def keq (a b : ByteArray) : Bool := a.toList == b.toList

set_option maxHeartbeats 400000 in
theorem take1_any (key : ByteArray) (K : Nat) : ClosT (fun it => keq it.key key) 9 K #[.string key] := by
 intro it w hK
 have x := hK.cell 0
 have l := hK.lt
 have hB0 : ∀ o, Below w.heap.size w (w.alloc o) := fun o => (Below.refl _ _).alloc (Nat.le_refl _) _
 simp at x
 go_enter Tryz.func114, Tryz.ntmps114
 go_wp2
 go_ret
 exact ⟨rfl, hB0 _⟩

/-- The items but that of a key. -/
def takeN (s : StoreR) (key : ByteArray) : StoreR := { s with items := s.items.filter fun it => !(keq it.key key) }

set_option maxHeartbeats 1000000 in
set_option maxRecDepth 100000 in
theorem takeAway_any (O : Nat → Prop) (s : StoreR) (B : Nat) (key : ByteArray) (w : World) (h : StO O w B s) (hl : s.items.length ≤ 1000) :
 Calls Tryz.prog 85 #[.pointer (some ⟨B, 0, none⟩), .string key] w fun e w' => e = .returned (.tuple #[]) ∧ StPost O w B (takeN s key) w' := by
 obtain ⟨iv, pa, pc, Op, h⟩ := h
 have A1 : Below w.heap.size w (w.alloc (.cells #[.string key] 9)) := (Below.refl _ _).alloc (Nat.le_refl _) _
 have h1 := h.later A1
 have K1 := TB.new 9 w #[.string key]
 have hd := delT_any _ 9 w.heap.size #[.string key] (take1_any key w.heap.size) s.items iv _ h1.row K1 (fun e => by have := h.lt _ (h.rowO _ e).1; omega) hl
 have x := fun j => h1.box.cell j
 have l := h1.box.lt
 unfold stCells at x
 go_enter Tryz.func85, Tryz.ntmps85
 go_wp2_with fail
 refine hd.mono ?_
 rintro e w1 ⟨iv', rfl, hR', hg, hv'⟩
 have h2 := h1.items (w' := w1) (O' := O) _ hR' (Fr.of_grown hg (fun g hg => Or.inl hg)) (fun g hg => Or.inl (by rw [← hv']; exact hg)) (fun b hb => hb) (fun g hg => (h1.rowO g (by rw [← hv']; exact hg)).1) (fun b hb => Nat.lt_of_lt_of_le (h1.lt b hb) hg.size)
 have hF1 : Fr O w w1 := (Fr.of_below A1).trans (Fr.of_grown hg (fun g hg => Or.inl hg)) (fun b hb => Or.inl (h1.rowO b hb).1)
 have T1 : TB 29 w1 B (stCells s iv pa pc) := grown_tb hg h1.box (fun e => (h1.rowO _ e).2 rfl)
 have x1 := fun j => T1.cell j
 have f1 := fun j => T1.frozen j
 have l1 := T1.lt
 obtain ⟨va, vn, vc, rfl⟩ : ∃ va vn vc, iv' = .slice va vn vc := by
  rcases hR'.2 with ⟨h0, _⟩ | ⟨g, cap, cur, hv, _⟩
  · exact ⟨none, 0, 0, h0⟩
  · exact ⟨_, _, _, hv⟩
 unfold stCells at x1
 go_wp2_with fail
 refine bodyPost_end (v := .tuple #[]) ?_ rfl ⟨rfl, ⟨O, ⟨_, _, _, _, h2⟩, fun b hb => Or.inl hb⟩, hF1.set 8 _ (Or.inl h.boxO)⟩
 simp [results, Tryz.results85, go_sem]

/- sort.Search over items; placeOf; ask; until. -/

/-- Is a key ahead of another one? -/
def ltK (a b : ByteArray) : Bool := Op.bytesLess a.toList b.toList
/-- Is the item with number i not ahead of a key? -/
def geI (l : List ItemR) (key : ByteArray) (i : Nat) : Bool := !(ltK (l.getD i default).key key)

theorem items_lt {w : World} {a : Option Addr} {l : List ItemR} (h : ItemsAt w a l) (i : Nat) (hi : i < l.length) : ∃ b o, a = some ⟨b, o, none⟩ ∧ b < w.heap.size ∧ w.cell? ⟨b, o + i * 9, none⟩ = some (.string (l.getD i default).key) := by
 rcases h.2 with h0 | ⟨b, o, ha, hb, hc⟩
 · omega
 · exact ⟨b, o, ha, hb, (hc i hi).1⟩

set_option maxHeartbeats 400000 in
theorem place1_any (l : List ItemR) (key : ByteArray) (i : Nat) (a : Option Addr) (c I K : Nat) (w : World) (hA : ItemsAt w a l) (hI : TB 24 w I #[.slice a l.length c]) (hK : TB 9 w K #[.string key]) (hi : i < l.length) :
 Calls Tryz.prog 131 #[.int .i64 i, .pointer (some ⟨I, 0, none⟩), .pointer (some ⟨K, 0, none⟩)] w fun e w' => e = .returned (.bool (geI l key i)) ∧ Below w.heap.size w w' := by
 obtain ⟨b, o, rfl, hb, hc⟩ := items_lt hA i hi
 have xI := hI.cell 0
 have xK := hK.cell 0
 have lI := hI.lt
 have lK := hK.lt
 have hmax := hA.1
 unfold maxLen at hmax
 simp at xI xK
 have hz0 : (0 : Int) ≤ (i : Int) := Int.natCast_nonneg _
 have hz1 : (i : Int) < (l.length : Int) := by omega
 have E : Hid (geI l key i = !(Op.bytesLess (l.getD i default).key.toList key.toList)) := rfl
 generalize geI l key i = R at *
 generalize (l.getD i default).key = k0 at *
 go_enter Tryz.func131, Tryz.ntmps131
 go_wp2_with fail
 go_quiet (fail)
 go_wp2
 go_ret
 exact ⟨ret_bool E.out.symm, drewN_below w nq⟩

/-- What a search has found. -/
def Found (q : Nat → Bool) (n k : Nat) : Prop := k ≤ n ∧ (∀ i, i < k → q i = false) ∧ ∀ i, k ≤ i → i < n → q i = true

set_option maxHeartbeats 2000000 in
set_option maxRecDepth 100000 in
theorem search_any (l : List ItemR) (key : ByteArray) (a : Option Addr) (c I K : Nat) (w : World) (hA : ItemsAt w a l) (hI : TB 24 w I #[.slice a l.length c]) (hK : TB 9 w K #[.string key]) (hm : ∀ i j, i ≤ j → j < l.length → geI l key i = true → geI l key j = true) (hl : l.length ≤ 1000) :
 Calls Tryz.prog 130 #[.int .i64 l.length, .func (.func 131) #[] #[.pointer (some ⟨I, 0, none⟩), .pointer (some ⟨K, 0, none⟩)]] w fun e w' => ∃ k : Nat, e = .returned (.int .i64 k) ∧ Found (geI l key) l.length k ∧ Below w.heap.size w w' := by
 go_enter Tryz.func130, Tryz.ntmps130
 go_wp2_with fail
 go_loopw [5, 6] (fun i j wr => ∃ lo hi : Nat, i = .int .i64 lo ∧ j = .int .i64 hi ∧ lo ≤ hi ∧ hi ≤ l.length ∧ (∀ i, i < lo → geI l key i = false) ∧ (∀ i, hi ≤ i → i < l.length → geI l key i = true) ∧ Below w.heap.size w wr) (fun i j _ => (intOf j).toNat - (intOf i).toNat)
 case atStart => exact ⟨0, l.length, rfl, rfl, Nat.zero_le _, Nat.le_refl _, fun i hi => absurd hi (Nat.not_lt_zero _), fun i h1 h2 => by omega, Below.refl _ _⟩
 case round =>
  obtain ⟨lo, hi, rfl, rfl, h1, h2, h3, h4, hb⟩ := hrel
  by_cases hlt : lo < hi
  · have hltz : (lo : Int) < (hi : Int) := by omega
    have hq0 : (0 : Int) ≤ (lo : Int) := Int.natCast_nonneg _
    have hq1 : (hi : Int) ≤ 1000 := by omega
    have hmid : (lo + hi) / 2 < hi ∧ lo ≤ (lo + hi) / 2 := by omega
    have hcall := place1_any l key ((lo + hi) / 2) a c I K wr (hA.later hb) (hI.later hb) (hK.later hb) (by omega)
    have hdz : ((lo : Int) + (hi : Int)) / 2 = (((lo + hi) / 2 : Nat) : Int) := by omega
    generalize hM : (lo + hi) / 2 = M at *
    cases hg : geI l key M
    · rw [hg] at hcall
      have h3' : Hid (∀ i, i < M + 1 → geI l key i = false) := fun i hi' => by
       cases hgi : geI l key i
       · rfl
       · have := hm i M (by omega) (by omega) hgi
         rw [hg] at this
         cases this
      clear hm h3
      go_wp2_with fail
      refine hcall.mono ?_
      rintro e w2 ⟨rfl, hb2⟩
      go_wp2_with fail
      exact ⟨⟨M + 1, hi, by simp, rfl, by omega, h2, h3'.out, h4, hb.trans (hb2.mono hb.size)⟩, by simp [intOf]; omega⟩
    · rw [hg] at hcall
      have h4' : Hid (∀ i, M ≤ i → i < l.length → geI l key i = true) := fun i h5 h6 => hm M i h5 h6 hg
      clear hm h4
      go_wp2_with fail
      refine hcall.mono ?_
      rintro e w2 ⟨rfl, hb2⟩
      go_wp2_with fail
      exact ⟨⟨lo, M, rfl, rfl, hmid.2, by omega, h3, h4'.out, hb.trans (hb2.mono hb.size)⟩, by simp [intOf]; omega⟩
  · have hltz : ¬ (lo : Int) < (hi : Int) := by omega
    have he : lo = hi := by omega
    subst he
    have hF : Hid (Found (geI l key) l.length lo) := ⟨h2, h3, h4⟩
    clear hm h3 h4
    go_wp2
    go_ret
    exact ⟨lo, rfl, hF.out, hb⟩

theorem Found.unique {q : Nat → Bool} {n k k' : Nat} (h : Found q n k) (h' : Found q n k') : k = k' := by
 obtain ⟨a1, a2, a3⟩ := h
 obtain ⟨b1, b2, b3⟩ := h'
 rcases Nat.lt_trichotomy k k' with h | h | h
 · have := b2 k h; rw [a3 k (Nat.le_refl _) (by omega)] at this; cases this
 · exact h
 · have := a2 k' h; rw [b3 k' (Nat.le_refl _) (by omega)] at this; cases this

/-- Where the item of a key stands, or would stand. -/
def placeN (l : List ItemR) (key : ByteArray) : Nat := l.findIdx fun it => !(ltK it.key key)
def KeyMono (l : List ItemR) (key : ByteArray) : Prop := ∀ i j, i ≤ j → j < l.length → geI l key i = true → geI l key j = true

theorem placeN_found (l : List ItemR) (key : ByteArray) (hm : KeyMono l key) : Found (geI l key) l.length (placeN l key) := by
 have hle : placeN l key ≤ l.length := List.findIdx_le_length
 have hget : ∀ i (h : i < l.length), geI l key i = !(ltK l[i].key key) := fun i h => by unfold geI; rw [List.getD_eq_getElem?_getD, List.getElem?_eq_getElem h]; rfl
 refine ⟨hle, fun i hi => ?_, fun i h1 h2 => ?_⟩
 · have := List.not_of_lt_findIdx (p := fun it : ItemR => !(ltK it.key key)) (xs := l) (i := i) hi
   rw [hget i (by omega)]
   simpa using this
 · refine hm (placeN l key) i h1 h2 ?_
   have hlt : placeN l key < l.length := by omega
   rw [hget _ hlt]
   exact List.findIdx_getElem (p := fun it : ItemR => !(ltK it.key key)) (xs := l) (w := hlt)

set_option maxHeartbeats 1000000 in
set_option maxRecDepth 100000 in
theorem placeOf_any (l : List ItemR) (key : ByteArray) (a : Option Addr) (c : Nat) (w : World) (hA : ItemsAt w a l) (hm : KeyMono l key) (hl : l.length ≤ 1000) :
 Calls Tryz.prog 111 #[.slice a l.length c, .string key] w fun e w' => e = .returned (.int .i64 (placeN l key)) ∧ Below w.heap.size w w' := by
 have A1 : Below w.heap.size w (w.alloc (.cells #[.slice a l.length c] 24)) := (Below.refl _ _).alloc (Nat.le_refl _) _
 have A2 : Below (w.alloc (.cells #[.slice a l.length c] 24)).heap.size (w.alloc (.cells #[.slice a l.length c] 24)) ((w.alloc (.cells #[.slice a l.length c] 24)).alloc (.cells #[.string key] 9)) := (Below.refl _ _).alloc (Nat.le_refl _) _
 have T1 := (TB.new 24 w #[.slice a l.length c]).later A2
 have T2 := TB.new 9 (w.alloc (.cells #[.slice a l.length c] 24)) #[.string key]
 rw [show (w.alloc (.cells #[.slice a l.length c] 24)).heap.size = w.heap.size + 1 by simp] at T2
 have A3 := A1.trans (A2.mono A1.size)
 have hs := search_any l key a c w.heap.size (w.heap.size + 1) _ (hA.later A3) T1 T2 hm hl
 have hP := placeN_found l key hm
 generalize placeN l key = P at *
 have hU : Hid (∀ k, Found (geI l key) l.length k → k = P) := fun k hk => hk.unique hP
 clear hm hP
 go_enter Tryz.func111, Tryz.ntmps111
 go_wp2_with fail
 refine hs.mono ?_
 rintro e w1 ⟨k, rfl, hF, hb⟩
 obtain rfl := hU.out k hF
 go_wp2
 go_ret
 exact ⟨rfl, A3.trans (hb.mono A3.size)⟩

set_option maxHeartbeats 400000 in
theorem until_any (c n : Int) (w : World) (h0 : 0 ≤ c) (h1 : c ≤ 1099511627776) (h2 : 0 ≤ n) (h3 : n ≤ 1099511627776) :
 Calls Tryz.prog 87 #[.int .i64 c, .int .i64 n] w fun e w' => e = .returned (.int .i64 (if n = 0 then 0 else min (c + n) 1099511627776)) ∧ w' = w := by
 by_cases hn : n = 0
 · subst hn
   rw [if_pos rfl]
   go_enter Tryz.func87, Tryz.ntmps87
   go_wp2
   go_ret
   exact ⟨rfl, rfl⟩
 · rw [if_neg hn]
   have hq : (n == 0) = false := by simpa using hn
   go_enter Tryz.func87, Tryz.ntmps87
   go_wp2
   all_goals
    go_ret
    exact ⟨ret_i64 (by omega), rfl⟩

/- store.find: the item of a key; one that is over is taken away. -/

/-- Whether an item is over. -/
def overB (s : StoreR) (it : ItemR) : Bool := it.until_ != 0 && decide (it.until_ ≤ s.clock)
/-- What find finds, and the store behind it. -/
def foundS (s : StoreR) (key : ByteArray) : StoreR × Int :=
 if placeN s.items key < s.items.length then
  if keq (s.items.getD (placeN s.items key) default).key key = true then
   if overB s (s.items.getD (placeN s.items key) default) = true then (takeN s key, -1) else (s, (placeN s.items key : Int))
  else (s, -1)
 else (s, -1)

theorem ItemsAt.item {w : World} {a : Option Addr} {l : List ItemR} (h : ItemsAt w a l) (i : Nat) (hi : i < l.length) : ∃ b o, a = some ⟨b, o, none⟩ ∧ b < w.heap.size ∧ ItemAt w b (o + i * 9) (l.getD i default) := by
 rcases h.2 with h0 | ⟨b, o, ha, hb, hc⟩
 · omega
 · exact ⟨b, o, ha, hb, hc i hi⟩

theorem StPost.front {O : Nat → Prop} {w w1 w2 : World} {B : Nat} {s : StoreR} (hb : Below w.heap.size w w1) (h : StPost O w1 B s w2) : StPost O w B s w2 := by
 obtain ⟨⟨O2, k1, k2⟩, k3⟩ := h
 exact ⟨⟨O2, k1, fun b hb2 => (k2 b hb2).imp id (fun q => Nat.le_trans hb.size q)⟩, (Fr.of_below hb).trans k3 (fun b hb2 => Or.inl hb2)⟩
theorem StPost.behind {O : Nat → Prop} {w w1 w2 : World} {B : Nat} {s : StoreR} (h : StPost O w B s w1) (hb : Below w1.heap.size w1 w2) : StPost O w B s w2 := by
 obtain ⟨⟨O1, k1, k2⟩, k3⟩ := h
 exact ⟨⟨O1, k1.later hb, k2⟩, k3.trans (Fr.of_below (O := O1) hb) k2⟩

set_option maxHeartbeats 2000000 in
set_option maxRecDepth 100000 in
theorem sfind_any (O : Nat → Prop) (s : StoreR) (B : Nat) (key : ByteArray) (w : World) (h : StO O w B s) (hl : s.items.length ≤ 1000) (hm : KeyMono s.items key) :
 Calls Tryz.prog 80 #[.pointer (some ⟨B, 0, none⟩), .string key] w fun e w' => e = .returned (.int .i64 (foundS s key).2) ∧ StPost O w B (foundS s key).1 w' := by
 have hS := h
 obtain ⟨iv, pa, pc, Op, h⟩ := h
 obtain ⟨a, c, e0, hA⟩ := h.row.items (by unfold maxLen; omega)
 subst e0
 have x := fun j => h.box.cell j
 have f := fun j => h.box.frozen j
 have hlB := h.box.lt
 unfold stCells at x
 have hp := placeOf_any s.items key a c w hA hm hl
 have hP := placeN_found s.items key hm
 have E : Hid (foundS s key = foundS s key) := rfl
 conv at E => arg 1; rhs; unfold foundS
 generalize foundS s key = R at *
 generalize placeN s.items key = P at *
 have hPle := hP.1
 clear hP hm
 by_cases hlt : P < s.items.length
 · obtain ⟨b, o, ea, hb, hI⟩ := hA.item P hlt
   subst ea
   have hne : ((P : Int) == (s.items.length : Int)) = false := by simp; omega
   have hz0 : (0 : Int) ≤ (P : Int) := Int.natCast_nonneg _
   have hz1 : (P : Int) < (s.items.length : Int) := by omega
   have E1 := E.out
   rw [if_pos hlt] at E1
   clear E
   generalize hit : s.items.getD P default = it at *
   by_cases hk : keq it.key key = true
   · rw [if_pos hk] at E1
     have hk1 : (it.key.toList == key.toList) = true := hk
     by_cases ho : overB s it = true
     · rw [if_pos ho] at E1
       have E2 : Hid (R = (takeN s key, -1)) := E1
       clear E1
       have hu : it.until_ ≠ 0 ∧ it.until_ ≤ s.clock := by unfold overB at ho; simpa using ho
       have hu1 : (it.until_ == 0) = false := by simp [hu.1]
       have hu2 := hu.2
       have hu3 := hu.1
       go_enter Tryz.func80, Tryz.ntmps80
       go_wp2_with fail
       refine hp.mono ?_
       rintro e w1 ⟨rfl, hb1⟩
       have hI1 := hI.later hb hb1
       have h1 := h.later hb1
       have y := fun j => h1.box.cell j
       have hlB1 := h1.box.lt
       have hbz : b < w1.heap.size := Nat.lt_of_lt_of_le hb hb1.size
       obtain ⟨i0, i1, i2, _⟩ := hI1
       have ht := takeAway_any O s B key w1 (hS.later hb1) hl
       unfold stCells at y
       clear hp x
       go_wp2_with fail
       refine ht.mono ?_
       rintro e w2 ⟨rfl, hq⟩
       go_wp2
       go_ret
       rw [E2.out]
       exact ⟨rfl, hq.front hb1⟩
     · rw [if_neg ho] at E1
       have E2 : Hid (R = (s, (P : Int))) := E1
       clear E1
       by_cases hu1 : it.until_ = 0
       · have hub2 : (it.until_ != 0) = false := by simp [hu1]
         go_enter Tryz.func80, Tryz.ntmps80
         go_wp2_with fail
         refine hp.mono ?_
         rintro e w1 ⟨rfl, hb1⟩
         have hI1 := hI.later hb hb1
         have h1 := h.later hb1
         have y := fun j => h1.box.cell j
         have hlB1 := h1.box.lt
         have hbz : b < w1.heap.size := Nat.lt_of_lt_of_le hb hb1.size
         obtain ⟨i0, i1, i2, _⟩ := hI1
         unfold stCells at y
         clear hp x
         go_wp2_with fail
         go_ret
         rw [E2.out]
         exact ⟨rfl, StPost.same hS hb1⟩
       · have hub2 : (it.until_ != 0) = true := by simp [hu1]
         have hu2 : ¬ it.until_ ≤ s.clock := fun h => ho (by unfold overB; simp [hu1, h])
         go_enter Tryz.func80, Tryz.ntmps80
         go_wp2_with fail
         refine hp.mono ?_
         rintro e w1 ⟨rfl, hb1⟩
         have hI1 := hI.later hb hb1
         have h1 := h.later hb1
         have y := fun j => h1.box.cell j
         have hlB1 := h1.box.lt
         have hbz : b < w1.heap.size := Nat.lt_of_lt_of_le hb hb1.size
         obtain ⟨i0, i1, i2, _⟩ := hI1
         unfold stCells at y
         clear hp x
         go_wp2_with fail
         go_ret
         rw [E2.out]
         exact ⟨rfl, StPost.same hS hb1⟩
   · rw [if_neg hk] at E1
     have E2 : Hid (R = (s, (-1 : Int))) := E1
     clear E1
     have hk1 : (it.key.toList == key.toList) = false := by unfold keq at hk; simpa using hk
     go_enter Tryz.func80, Tryz.ntmps80
     go_wp2_with fail
     refine hp.mono ?_
     rintro e w1 ⟨rfl, hb1⟩
     have hI1 := hI.later hb hb1
     have h1 := h.later hb1
     have y := fun j => h1.box.cell j
     have hlB1 := h1.box.lt
     have hbz : b < w1.heap.size := Nat.lt_of_lt_of_le hb hb1.size
     obtain ⟨i0, i1, i2, _⟩ := hI1
     unfold stCells at y
     clear hp x
     go_wp2_with fail
     go_ret
     rw [E2.out]
     exact ⟨rfl, StPost.same hS hb1⟩
 · have E1 := E.out
   rw [if_neg hlt] at E1
   have E2 : Hid (R = (s, (-1 : Int))) := E1
   clear E E1
   have hPe : P = s.items.length := by omega
   subst hPe
   go_enter Tryz.func80, Tryz.ntmps80
   go_wp2_with fail
   refine hp.mono ?_
   rintro e w1 ⟨rfl, hb1⟩
   have h1 := h.later hb1
   have y := fun j => h1.box.cell j
   have hlB1 := h1.box.lt
   unfold stCells at y
   clear hp x
   go_wp2_with fail
   go_ret
   rw [E2.out]
   exact ⟨rfl, StPost.same hS hb1⟩

/- The contract of store.within. -/

theorem within_any (n lo hi : Int) (w : World) :
 Calls Tryz.prog 37 #[.int .i64 n, .int .i64 lo, .int .i64 hi] w fun e w' => e = .returned (.bool (inB n lo hi)) ∧ w' = w := by
 by_cases h1 : lo ≤ n
 · have e : inB n lo hi = decide (n ≤ hi) := by unfold inB; simp [h1]
   rw [e]
   clear e
   go_enter Tryz.func37, Tryz.ntmps37
   go_wp2
   go_ret
   exact ⟨rfl, rfl⟩
 · have e : inB n lo hi = false := by unfold inB; simp; omega
   rw [e]
   clear e
   go_enter Tryz.func37, Tryz.ntmps37
   go_wp2
   go_ret
   exact ⟨rfl, rfl⟩

end Go.Proofs.YtdblegdgmjakfaaGreatDoor
