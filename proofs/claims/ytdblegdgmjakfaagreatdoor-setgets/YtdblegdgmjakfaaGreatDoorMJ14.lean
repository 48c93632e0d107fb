/- Parts of the proof. -/
import Derived.Test.YtdblegdgmjakfaaGreatDoorMJ10
import Derived.Lib.Overlaps
import Derived.Lib.AppendZeros
import Derived.Lib.AppendZerosOnto
import Derived.Laws.IdiomCopy
import Derived.Deep.RegionLaw
namespace Go.Proofs.YtdblegdgmjakfaaGreatDoor
open Go.ChangeShapes Go.WideShapes Go.ChangeAt Go.RowKit
set_option linter.unusedVariables false
set_option linter.unusedSimpArgs false

/- slices.Insert of one item into a row of the call's own: in place, or into a new row. -/

/-- l with an item more at place i. -/
def insL (l : List ItemR) (i : Nat) (it : ItemR) : List ItemR := l.take i ++ it :: l.drop i
theorem insL_len (l : List ItemR) (i : Nat) (it : ItemR) (h : i ≤ l.length) : (insL l i it).length = l.length + 1 := by
 unfold insL
 simp
 omega
theorem itemCells_drop : ∀ (l : List ItemR) (k : Nat), (l.flatMap itemCells).drop (k * 9) = (l.drop k).flatMap itemCells
 | l, 0 => by simp
 | [], k + 1 => by simp
 | x :: r, k + 1 => by
  have hx : (itemCells x).length = 9 := rfl
  rw [List.drop_succ_cons, List.flatMap_cons, ← itemCells_drop r k, show (k + 1) * 9 = (itemCells x).length + k * 9 by rw [hx]; omega, List.drop_append, List.drop_of_length_le (by omega)]
  simp
theorem insL_flat (l : List ItemR) (i : Nat) (it : ItemR) : (insL l i it).flatMap itemCells = (l.flatMap itemCells).take (i * 9) ++ (itemCells it ++ (l.flatMap itemCells).drop (i * 9)) := by
 unfold insL
 rw [List.flatMap_append, List.flatMap_cons, itemCells_take, itemCells_drop]

/-- 'copy(d, s)', elements of some cells each: the source's cells are known. -/
theorem run_copy_cells9 {P : Program} (w : World) (dT sT ty elem : TypeId) (size b o dLen dCap : Nat) (a : Addr) (sLen sCap : Nat) (cs : List Value)
 (hu : P.underlying dT = some (.slice elem)) (hs : (P.info? elem).map (·.size) = some size) (k : Nat) (hk : k = Nat.min sLen dLen) (hn : cs.length = k * size)
 (hsrc : ∀ j v, cs[j]? = some v → w.cell? (a.add j) = some v) (hc : ∀ j, j < cs.length → (w.cell? ⟨b, o + j, none⟩).isSome = true) (hf : ∀ j, j < cs.length → w.frozen? ⟨b, o + j, none⟩ = false) (h1 : ∀ v ∈ cs, v.oneCell' = true) :
 (Builtin.copy_ #[dT, sT] ty #[.slice (some ⟨b, o, none⟩) dLen dCap, .slice (some a) sLen sCap]).run P w = .ok (goInt k) (w.setCells b o cs) := by
 have hl := run_loadCells_list (P := P) w a cs hsrc
 rw [hn] at hl
 have hst := run_storeCells_cells (P := P) b o cs 0 w (by simpa using hc) (by simpa using hf) h1
 subst hk
 cases hq : P.info? elem with
 | none => simp [hq] at hs
 | some i =>
  have hi : i.size = size := by simpa [hq] using hs
  simp only [Nat.add_zero] at hst
  simp [Builtin.copy_, run_underlying hu, Builtin.lenOf, Builtin.firstCells, sizeOf, typeInfo, hq, hi, hl, hst]

/-- 'copy(d, s)' for the walk where its run is known. -/
theorem wpList_copy_run9 {P : Program} (w : World) {ops : Array Oper} {rest : List Oper} {o : Oper} {a : Act} {Q : Exit → Act → World → Prop} (hgd : o.guard = none) (d s : Operand) (t t' : TypeId)
 (ho : o.op = .call { callee := .builtin .copy, args := #[d, s], argTypes := #[t, t'] }) (v u : Value) (hd : a.eval d = v) (hs : a.eval s = u) {v' : Value} {w' : World}
 (hr : (Builtin.copy_ #[t, t'] o.type #[v, u]).run P w = .ok v' w') (h : wpList P ops Q rest (a.put o.dst v') w') : wpList P ops Q (o :: rest) a w :=
 wpList_plain hgd fun _ hK => by
  unfold Oper.wp execOp
  simp only [ho, resolve, invoke, builtin, Sem.run_bind, Sem.run_pure, Result.andThen_ok, List.map_toArray, List.map_cons, List.map_nil, hd, hs, hr]
  exact hK _ _ h
/-- .. and as a step of a region that draws. -/
theorem step_copy_run9 {P : Program} {ops : Array Oper} {o : Oper} {a : Act} {w : World} {K : Act → World → Prop} {Q : Exit → Act → World → Prop} {E : Prop}
 (hg : o.guard = none) (d x : Operand) (dT sT : TypeId) (hop : o.op = Op.call { callee := Callee.builtin Builtin.copy, args := #[d, x], argTypes := #[dT, sT] })
 (v u : Value) (hd : a.eval d = v) (hx : a.eval x = u) {v' : Value} {w' : World} (hr : (Builtin.copy_ #[dT, sT] o.type #[v, u]).run P w = .ok v' w') (hK : K (a.put o.dst v') w') :
 if Region.wanted o (yielded ops a.tmps) = true then Oper.wp P o a w K Q else E := by
 have hw : Region.wanted o (yielded ops a.tmps) = true := by simp [Region.wanted, hg]
 rw [if_pos hw]
 unfold Oper.wp
 simp [execOp, hop, resolve, invoke, builtin, hd, hx, hr, Result.andThen]
 exact hK

theorem itemCells_one (it : ItemR) : ∀ v ∈ itemCells it, v.oneCell' = true := by
 intro u hu
 simp [itemCells] at hu
 rcases hu with rfl | rfl | rfl | rfl | rfl | rfl | rfl | rfl | rfl <;> rfl
theorem flat_one (l : List ItemR) : ∀ v ∈ l.flatMap itemCells, v.oneCell' = true := by
 intro v hv
 obtain ⟨it, _, h⟩ := List.mem_flatMap.1 hv
 exact itemCells_one it v h

def InsPost (l : List ItemR) (i : Nat) (it : ItemR) (v : Value) (w : World) (e : Ending) (w' : World) : Prop := ∃ v', e = .returned v' ∧ RowIt w' v' (insL l i it) ∧ w.grownBy w' v.ownBlock ∧ (v'.ownBlock = v.ownBlock ∨ ∃ g, v'.ownBlock = some g ∧ w.heap.size ≤ g ∧ g < w'.heap.size)

set_option maxHeartbeats 2000000 in
/-- The row behind the two copies, in place. -/
theorem ins_cells {cur : Array Value} {FL X : List Value} {n i cap : Nat} (hfl : FL.length = n * 9) (h9 : X.length = 9) (hcs : cur.size = cap * 9) (hroom : n + 1 ≤ cap) (hi : i ≤ n) (ht : cur.toList.take (n * 9) = FL) :
 (laid (laid cur ((i + 1) * 9) (FL.drop (i * 9))) (i * 9) X).size = cap * 9 ∧ (laid (laid cur ((i + 1) * 9) (FL.drop (i * 9))) (i * 9) X).toList.take ((n + 1) * 9) = FL.take (i * 9) ++ (X ++ FL.drop (i * 9)) := by
 have hdl : (FL.drop (i * 9)).length = (n - i) * 9 := by rw [List.length_drop, hfl, Nat.sub_mul]
 have s1 : (laid cur ((i + 1) * 9) (FL.drop (i * 9))).size = cap * 9 := by rw [laid_size (by rw [hdl, hcs]; omega), hcs]
 refine ⟨by rw [laid_size (by rw [h9, s1]; omega), s1], ?_⟩
 apply List.ext_getElem?
 intro q
 have hcur : ∀ q, q < n * 9 → cur[q]? = FL[q]? := fun q hq => by rw [← ht, List.getElem?_take_of_lt hq, Array.getElem?_toList]
 have htl : (FL.take (i * 9)).length = i * 9 := by rw [List.length_take, hfl]; omega
 have hL2 : (X ++ FL.drop (i * 9)).length = 9 + (n - i) * 9 := by rw [List.length_append, h9, hdl]
 by_cases hq : q < (n + 1) * 9
 · rw [List.getElem?_take_of_lt hq, Array.getElem?_toList, laid_get (by rw [h9, s1]; omega)]
   by_cases q1 : q < i * 9
   · rw [if_pos q1, laid_get (by rw [hdl, hcs]; omega), if_pos (by omega), hcur q (by omega), List.getElem?_append_left (by omega), List.getElem?_take_of_lt q1]
   · rw [if_neg q1, List.getElem?_append_right (by omega), htl, h9]
     by_cases q2 : q < i * 9 + 9
     · rw [if_pos q2, List.getElem?_append_left (by omega)]
     · rw [if_neg q2, laid_get (by rw [hdl, hcs]; omega), if_neg (by omega), if_pos (by rw [hdl]; omega), List.getElem?_append_right (by omega), h9]
       congr 1
       omega
 · rw [List.getElem?_eq_none (by rw [List.length_take]; omega), List.getElem?_eq_none (by rw [List.length_append, htl, hL2]; omega)]

/-- The row behind the two copies, in place. -/
theorem ins_row {w : World} {g cap i : Nat} {cur : Array Value} {l : List ItemR} {it : ItemR} (hg : w.heap[g]? = some (.cells cur 62 (0, 0))) (hcs : cur.size = cap * 9) (hroom : l.length + 1 ≤ cap) (hcm : cap ≤ maxLen) (ht : cur.toList.take (l.length * 9) = l.flatMap itemCells) (hi : i ≤ l.length) :
 RowIt ((w.setCells g ((i + 1) * 9) ((l.flatMap itemCells).drop (i * 9))).setCells g (i * 9) (itemCells it)) (.slice (some ⟨g, 0, none⟩) (l.length + 1) cap) (insL l i it) := by
 have hfl := itemCells_len l
 have h9 : (itemCells it).length = 9 := rfl
 obtain ⟨c1, c2⟩ := ins_cells hfl h9 hcs hroom hi ht
 have hF := insL_flat l i it
 have hn := insL_len l i it hi
 unfold RowIt
 rw [hn, hF]
 generalize itemCells it = X at *
 generalize l.flatMap itemCells = FL at *
 have hdl : (FL.drop (i * 9)).length = (l.length - i) * 9 := by rw [List.length_drop, hfl, Nat.sub_mul]
 have r1 := setCells_row (FL.drop (i * 9)) ((i + 1) * 9) w cur hg (by rw [hdl, hcs]; omega)
 have r2 := setCells_row X (i * 9) _ _ r1 (by rw [h9, laid_size (by rw [hdl, hcs]; omega), hcs]; omega)
 exact owns_shorter (Nat.zero_le _) r2 hroom hcm c1 c2

set_option maxHeartbeats 4000000 in
set_option maxRecDepth 100000 in
theorem insert_end (l : List ItemR) (v : Value) (it : ItemR) (V : Nat) (w : World) (hR : RowIt w v l) (hV : TB 62 w V (itemCells it).toArray) (hl : l.length ≤ 1000) :
 Calls Tryz.prog 140 #[v, .int .i64 l.length, .slice (some ⟨V, 0, none⟩) 1 1] w (InsPost l l.length it v w) := by
 obtain ⟨a, c, rfl, hA⟩ := hR.items (by unfold maxLen; omega)
 have hz0 : (0 : Int) ≤ (l.length : Int) := Int.natCast_nonneg _
 have hfin : Hid (∀ g cap w', w'.ownsRow 0 62 9 (.slice (some ⟨g, 0, none⟩) (l.length + 1) cap) (l.length + 1) (l.flatMap itemCells ++ itemCells it) → w.grownBy w' (Value.slice a l.length c).ownBlock → ((Value.slice a l.length c).ownBlock = some g ∨ g = w.heap.size) → g < w'.heap.size → InsPost l l.length it (.slice a l.length c) w (.returned (.slice (some ⟨g, 0, none⟩) (l.length + 1) cap)) w') := by
  intro g cap w' h1 h2 h3 h4
  refine ⟨_, rfl, ?_, h2, ?_⟩
  · unfold RowIt
    rw [insL_len l _ it (Nat.le_refl _), insL_flat, List.take_of_length_le (by rw [itemCells_len]; omega), List.drop_of_length_le (by rw [itemCells_len]; omega), List.append_nil]
    exact h1
  · rcases h3 with e | e
    · exact Or.inl (by rw [e]; rfl)
    · exact Or.inr ⟨g, rfl, by omega, h4⟩
 generalize InsPost l l.length it (.slice a l.length c) w = PO at *
 have hown := hR
 unfold RowIt at hown
 obtain ⟨i0, hi0, hzz0, hzz1, hzz2⟩ := info_parts infoItemR
 have hcc : l.length ≤ c := by
  rcases hR.2 with ⟨h0, h1⟩ | ⟨g, cap, cur, hv, hg, hc, h1, h2, h3, h4⟩
  · simp at h0; omega
  · simp at hv; omega
 go_enter Tryz.func140, Tryz.ntmps140
 go_wp2_with (at_builtin; refine wpList_append_lies _ rfl _ _ 24 rfl 0 62 i0 _ 9 88 Tryz.underlying24 hi0 hzz0 hzz1 hzz2 rfl (by omega) (.slice a l.length c) l.length (l.flatMap itemCells) (by rfl) hown ⟨V, 0, none⟩ 1 1 (itemCells it) (by rfl) rfl (World.news_of_block hV) (itemCells_one it) (by omega) (by unfold maxLen; omega) (by omega) (Nat.zero_le _) w.heap.size rfl ?_; intro g cap w' h2 h3 h4 h5)
 all_goals exact hfin.out g cap w' h2 h3 h4 h5

/- slices.Insert of one item, ahead of others, where there is room: in place. -/

set_option maxHeartbeats 4000000 in
set_option maxRecDepth 100000 in
theorem insert_room (l : List ItemR) (g cap : Nat) (i : Nat) (it : ItemR) (V : Nat) (w : World) (hR : RowIt w (.slice (some ⟨g, 0, none⟩) l.length cap) l) (hV : TB 62 w V (itemCells it).toArray) (hVg : V ≠ g) (hi : i < l.length) (hroom : l.length + 1 ≤ cap) (hl : l.length ≤ 1000) :
 Calls Tryz.prog 140 #[.slice (some ⟨g, 0, none⟩) l.length cap, .int .i64 i, .slice (some ⟨V, 0, none⟩) 1 1] w (InsPost l i it (.slice (some ⟨g, 0, none⟩) l.length cap) w) := by
 obtain ⟨g', cap', e0, cur, hcur, hcap, hcm, hcs, hct⟩ := hR.block (by omega)
 simp at e0
 obtain ⟨rfl, rfl⟩ := e0
 have hz0 : (0 : Int) ≤ (l.length : Int) := Int.natCast_nonneg _
 have hzi0 : (0 : Int) ≤ (i : Int) := Int.natCast_nonneg _
 have hz1 : (i : Int) < (l.length : Int) := by omega
 have hz1' : (i : Int) ≤ (l.length : Int) := by omega
 have hz2 : ¬ ((i : Int) = (l.length : Int)) := by omega
 have hz3 : ¬ ((cap : Int) < (l.length : Int) + 1) := by omega
 unfold maxLen at hcm
 have hcmz : (cap : Int) ≤ 9223372036854775807 := by omega
 have htn : ((i : Int) + 1).toNat = i + 1 := by omega
 have hw1 : IntKind.i64.wrap ((i : Int) + 1) = (i : Int) + 1 := by rw [IntKind.wrap_i64]; omega
 have hb1 : (0 : Int) ≤ (i : Int) + 1 := by omega
 have hb3 : (i : Int) ≤ (l.length : Int) + 1 := by omega
 have hc1 : ¬ (cap = i + 1) := by omega
 have hc0 : ¬ (cap = i) := by omega
 obtain ⟨i0, hi0, hzz0, hzz1, hzz2⟩ := info_parts infoItemR
 have hsz : (Tryz.prog.info? 62).map (·.size) = some 9 := by rw [hi0]; simp [hzz1]
 have hfl := itemCells_len l
 have h9 : (itemCells it).length = 9 := rfl
 have hdl : ((l.flatMap itemCells).drop (i * 9)).length = (l.length - i) * 9 := by rw [List.length_drop, hfl, Nat.sub_mul]
 have hend := ins_row (it := it) hcur hcs hroom (by unfold maxLen; exact hcm) hct (Nat.le_of_lt hi)
 have hsh : ∀ {b : Nat} {cs : Array Value}, w.heap[b]? = some (.cells cs 62 (0, 0)) → w.shape? b = some (62, cs.size) := fun h => by simp [World.shape?, h]
 have hov : ∀ lb cb, (callFunc 148 #[.slice (some ⟨V, 0, none⟩) 1 1, .slice (some ⟨g, (i + 1) * 9, none⟩) lb cb]).run Tryz.prog w = .ok (.value (.bool false)) w := fun lb cb => by
  rw [run_callFunc_extern Tryz.func148 (by kernel_rfl) (by kernel_rfl) (by kernel_rfl) (e := Extern.SlicesOverlaps.overlaps #[24, 24] #[4]) (by kernel_rfl),
   Lib.run_overlaps_apart w 24 4 62 Tryz.underlying24 9 (fun w => by simp [sizeOf, typeInfo, hi0, hzz1]) ⟨V, 0, none⟩ ⟨g, (i + 1) * 9, none⟩ 1 1 lb cb hVg 62 62 9 cur.size (hsh hV) (hsh hcur) (by omega) (hV.frozen 0) (hV.frozen 9)]
  rfl
 have hTg : TB 62 w g cur := hcur
 have hsp : ∀ q, q < (l.length + 1) * 9 → (w.cell? ⟨g, q, none⟩).isSome = true := fun q hq => (row_there hcur q (by omega)).1
 have hcur' : ∀ q, q < l.length * 9 → cur[q]? = (l.flatMap itemCells)[q]? := fun q hq => by rw [← hct, List.getElem?_take_of_lt hq, Array.getElem?_toList]
 have hcp1 : ∀ ty dc sc, (Builtin.copy_ #[24, 24] ty #[.slice (some ⟨g, (i + 1) * 9, none⟩) (l.length - i) dc, .slice (some ⟨g, i * 9, none⟩) (l.length + 1 - i) sc]).run Tryz.prog w.drew = .ok (goInt ((l.length - i : Nat) : Int)) (w.drew.setCells g ((i + 1) * 9) ((l.flatMap itemCells).drop (i * 9))) := fun ty dc sc =>
  run_copy_cells9 w.drew _ _ ty 62 9 g ((i + 1) * 9) (l.length - i) dc ⟨g, i * 9, none⟩ (l.length + 1 - i) sc _ Tryz.underlying24 hsz (l.length - i) (by simp only [Nat.min_def]; split <;> omega) hdl
   (fun j v hj => by
     rw [Addr.add_lit]
     have hjl := (List.getElem?_eq_some_iff.1 hj).1
     rw [hdl] at hjl
     rw [List.getElem?_drop] at hj
     show w.cell? ⟨g, i * 9 + j, none⟩ = _
     rw [hTg.cell, hcur' _ (by omega)]
     exact hj)
   (fun j hj => by rw [hdl] at hj; exact hsp _ (by omega)) (fun j hj => hTg.frozen _) (fun v hv => flat_one l v (List.mem_of_mem_drop hv))
 have r1 : (w.drew.setCells g ((i + 1) * 9) ((l.flatMap itemCells).drop (i * 9))).heap[g]? = _ := setCells_row _ _ w.drew cur hcur (by rw [hdl, hcs]; omega)
 have g1 := setCells_grown g ((l.flatMap itemCells).drop (i * 9)) ((i + 1) * 9) w.drew
 have hVw : ∀ W : World, W.heap = (w.drew.setCells g ((i + 1) * 9) ((l.flatMap itemCells).drop (i * 9))).heap → TB 62 W V (itemCells it).toArray := fun W hW => by
  unfold TB
  rw [hW, g1.block V hV.lt (fun e => hVg (by simpa using e))]
  exact hV
 have hcp2 : ∀ ty dc, (Builtin.copy_ #[24, 24] ty #[.slice (some ⟨g, i * 9, none⟩) (l.length + 1 - i) dc, .slice (some ⟨V, 0, none⟩) 1 1]).run Tryz.prog (w.drew.setCells g ((i + 1) * 9) ((l.flatMap itemCells).drop (i * 9))) = .ok (goInt 1) ((w.drew.setCells g ((i + 1) * 9) ((l.flatMap itemCells).drop (i * 9))).setCells g (i * 9) (itemCells it)) := fun ty dc =>
  run_copy_cells9 _ _ _ ty 62 9 g (i * 9) (l.length + 1 - i) dc ⟨V, 0, none⟩ 1 1 _ Tryz.underlying24 hsz 1 (by simp only [Nat.min_def]; split <;> omega) h9
   (World.news_of_block (hVw _ rfl))
   (fun j hj => (row_there r1 _ (by rw [laid_size (by rw [hdl, hcs]; omega), hcs]; omega)).1) (fun j hj => frozen_of_row _ g _ _ _ r1) (itemCells_one it)
 have gg := g1.trans (setCells_grown g (itemCells it) (i * 9) (w.drew.setCells g ((i + 1) * 9) ((l.flatMap itemCells).drop (i * 9))))
 have hfin : Hid (InsPost l i it (.slice (some ⟨g, 0, none⟩) l.length cap) w (.returned (.slice (some ⟨g, 0, none⟩) (l.length + 1) cap)) ((w.drew.setCells g ((i + 1) * 9) ((l.flatMap itemCells).drop (i * 9))).setCells g (i * 9) (itemCells it))) :=
  ⟨_, rfl, ins_row (w := w.drew) hcur hcs hroom (by unfold maxLen; exact hcm) hct (Nat.le_of_lt hi), ⟨gg.os, gg.tape, gg.output, gg.size, gg.block⟩, Or.inl rfl⟩
 generalize InsPost l i it (.slice (some ⟨g, 0, none⟩) l.length cap) w = PO at *
 clear hend r1 g1 gg hVw hsp hcur' hsh hcur hct
 generalize hFD : (l.flatMap itemCells).drop (i * 9) = FD at *
 generalize hXI : itemCells it = XI at *
 clear hFD hdl hfl hV hR
 go_enter Tryz.func140, Tryz.ntmps140
 go_wp2_with (simp only [hov])
 go_region_law (refine step_copy_run9 rfl _ _ 24 24 rfl _ _ (by simp [Act.eval, Act.put]) (by simp [Act.eval, Act.put]) (hcp1 _ _ _) ?_)
 go_wp2_with (at_builtin; refine wpList_copy_run9 _ rfl _ _ 24 24 rfl _ _ rfl rfl (hcp2 _ _) ?_)
 trace_state
 all_goals exact hfin.out

/- slices.Insert of one item, ahead of others, where there is no room: a new row. -/

theorem ins_cells2 {cur : Array Value} {FL X : List Value} {n i cap : Nat} (hfl : FL.length = n * 9) (h9 : X.length = 9) (hcs : cur.size = cap * 9) (hroom : n + 1 ≤ cap) (hi : i ≤ n) (ht : cur.toList.take (i * 9) = FL.take (i * 9)) :
 (laid (laid cur (i * 9) X) ((i + 1) * 9) (FL.drop (i * 9))).size = cap * 9 ∧ (laid (laid cur (i * 9) X) ((i + 1) * 9) (FL.drop (i * 9))).toList.take ((n + 1) * 9) = FL.take (i * 9) ++ (X ++ FL.drop (i * 9)) := by
 have hdl : (FL.drop (i * 9)).length = (n - i) * 9 := by rw [List.length_drop, hfl, Nat.sub_mul]
 have s1 : (laid cur (i * 9) X).size = cap * 9 := by rw [laid_size (by rw [h9, hcs]; omega), hcs]
 refine ⟨by rw [laid_size (by rw [hdl, s1]; omega), s1], ?_⟩
 apply List.ext_getElem?
 intro q
 have htl : (FL.take (i * 9)).length = i * 9 := by rw [List.length_take, hfl]; omega
 have hL2 : (X ++ FL.drop (i * 9)).length = 9 + (n - i) * 9 := by rw [List.length_append, h9, hdl]
 by_cases hq : q < (n + 1) * 9
 · rw [List.getElem?_take_of_lt hq, Array.getElem?_toList, laid_get (by rw [hdl, s1]; omega)]
   by_cases q1 : q < i * 9
   · rw [if_pos (by omega), laid_get (by rw [h9, hcs]; omega), if_pos q1, List.getElem?_append_left (by omega), ← ht, List.getElem?_take_of_lt q1, Array.getElem?_toList]
   · rw [List.getElem?_append_right (by omega), htl]
     by_cases q2 : q < i * 9 + 9
     · rw [if_pos (by omega), laid_get (by rw [h9, hcs]; omega), if_neg q1, if_pos (by rw [h9]; omega), List.getElem?_append_left (by omega)]
     · rw [if_neg (by omega), if_pos (by rw [hdl]; omega), List.getElem?_append_right (by omega), h9]
       congr 1
       omega
 · rw [List.getElem?_eq_none (by rw [List.length_take]; omega), List.getElem?_eq_none (by rw [List.length_append, htl, hL2]; omega)]

set_option maxHeartbeats 4000000 in
set_option maxRecDepth 100000 in
theorem insert_grow (l : List ItemR) (g cap : Nat) (i : Nat) (it : ItemR) (V : Nat) (w : World) (hR : RowIt w (.slice (some ⟨g, 0, none⟩) l.length cap) l) (hV : TB 62 w V (itemCells it).toArray) (hVg : V ≠ g) (hi : i < l.length) (hroom : cap < l.length + 1) (hl : l.length ≤ 1000) :
 Calls Tryz.prog 140 #[.slice (some ⟨g, 0, none⟩) l.length cap, .int .i64 i, .slice (some ⟨V, 0, none⟩) 1 1] w (InsPost l i it (.slice (some ⟨g, 0, none⟩) l.length cap) w) := by
 obtain ⟨g', cap', e0, cur, hcur, hcap, hcm, hcs, hct⟩ := hR.block (by omega)
 simp at e0
 obtain ⟨rfl, rfl⟩ := e0
 have hz0 : (0 : Int) ≤ (l.length : Int) := Int.natCast_nonneg _
 have hzi0 : (0 : Int) ≤ (i : Int) := Int.natCast_nonneg _
 have hz1 : (i : Int) < (l.length : Int) := by omega
 have hz1' : (i : Int) ≤ (l.length : Int) := by omega
 have hz2 : ¬ ((i : Int) = (l.length : Int)) := by omega
 have hz3 : (cap : Int) < (l.length : Int) + 1 := by omega
 unfold maxLen at hcm
 have htn : ((i : Int) + 1).toNat = i + 1 := by omega
 have hw1 : IntKind.i64.wrap ((i : Int) + 1) = (i : Int) + 1 := by rw [IntKind.wrap_i64]; omega
 have hb1 : (0 : Int) ≤ (i : Int) + 1 := by omega
 have hb3 : (i : Int) ≤ (l.length : Int) + 1 := by omega
 have hic : (i : Int) ≤ (cap : Int) := by omega
 have hc0 : ¬ (cap = i) := by omega
 obtain ⟨i0, hi0, hzz0, hzz1, hzz2⟩ := info_parts infoItemR
 have hsz : (Tryz.prog.info? 62).map (·.size) = some 9 := by rw [hi0]; simp [hzz1]
 have hfl := itemCells_len l
 have h9 : (itemCells it).length = 9 := rfl
 have hdl : ((l.flatMap itemCells).drop (i * 9)).length = (l.length - i) * 9 := by rw [List.length_drop, hfl, Nat.sub_mul]
 have hTg : TB 62 w g cur := hcur
 have hcur' : ∀ q, q < l.length * 9 → cur[q]? = (l.flatMap itemCells)[q]? := fun q hq => by rw [← hct, List.getElem?_take_of_lt hq, Array.getElem?_toList]
 have hold : (Builtin.firstCells i0.size i (.slice (some ⟨g, 0, none⟩) i cap)).run Tryz.prog w.drew = .ok ((l.flatMap itemCells).take (i * 9)).toArray w.drew := by
  rw [hzz1]
  exact run_firstCells_some w.drew 9 i ⟨g, 0, none⟩ i cap _ (by rw [List.length_take, hfl]; omega) (fun j v hj => by
   rw [Addr.add_lit]
   have hjl := (List.getElem?_eq_some_iff.1 hj).1
   rw [List.length_take] at hjl
   rw [List.getElem?_take_of_lt (by omega)] at hj
   show w.cell? ⟨g, 0 + j, none⟩ = _
   rw [hTg.cell, Nat.zero_add, hcur' _ (by omega)]
   exact hj)
 have hik : i + (l.length + 1 - i) = l.length + 1 := by omega
 have hkk : (l.length : Int) + 1 - (i : Int) = ((l.length + 1 - i : Nat) : Int) := by omega
 obtain ⟨z, hz⟩ : ∃ z, z = (Value.agg #[.string ByteArray.empty, .int .i64 0, .int .i64 0, .int .i64 0, .int .i64 0, .string ByteArray.empty, .bool false, .int .i64 0, .int .i64 0]) := ⟨_, rfl⟩
 rw [← hz] at hzz0
 have hz9 : z.cells.size = 9 := by rw [hz]; rfl
 have hrz : ∀ ty, (Builtin.append_ #[24, 3] ty #[.slice (some ⟨g, 0, none⟩) i cap, .int .i64 ((l.length : Int) + 1 - (i : Int))]).run Tryz.prog w =
  .ok (.slice (some ⟨w.heap.size, 0, none⟩) (l.length + 1) (grownCap w (l.length + 1) cap 62)) (w.drew.alloc (.cells (((l.flatMap itemCells).take (i * 9)).toArray ++ Builtin.zeroCells z.cells (l.length + 1 - i) ++ Builtin.zeroCells z.cells (grownCap w (l.length + 1) cap 62 - (l.length + 1))) 62)) := fun ty => by
  have h := Lib.run_append_grow_zeros w 24 3 ty 62 i0 z .i64 .i64 Tryz.underlying24 Tryz.underlying3 hi0 hzz0 (some ⟨g, 0, none⟩) i cap _ hold (l.length + 1 - i) (by omega) (by omega) (by omega) (by omega) (by rw [hzz2]; omega) (by rw [hzz2, hik]; exact growslice_fits hroom (by omega))
  rw [hik] at h
  rw [hkk]
  exact h
 have hGn : l.length + 1 ≤ grownCap w (l.length + 1) cap 62 := grownCap_ge w _ _ _
 have hGm : grownCap w (l.length + 1) cap 62 ≤ maxLen := grownCap_le_maxLen w _ _ _ (by unfold maxLen; omega)
 generalize grownCap w (l.length + 1) cap 62 = G at *
 have hRs : (((l.flatMap itemCells).take (i * 9)).toArray ++ Builtin.zeroCells z.cells (l.length + 1 - i) ++ Builtin.zeroCells z.cells (G - (l.length + 1))).size = G * 9 := by
  simp [Builtin.zeroCells, hz9, hfl]
  omega
 have hRt : (((l.flatMap itemCells).take (i * 9)).toArray ++ Builtin.zeroCells z.cells (l.length + 1 - i) ++ Builtin.zeroCells z.cells (G - (l.length + 1))).toList.take (i * 9) = (l.flatMap itemCells).take (i * 9) := by
  simp only [Array.toList_append, List.append_assoc]
  rw [List.take_append_of_le_length (by rw [List.length_take, hfl]; omega), List.take_of_length_le (by rw [List.length_take, hfl]; omega)]
 generalize ((l.flatMap itemCells).take (i * 9)).toArray ++ Builtin.zeroCells z.cells (l.length + 1 - i) ++ Builtin.zeroCells z.cells (G - (l.length + 1)) = ROW at *
 obtain ⟨W1, hW1⟩ : ∃ W1, W1 = w.drew.alloc (.cells ROW 62) := ⟨_, rfl⟩
 have hN1 : W1.heap[w.heap.size]? = some (.cells ROW 62 (0, 0)) := by rw [hW1]; exact TB.new 62 w.drew ROW
 have hB1 : Below w.heap.size w W1 := by rw [hW1]; exact ((Below.refl _ _).drew).alloc (Nat.le_refl _) _
 have hgl := hTg.lt
 have hVl := hV.lt
 have hcpA : ∀ (W : World), W.heap = W1.heap → ∀ ty dc, (Builtin.copy_ #[24, 24] ty #[.slice (some ⟨w.heap.size, i * 9, none⟩) (l.length + 1 - i) dc, .slice (some ⟨V, 0, none⟩) 1 1]).run Tryz.prog W = .ok (goInt 1) (W.setCells w.heap.size (i * 9) (itemCells it)) := fun W hW ty dc =>
  run_copy_cells9 W _ _ ty 62 9 w.heap.size (i * 9) (l.length + 1 - i) dc ⟨V, 0, none⟩ 1 1 _ Tryz.underlying24 hsz 1 (by simp only [Nat.min_def]; split <;> omega) h9
   (World.news_of_block (show W.heap[V]? = some (.cells (itemCells it).toArray 62 (0, 0)) by rw [hW, hB1.block V hVl]; exact hV))
   (fun j hj => (row_there (by rw [hW]; exact hN1) _ (by omega)).1) (fun j hj => frozen_of_row _ _ _ _ _ (by rw [hW]; exact hN1)) (itemCells_one it)
 have r2 : ∀ W : World, W.heap = W1.heap → (W.setCells w.heap.size (i * 9) (itemCells it)).heap[w.heap.size]? = some (.cells (laid ROW (i * 9) (itemCells it)) 62 (0, 0)) := fun W hW => setCells_row _ _ W ROW (by rw [hW]; exact hN1) (by rw [h9]; omega)
 have hlast : ∀ W : World, W.heap = W1.heap → ∀ k, k < w.heap.size → (W.setCells w.heap.size (i * 9) (itemCells it)).heap[k]? = w.heap[k]? := fun W hW k hk => by
  rw [(setCells_grown w.heap.size (itemCells it) (i * 9) W).block k (by rw [hW]; exact Nat.lt_of_lt_of_le hk hB1.size) (fun e => by simp at e; omega), hW, hB1.block k hk]
 have hcpB : ∀ (W W2 : World), W.heap = W1.heap → W2.heap = (W.setCells w.heap.size (i * 9) (itemCells it)).heap → ∀ ty dc sc, (Builtin.copy_ #[24, 24] ty #[.slice (some ⟨w.heap.size, (i + 1) * 9, none⟩) (l.length - i) dc, .slice (some ⟨g, i * 9, none⟩) (l.length - i) sc]).run Tryz.prog W2 = .ok (goInt ((l.length - i : Nat) : Int)) (W2.setCells w.heap.size ((i + 1) * 9) ((l.flatMap itemCells).drop (i * 9))) := fun W W2 hW hW2 ty dc sc =>
  run_copy_cells9 W2 _ _ ty 62 9 w.heap.size ((i + 1) * 9) (l.length - i) dc ⟨g, i * 9, none⟩ (l.length - i) sc _ Tryz.underlying24 hsz (l.length - i) (by simp only [Nat.min_def]; split <;> omega) hdl
   (fun j v hj => by
     rw [Addr.add_lit]
     have hjl := (List.getElem?_eq_some_iff.1 hj).1
     rw [hdl] at hjl
     rw [List.getElem?_drop] at hj
     have ht : TB 62 W2 g cur := by unfold TB; rw [hW2, hlast W hW g hgl]; exact hcur
     rw [ht.cell, hcur' _ (by omega)]
     exact hj)
   (fun j hj => (row_there (by rw [hW2]; exact r2 W hW) _ (by rw [hdl] at hj; rw [laid_size (by rw [h9]; omega)]; omega)).1) (fun j hj => frozen_of_row _ _ _ _ _ (by rw [hW2]; exact r2 W hW)) (fun v hv => flat_one l v (List.mem_of_mem_drop hv))
 have hfin : Hid (∀ W W2 : World, W.heap = W1.heap → W2.heap = (W.setCells w.heap.size (i * 9) (itemCells it)).heap → W2.os = w.os → W2.tape = w.tape → W2.output = w.output → InsPost l i it (.slice (some ⟨g, 0, none⟩) l.length cap) w (.returned (.slice (some ⟨w.heap.size, 0, none⟩) (l.length + 1) G)) (W2.setCells w.heap.size ((i + 1) * 9) ((l.flatMap itemCells).drop (i * 9)))) := by
  intro W W2 hW hW2 e1 e2 e3
  have r3 := setCells_row ((l.flatMap itemCells).drop (i * 9)) ((i + 1) * 9) W2 _ (by rw [hW2]; exact r2 W hW) (by rw [hdl, laid_size (by rw [h9]; omega)]; omega)
  obtain ⟨c1, c2⟩ := ins_cells2 hfl h9 hRs hGn (Nat.le_of_lt hi) hRt
  have hg3 := setCells_grown w.heap.size ((l.flatMap itemCells).drop (i * 9)) ((i + 1) * 9) W2
  have hs2 : W2.heap.size = w.heap.size + 1 := by rw [hW2, setCells_size, hW, hW1]; simp
  refine ⟨_, rfl, ?_, ⟨hg3.os.trans e1, hg3.tape.trans e2, hg3.output.trans e3, by have := hg3.size; omega, fun k hk _ => ?_⟩, Or.inr ⟨w.heap.size, rfl, Nat.le_refl _, by have := hg3.size; omega⟩⟩
  · unfold RowIt
    rw [insL_len l i it (Nat.le_of_lt hi), insL_flat]
    exact owns_shorter (Nat.zero_le _) r3 hGn hGm c1 c2
  · rw [hg3.block k (by omega) (fun e => by simp at e; omega), hW2, hlast W hW k hk]
 generalize InsPost l i it (.slice (some ⟨g, 0, none⟩) l.length cap) w = PO at *
 have hGi : ¬ (G = i) := by omega
 have hGi1 : ¬ (G = i + 1) := by omega
 unfold maxLen at hGm
 have hGz : (G : Int) ≤ 9223372036854775807 := by omega
 clear r2 hlast hN1 hB1 hRs hRt hcur' hcur hct hold hkk hik hz hz9 hzz0 hi0 hTg
 generalize hFD : (l.flatMap itemCells).drop (i * 9) = FD at *
 generalize hXI : itemCells it = XI at *
 clear hFD hdl hfl hV hR
 subst hW1
 have hE1 : ((w.alloc (.cells ROW 62)).drew).heap = (w.drew.alloc (.cells ROW 62)).heap := rfl
 have hF1 : ((((w.alloc (.cells ROW 62)).drew).setCells w.heap.size (i * 9) XI).drew).heap = (((w.alloc (.cells ROW 62)).drew).setCells w.heap.size (i * 9) XI).heap := rfl
 have hG0 := setCells_grown w.heap.size XI (i * 9) ((w.alloc (.cells ROW 62)).drew)
 have hF2 : ((((w.alloc (.cells ROW 62)).drew).setCells w.heap.size (i * 9) XI).drew).os = w.os := hG0.os
 have hF3 : ((((w.alloc (.cells ROW 62)).drew).setCells w.heap.size (i * 9) XI).drew).tape = w.tape := hG0.tape
 have hF4 : ((((w.alloc (.cells ROW 62)).drew).setCells w.heap.size (i * 9) XI).drew).output = w.output := hG0.output
 clear hG0
 go_enter Tryz.func140, Tryz.ntmps140
 go_wp2_with (first
  | (at_builtin; refine Lib.wpList_append_run _ rfl _ _ _ _ rfl _ _ rfl rfl _ _ (hrz _) ?_)
  | (at_builtin; refine wpList_copy_run9 _ rfl _ _ 24 24 rfl _ _ rfl rfl (hcpA _ hE1 _ _) ?_))
 go_region_law (refine step_copy_run9 rfl _ _ 24 24 rfl (.slice (some ⟨w.heap.size, (i + 1) * 9, none⟩) (l.length - i) (G - (i + 1))) (.slice (some ⟨g, i * 9, none⟩) (l.length - i) (cap - i)) (by simp [Act.eval, Act.put]) (by simp [Act.eval, Act.put]) (hcpB _ _ hE1 hF1 3 (G - (i + 1)) (cap - i)) ?_)
 go_wp2
 trace_state
 all_goals exact hfin.out _ _ hE1 hF1 hF2 hF3 hF4

/- slices.Insert of one item into a row of the call's own, whatever room there is. -/

theorem insert_any (l : List ItemR) (v : Value) (i : Nat) (it : ItemR) (V : Nat) (w : World) (hR : RowIt w v l) (hV : TB 62 w V (itemCells it).toArray) (hVv : v.ownBlock ≠ some V) (hi : i ≤ l.length) (hl : l.length ≤ 1000) :
 Calls Tryz.prog 140 #[v, .int .i64 i, .slice (some ⟨V, 0, none⟩) 1 1] w (InsPost l i it v w) := by
 by_cases hlt : i < l.length
 · obtain ⟨g, cap, rfl, _⟩ := hR.block (by omega)
   have hVg : V ≠ g := fun e => hVv (by rw [e]; rfl)
   rcases Nat.lt_or_ge cap (l.length + 1) with h | h
   · exact insert_grow l g cap i it V w hR hV hVg hlt h hl
   · exact insert_room l g cap i it V w hR hV hVg hlt h hl
 · have e : i = l.length := by omega
   subst e
   exact insert_end l v it V w hR hV hl

end Go.Proofs.YtdblegdgmjakfaaGreatDoor
