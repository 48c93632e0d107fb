/- The contract of slices.Delete over pages, at the first one. -/
import Derived.Test.YtbabiandegianaaFOwn
import Derived.Deep.LoopGhost
import Derived.Deep.RegionLaw
namespace Go.Proofs.Ytbabiandegianaa
open Go.ChangeShapes Go.WideShapes Go.ChangeAt Go.RowKit
set_option linter.unusedVariables false
set_option linter.unusedSimpArgs false

theorem zeroPage (w : World) : (zeroValue 40).run Try.prog w = .ok (.agg #[.int .i64 0, .slice none 0 0]) w := by
  first
    | rfl
    | simp [zeroValue, go_sem]

set_option maxHeartbeats 4000000 in
set_option maxRecDepth 1000000 in
theorem delete_first (n g cap : Nat) (p : PageR × Value) (l : List (PageR × Value)) (w : World) (hW : PgOwn n w (.slice (some ⟨g, 0, none⟩) (l.length + 1) cap) (p :: l)) :
    Calls Try.prog 25 #[.slice (some ⟨g, 0, none⟩) (l.length + 1) cap, .int .i64 0, .int .i64 1] w fun e w' => e = .returned (.slice (some ⟨g, 0, none⟩) l.length cap) ∧ PgOwn n w' (.slice (some ⟨g, 0, none⟩) l.length cap) l ∧ w.grownBy w' (some g) := by
  obtain ⟨hR, hO, hA1, hA2⟩ := hW
  have hR' := hR
  rw [List.length_cons] at hR
  obtain ⟨cur, hb, hg, hnc, hcm, hcs, ht⟩ := owns_block hR
  obtain ⟨i0, hi, hz0, hz1, hz2⟩ := info_parts infoPage
  have hm2 : cap ≤ 9223372036854775807 := by unfold maxLen at hcm; exact hcm
  obtain ⟨news, hnews⟩ : ∃ news, news = l.flatMap pgCells := ⟨_, rfl⟩
  have hnl : news.length = l.length * 2 := by rw [hnews]; exact pgCells_len l
  have hcur : cur.toList.take ((l.length + 1) * 2) = pgCells p ++ news := by rw [ht, List.flatMap_cons, hnews]
  obtain ⟨A, hA, hsrc⟩ : ∃ A : Addr, (if cap = 1 then some (⟨g, 0, none⟩ : Addr) else some ⟨g, 0 + 1 * 2, none⟩) = some A ∧ Hid (∀ t u, news[t]? = some u → w.drew.cell? (A.add t) = some u) := by
    by_cases h : cap = 1
    · refine ⟨⟨g, 0, none⟩, by simp [h], fun t u hu => ?_⟩
      have : news.length = 0 := by omega
      rw [List.length_eq_zero_iff.1 this] at hu
      simp at hu
    · refine ⟨⟨g, 0 + 1 * 2, none⟩, by simp [h], fun t u hu => ?_⟩
      have hlt := (List.getElem?_eq_some_iff.1 hu).1
      rw [Addr.add_lit]
      show w.cell? ⟨g, 0 + 1 * 2 + t, none⟩ = _
      rw [cell_of_row w g _ cur 40 (0, 0) hg, ← hu]
      have : (pgCells p ++ news)[2 + t]? = news[t]? := by
        rw [List.getElem?_append_right (by show 2 ≤ 2 + t; omega)]
        congr 1
        show 2 + t - 2 = t
        omega
      rw [← this, ← hcur, List.getElem?_take_of_lt (by omega), Array.getElem?_toList]
  have s1 : Hid (news.length = l.length * 2) := hnl
  have s2 : Hid (∀ u ∈ news, u.oneCell' = true) := by
    intro u hu
    rw [hnews, List.mem_flatMap] at hu
    obtain ⟨x, hx, hu⟩ := hu
    simp [pgCells] at hu
    rcases hu with rfl | rfl
    · rfl
    · rcases (hO x (by simp [hx])).2 with ⟨h0, _⟩ | ⟨g', cap', cur', hv, _⟩
      · rw [h0]; rfl
      · rw [hv]; rfl
  have s3 : Hid (∀ t, t < news.length → (w.drew.cell? ⟨g, 0 + 0 * 2 + t, none⟩).isSome = true ∧ w.drew.frozen? ⟨g, 0 + 0 * 2 + t, none⟩ = false) := by
    intro t ht'
    exact row_there hg _ (by rw [hcs]; omega)
  obtain ⟨W1, hW1⟩ : ∃ W1, W1 = w.drew.setCells g (0 + 0 * 2) news := ⟨_, rfl⟩
  have hg1 : W1.heap[g]? = some (.cells (laid cur (0 + 0 * 2) news) 40 (0, 0)) := by
    rw [hW1]
    exact setCells_row news _ w.drew cur hg (by rw [hnl, hcs]; omega)
  have hs1 : (laid cur (0 + 0 * 2) news).size = cap * 2 := by rw [laid_size (by rw [hnl, hcs]; omega), hcs]
  have hcl : ∀ ty, (Builtin.clear_ #[22] ty #[.slice (some ⟨g, l.length * 2, none⟩) 1 (cap - l.length)]).run Try.prog W1 = .ok (.tuple #[]) (W1.setCells g (l.length * 2) (Builtin.zeroCells (Value.agg #[.int .i64 0, .slice none 0 0]).cells 1).toList) :=
    fun ty => run_clear_row W1 22 40 ty _ Try.underlying22 zeroPage (by intro u hu; simp [Value.cells] at hu; rcases hu with rfl | rfl <;> rfl) g _ 1 _ (by omega) (fun j hj => (row_there hg1 _ (by rw [hs1]; have : j < 1 * 2 := hj; omega)).1) (fun j hj => (row_there hg1 _ (by rw [hs1]; have : j < 1 * 2 := hj; omega)).2)
  have hW : Hid (W1 = w.drew.setCells g (0 + 0 * 2) news) := hW1
  have hend : Hid (PgOwn n (W1.setCells g (l.length * 2) (Builtin.zeroCells (Value.agg #[.int .i64 0, .slice none 0 0]).cells 1).toList) (.slice (some ⟨g, 0, none⟩) l.length cap) l ∧ w.grownBy (W1.setCells g (l.length * 2) (Builtin.zeroCells (Value.agg #[.int .i64 0, .slice none 0 0]).cells 1).toList) (some g)) := by
    have hzl : (Builtin.zeroCells (Value.agg #[.int .i64 0, .slice none 0 0]).cells 1).toList.length = 2 := by simp [Builtin.zeroCells, Value.cells]
    have hg2 := setCells_row (Builtin.zeroCells (Value.agg #[.int .i64 0, .slice none 0 0]).cells 1).toList (l.length * 2) W1 _ hg1 (by rw [hzl, hs1]; omega)
    have hgr : w.grownBy (W1.setCells g (l.length * 2) (Builtin.zeroCells (Value.agg #[.int .i64 0, .slice none 0 0]).cells 1).toList) (some g) := by
      refine World.grownBy.trans ?_ (setCells_grown g _ _ W1)
      rw [hW1]
      exact World.grownBy.trans (⟨rfl, rfl, rfl, Nat.le_refl _, fun _ _ _ => rfl⟩ : w.grownBy w.drew (some g)) (setCells_grown g _ _ w.drew)
    refine ⟨⟨owns_shorter hb hg2 (by omega) hcm (by rw [laid_size (by rw [hzl, hs1]; omega), hs1]) ?_, fun x hx => (hO x (by simp [hx])).kept fun g' hg' hl => hgr.block g' hl (fun e => hA1 x (by simp [hx]) g' hg' (by cases e; rfl)), fun x hx => hA1 x (by simp [hx]), (List.pairwise_cons.1 hA2).2⟩, hgr⟩
    rw [← hnews]
    apply List.ext_getElem?
    intro j
    by_cases hj : j < l.length * 2
    · rw [List.getElem?_take_of_lt hj, Array.getElem?_toList, laid_get (by rw [hzl, hs1]; omega), if_pos hj, laid_get (by rw [hnl, hcs]; omega), if_neg (by omega), if_pos (by omega)]
      congr 1
    · rw [List.getElem?_eq_none (by rw [List.length_take]; omega), List.getElem?_eq_none (by omega)]
  have hcap1 : 1 ≤ cap := by omega
  have hz1' : (1 : Int) ≤ (l.length : Int) + 1 := by omega
  have hlen : Hid (l.length ≤ cap) := by unfold Hid; omega
  clear hW1 hR hg hcs ht hcur hnews hnl hA1 hA2 hO
  go_enter Try.func25, Try.ntmps25
  go_wp2_with fail
  go_region_law (refine step_append_room rfl (.tmp 22) (.tmp 25) 22 rfl 40 i0 2 Try.underlying22 hi hz1 g 0 0 cap (by simp [Act.eval, Act.put]) A l.length (cap - 1) news (by simp [Act.eval, Act.put]) s1.out hsrc.out s2.out (by have := hlen.out; omega) s3.out ?_; rw [← hW.out])
  all_goals
    go_wp2
    go_ret
    exact ⟨rfl, hend.out⟩
end Go.Proofs.Ytbabiandegianaa
