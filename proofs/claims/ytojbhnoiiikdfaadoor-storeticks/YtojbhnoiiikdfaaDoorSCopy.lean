/- The contract of store.Copy: the same store, in memory of its own. -/
import Derived.Test.YtojbhnoiiikdfaaDoorSSame
import Derived.Test.YtojbhnoiiikdfaaDoorFCopyW
import Derived.Test.YtojbhnoiiikdfaaDoorShelf
import Derived.Deep.RegionHeld3
import Derived.Deep.DeepCutAuto
namespace Go.Proofs.YtojbhnoiiikdfaaDoor
open Go.ChangeShapes Go.WideShapes Go.ChangeAt Go.RowKit
set_option linter.unusedVariables false
set_option linter.unusedSimpArgs false

theorem infoItem : (Tryd.prog.info? 47).map (fun i => (i.zero, i.size, i.bytes)) = some (some (.agg #[.string ByteArray.empty, .int .i64 0, .int .i64 0, .int .i64 0, .int .i64 0, .string ByteArray.empty, .bool false, .int .i64 0, .int .i64 0]), 9, 88) := by kernel_rfl

theorem clone_any (s : ByteArray) (w : World) (h : s.size ≤ 281474976710656) : Calls Tryd.prog 36 #[.string s] w fun e w' => e = .returned (.string s) ∧ Below w.heap.size w w' := by
  have hc := Tryd.stringslite_Clone s w h
  go_enter Tryd.func36, Tryd.ntmps36
  go_wp2_with (go_at_call 60; refine hc.mono ?_; rintro e w' ⟨rfl, hb⟩)
  go_ret
  exact ⟨rfl, hb⟩

/-- The items j < k of the row that is made. -/
def RowI (l : List ItemR) (k : Nat) (cur : Array Value) : Prop :=
  ∀ j, j < k → cur[j * 9]? = some (.string (l.getD j default).key) ∧ cur[j * 9 + 1]? = some (.int .i64 (l.getD j default).flags) ∧ cur[j * 9 + 2]? = some (.int .i64 (l.getD j default).until_) ∧ cur[j * 9 + 3]? = some (.int .i64 (l.getD j default).cas) ∧ cur[j * 9 + 4]? = some (.int .i64 (l.getD j default).used) ∧
    cur[j * 9 + 5]? = some (.string (l.getD j default).value) ∧ cur[j * 9 + 6]? = some (.bool (l.getD j default).far) ∧ cur[j * 9 + 7]? = some (.int .i64 (l.getD j default).page) ∧ cur[j * 9 + 8]? = some (.int .i64 (l.getD j default).at_)

def SCopR (l : List ItemR) (W : World) (H k : Nat) (wr : World) : Prop :=
  ∃ cur : Array Value, wr.heap[H]? = some (.cells cur 47 (0, 0)) ∧ cur.size = l.length * 9 ∧ Below H W wr ∧ RowI l k cur

theorem cell_rowI {w : World} {H : Nat} {cur : Array Value} (h : w.heap[H]? = some (.cells cur 47 (0, 0))) (j : Nat) : w.cell? ⟨H, j, none⟩ = cur[j]? := by simp [World.cell?, h]

theorem SCopR.later {l : List ItemR} {W w w' : World} {H k : Nat} (h : SCopR l W H k w) (hH : H < w.heap.size) (hb : Below w.heap.size w w') : SCopR l W H k w' := by
  obtain ⟨cur, h1, h2, h3, h4⟩ := h
  exact ⟨cur, by rw [hb.block H hH]; exact h1, h2, h3.trans (hb.mono (by omega)), h4⟩

theorem row_items {l : List ItemR} {H : Nat} {cur : Array Value} {w w' : World} (hm : l.length ≤ maxLen) (hHl : H < w.heap.size) (hcur : w.heap[H]? = some (.cells cur 47 (0, 0))) (hP : RowI l l.length cur) (hs : w.heap.size ≤ w'.heap.size) (hw : w'.heap[H]? = w.heap[H]?) : ItemsAt w' (some ⟨H, 0, none⟩) l := by
  have ce : ∀ o, w'.cell? ⟨H, o, none⟩ = cur[o]? := fun o => by simp [World.cell?, hw, hcur]
  refine ⟨hm, Or.inr ⟨H, 0, rfl, Nat.lt_of_lt_of_le hHl hs, fun j hj => ?_⟩⟩
  obtain ⟨e0, e1, e2, e3, e4, e5, e6, e7, e8⟩ := hP j hj
  unfold ItemAt
  rw [Nat.zero_add]
  exact ⟨by rw [ce]; exact e0, by rw [ce]; exact e1, by rw [ce]; exact e2, by rw [ce]; exact e3, by rw [ce]; exact e4, by rw [ce]; exact e5, by rw [ce]; exact e6, by rw [ce]; exact e7, by rw [ce]; exact e8⟩

/-- Nine cells of the row are set. -/
def set9 (w : World) (H k : Nat) (it : ItemR) : World :=
  ((((((((w.setCell ⟨H, k * 9, none⟩ (.string it.key)).setCell ⟨H, k * 9 + 1, none⟩ (.int .i64 it.flags)).setCell ⟨H, k * 9 + 2, none⟩ (.int .i64 it.until_)).setCell ⟨H, k * 9 + 3, none⟩ (.int .i64 it.cas)).setCell ⟨H, k * 9 + 4, none⟩ (.int .i64 it.used)).setCell
    ⟨H, k * 9 + 5, none⟩ (.string it.value)).setCell ⟨H, k * 9 + 6, none⟩ (.bool it.far)).setCell ⟨H, k * 9 + 7, none⟩ (.int .i64 it.page)).setCell ⟨H, k * 9 + 8, none⟩ (.int .i64 it.at_)

theorem SCopR.step {l : List ItemR} {W w2 : World} {H k : Nat} {cur : Array Value} (hlt : k < l.length) (hcur : w2.heap[H]? = some (.cells cur 47 (0, 0))) (hcs : cur.size = l.length * 9) (hb : Below H W w2) (hP : RowI l k cur) (it : ItemR) (hit : l.getD k default = it) :
    SCopR l W H (k + 1) (set9 w2 H k it) := by
  unfold set9
  refine ⟨((((((((cur.setIfInBounds (k * 9) (.string it.key)).setIfInBounds (k * 9 + 1) (.int .i64 it.flags)).setIfInBounds (k * 9 + 2) (.int .i64 it.until_)).setIfInBounds (k * 9 + 3) (.int .i64 it.cas)).setIfInBounds (k * 9 + 4) (.int .i64 it.used)).setIfInBounds (k * 9 + 5) (.string it.value)).setIfInBounds (k * 9 + 6) (.bool it.far)).setIfInBounds (k * 9 + 7) (.int .i64 it.page)).setIfInBounds (k * 9 + 8) (.int .i64 it.at_), ?_, by simp [hcs], ?_, ?_⟩
  · exact heap_setCell_same _ H _ _ 47 _ (heap_setCell_same _ H _ _ 47 _ (heap_setCell_same _ H _ _ 47 _ (heap_setCell_same _ H _ _ 47 _ (heap_setCell_same _ H _ _ 47 _ (heap_setCell_same _ H _ _ 47 _ (heap_setCell_same _ H _ _ 47 _ (heap_setCell_same _ H _ _ 47 _ (heap_setCell_same _ H _ _ 47 _ hcur))))))))
  · exact ((((((((hb.setCell (Nat.le_refl _) _).setCell (Nat.le_refl _) _).setCell (Nat.le_refl _) _).setCell (Nat.le_refl _) _).setCell (Nat.le_refl _) _).setCell (Nat.le_refl _) _).setCell (Nat.le_refl _) _).setCell (Nat.le_refl _) _).setCell (Nat.le_refl _) _
  · intro j hj
    by_cases hjk : j = k
    · subst hjk
      rw [hit]
      refine ⟨?_, ?_, ?_, ?_, ?_, ?_, ?_, ?_, ?_⟩ <;> (repeat (first | rw [Array.getElem?_setIfInBounds_self_of_lt (by first | omega | (simp; omega))] | rw [Array.getElem?_setIfInBounds_ne (by omega)]))
    · obtain ⟨e0, e1, e2, e3, e4, e5, e6, e7, e8⟩ := hP j (by omega)
      refine ⟨?_, ?_, ?_, ?_, ?_, ?_, ?_, ?_, ?_⟩ <;> (iterate 9 rw [Array.getElem?_setIfInBounds_ne (by omega)]) <;> assumption
end Go.Proofs.YtojbhnoiiikdfaaDoor
