/- Parts of the proof. -/
import Derived.Test.YtdblegdgmjakfaaGreatDoorMJ05
import Derived.Test.YtdblegdgmjakfaaGreatDoorMJ01
import Derived.Deep.AppendLies
namespace Go.Proofs.YtdblegdgmjakfaaGreatDoor
open Go.ChangeShapes Go.WideShapes Go.ChangeAt Go.RowKit
set_option linter.unusedVariables false
set_option linter.unusedSimpArgs false

/- The contract of dovecoteref.items: the same items, in memory of their own. -/

theorem infoItemR : (Tryz.prog.info? 62).map (fun i => (i.zero, i.size, i.bytes)) = some (some (.agg #[.string ByteArray.empty, .int .i64 0, .int .i64 0, .int .i64 0, .int .i64 0, .string ByteArray.empty, .bool false, .int .i64 0, .int .i64 0]), 9, 88) := by kernel_rfl

def itemCells (it : ItemR) : List Value := [.string it.key, .int .i64 it.flags, .int .i64 it.until_, .int .i64 it.cas, .int .i64 it.used, .string it.value, .bool it.far, .int .i64 it.page, .int .i64 it.at_]

theorem flat9 : ∀ (l : List ItemR) (j : Nat), j < l.length → ∀ i, i < 9 → (l.flatMap itemCells)[j * 9 + i]? = (itemCells (l.getD j default))[i]?
 | [], j, hj, _, _ => absurd hj (Nat.not_lt_zero _)
 | x :: r, 0, _, i, hi => by
  rw [List.flatMap_cons, Nat.zero_mul, Nat.zero_add, List.getElem?_append_left (by simpa [itemCells] using hi)]
  rfl
 | x :: r, j + 1, hj, i, hi => by
  have hl : (itemCells x).length = 9 := rfl
  rw [List.flatMap_cons, List.getElem?_append_right (by rw [hl]; omega), hl, show (j + 1) * 9 + i - 9 = j * 9 + i by omega, flat9 r j (by simpa using hj) i hi]
  rfl

/-- Items in a row of the call's own. -/
def OwnIt (W0 w : World) (v : Value) (l : List ItemR) : Prop := w.ownsRow W0.heap.size 62 9 v l.length (l.flatMap itemCells) ∧ Below W0.heap.size W0 w
theorem OwnIt.later {W0 w w1 : World} {v : Value} {l : List ItemR} (h : OwnIt W0 w v l) (hb : Below w.heap.size w w1) : OwnIt W0 w1 v l := ⟨ownsRow_later h.1 hb, h.2.trans (hb.mono h.2.size)⟩

/-- The items lie in blocks from n on: what changes below does not matter. -/
def ItemsFrom (n : Nat) (w : World) (a : Option Addr) (l : List ItemR) : Prop := ∀ w' : World, w.heap.size ≤ w'.heap.size → (∀ b, n ≤ b → b < w.heap.size → w'.heap[b]? = w.heap[b]?) → ItemsAt w' a l

theorem OwnIt.items {W0 w : World} {v : Value} {l : List ItemR} (h : OwnIt W0 w v l) (hm : l.length ≤ maxLen) : ∃ a c, v = .slice a l.length c ∧ ItemsFrom W0.heap.size w a l := by
 obtain ⟨hx, h | ⟨g, cap, cur, hv, hg, hc, h1, h2, h3, h4⟩⟩ := h.1
 · refine ⟨none, 0, by rw [h.1, h.2], fun w' _ _ => ⟨hm, Or.inl h.2⟩⟩
 · refine ⟨some ⟨g, 0, none⟩, cap, hv, fun w' hs hw => ⟨hm, Or.inr ⟨g, 0, rfl, ?_, fun j hj => ?_⟩⟩⟩
   · have hlt : g < w.heap.size := by
      rcases Nat.lt_or_ge g w.heap.size with hlt | hge
      · exact hlt
      · rw [Array.getElem?_eq_none hge] at hc; cases hc
     omega
   · have hlt : g < w.heap.size := by
      rcases Nat.lt_or_ge g w.heap.size with hlt | hge
      · exact hlt
      · rw [Array.getElem?_eq_none hge] at hc; cases hc
     have hc' : w'.heap[g]? = some (.cells cur 62 (0, 0)) := by rw [hw g hg hlt]; exact hc
     have ce : ∀ o, w'.cell? ⟨g, o, none⟩ = cur[o]? := fun o => by simp [World.cell?, hc']
     have hat : ∀ i, i < 9 → cur[0 + j * 9 + i]? = (itemCells (l.getD j default))[i]? := fun i hi => by
      rw [Nat.zero_add, ← flat9 l j hj i hi, ← h4, List.getElem?_take_of_lt (by omega)]
      simp
     refine ⟨?_, ?_, ?_, ?_, ?_, ?_, ?_, ?_, ?_⟩
     · rw [ce]; exact hat 0 (by omega)
     · rw [ce]; exact hat 1 (by omega)
     · rw [ce]; exact hat 2 (by omega)
     · rw [ce]; exact hat 3 (by omega)
     · rw [ce]; exact hat 4 (by omega)
     · rw [ce]; exact hat 5 (by omega)
     · rw [ce]; exact hat 6 (by omega)
     · rw [ce]; exact hat 7 (by omega)
     · rw [ce]; exact hat 8 (by omega)

/- Rows of items. -/

theorem infoItem : (Tryz.prog.info? 62).map (fun i => (i.zero, i.size, i.bytes)) = some (some (.agg #[.string ByteArray.empty, .int .i64 0, .int .i64 0, .int .i64 0, .int .i64 0, .string ByteArray.empty, .bool false, .int .i64 0, .int .i64 0]), 9, 88) := by kernel_rfl

/-- The items j < k of the row that is made. -/
def RowI (l : List ItemR) (k : Nat) (cur : Array Value) : Prop :=
 ∀ j, j < k → cur[j * 9]? = some (.string (l.getD j default).key) ∧ cur[j * 9 + 1]? = some (.int .i64 (l.getD j default).flags) ∧ cur[j * 9 + 2]? = some (.int .i64 (l.getD j default).until_) ∧ cur[j * 9 + 3]? = some (.int .i64 (l.getD j default).cas) ∧ cur[j * 9 + 4]? = some (.int .i64 (l.getD j default).used) ∧
  cur[j * 9 + 5]? = some (.string (l.getD j default).value) ∧ cur[j * 9 + 6]? = some (.bool (l.getD j default).far) ∧ cur[j * 9 + 7]? = some (.int .i64 (l.getD j default).page) ∧ cur[j * 9 + 8]? = some (.int .i64 (l.getD j default).at_)

theorem cell_rowI {w : World} {H : Nat} {cur : Array Value} (h : w.heap[H]? = some (.cells cur 62 (0, 0))) (j : Nat) : w.cell? ⟨H, j, none⟩ = cur[j]? := by simp [World.cell?, h]

theorem row_items {l : List ItemR} {H : Nat} {cur : Array Value} {w w' : World} (hm : l.length ≤ maxLen) (hHl : H < w.heap.size) (hcur : w.heap[H]? = some (.cells cur 62 (0, 0))) (hP : RowI l l.length cur) (hs : w.heap.size ≤ w'.heap.size) (hw : w'.heap[H]? = w.heap[H]?) : ItemsAt w' (some ⟨H, 0, none⟩) l := by
 have ce : ∀ o, w'.cell? ⟨H, o, none⟩ = cur[o]? := fun o => by simp [World.cell?, hw, hcur]
 refine ⟨hm, Or.inr ⟨H, 0, rfl, Nat.lt_of_lt_of_le hHl hs, fun j hj => ?_⟩⟩
 obtain ⟨e0, e1, e2, e3, e4, e5, e6, e7, e8⟩ := hP j hj
 unfold ItemAt
 rw [Nat.zero_add]
 exact ⟨by rw [ce]; exact e0, by rw [ce]; exact e1, by rw [ce]; exact e2, by rw [ce]; exact e3, by rw [ce]; exact e4, by rw [ce]; exact e5, by rw [ce]; exact e6, by rw [ce]; exact e7, by rw [ce]; exact e8⟩

/-- Nine cells of the row are set. -/
def set9 (w : World) (H k : Nat) (it : ItemR) : World :=
 ((((((((w.setCell ⟨H, k * 9, none⟩ (.string it.key)).setCell ⟨H, k * 9 + 1, none⟩ (.int .i64 it.flags)).setCell ⟨H, k * 9 + 2, none⟩ (.int .i64 it.until_)).setCell ⟨H, k * 9 + 3, none⟩ (.int .i64 it.cas)).setCell ⟨H, k * 9 + 4, none⟩ (.int .i64 it.used)).setCell
   ⟨H, k * 9 + 5, none⟩ (.string it.value)).setCell ⟨H, k * 9 + 6, none⟩ (.bool it.far)).setCell ⟨H, k * 9 + 7, none⟩ (.int .i64 it.page)).setCell ⟨H, k * 9 + 8, none⟩ (.int .i64 it.at_)

/-- The store lies in blocks from n on: what changes below does not matter. -/
def StoreFrom (n : Nat) (w : World) (s : StoreR) (ia pa : Option Addr) : Prop := ∀ w' : World, w.heap.size ≤ w'.heap.size → (∀ b, n ≤ b → b < w.heap.size → w'.heap[b]? = w.heap[b]?) → StoreIn w' s ia pa

theorem set9_other (w : World) (H k : Nat) (it : ItemR) (b : Nat) (h : b ≠ H) : (set9 w H k it).heap[b]? = w.heap[b]? := by
 unfold set9
 iterate 9 rw [heap_setCell_other _ _ _ _ (show b ≠ H from h)]

/- Items in a row of the call's own, changed in place. -/

/-- Items in a row of the call's own. -/
def RowIt (w : World) (v : Value) (l : List ItemR) : Prop := w.ownsRow 0 62 9 v l.length (l.flatMap itemCells)
/-- Where the first item stands of which p holds; -1: nowhere. -/
def idxV (p : ItemR → Bool) (l : List ItemR) : Int := if l.findIdx p < l.length then ((l.findIdx p : Nat) : Int) else -1

theorem itemCells_len : ∀ l : List ItemR, (l.flatMap itemCells).length = l.length * 9
 | [] => rfl
 | x :: r => by rw [List.flatMap_cons, List.length_append, itemCells_len r, List.length_cons]; simp [itemCells]; omega

theorem itemCells_take : ∀ (l : List ItemR) (k : Nat), (l.flatMap itemCells).take (k * 9) = (l.take k).flatMap itemCells
 | l, 0 => by simp
 | [], k + 1 => by simp
 | x :: r, k + 1 => by
  have hx : (itemCells x).length = 9 := rfl
  rw [List.take_succ_cons, List.flatMap_cons, List.flatMap_cons, ← itemCells_take r k, show (k + 1) * 9 = (itemCells x).length + k * 9 by rw [hx]; omega, List.take_append, List.take_of_length_le (by omega)]
  simp
theorem RowIt.kept {w w' : World} {v : Value} {l : List ItemR} (h : RowIt w v l) (hk : ∀ b, v.ownBlock = some b → b < w.heap.size → w'.heap[b]? = w.heap[b]?) : RowIt w' v l := by
 refine ⟨h.1, ?_⟩
 rcases h.2 with h0 | ⟨g, cap, cur, hv, hg, hc, q⟩
 · exact Or.inl h0
 · exact Or.inr ⟨g, cap, cur, hv, hg, by rw [hk g (by rw [hv]; rfl) (Array.getElem?_eq_some_iff.1 hc).1]; exact hc, q⟩
theorem RowIt.later {w w' : World} {v : Value} {l : List ItemR} (h : RowIt w v l) (hb : Below w.heap.size w w') : RowIt w' v l := h.kept fun b _ hl => hb.block b hl

theorem RowIt.items {w : World} {v : Value} {l : List ItemR} (h : RowIt w v l) (hm : l.length ≤ maxLen) : ∃ a c, v = .slice a l.length c ∧ ItemsAt w a l := by
 have hO : OwnIt { w with heap := #[] } w v l := ⟨h, ⟨rfl, rfl, rfl, Nat.zero_le _, fun k hk => absurd hk (Nat.not_lt_zero _)⟩⟩
 obtain ⟨a, c, e, hF⟩ := hO.items hm
 exact ⟨a, c, e, hF w (Nat.le_refl _) (fun _ _ _ => rfl)⟩

theorem RowIt.block {w : World} {v : Value} {l : List ItemR} (h : RowIt w v l) (hp : 0 < l.length) : ∃ g cap, v = .slice (some ⟨g, 0, none⟩) l.length cap ∧ ∃ cur : Array Value, w.heap[g]? = some (.cells cur 62 (0, 0)) ∧ l.length ≤ cap ∧ cap ≤ maxLen ∧ cur.size = cap * 9 ∧ cur.toList.take (l.length * 9) = l.flatMap itemCells := by
 rcases h.2 with ⟨_, h0⟩ | ⟨g, cap, cur, hv, hg, hc, h1, h2, h3, h4⟩
 · omega
 · exact ⟨g, cap, hv, cur, hc, h1, h2, h3, h4⟩

/-- The items that are kept of the first j ones stand ahead; those from j on are as they were. -/
structure DelAt (p : ItemR → Bool) (l : List ItemR) (g cap i j : Nat) (cur : Array Value) : Prop where
 le : i < j
 ge : j ≤ l.length
 cap_ge : l.length ≤ cap
 size : cur.size = cap * 9
 len : ((l.take j).filter fun it => !(p it)).length = i
 head : cur.toList.take (i * 9) = ((l.take j).filter fun it => !(p it)).flatMap itemCells
 rest : ∀ q, j ≤ q → q < l.length → ∀ t, t < 9 → cur[q * 9 + t]? = (itemCells (l.getD q default))[t]?

theorem DelAt.facts {p : ItemR → Bool} {l : List ItemR} {g cap i j : Nat} {cur : Array Value} (h : DelAt p l g cap i j cur) : i < j ∧ j ≤ l.length ∧ cur.size = cap * 9 ∧ l.length ≤ cap ∧ True := ⟨h.le, h.ge, h.size, h.cap_ge, trivial⟩

theorem filter_none {p : ItemR → Bool} {l : List ItemR} {j : Nat} (h : ∀ q, q < j → ∀ hq : q < l.length, p l[q] = false) : (l.take j).filter (fun it => !(p it)) = l.take j := by
 rw [List.filter_eq_self]
 intro x hx
 obtain ⟨q, hq, rfl⟩ := List.getElem_of_mem hx
 rw [List.length_take] at hq
 rw [List.getElem_take]
 simp [h q (by omega) (by omega)]

theorem DelAt.start (p : ItemR → Bool) (l : List ItemR) (g cap : Nat) (cur : Array Value) (hcap : l.length ≤ cap) (hcs : cur.size = cap * 9) (ht : cur.toList.take (l.length * 9) = l.flatMap itemCells) (hno : l.findIdx p < l.length) : DelAt p l g cap (l.findIdx p) (l.findIdx p + 1) cur := by
 have hn : ∀ q, q < l.findIdx p → ∀ hq : q < l.length, p l[q] = false := fun q hq hql => by
  have := List.not_of_lt_findIdx (p := p) (xs := l) (i := q) hq
  simpa using this
 have hy : p l[l.findIdx p] = true := List.findIdx_getElem (w := hno)
 have hf : (l.take (l.findIdx p + 1)).filter (fun it => !(p it)) = l.take (l.findIdx p) := by
  rw [List.take_add_one, List.getElem?_eq_getElem hno, List.filter_append, filter_none hn]
  simp [hy]
 have hcell : ∀ q, q < l.length → ∀ t, t < 9 → cur[q * 9 + t]? = (itemCells (l.getD q default))[t]? := fun q hq t ht' => by
  rw [← flat9 l q hq t ht', ← ht, List.getElem?_take_of_lt (by omega)]
  simp
 refine ⟨Nat.lt_succ_self _, hno, hcap, hcs, by rw [hf, List.length_take]; omega, ?_, fun q _ hq t ht' => hcell q hq t ht'⟩
 rw [hf]
 have h1 : (l.take (l.findIdx p)).flatMap itemCells = (l.flatMap itemCells).take (l.findIdx p * 9) := (itemCells_take l _).symm
 rw [h1, ← ht, List.take_take]
 congr 1
 omega

/-- Nine cells laid. -/
def laid9 (cur : Array Value) (i : Nat) (it : ItemR) : Array Value := ((((((((cur.setIfInBounds (i * 9) (.string it.key)).setIfInBounds (i * 9 + 1) (.int .i64 it.flags)).setIfInBounds (i * 9 + 2) (.int .i64 it.until_)).setIfInBounds (i * 9 + 3) (.int .i64 it.cas)).setIfInBounds (i * 9 + 4) (.int .i64 it.used)).setIfInBounds (i * 9 + 5) (.string it.value)).setIfInBounds (i * 9 + 6) (.bool it.far)).setIfInBounds (i * 9 + 7) (.int .i64 it.page)).setIfInBounds (i * 9 + 8) (.int .i64 it.at_)
theorem laid9_size (cur : Array Value) (i : Nat) (it : ItemR) : (laid9 cur i it).size = cur.size := by unfold laid9; simp
theorem laid9_get (cur : Array Value) (i : Nat) (it : ItemR) (h : i * 9 + 9 ≤ cur.size) (j : Nat) : (laid9 cur i it)[j]? = if j < i * 9 then cur[j]? else if j < i * 9 + 9 then (itemCells it)[j - i * 9]? else cur[j]? := by
 unfold laid9
 by_cases h1 : j < i * 9
 · rw [if_pos h1]
   iterate 9 rw [Array.getElem?_setIfInBounds_ne (by omega)]
 · rw [if_neg h1]
   by_cases h2 : j < i * 9 + 9
   · rw [if_pos h2]
     have hj : j = i * 9 ∨ j = i * 9 + 1 ∨ j = i * 9 + 2 ∨ j = i * 9 + 3 ∨ j = i * 9 + 4 ∨ j = i * 9 + 5 ∨ j = i * 9 + 6 ∨ j = i * 9 + 7 ∨ j = i * 9 + 8 := by omega
     rcases hj with rfl | rfl | rfl | rfl | rfl | rfl | rfl | rfl | rfl <;> (repeat (first | rw [Array.getElem?_setIfInBounds_self_of_lt (by first | omega | (simp; omega))] | rw [Array.getElem?_setIfInBounds_ne (by omega)])) <;> simp [itemCells]
   · rw [if_neg h2]
     iterate 9 rw [Array.getElem?_setIfInBounds_ne (by omega)]

theorem take_succ_get {α : Type} [Inhabited α] (l : List α) (j : Nat) (h : j < l.length) : l.take (j + 1) = l.take j ++ [l.getD j default] := by
 rw [List.take_add_one, List.getElem?_eq_getElem h, List.getD_eq_getElem?_getD, List.getElem?_eq_getElem h]
 rfl

/-- The next item goes. -/
theorem DelAt.drop {p : ItemR → Bool} {l : List ItemR} {g cap i j : Nat} {cur : Array Value} (h : DelAt p l g cap i j cur) (hp : p (l.getD j default) = true) (hj : j < l.length) : DelAt p l g cap i (j + 1) cur := by
 have hf : (l.take (j + 1)).filter (fun it => !(p it)) = (l.take j).filter fun it => !(p it) := by
  rw [take_succ_get l j hj, List.filter_append, List.filter_cons_of_neg (by rw [hp]; decide)]
  simp
 exact ⟨Nat.lt_succ_of_lt h.le, hj, h.cap_ge, h.size, by rw [hf]; exact h.len, by rw [hf]; exact h.head, fun q hq => h.rest q (by omega)⟩
/-- The next item stays. -/
theorem DelAt.keep {p : ItemR → Bool} {l : List ItemR} {g cap i j : Nat} {cur : Array Value} (h : DelAt p l g cap i j cur) (hp : p (l.getD j default) = false) (hj : j < l.length) : DelAt p l g cap (i + 1) (j + 1) (laid9 cur i (l.getD j default)) := by
 have hf : (l.take (j + 1)).filter (fun it => !(p it)) = ((l.take j).filter fun it => !(p it)) ++ [l.getD j default] := by
  rw [take_succ_get l j hj, List.filter_append, List.filter_cons_of_pos (by rw [hp]; rfl)]
  rfl
 have h1 := h.le
 have h2 := h.cap_ge
 have h3 := h.size
 refine ⟨by omega, hj, h2, by rw [laid9_size]; exact h3, by rw [hf, List.length_append, h.len]; rfl, ?_, fun q hq hql t ht => ?_⟩
 · rw [hf, List.flatMap_append, ← h.head]
   apply List.ext_getElem?
   intro q
   have hl : (cur.toList.take (i * 9)).length = i * 9 := by rw [List.length_take, Array.length_toList]; omega
   by_cases hq : q < i * 9
   · rw [List.getElem?_take_of_lt (by omega), Array.getElem?_toList, laid9_get _ _ _ (by omega), if_pos hq, List.getElem?_append_left (by omega), List.getElem?_take_of_lt hq, Array.getElem?_toList]
   · rw [List.getElem?_append_right (by omega), hl]
     by_cases hq2 : q < i * 9 + 9
     · rw [List.getElem?_take_of_lt (by omega), Array.getElem?_toList, laid9_get _ _ _ (by omega), if_neg hq, if_pos hq2]
       simp
     · rw [List.getElem?_eq_none (by rw [List.length_take]; omega), List.getElem?_eq_none (by simp [itemCells]; omega)]
 · rw [laid9_get _ _ _ (by omega), if_neg (by omega), if_neg (by omega)]
   exact h.rest q (by omega) hql t ht

theorem set9_laid {w : World} {g : Nat} {cur : Array Value} (h : TB 62 w g cur) (k : Nat) (it : ItemR) : (set9 w g k it).heap[g]? = some (.cells (laid9 cur k it) 62 (0, 0)) := by
 unfold set9 laid9
 exact (((((((((h.set (k * 9) _).set (k * 9 + 1) _).set (k * 9 + 2) _).set (k * 9 + 3) _).set (k * 9 + 4) _).set (k * 9 + 5) _).set (k * 9 + 6) _).set (k * 9 + 7) _).set (k * 9 + 8) _)
theorem set_grown (w : World) (g j : Nat) (v : Value) : w.grownBy (w.setCell ⟨g, j, none⟩ v) (some g) := ⟨rfl, rfl, rfl, by simp [World.setCell], fun i hi hne => heap_setCell_other w ⟨g, j, none⟩ i v (fun e => hne (by rw [e]))⟩
theorem set9_grown (w : World) (g k : Nat) (it : ItemR) : w.grownBy (set9 w g k it) (some g) := by
 unfold set9
 exact ((((((((set_grown w g _ _).trans (set_grown _ g _ _)).trans (set_grown _ g _ _)).trans (set_grown _ g _ _)).trans (set_grown _ g _ _)).trans (set_grown _ g _ _)).trans (set_grown _ g _ _)).trans (set_grown _ g _ _)).trans (set_grown _ g _ _)
theorem set9_far {w : World} {g K : Nat} {tK : TypeId} {cs : Array Value} (h : TB tK w K cs) (k : Nat) (it : ItemR) (hne : K ≠ g) : TB tK (set9 w g k it) K cs := by
 unfold TB
 rw [set9_other w g k it K hne]
 exact h
set_option maxRecDepth 100000 in
theorem zeroItem (w : World) : (zeroValue 62).run Tryz.prog w = .ok (.agg #[.string ByteArray.empty, .int .i64 0, .int .i64 0, .int .i64 0, .int .i64 0, .string ByteArray.empty, .bool false, .int .i64 0, .int .i64 0]) w := by
 first
  | rfl
  | simp [zeroValue, go_sem]

/- The contracts of slices.IndexFunc and slices.DeleteFunc over items, at the closure dovecote/store.moveToFlash$1. -/

/-- The closure answers p of an item, whatever the world, if its captured cell is as it was. -/
def ClosM (p : ItemR → Bool) (tK : TypeId) (K : Nat) (csK : Array Value) : Prop := ∀ (it : ItemR) (w : World), TB tK w K csK → Calls Tryz.prog 159 #[.agg #[.string it.key, .int .i64 it.flags, .int .i64 it.until_, .int .i64 it.cas, .int .i64 it.used, .string it.value, .bool it.far, .int .i64 it.page, .int .i64 it.at_], .pointer (some ⟨K, 0, none⟩)] w fun e w' => e = .returned (.bool (p it)) ∧ Below w.heap.size w w'

set_option maxHeartbeats 1000000 in
set_option maxRecDepth 100000 in
theorem idxM_any (p : ItemR → Bool) (tK : TypeId) (K : Nat) (csK : Array Value) (hcl : ClosM p tK K csK) (l : List ItemR) (a : Option Addr) (c : Nat) (w : World) (hP : ItemsAt w a l) (hK : TB tK w K csK) :
 Calls Tryz.prog 21 #[.slice a l.length c, .func (.func 159) #[] #[.pointer (some ⟨K, 0, none⟩)]] w fun e w' => e = .returned (.int .i64 (idxV p l)) ∧ Below w.heap.size w w' := by
 obtain ⟨hn, hmem⟩ := hP
 unfold maxLen at hn
 have EI : Hid (idxV p l = if l.findIdx p < l.length then ((l.findIdx p : Nat) : Int) else -1) := rfl
 generalize idxV p l = J at *
 unfold ClosM at hcl
 go_enter Tryz.func21, Tryz.ntmps21
 go_wp2
 go_loopw [5, 8] (fun _ i wr => ∃ k : Nat, k ≤ l.length ∧ i = .int .i64 k ∧ Hid (k ≤ l.findIdx p) ∧ Below w.heap.size w wr) (fun _ i _ => l.length - (intOf i).toNat)
 case atStart => exact ⟨0, Nat.zero_le _, rfl, Nat.zero_le _, Below.refl _ _⟩
 case round =>
  obtain ⟨k, hk, rfl, A, hb⟩ := hrel
  by_cases hlt2 : k < l.length
  · have hltz : (k : Int) < (l.length : Int) := by omega
    have hk0 : (0 : Int) ≤ (k : Int) := Int.natCast_nonneg _
    rcases hmem with hmem | ⟨b, off, rfl, hlt, hc⟩
    · omega
    obtain ⟨c0, c1, c2, c3, c4, c5, c6, c7, c8⟩ := (hc k hlt2).later hlt hb
    have hKr := hK.later hb
    have hgk : l[k] = l.getD k default := by rw [List.getD_eq_getElem?_getD, List.getElem?_eq_getElem hlt2]; rfl
    clear hc
    have hcall := hcl (l.getD k default) wr hKr
    generalize l.getD k default = it at *
    cases hq : p it with
    | true =>
     have C : Hid (l.findIdx p = k) := by
      show l.findIdx p = k
      refine (List.findIdx_eq hlt2).2 ⟨by rw [hgk]; exact hq, fun j hj => ?_⟩
      have := List.not_of_lt_findIdx (p := p) (xs := l) (i := j) (Nat.lt_of_lt_of_le hj A.out)
      simpa using this
     rw [hq] at hcall
     clear hq hgk hcl
     go_wp2_with (go_at_call 159; refine hcall.mono ?_; rintro e w' ⟨rfl, hb2⟩)
     go_ret
     exact ⟨ret_i64 (by rw [EI.out, C.out, if_pos hlt2]), hb.trans (hb2.mono hb.size)⟩
    | false =>
     have D : Hid (k + 1 ≤ l.findIdx p) := by
      show k + 1 ≤ l.findIdx p
      rcases Nat.lt_or_ge k (l.findIdx p) with h | h
      · exact h
      · have e : l.findIdx p = k := Nat.le_antisymm h A.out
        have := List.findIdx_getElem (p := p) (xs := l) (w := by omega)
        have e2 : l[List.findIdx p l]'(by omega) = l[k] := by congr 1
        rw [e2, hgk, hq] at this
        cases this
     rw [hq] at hcall
     clear hq hgk hcl
     go_wp2_with (go_at_call 159; refine hcall.mono ?_; rintro e w' ⟨rfl, hb2⟩)
     go_roundw
     case rel => exact ⟨k + 1, by omega, by go_num, D, hb.trans (hb2.mono hb.size)⟩
     case measure => simp [intOf]; omega
  · have hltz : ¬ (k : Int) < (l.length : Int) := by omega
    have C : Hid (¬ l.findIdx p < l.length) := by have := A.out; show ¬ _; omega
    clear hmem hcl
    go_wp2
    go_ret
    exact ⟨ret_i64 (by rw [EI.out, if_neg C.out]), hb⟩

set_option maxHeartbeats 4000000 in
set_option maxRecDepth 100000 in
theorem delM_any (p : ItemR → Bool) (tK : TypeId) (K : Nat) (csK : Array Value) (hcl : ClosM p tK K csK) (l : List ItemR) (v : Value) (w : World) (hR : RowIt w v l) (hK : TB tK w K csK) (hKv : v.ownBlock ≠ some K) (hl : l.length ≤ 1000) :
 Calls Tryz.prog 113 #[v, .func (.func 159) #[] #[.pointer (some ⟨K, 0, none⟩)]] w fun e w' => ∃ v', e = .returned v' ∧ RowIt w' v' (l.filter fun it => !(p it)) ∧ w.grownBy w' v.ownBlock ∧ v'.ownBlock = v.ownBlock := by
 obtain ⟨a, c, rfl, hA⟩ := hR.items (by unfold maxLen; omega)
 have hidx := idxM_any p tK K csK hcl l a c w hA hK
 by_cases hno : l.findIdx p < l.length
 · obtain ⟨g, cap, hv, cur0, hg0, hcap, hcm, hcs, ht0⟩ := hR.block (by omega)
   have hgl : g < w.heap.size := (Array.getElem?_eq_some_iff.1 hg0).1
   have hKg : K ≠ g := fun e => hKv (by rw [hv, e]; rfl)
   obtain ⟨rfl, rfl⟩ : a = some ⟨g, 0, none⟩ ∧ c = cap := by simp at hv; exact hv
   have hidx2 : idxV p l = ((l.findIdx p : Nat) : Int) := by unfold idxV; rw [if_pos hno]
   rw [hidx2] at hidx
   have S0 : DelAt p l g c (l.findIdx p) (l.findIdx p + 1) cur0 := DelAt.start p l g c cur0 hcap hcs ht0 hno
   have hcm2 : c ≤ 9223372036854775807 := by unfold maxLen at hcm; exact hcm
   have hm1 : ((l.findIdx p : Nat) : Int) ≤ 1000 := by omega
   have hm2 : (0 : Int) ≤ ((l.findIdx p : Nat) : Int) := by omega
   have hne1 : (((l.findIdx p : Nat) : Int) == -1) = false := by rw [beq_eq_false_iff_ne]; omega
   have hil := hno
   generalize hi0 : l.findIdx p = i0 at *
   clear hidx2
   unfold ClosM at hcl
   go_enter Tryz.func113, Tryz.ntmps113
   go_wp2_with (go_at_call 21; refine hidx.mono ?_; rintro e w1 ⟨rfl, hb1⟩)
   have hg1 : w1.heap[g]? = some (.cells cur0 62 (0, 0)) := by rw [hb1.block g hgl]; exact hg0
   have F1 : w.grownBy w1 (some g) := ⟨hb1.os, hb1.tape, hb1.output, hb1.size, fun k hk _ => hb1.block k hk⟩
   have K1 := hK.later hb1
   clear hidx hg0 hK hb1
   go_loopw [5, 6] (fun i j wr => ∃ (ii jj : Nat) (cur : Array Value), i = .int .i64 ii ∧ j = .int .i64 jj ∧ DelAt p l g c ii jj cur ∧ wr.heap[g]? = some (.cells cur 62 (0, 0)) ∧ w.grownBy wr (some g) ∧ TB tK wr K csK) (fun _ j _ => l.length - (intOf j).toNat)
   case atStart => exact ⟨i0, i0 + 1, cur0, rfl, by simp, S0, hg1, F1, K1⟩
   case round =>
    clear S0 hg1 F1 K1
    obtain ⟨ii, jj, cur, rfl, rfl, hD, hg, hF, hKr⟩ := hrel
    obtain ⟨hij, hjl, hsz, hD1, hD2⟩ := hD.facts
    have hT : TB 62 wr g cur := hg
    by_cases hlt : jj < l.length
    · have hltz : (jj : Int) < (l.length : Int) := by omega
      have hj0 : (0 : Int) ≤ (jj : Int) := Int.natCast_nonneg _
      have hj1 : (jj : Int) ≤ 1000 := by omega
      have hi0' : (0 : Int) ≤ (ii : Int) := Int.natCast_nonneg _
      have hi1' : (ii : Int) < (l.length : Int) := by omega
      have hi2' : (ii : Int) ≤ 1000 := by omega
      have hgr := hT.lt
      have hD0 := hD
      have hrow := hD.rest jj (Nat.le_refl _) hlt
      have e0 := hrow 0 (by omega)
      have e1 := hrow 1 (by omega)
      have e2 := hrow 2 (by omega)
      have e3 := hrow 3 (by omega)
      have e4 := hrow 4 (by omega)
      have e5 := hrow 5 (by omega)
      have e6 := hrow 6 (by omega)
      have e7 := hrow 7 (by omega)
      have e8 := hrow 8 (by omega)
      have hnext := fun h => hD0.drop h hlt
      have hkeep := fun h => hD0.keep h hlt
      clear hrow hD hD0
      generalize l.getD jj default = it at *
      simp only [itemCells, Nat.add_zero] at e0 e1 e2 e3 e4 e5 e6 e7 e8
      have c0 : wr.cell? ⟨g, jj * 9, none⟩ = some (.string it.key) := by rw [hT.cell]; exact e0
      have c1 : wr.cell? ⟨g, jj * 9 + 1, none⟩ = some (.int .i64 it.flags) := by rw [hT.cell]; exact e1
      have c2 : wr.cell? ⟨g, jj * 9 + 2, none⟩ = some (.int .i64 it.until_) := by rw [hT.cell]; exact e2
      have c3 : wr.cell? ⟨g, jj * 9 + 3, none⟩ = some (.int .i64 it.cas) := by rw [hT.cell]; exact e3
      have c4 : wr.cell? ⟨g, jj * 9 + 4, none⟩ = some (.int .i64 it.used) := by rw [hT.cell]; exact e4
      have c5 : wr.cell? ⟨g, jj * 9 + 5, none⟩ = some (.string it.value) := by rw [hT.cell]; exact e5
      have c6 : wr.cell? ⟨g, jj * 9 + 6, none⟩ = some (.bool it.far) := by rw [hT.cell]; exact e6
      have c7 : wr.cell? ⟨g, jj * 9 + 7, none⟩ = some (.int .i64 it.page) := by rw [hT.cell]; exact e7
      have c8 : wr.cell? ⟨g, jj * 9 + 8, none⟩ = some (.int .i64 it.at_) := by rw [hT.cell]; exact e8
      have A1 : Below wr.heap.size wr (wr.alloc (.cells #[.string it.key, .int .i64 it.flags, .int .i64 it.until_, .int .i64 it.cas, .int .i64 it.used, .string it.value, .bool it.far, .int .i64 it.page, .int .i64 it.at_] 62)) := (Below.refl _ _).alloc (Nat.le_refl _) _
      have T1 := hT.later A1
      have B1 := TB.new 62 wr #[.string it.key, .int .i64 it.flags, .int .i64 it.until_, .int .i64 it.cas, .int .i64 it.used, .string it.value, .bool it.far, .int .i64 it.page, .int .i64 it.at_]
      have K1 := hKr.later A1
      have F1 : w.grownBy (wr.alloc (.cells #[.string it.key, .int .i64 it.flags, .int .i64 it.until_, .int .i64 it.cas, .int .i64 it.used, .string it.value, .bool it.far, .int .i64 it.page, .int .i64 it.at_] 62)) (some g) := hF.trans ⟨A1.os, A1.tape, A1.output, A1.size, fun k hk _ => A1.block k hk⟩
      have hcall := hcl it _ K1
      clear e0 e1 e2 e3 e4 e5 e6 e7 e8 hg hT hKr hF A1
      cases hq : p it with
      | true =>
       have hN := hnext hq
       rw [hq] at hcall
       clear hq hnext hkeep hcl
       go_wp2_with fail
       refine hcall.mono ?_
       rintro e w2 ⟨rfl, hb2⟩
       have T2 := T1.later hb2
       have K2 := K1.later hb2
       have F2 : w.grownBy w2 (some g) := F1.trans ⟨hb2.os, hb2.tape, hb2.output, hb2.size, fun k hk _ => hb2.block k hk⟩
       go_wp2_with fail
       exact ⟨⟨ii, jj + 1, cur, rfl, by simp, hN, T2, F2, K2⟩, by simp [intOf]; omega⟩
      | false =>
       have hN := hkeep hq
       rw [hq] at hcall
       clear hq hnext hkeep hcl
       go_wp2_with fail
       refine hcall.mono ?_
       rintro e w2 ⟨rfl, hb2⟩
       have T2 := T1.later hb2
       have K2 := K1.later hb2
       have B2 := B1.later hb2
       have F2 : w.grownBy w2 (some g) := F1.trans ⟨hb2.os, hb2.tape, hb2.output, hb2.size, fun k hk _ => hb2.block k hk⟩
       have x2 := fun j => B2.cell j
       have lx2 := B2.lt
       have u2 := fun j => T2.frozen j
       have v2 := T2.lt
       have hsz9 : ii * 9 + 9 ≤ cur.size := by rw [hsz]; omega
       have r0 : w2.cell? ⟨g, ii * 9, none⟩ = some (cur[ii * 9]'(by omega)) := by rw [T2.cell, Array.getElem?_eq_getElem]
       have r1 : w2.cell? ⟨g, ii * 9 + 1, none⟩ = some (cur[ii * 9 + 1]'(by omega)) := by rw [T2.cell, Array.getElem?_eq_getElem]
       have r2 : w2.cell? ⟨g, ii * 9 + 2, none⟩ = some (cur[ii * 9 + 2]'(by omega)) := by rw [T2.cell, Array.getElem?_eq_getElem]
       have r3 : w2.cell? ⟨g, ii * 9 + 3, none⟩ = some (cur[ii * 9 + 3]'(by omega)) := by rw [T2.cell, Array.getElem?_eq_getElem]
       have r4 : w2.cell? ⟨g, ii * 9 + 4, none⟩ = some (cur[ii * 9 + 4]'(by omega)) := by rw [T2.cell, Array.getElem?_eq_getElem]
       have r5 : w2.cell? ⟨g, ii * 9 + 5, none⟩ = some (cur[ii * 9 + 5]'(by omega)) := by rw [T2.cell, Array.getElem?_eq_getElem]
       have r6 : w2.cell? ⟨g, ii * 9 + 6, none⟩ = some (cur[ii * 9 + 6]'(by omega)) := by rw [T2.cell, Array.getElem?_eq_getElem]
       have r7 : w2.cell? ⟨g, ii * 9 + 7, none⟩ = some (cur[ii * 9 + 7]'(by omega)) := by rw [T2.cell, Array.getElem?_eq_getElem]
       have r8 : w2.cell? ⟨g, ii * 9 + 8, none⟩ = some (cur[ii * 9 + 8]'(by omega)) := by rw [T2.cell, Array.getElem?_eq_getElem]
       have hs9 := set9_laid (g := g) T2 ii it
       have hs9F : w.grownBy (set9 w2 g ii it) (some g) := F2.trans (set9_grown w2 g ii it)
       have hs9K : TB tK (set9 w2 g ii it) K csK := set9_far K2 ii it hKg
       unfold set9 at hs9 hs9F hs9K
       clear T1 K1 B1 F1 T2 K2 B2 F2 c0 c1 c2 c3 c4 c5 c6 c7 c8
       go_wp2_with fail
       exact ⟨⟨ii + 1, jj + 1, laid9 cur ii it, by simp, by simp, hN, hs9, hs9F, hs9K⟩, by simp [intOf]; omega⟩
    · have hje : jj = l.length := by omega
      have hltz : ¬ (jj : Int) < (l.length : Int) := by omega
      have hcz : ¬ c = ii := by omega
      have hz1 : (ii : Int) ≤ (l.length : Int) := by omega
      have hz2 : (0 : Int) ≤ (ii : Int) := Int.natCast_nonneg _
      have hz3 : (ii : Int) ≤ (c : Int) := by omega
      have hzl : (Builtin.zeroCells (Value.agg #[.string ByteArray.empty, .int .i64 0, .int .i64 0, .int .i64 0, .int .i64 0, .string ByteArray.empty, .bool false, .int .i64 0, .int .i64 0]).cells (l.length - ii)).toList.length = (l.length - ii) * 9 := by simp [Builtin.zeroCells, Value.cells]
      have hfit : ii * 9 + (l.length - ii) * 9 ≤ cur.size := by rw [hsz]; omega
      have hclr : ∀ ty, (Builtin.clear_ #[24] ty #[.slice (some ⟨g, ii * 9, none⟩) (l.length - ii) (c - ii)]).run Tryz.prog wr = .ok (.tuple #[]) (wr.setCells g (ii * 9) (Builtin.zeroCells (Value.agg #[.string ByteArray.empty, .int .i64 0, .int .i64 0, .int .i64 0, .int .i64 0, .string ByteArray.empty, .bool false, .int .i64 0, .int .i64 0]).cells (l.length - ii)).toList) :=
       fun ty => run_clear_row wr 24 62 ty _ Tryz.underlying24 zeroItem (by intro u hu; simp [Value.cells] at hu; rcases hu with rfl | rfl | rfl | rfl | rfl | rfl | rfl | rfl | rfl <;> rfl) g _ (l.length - ii) _ (by omega) (fun j hj => (row_there hg _ (by have : j < (l.length - ii) * 9 := hj; omega)).1) (fun j hj => (row_there hg _ (by have : j < (l.length - ii) * 9 := hj; omega)).2)
      have hend : Hid (RowIt (wr.setCells g (ii * 9) (Builtin.zeroCells (Value.agg #[.string ByteArray.empty, .int .i64 0, .int .i64 0, .int .i64 0, .int .i64 0, .string ByteArray.empty, .bool false, .int .i64 0, .int .i64 0]).cells (l.length - ii)).toList) (.slice (some ⟨g, 0, none⟩) ii c) (l.filter fun it => !(p it)) ∧ w.grownBy (wr.setCells g (ii * 9) (Builtin.zeroCells (Value.agg #[.string ByteArray.empty, .int .i64 0, .int .i64 0, .int .i64 0, .int .i64 0, .string ByteArray.empty, .bool false, .int .i64 0, .int .i64 0]).cells (l.length - ii)).toList) (some g)) := by
       refine ⟨?_, hF.trans (setCells_grown g _ _ wr)⟩
       have hlen := hD.len
       have hhead := hD.head
       rw [hje, List.take_length] at hlen hhead
       have hrow := setCells_row (Builtin.zeroCells (Value.agg #[.string ByteArray.empty, .int .i64 0, .int .i64 0, .int .i64 0, .int .i64 0, .string ByteArray.empty, .bool false, .int .i64 0, .int .i64 0]).cells (l.length - ii)).toList (ii * 9) wr cur hg (by rw [hzl]; omega)
       unfold RowIt
       rw [hlen]
       refine owns_shorter (Nat.zero_le _) hrow (by omega) hcm (by rw [laid_size (by rw [hzl]; omega), hsz]) ?_
       rw [← hhead]
       apply List.ext_getElem?
       intro q
       by_cases hq : q < ii * 9
       · rw [List.getElem?_take_of_lt hq, Array.getElem?_toList, laid_get (by rw [hzl]; omega), if_pos hq, List.getElem?_take_of_lt hq, Array.getElem?_toList]
       · rw [List.getElem?_eq_none (by rw [List.length_take]; omega), List.getElem?_eq_none (by rw [List.length_take]; omega)]
      clear hcl hD hT hg hF hKr hzl
      subst hje
      go_wp2_with fail
      go_ret
      exact ⟨_, rfl, hend.out.1, hend.out.2, rfl⟩
 · have hidx2 : idxV p l = -1 := by unfold idxV; rw [if_neg hno]
   rw [hidx2] at hidx
   have hfl : (l.filter fun it => !(p it)) = l := by
    rw [List.filter_eq_self]
    intro x hx
    obtain ⟨q, hq, rfl⟩ := List.getElem_of_mem hx
    have hge : q < l.findIdx p := by have := List.findIdx_le_length (p := p) (xs := l); omega
    have := List.not_of_lt_findIdx (p := p) (xs := l) (i := q) hge
    simpa using this
   rw [hfl]
   clear hno hidx2 hfl hcl
   go_enter Tryz.func113, Tryz.ntmps113
   go_wp2_with (go_at_call 21; refine hidx.mono ?_; rintro e w1 ⟨rfl, hb1⟩)
   go_ret
   exact ⟨_, rfl, hR.later hb1, ⟨hb1.os, hb1.tape, hb1.output, hb1.size, fun k hk _ => hb1.block k hk⟩, rfl⟩

end Go.Proofs.YtdblegdgmjakfaaGreatDoor
