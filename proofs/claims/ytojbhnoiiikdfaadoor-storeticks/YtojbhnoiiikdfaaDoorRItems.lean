/- The contract of dovecoteref.items: the same items, in memory of their own. -/
import Derived.Test.YtojbhnoiiikdfaaDoorSSame
import Derived.Test.YtojbhnoiiikdfaaDoorFVals
import Derived.Test.YtojbhnoiiikdfaaDoorTB
import Derived.Deep.AppendLies
namespace Go.Proofs.YtojbhnoiiikdfaaDoor
open Go.ChangeShapes Go.WideShapes Go.ChangeAt Go.RowKit
set_option linter.unusedVariables false
set_option linter.unusedSimpArgs false

theorem infoItemR : (Tryd.prog.info? 47).map (fun i => (i.zero, i.size, i.bytes)) = some (some (.agg #[.string ByteArray.empty, .int .i64 0, .int .i64 0, .int .i64 0, .int .i64 0, .string ByteArray.empty, .bool false, .int .i64 0, .int .i64 0]), 9, 88) := by kernel_rfl

def itemCells (it : ItemR) : List Value := [.string it.key, .int .i64 it.flags, .int .i64 it.until_, .int .i64 it.cas, .int .i64 it.used, .string it.value, .bool it.far, .int .i64 it.page, .int .i64 it.at_]

theorem flat9 : ∀ (l : List ItemR) (j : Nat), j < l.length → ∀ i, i < 9 → (l.flatMap itemCells)[j * 9 + i]? = (itemCells (l.getD j default))[i]?
  | [], j, hj, _, _ => absurd hj (Nat.not_lt_zero _)
  | x :: r, 0, _, i, hi => by
    rw [List.flatMap_cons, Nat.zero_mul, Nat.zero_add, List.getElem?_append_left (by simpa [itemCells] using hi)]
    rfl
  | x :: r, j + 1, hj, i, hi => by
    have hl : (itemCells x).length = 9 := rfl
    rw [List.flatMap_cons, List.getElem?_append_right (by rw [hl]; omega), hl, show (j + 1) * 9 + i - 9 = j * 9 + i by omega, flat9 r j (by simpa using hj) i hi]
    rfl

/-- Items in a row of the call's own. -/
def OwnIt (W0 w : World) (v : Value) (l : List ItemR) : Prop := w.ownsRow W0.heap.size 47 9 v l.length (l.flatMap itemCells) ∧ Below W0.heap.size W0 w
theorem OwnIt.later {W0 w w1 : World} {v : Value} {l : List ItemR} (h : OwnIt W0 w v l) (hb : Below w.heap.size w w1) : OwnIt W0 w1 v l := ⟨ownsRow_later h.1 hb, h.2.trans (hb.mono h.2.size)⟩

/-- The items lie in blocks from n on: what changes below does not matter. -/
def ItemsFrom (n : Nat) (w : World) (a : Option Addr) (l : List ItemR) : Prop := ∀ w' : World, w.heap.size ≤ w'.heap.size → (∀ b, n ≤ b → b < w.heap.size → w'.heap[b]? = w.heap[b]?) → ItemsAt w' a l

theorem OwnIt.items {W0 w : World} {v : Value} {l : List ItemR} (h : OwnIt W0 w v l) (hm : l.length ≤ maxLen) : ∃ a c, v = .slice a l.length c ∧ ItemsFrom W0.heap.size w a l := by
  obtain ⟨hx, h | ⟨g, cap, cur, hv, hg, hc, h1, h2, h3, h4⟩⟩ := h.1
  · refine ⟨none, 0, by rw [h.1, h.2], fun w' _ _ => ⟨hm, Or.inl h.2⟩⟩
  · refine ⟨some ⟨g, 0, none⟩, cap, hv, fun w' hs hw => ⟨hm, Or.inr ⟨g, 0, rfl, ?_, fun j hj => ?_⟩⟩⟩
    · have hlt : g < w.heap.size := by
        rcases Nat.lt_or_ge g w.heap.size with hlt | hge
        · exact hlt
        · rw [Array.getElem?_eq_none hge] at hc; cases hc
      omega
    · have hlt : g < w.heap.size := by
        rcases Nat.lt_or_ge g w.heap.size with hlt | hge
        · exact hlt
        · rw [Array.getElem?_eq_none hge] at hc; cases hc
      have hc' : w'.heap[g]? = some (.cells cur 47 (0, 0)) := by rw [hw g hg hlt]; exact hc
      have ce : ∀ o, w'.cell? ⟨g, o, none⟩ = cur[o]? := fun o => by simp [World.cell?, hc']
      have hat : ∀ i, i < 9 → cur[0 + j * 9 + i]? = (itemCells (l.getD j default))[i]? := fun i hi => by
        rw [Nat.zero_add, ← flat9 l j hj i hi, ← h4, List.getElem?_take_of_lt (by omega)]
        simp
      refine ⟨?_, ?_, ?_, ?_, ?_, ?_, ?_, ?_, ?_⟩
      · rw [ce]; exact hat 0 (by omega)
      · rw [ce]; exact hat 1 (by omega)
      · rw [ce]; exact hat 2 (by omega)
      · rw [ce]; exact hat 3 (by omega)
      · rw [ce]; exact hat 4 (by omega)
      · rw [ce]; exact hat 5 (by omega)
      · rw [ce]; exact hat 6 (by omega)
      · rw [ce]; exact hat 7 (by omega)
      · rw [ce]; exact hat 8 (by omega)

theorem append_items {ops : Array Oper} {rest : List Oper} {o : Oper} {a : Act} {Q : Exit → Act → World → Prop} (w : World) (hgd : o.guard = none) (s x : Operand)
    (ho : o.op = .call { callee := .builtin .append, args := #[s, x], argTypes := #[23, 23] })
    (W0 : World) (v : Value) (l : List ItemR) (hs : a.eval s = v) (hW : OwnIt W0 w v l) (it : ItemR) (B : Nat) (hx : a.eval x = .slice (some ⟨B, 0, none⟩) 1 1) (hB : w.heap[B]? = some (.cells (itemCells it).toArray 47 (0, 0))) (hsz : (l.length + 1) * 88 ≤ 140737488351232)
    (h : ∀ g cap w', OwnIt W0 w' (.slice (some ⟨g, 0, none⟩) (l.length + 1) cap) (l ++ [it]) → wpList Tryd.prog ops Q rest (a.put o.dst (.slice (some ⟨g, 0, none⟩) (l.length + 1) cap)) w') : wpList Tryd.prog ops Q (o :: rest) a w := by
  obtain ⟨i0, hi, hz0, hz1, hz2⟩ := info_parts infoItemR
  refine wpList_append_lies w hgd s x 23 ho W0.heap.size 47 i0 _ 9 88 Tryd.underlying23 hi hz0 hz1 hz2 rfl (by omega) v l.length (l.flatMap itemCells) hs hW.1 ⟨B, 0, none⟩ 1 1 (itemCells it) hx rfl ?_ ?_ (by omega) (by unfold maxLen; omega) (by omega) hW.2.size w.heap.size rfl ?_
  · exact World.news_of_block hB
  · intro u hu
    simp [itemCells] at hu
    rcases hu with rfl | rfl | rfl | rfl | rfl | rfl | rfl | rfl | rfl <;> rfl
  intro g cap w' h2 h3 h4 h5
  refine h g cap w' ⟨?_, hW.2.grown h3 hW.2.size (fun k hk => (hW.1.lt k hk).1)⟩
  rw [List.length_append, List.flatMap_append]
  simpa using h2

def RItemsPost (l : List ItemR) (w : World) (e : Ending) (w' : World) : Prop := ∃ a' c', e = .returned (.slice a' l.length c') ∧ ItemsFrom w.heap.size w' a' l ∧ Below w.heap.size w w'

set_option maxHeartbeats 2000000 in
set_option maxRecDepth 100000 in
theorem ritems_any (l : List ItemR) (a : Option Addr) (c : Nat) (w : World) (hI : ItemsAt w a l) (hn : (l.length + 1) * 88 ≤ 140737488351232) :
    Calls Tryd.prog 44 #[.slice a l.length c] w (RItemsPost l w) := by
  obtain ⟨hmax, hmm⟩ := hI
  have hmx := hmax
  unfold maxLen at hmax
  go_enter Tryd.func44, Tryd.ntmps44
  go_wp2_with fail
  go_loopw [3, 4] (fun v i wr => ∃ k : Nat, k ≤ l.length ∧ i = .int .i64 k ∧ OwnIt w wr v (l.take k)) (fun _ i _ => l.length - (intOf i).toNat)
  case atStart => exact ⟨0, Nat.zero_le _, rfl, ⟨rfl, Or.inl ⟨rfl, rfl⟩⟩, Below.refl _ _⟩
  case round =>
    obtain ⟨k, hk, rfl, hO⟩ := hrel
    by_cases hlt : k < l.length
    · have hltz : (k : Int) < (l.length : Int) := by omega
      have hk0 : (0 : Int) ≤ (k : Int) := Int.natCast_nonneg _
      rcases hmm with hmm | ⟨b, o, rfl, hbl, hc⟩
      · omega
      obtain ⟨n0, n1, n2, n3, n4, n5, n6, n7, n8⟩ := (hc k hlt).later hbl hO.2
      have hlb : b < wr.heap.size := Nat.lt_of_lt_of_le hbl hO.2.size
      have htk : l.take k ++ [l.getD k default] = l.take (k + 1) := by
        rw [List.getD_eq_getElem?_getD, List.getElem?_eq_getElem hlt, Option.getD_some, List.take_append_getElem hlt]
      have hlen : (l.take k).length = k := by rw [List.length_take]; omega
      clear hc
      generalize hit : l.getD k default = it at *
      have hA1 : Below wr.heap.size wr (wr.alloc (.cells (itemCells it).toArray 47)) := (Below.refl _ _).alloc (Nat.le_refl _) _
      have hO2 := hO.later hA1
      have hB1 : (wr.alloc (.cells (itemCells it).toArray 47)).heap[wr.heap.size]? = some (.cells (itemCells it).toArray 47 (0, 0)) := TB.new 47 wr (itemCells it).toArray
      generalize hm : l.take k = m at *
      obtain ⟨key, flags, until_, cas, used, value, far, page, at_⟩ := it
      unfold itemCells at hO2 hB1
      simp only at *
      go_wp2_with (first | (at_builtin; refine append_items _ rfl (.tmp 11) (.tmp 16) rfl w _ m rfl hO2 ⟨key, flags, until_, cas, used, value, far, page, at_⟩ _ rfl hB1 (by omega) ?_; intro g2 cap2 w2 hO3))
      go_roundw
      case rel => exact ⟨k + 1, by omega, by go_num, by rw [← htk]; rw [hlen] at hO3; exact hO3⟩
      case measure => simp [intOf]; omega
    · have hltz : ¬ (k : Int) < (l.length : Int) := by omega
      have hke : k = l.length := by omega
      subst hke
      rw [List.take_length] at hO
      obtain ⟨a', c', rfl, hF⟩ := hO.items hmx
      have hB := hO.2
      clear hO
      go_wp2
      go_ret
      exact ⟨a', c', rfl, hF, hB⟩
end Go.Proofs.YtojbhnoiiikdfaaDoor
