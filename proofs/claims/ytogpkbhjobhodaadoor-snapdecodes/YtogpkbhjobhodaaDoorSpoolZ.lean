import Derived.Test.YtogpkbhjobhodaaDoorTB
import Derived.Deep.AppendLies
import Derived.Laws.IdiomCopy
import Derived.ArgAppend
import Derived.Test.YtogpkbhjobhodaaDoorSnapP
import Derived.Test.YtogpkbhjobhodaaDoorRFlash
import Derived.Test.YtogpkbhjobhodaaDoorRItems
import Derived.Test.YtogpkbhjobhodaaDoorIRow
import Derived.Test.YtogpkbhjobhodaaDoorFConv
import Derived.Lib.ConvBytes
import Derived.Test.YtogpkbhjobhodaaDoorSnapX
import Derived.Test.YtogpkbhjobhodaaDoorSMay2
import Derived.Deep.RegionHeld3
import Derived.Deep.RegionWith
import Derived.Deep.DeepCutAuto
import Derived.Deep.CutBlock
/- Rows of a call's own, changed in place: dump-free laws. -/
namespace Go.Proofs.YtogpkbhjobhodaaDoor
open Go.ChangeShapes Go.WideShapes Go.ChangeAt Go.RowKit
set_option linter.unusedVariables false
set_option linter.unusedSimpArgs false

/-- The cells of a row, some of them laid anew from o on. -/
def laid (cur : Array Value) (o : Nat) (vs : List Value) : Array Value := (cur.toList.take o ++ vs ++ cur.toList.drop (o + vs.length)).toArray

theorem laid_size {cur : Array Value} {o : Nat} {vs : List Value} (h : o + vs.length ≤ cur.size) : (laid cur o vs).size = cur.size := by
  unfold laid
  simp only [List.size_toArray, List.length_append, List.length_take, List.length_drop, Array.length_toList]
  omega

theorem laid_get {cur : Array Value} {o : Nat} {vs : List Value} (h : o + vs.length ≤ cur.size) (j : Nat) : (laid cur o vs)[j]? = if j < o then cur[j]? else if j < o + vs.length then vs[j - o]? else cur[j]? := by
  unfold laid
  have hl : (cur.toList.take o).length = o := by rw [List.length_take, Array.length_toList]; omega
  simp only [List.getElem?_toArray]
  by_cases h1 : j < o
  · rw [if_pos h1, List.append_assoc, List.getElem?_append_left (by omega), List.getElem?_take_of_lt h1, Array.getElem?_toList]
  · rw [if_neg h1]
    by_cases h2 : j < o + vs.length
    · rw [if_pos h2, List.append_assoc, List.getElem?_append_right (by omega), hl, List.getElem?_append_left (by omega)]
    · rw [if_neg h2, List.getElem?_append_right (by rw [List.length_append]; omega), List.length_append, hl, List.getElem?_drop, Array.getElem?_toList]
      congr 1
      omega

theorem setCells_row {g : Nat} {e : TypeId} : ∀ (vs : List Value) (o : Nat) (w : World) (cur : Array Value), w.heap[g]? = some (.cells cur e (0, 0)) → o + vs.length ≤ cur.size → (w.setCells g o vs).heap[g]? = some (.cells (laid cur o vs) e (0, 0))
  | [], o, w, cur, h, _ => by
    rw [World.setCells, h]
    unfold laid
    simp
  | v :: r, o, w, cur, h, hf => by
    rw [List.length_cons] at hf
    have h1 := heap_setCell_same w g o cur e v h
    have ih := setCells_row r (o + 1) (w.setCell ⟨g, o, none⟩ v) (cur.setIfInBounds o v) h1 (by simp; omega)
    rw [World.setCells, ih]
    congr 2
    apply Array.ext_getElem?
    intro j
    rw [laid_get (by simp; omega), laid_get (by rw [List.length_cons]; omega), List.length_cons]
    by_cases h2 : j < o
    · rw [if_pos (by omega), if_pos h2, Array.getElem?_setIfInBounds_ne (by omega)]
    · rw [if_neg h2]
      by_cases h3 : j = o
      · subst h3
        rw [if_pos (by omega), if_pos (by omega), Array.getElem?_setIfInBounds_self_of_lt (by omega)]
        simp
      · rw [if_neg (by omega)]
        by_cases h4 : j < o + 1 + r.length
        · rw [if_pos h4, if_pos (by omega), show j - o = (j - (o + 1)) + 1 by omega, List.getElem?_cons_succ]
        · rw [if_neg h4, if_neg (by omega), Array.getElem?_setIfInBounds_ne (by omega)]

theorem setCells_size (g : Nat) : ∀ (vs : List Value) (o : Nat) (w : World), (w.setCells g o vs).heap.size = w.heap.size
  | [], _, _ => rfl
  | v :: r, o, w => by rw [World.setCells, setCells_size g r]; simp [World.setCell]

theorem setCells_grown (g : Nat) : ∀ (vs : List Value) (o : Nat) (w : World), w.grownBy (w.setCells g o vs) (some g)
  | [], _, _ => ⟨rfl, rfl, rfl, Nat.le_refl _, fun _ _ _ => rfl⟩
  | v :: r, o, w => by
    have ih := setCells_grown g r (o + 1) (w.setCell ⟨g, o, none⟩ v)
    have h1 : w.grownBy (w.setCell ⟨g, o, none⟩ v) (some g) := ⟨rfl, rfl, rfl, by simp [World.setCell], fun i hi hne => heap_setCell_other w ⟨g, o, none⟩ i v (fun e => hne (by rw [e]))⟩
    exact h1.trans ih

/-- A row as it lies: its block, its cells. -/
theorem owns_block {w : World} {base : Nat} {e : TypeId} {size : Nat} {g n cap : Nat} {xs : List Value} (h : w.ownsRow base e size (.slice (some ⟨g, 0, none⟩) n cap) n xs) :
    ∃ cur, base ≤ g ∧ w.heap[g]? = some (.cells cur e (0, 0)) ∧ n ≤ cap ∧ cap ≤ maxLen ∧ cur.size = cap * size ∧ cur.toList.take (n * size) = xs := by
  rcases h.2 with ⟨h', _⟩ | ⟨g', cap', cur, h', hb, hg, hnc, hcm, hcs, htake⟩
  · simp at h'
  · simp only [Value.slice.injEq, Option.some.injEq, Addr.mk.injEq, and_true, true_and] at h'
    obtain ⟨rfl, rfl⟩ := h'
    exact ⟨cur, hb, hg, hnc, hcm, hcs, htake⟩

theorem owns_shorter {w : World} {base : Nat} {e : TypeId} {size : Nat} {g m cap : Nat} {cur : Array Value} {xs : List Value} (hb : base ≤ g) (hg : w.heap[g]? = some (.cells cur e (0, 0))) (hm : m ≤ cap) (hcm : cap ≤ maxLen) (hcs : cur.size = cap * size) (ht : cur.toList.take (m * size) = xs) :
    w.ownsRow base e size (.slice (some ⟨g, 0, none⟩) m cap) m xs := by
  refine ⟨?_, Or.inr ⟨g, cap, cur, rfl, hb, hg, hm, hcm, hcs, ht⟩⟩
  rw [← ht, List.length_take, Array.length_toList, hcs]
  exact Nat.min_eq_left (Nat.mul_le_mul_right _ hm)

/-- The spare behind a row is there. -/
theorem row_there {w : World} {g : Nat} {e : TypeId} {cur : Array Value} (hg : w.heap[g]? = some (.cells cur e (0, 0))) (j : Nat) (hj : j < cur.size) : (w.cell? ⟨g, j, none⟩).isSome = true ∧ w.frozen? ⟨g, j, none⟩ = false := by
  refine ⟨?_, frozen_of_row w g j cur e hg⟩
  rw [cell_of_row w g j cur e (0, 0) hg]
  simp [hj]

/-- 'clear(s)', elements of some cells each. -/
theorem run_clear_row {P : Program} (w : World) (t e ty : TypeId) (z : Value) (ht : P.underlying t = some (.slice e)) (hv : ∀ w, (zeroValue e).run P w = .ok z w) (h1 : ∀ u ∈ z.cells.toList, u.oneCell' = true) (b o n c : Nat) (hn : 0 < n)
    (hc : ∀ j, j < n * z.cells.size → (w.cell? ⟨b, o + j, none⟩).isSome = true) (hf : ∀ j, j < n * z.cells.size → w.frozen? ⟨b, o + j, none⟩ = false) :
    (Builtin.clear_ #[t] ty #[.slice (some ⟨b, o, none⟩) n c]).run P w = .ok (.tuple #[]) (w.setCells b o (Builtin.zeroCells z.cells n).toList) := by
  have hl : (Builtin.zeroCells z.cells n).toList.length = n * z.cells.size := by simp [Builtin.zeroCells]
  have hst := run_storeCells_cells (P := P) b o (Builtin.zeroCells z.cells n).toList 0 w (by rw [hl]; simpa using hc) (by rw [hl]; simpa using hf) (by
    intro v hv'
    simp only [Builtin.zeroCells, Array.toList_map, List.mem_map] at hv'
    obtain ⟨i, hi, rfl⟩ := hv'
    have hz : 0 < z.cells.size := by
      rcases Nat.eq_zero_or_pos z.cells.size with h0 | h0
      · rw [h0] at hi; simp at hi
      · exact h0
    have hlt : i % z.cells.size < z.cells.size := Nat.mod_lt _ hz
    rw [getElem!_pos z.cells (i % z.cells.size) hlt]
    exact h1 _ (by simp))
  simp only [Nat.add_zero] at hst
  obtain ⟨m, rfl⟩ : ∃ m, n = m + 1 := ⟨n - 1, by omega⟩
  simp [Builtin.clear_, run_underlying ht, hv, hst]

/-- From w to w' only blocks of O and new blocks have changed. -/
structure Fr (O : Nat → Prop) (w w' : World) : Prop where
  os : w'.os = w.os
  tape : w'.tape = w.tape
  output : w'.output = w.output
  size : w.heap.size ≤ w'.heap.size
  block : ∀ k, k < w.heap.size → ¬ O k → w'.heap[k]? = w.heap[k]?

theorem Fr.refl (O : Nat → Prop) (w : World) : Fr O w w := ⟨rfl, rfl, rfl, Nat.le_refl _, fun _ _ _ => rfl⟩
theorem Fr.trans {O O' : Nat → Prop} {w w1 w2 : World} (h : Fr O w w1) (k : Fr O' w1 w2) (ho : ∀ b, O' b → O b ∨ w.heap.size ≤ b) : Fr O w w2 :=
  ⟨k.os.trans h.os, k.tape.trans h.tape, k.output.trans h.output, Nat.le_trans h.size k.size, fun b hb hn => by
    rw [k.block b (Nat.lt_of_lt_of_le hb h.size) (fun e => (ho b e).elim hn (fun q => by omega)), h.block b hb hn]⟩
theorem Fr.of_below {O : Nat → Prop} {w w' : World} (h : Below w.heap.size w w') : Fr O w w' := ⟨h.os, h.tape, h.output, h.size, fun b hb _ => h.block b hb⟩
theorem Fr.of_grown {O : Nat → Prop} {w w' : World} {row : Option Nat} (h : w.grownBy w' row) (ho : ∀ g, row = some g → O g ∨ w.heap.size ≤ g) : Fr O w w' :=
  ⟨h.os, h.tape, h.output, h.size, fun b hb hn => h.block b hb (fun e => (ho b e.symm).elim hn (fun q => by omega))⟩
theorem Fr.set {O : Nat → Prop} {w w' : World} (h : Fr O w w') {b : Nat} (j : Nat) (v : Value) (ho : O b ∨ w.heap.size ≤ b) : Fr O w (w'.setCell ⟨b, j, none⟩ v) :=
  ⟨h.os, h.tape, h.output, by simpa [World.setCell] using h.size, fun k hk hn => by
    rw [heap_setCell_other w' ⟨b, j, none⟩ k v (fun e => by subst e; exact ho.elim hn (fun q => by show False; omega))]
    exact h.block k hk hn⟩
theorem Fr.drew {O : Nat → Prop} {w w' : World} (h : Fr O w w') : Fr O w w'.drew := ⟨h.os, h.tape, h.output, h.size, h.block⟩
theorem Fr.below {O : Nat → Prop} {n : Nat} {w w' : World} (h : Fr O w w') (ho : ∀ b, O b → n ≤ b) (hn : n ≤ w.heap.size) : Below n w w' :=
  ⟨h.os, h.tape, h.output, h.size, fun b hb => h.block b (by omega) (fun e => by have := ho b e; omega)⟩
theorem Fr.tb {O : Nat → Prop} {w w' : World} (h : Fr O w w') {t : TypeId} {b : Nat} {cs : Array Value} (hT : TB t w b cs) (hne : ¬ O b) : TB t w' b cs := by
  have hl := hT.lt
  unfold TB at *
  rw [h.block b hl hne]
  exact hT
theorem Fr.mono {O O' : Nat → Prop} {w w' : World} (h : Fr O w w') (ho : ∀ b, O b → O' b ∨ w.heap.size ≤ b) : Fr O' w w' := ⟨h.os, h.tape, h.output, h.size, fun b hb hn => h.block b hb (fun e => (ho b e).elim hn (fun q => by omega))⟩
theorem Fr.cell {O : Nat → Prop} {w w' : World} (h : Fr O w w') {b o : Nat} (hb : b < w.heap.size) (hne : ¬ O b) : w'.cell? ⟨b, o, none⟩ = w.cell? ⟨b, o, none⟩ := by
  simp only [World.cell?, h.block b hb hne]
theorem grown_tb {w w' : World} {row : Option Nat} (hg : w.grownBy w' row) {t : TypeId} {b : Nat} {cs : Array Value} (hT : TB t w b cs) (hne : row ≠ some b) : TB t w' b cs := by
  have hl := hT.lt
  unfold TB at *
  rw [hg.block b hl (fun e => hne e.symm)]
  exact hT
end Go.Proofs.YtogpkbhjobhodaaDoor

/- The reference's spool in memory; the contracts of next and many. -/
namespace Go.Proofs.YtogpkbhjobhodaaDoor
open Go.ChangeShapes Go.WideShapes Go.ChangeAt Go.RowKit
set_option linter.unusedVariables false
set_option linter.unusedSimpArgs false

/-- A spool of the bytes l in memory, as a reader of what is left. -/
def SpAt (m : Nat) (l : List UInt8) (w : World) (B : Nat) (st : RS) : Prop := m ≤ B ∧ ∃ (a : Option Addr) (c i : Nat), TB 40 w B #[.slice a l.length c, .int .i64 (i : Int), .int .i64 st.e] ∧ BytesAt w a l ∧ l.length ≤ c ∧ c ≤ maxLen ∧ (∀ x : Addr, a = some x → x.block < m) ∧ i ≤ l.length ∧ (st.e = 0 → st.left = l.drop i) ∧ (st.e ≠ 0 → st.left = [])

theorem SpAt.later {m : Nat} {l : List UInt8} {w w' : World} {B : Nat} {st : RS} (h : SpAt m l w B st) (hb : Below w.heap.size w w') : SpAt m l w' B st := by
  obtain ⟨h0, a, c, i, h1, h2, h3⟩ := h
  exact ⟨h0, a, c, i, h1.later hb, h2.later hb, h3⟩
theorem SpAt.only {m : Nat} {l : List UInt8} {w w' : World} {B D : Nat} {st : RS} (h : SpAt m l w B st) (hO : Only D w w') (hne : B ≠ D) (hD : m ≤ D) : SpAt m l w' B st := by
  obtain ⟨h0, a, c, i, h1, h2, h3, h4, h5, h6⟩ := h
  exact ⟨h0, a, c, i, hO.tb h1 hne, hO.bytes h2 (fun x hx => by have := h5 x hx; omega), h3, h4, h5, h6⟩
theorem SpAt.set {m : Nat} {l : List UInt8} {w : World} {B D : Nat} {st : RS} (h : SpAt m l w B st) (j : Nat) (v : Value) (hne : B ≠ D) (hD : m ≤ D) : SpAt m l (w.setCell ⟨D, j, none⟩ v) B st := h.only (Only.set D j v w) hne hD
theorem SpAt.lt {m : Nat} {l : List UInt8} {w : World} {B : Nat} {st : RS} (h : SpAt m l w B st) : B < w.heap.size := by
  obtain ⟨h0, a, c, i, h1, _⟩ := h
  exact h1.lt

def SpPost (m : Nat) (l : List UInt8) (B : Nat) (p : RS × Nat) (w : World) (e : Ending) (w' : World) : Prop := e = .returned (.int .i64 (p.2 : Int)) ∧ SpAt m l w' B p.1 ∧ Only B w w'

theorem refuse_err (c : Int) (st : RS) (h : st.e ≠ 0) (hl : st.left = []) : refuseR c st = st := by
  unfold refuseR
  rw [if_neg h]
  cases st
  simp only at *
  rw [hl]
theorem refuse_ok (c : Int) (st : RS) (h : st.e = 0) : refuseR c st = ⟨[], c⟩ := by
  unfold refuseR
  rw [if_pos h]

/-- The spool behind a fault. -/
theorem sp_fault {m : Nat} {l : List UInt8} {w : World} {B i : Nat} {a : Option Addr} {c : Nat} {k : Int} (hmB : m ≤ B) (hk : k ≠ 0) (h1 : TB 40 w B #[.slice a l.length c, .int .i64 (i : Int), .int .i64 k]) (h2 : BytesAt w a l) (h3 : l.length ≤ c) (h4 : c ≤ maxLen) (h5 : ∀ x : Addr, a = some x → x.block < m) (h6 : i ≤ l.length) : SpAt m l w B ⟨[], k⟩ :=
  ⟨hmB, a, c, i, h1, h2, h3, h4, h5, h6, fun h => absurd h hk, fun _ => rfl⟩

theorem numF_zero : ∀ (f i acc : Nat) (st : RS), (numF f i acc st).1.e ≠ 0 → (numF f i acc st).2 = 0 ∨ st.e ≠ 0
  | 0, i, acc, st, h => Or.inl rfl
  | f + 1, i, acc, st, h => by
    rw [numF] at h ⊢
    cases hl : st.left with
    | nil => exact Or.inl rfl
    | cons b r =>
      rw [hl] at h
      simp only at h ⊢
      split
      · exact Or.inl rfl
      · rename_i hb
        rw [if_neg hb] at h
        split
        · rename_i hz
          rw [if_pos hz] at h
          exact Or.inr h
        · rename_i hz
          rw [if_neg hz] at h
          exact numF_zero f (i + 1) _ _ h

set_option maxHeartbeats 4000000 in
set_option maxRecDepth 100000 in
theorem next_sp (m : Nat) (l : List UInt8) (st : RS) (B : Nat) (w : World) (h : SpAt m l w B st) :
    Calls Tryd.prog 11 #[.pointer (some ⟨B, 0, none⟩)] w (SpPost m l B (numR st) w) := by
  unfold SpPost
  have EN : Hid (numR st = numF 7 0 0 st) := rfl
  generalize numR st = N at *
  go_enter Tryd.func11, Tryd.ntmps11
  go_wp2_with fail
  go_loopw [3, 4, 5] (fun n u i wr => ∃ (k acc : Nat) (s1 : RS), k ≤ 6 ∧ i = .int .i64 k ∧ n = .int .i64 acc ∧ u = .int .i64 ((128 ^ k : Nat) : Int) ∧ acc < 128 ^ k ∧ Hid (N = numF (7 - k) k acc s1) ∧ SpAt m l wr B s1 ∧ Only B w wr) (fun _ _ i _ => 7 - (intOf i).toNat)
  case atStart => exact ⟨0, 0, st, by omega, rfl, rfl, rfl, by simp, EN, h, Only.refl _ _⟩
  case round =>
    obtain ⟨k, acc, s1, hk, rfl, rfl, rfl, hacc, EK, hR, hO⟩ := hrel
    obtain ⟨hmB, a, c, i, hT, hA, hlc, hcm, hne, hil, hl0, hl1⟩ := hR
    have x0 := fun j => hT.cell j
    have f0 := fun j => hT.frozen j
    have b0 := hT.lt
    by_cases he : s1.e = 0
    · rw [he] at x0
      have hleft := hl0 he
      have hmax := hA.1
      unfold maxLen at hmax
      have hcm2 := hcm
      unfold maxLen at hcm2
      by_cases hge : l.length ≤ i
      · have hgez : (l.length : Int) ≤ (i : Int) := by omega
        have hnil : s1.left = [] := by rw [hleft]; exact List.drop_eq_nil_of_le hge
        have E2 : Hid (N = (⟨[], 5⟩, 0)) := by
          unfold Hid
          rw [EK.out, show 7 - k = (6 - k) + 1 by omega, numF, hnil]
          simp only
          rw [refuse_ok 5 s1 he]
        clear EK EN hacc
        go_wp2_with fail
        go_quiet (fail)
        go_wp2_with fail
        have hd := drewN_below wr nq
        have hO2 := (Only.of_below (B := B) hd).trans (Only.set B 2 (.int .i64 5) (wr.drewN nq))
        go_ret
        exact ⟨by rw [E2.out]; rfl, by rw [E2.out]; exact sp_fault hmB (by decide) ((hT.later hd).set 2 _) (hO2.bytes hA (fun x hx => by have := hne x hx; omega)) hlc hcm hne hil, hO.trans hO2⟩
      · have hgez : ¬ (l.length : Int) ≤ (i : Int) := by omega
        have hlt : i < l.length := by omega
        have hcons : s1.left = l[i] :: l.drop (i + 1) := by rw [hleft]; exact List.drop_eq_getElem_cons hlt
        rcases hA.2 with hA2 | ⟨g, o, rfl, hg, hc⟩
        · omega
        have hci := hc i hlt
        rw [List.getD_eq_getElem?_getD, List.getElem?_eq_getElem hlt, Option.getD_some] at hci
        have hstep : N = if k = 6 ∨ l[i].toNat = 0 ∧ 0 < k then (⟨[], 4⟩, 0) else if l[i].toNat < 128 then (⟨l.drop (i + 1), 0⟩, acc + l[i].toNat % 128 * 128 ^ k) else numF (7 - (k + 1)) (k + 1) (acc + l[i].toNat % 128 * 128 ^ k) ⟨l.drop (i + 1), 0⟩ := by
          rw [EK.out, show 7 - k = (6 - k) + 1 by omega, numF, hcons, show 7 - (k + 1) = 6 - k by omega, he]
          simp only
          rw [refuse_ok 4 ⟨l.drop (i + 1), 0⟩ rfl]
        have hbd := l[i].toNat_lt
        generalize l[i].toNat = z at *
        have hi0 : (0 : Int) ≤ (i : Int) := by omega
        have hilz : (i : Int) < (l.length : Int) := by omega
        have hgB : g ≠ B := by have := hne _ rfl; simp only at this; omega
        -- what the spool is behind the byte
        have hnew : ∀ (q : Nat) (k2 : Int), TB 40 ((wr.drewN q).setCell ⟨B, 1, none⟩ (.int .i64 ((i : Int) + 1))) B #[.slice (some ⟨g, o, none⟩) l.length c, .int .i64 ((i + 1 : Nat) : Int), .int .i64 0] ∧ Only B wr ((wr.drewN q).setCell ⟨B, 1, none⟩ (.int .i64 ((i : Int) + 1))) := fun q k2 => by
          have hd := drewN_below wr q
          refine ⟨?_, (Only.of_below (B := B) hd).trans (Only.set B 1 _ (wr.drewN q))⟩
          have hT2 := (hT.later hd).set 1 (.int .i64 ((i : Int) + 1))
          rw [he] at hT2
          exact hT2
        have hneB : ∀ x : Addr, some ⟨g, o, none⟩ = some x → x.block ≠ B := fun x hx => by cases hx; exact hgB
        have hgood : ∀ q : Nat, SpAt m l ((wr.drewN q).setCell ⟨B, 1, none⟩ (.int .i64 ((i : Int) + 1))) B ⟨l.drop (i + 1), 0⟩ ∧ Only B w ((wr.drewN q).setCell ⟨B, 1, none⟩ (.int .i64 ((i : Int) + 1))) := fun q => by
          obtain ⟨q1, q2⟩ := hnew q 0
          exact ⟨⟨hmB, _, c, i + 1, q1, q2.bytes hA hneB, hlc, hcm, hne, by omega, fun _ => rfl, fun h => absurd rfl h⟩, hO.trans q2⟩
        have hfault : ∀ q : Nat, SpAt m l (((wr.drewN q).setCell ⟨B, 1, none⟩ (.int .i64 ((i : Int) + 1))).setCell ⟨B, 2, none⟩ (.int .i64 4)) B ⟨[], 4⟩ ∧ Only B w (((wr.drewN q).setCell ⟨B, 1, none⟩ (.int .i64 ((i : Int) + 1))).setCell ⟨B, 2, none⟩ (.int .i64 4)) := fun q => by
          obtain ⟨q1, q2⟩ := hnew q 0
          have q3 := q2.trans (Only.set B 2 (.int .i64 4) _)
          exact ⟨sp_fault hmB (by decide) (q1.set 2 _) (q3.bytes hA hneB) hlc hcm hne (by omega), hO.trans q3⟩
        clear EK EN hc hl0 hl1 hleft hcons hnew
        by_cases hbad : k = 6 ∨ z = 0 ∧ 0 < k
        · rw [if_pos hbad] at hstep
          have E2 : Hid (N = (⟨[], 4⟩, 0)) := hstep
          clear hstep hgood
          have hfa : Hid (∀ q : Nat, _) := hfault
          clear hfault
          by_cases hk6 : k = 6
          · have b6 : ((k : Int) == 6) = true := by simp; omega
            go_wp2_with fail
            go_quiet (fail)
            go_wp2_with fail
            go_quiet (fail)
            go_wp2_with fail
            go_ret
            exact ⟨by rw [E2.out]; rfl, by rw [E2.out]; exact (hfa.out _).1, (hfa.out _).2⟩
          · have b6 : ((k : Int) == 6) = false := by simp; omega
            have bz : ((z : Int) == 0) = true := by simp; omega
            have bk : (0 : Int) < (k : Int) := by omega
            go_wp2_with fail
            go_quiet (fail)
            go_wp2_with fail
            go_quiet (fail)
            go_wp2_with fail
            go_ret
            exact ⟨by rw [E2.out]; rfl, by rw [E2.out]; exact (hfa.out _).1, (hfa.out _).2⟩
        · rw [if_neg hbad] at hstep
          have hga : Hid (∀ q : Nat, _) := hgood
          clear hfault hgood
          have hk6 : k = 0 ∨ k = 1 ∨ k = 2 ∨ k = 3 ∨ k = 4 ∨ k = 5 := by omega
          by_cases hz : z < 128
          · have hzz : (z : Int) < 128 := by omega
            rw [if_pos hz] at hstep
            rcases hk6 with rfl | rfl | rfl | rfl | rfl | rfl
            all_goals
              have E2 : Hid (N = _) := hstep
              clear hstep
              first
                | (have bz : ((z : Int) == 0) = false := by simp; omega)
                | skip
              go_wp2_with fail
              go_quiet (fail)
              go_wp2_with fail
              go_quiet (fail)
              go_wp2_with fail
              go_ret
              exact ⟨ret_i64 (by rw [E2.out]; simp only; omega), by rw [E2.out]; exact (hga.out _).1, (hga.out _).2⟩
          · have hzz : ¬ (z : Int) < 128 := by omega
            have bz : ((z : Int) == 0) = false := by simp; omega
            rw [if_neg hz] at hstep
            have hnl := num_lt acc z k (by omega) hacc
            rcases hk6 with rfl | rfl | rfl | rfl | rfl | rfl
            all_goals
              have E2 : Hid (N = _) := hstep
              clear hstep
              go_wp2_with fail
              go_quiet (fail)
              go_wp2_with fail
              go_quiet (fail)
              go_wp2_with fail
              go_roundw
              case rel => exact ⟨_, _, ⟨l.drop (i + 1), 0⟩, (by omega), (by first | rfl | go_num), (by first | (congr 1; done) | (congr 1; simp; done) | (congr 1; simp; omega)), (by congr 1), hnl, E2, (hga.out _).1, (hga.out _).2⟩
              case measure => simp [intOf]
    · have hnil := hl1 he
      have hb : (s1.e == 0) = false := by simp [he]
      have E2 : Hid (N = (s1, 0)) := by
        unfold Hid
        rw [EK.out, show 7 - k = (6 - k) + 1 by omega, numF, hnil]
        simp only
        rw [refuse_err 5 s1 he hnil]
      clear EK EN hacc
      go_wp2
      go_ret
      exact ⟨by rw [E2.out]; rfl, by rw [E2.out]; exact ⟨hmB, a, c, i, hT, hA, hlc, hcm, hne, hil, hl0, hl1⟩, hO⟩

set_option maxHeartbeats 1000000 in
theorem many_sp (m most : Nat) (l : List UInt8) (st : RS) (B : Nat) (w : World) (h : SpAt m l w B st) :
    Calls Tryd.prog 12 #[.pointer (some ⟨B, 0, none⟩), .int .i64 (most : Int)] w (SpPost m l B (countR most st) w) := by
  have hn := next_sp m l st B w h
  have EC : Hid (countR most st = if most < (numR st).2 then (refuseR 1 (numR st).1, 0) else numR st) := rfl
  have h0 : (numR st).1.e ≠ 0 → (numR st).2 = 0 := fun hne => by
    rcases numF_zero 7 0 0 st hne with h1 | h1
    · exact h1
    · obtain ⟨_, a, c, i, _, _, _, _, _, _, _, hl⟩ := h
      show (numF 7 0 0 st).2 = 0
      rw [numF, hl h1]
  unfold SpPost at *
  generalize countR most st = C at *
  generalize numR st = N at *
  obtain ⟨s1, k⟩ := N
  simp only at *
  go_enter Tryd.func12, Tryd.ntmps12
  go_wp2_with fail
  refine hn.mono ?_
  rintro e w1 ⟨rfl, hR1, hO1⟩
  have hR1' := hR1
  obtain ⟨hmB, a, c, i, hT, hA, hlc, hcm, hne, hil, hl0, hl1⟩ := hR1
  have x0 := fun j => hT.cell j
  have f0 := fun j => hT.frozen j
  have b0 := hT.lt
  have hneB : ∀ x : Addr, a = some x → x.block ≠ B := fun x hx => by have := hne x hx; omega
  by_cases he : s1.e = 0
  · rw [he] at x0
    by_cases hlt : most < k
    · have hz : (most : Int) < (k : Int) := by omega
      rw [if_pos hlt, refuse_ok 1 s1 he] at EC
      have q2 := Only.set B 2 (.int .i64 1) w1
      have q1 : SpAt m l (w1.setCell ⟨B, 2, none⟩ (.int .i64 1)) B ⟨[], 1⟩ := sp_fault hmB (by decide) (hT.set 2 _) (q2.bytes hA hneB) hlc hcm hne hil
      clear hl0 hl1 h0
      go_wp2
      go_ret
      exact ⟨by rw [EC.out]; rfl, by rw [EC.out]; exact q1, hO1.trans q2⟩
    · have hz : ¬ (most : Int) < (k : Int) := by omega
      rw [if_neg hlt] at EC
      clear hl0 hl1 h0
      go_wp2
      go_ret
      exact ⟨by rw [EC.out]; rfl, by rw [EC.out]; exact hR1', hO1⟩
  · have hb : (s1.e == 0) = false := by simp [he]
    have hb2 : (s1.e != 0) = true := by simp [he]
    have hk := h0 he
    subst hk
    rw [if_neg (by omega)] at EC
    clear hl0 hl1 h0
    go_wp2
    go_ret
    exact ⟨by rw [EC.out]; rfl, by rw [EC.out]; exact hR1', hO1⟩
end Go.Proofs.YtogpkbhjobhodaaDoor

/- The contract of the reference's text. -/
namespace Go.Proofs.YtogpkbhjobhodaaDoor
open Go.ChangeShapes Go.WideShapes Go.ChangeAt Go.RowKit
set_option linter.unusedVariables false
set_option linter.unusedSimpArgs false

def StrPost (m : Nat) (l : List UInt8) (B : Nat) (p : RS × List UInt8) (w : World) (e : Ending) (w' : World) : Prop := e = .returned (.string (strB p.2)) ∧ SpAt m l w' B p.1 ∧ Only B w w'

theorem count_zero (most : Nat) (st : RS) (h1 : st.e ≠ 0 → st.left = []) (h : (countR most st).1.e ≠ 0) : (countR most st).2 = 0 := by
  unfold countR at h ⊢
  split
  · rfl
  · rename_i hl
    rw [if_neg hl] at h
    rcases numF_zero 7 0 0 st h with h2 | h2
    · exact h2
    · show (numF 7 0 0 st).2 = 0
      rw [numF, h1 h2]

set_option maxHeartbeats 2000000 in
set_option maxRecDepth 100000 in
theorem text_sp (m most : Nat) (l : List UInt8) (st : RS) (B : Nat) (w : World) (h : SpAt m l w B st) (hm : most ≤ 1000) (hl1 : 1 ≤ l.length) (hl2 : l.length ≤ 200000) :
    Calls Tryd.prog 13 #[.pointer (some ⟨B, 0, none⟩), .int .i64 (most : Int)] w (StrPost m l B (textR most st) w) := by
  have hn := many_sp m most l st B w h
  have hle := count_le most st
  have h0 : (countR most st).1.e ≠ 0 → (countR most st).2 = 0 := count_zero most st (by obtain ⟨_, a, c, i, _, _, _, _, _, _, _, hl⟩ := h; exact hl)
  unfold SpPost at hn
  unfold textR StrPost
  generalize countR most st = C at *
  obtain ⟨s1, k⟩ := C
  simp only at *
  have ET : Hid (takeR k s1 = if s1.left.length < k then (refuseR 5 s1, []) else (⟨s1.left.drop k, s1.e⟩, s1.left.take k)) := rfl
  generalize takeR k s1 = T at *
  go_enter Tryd.func13, Tryd.ntmps13
  go_wp2_with fail
  refine hn.mono ?_
  rintro e w1 ⟨rfl, hR1, hO1⟩
  obtain ⟨hmB, a, c, i, hT, hA, hlc, hcm, hne, hil, hs0, hs1⟩ := hR1
  have x0 := fun j => hT.cell j
  have f0 := fun j => hT.frozen j
  have b0 := hT.lt
  have hneB : ∀ x : Addr, a = some x → x.block ≠ B := fun x hx => by have := hne x hx; omega
  have hcm2 := hcm
  unfold maxLen at hcm2
  by_cases he : s1.e = 0
  · rw [he] at x0
    have hleft := hs0 he
    have hll : s1.left.length = l.length - i := by rw [hleft, List.length_drop]
    by_cases hs : l.length < i + k
    · have hz : (l.length : Int) < (i : Int) + (k : Int) := by omega
      rw [if_pos (by omega), refuse_ok 5 s1 he] at ET
      clear hs0 hs1 h0
      go_wp2_with fail
      go_quiet (fail)
      have hd := drewN_below w1 nq
      have q2 := (Only.of_below (B := B) hd).trans (Only.set B 2 (.int .i64 5) (w1.drewN nq))
      have q1 : SpAt m l ((w1.drewN nq).setCell ⟨B, 2, none⟩ (.int .i64 5)) B ⟨[], 5⟩ := sp_fault hmB (by decide) ((hT.later hd).set 2 _) (q2.bytes hA hneB) hlc hcm hne hil
      go_wp2
      go_ret
      exact ⟨by rw [ET.out]; rfl, by rw [ET.out]; exact q1, hO1.trans q2⟩
    · have hz : ¬ (l.length : Int) < (i : Int) + (k : Int) := by omega
      rw [if_neg (by omega)] at ET
      rcases hA.2 with hA2 | ⟨g, o, rfl, hg, hc⟩
      · omega
      have n0 : (0 : Int) ≤ (i : Int) := by omega
      have n1 : (i : Int) + (k : Int) ≤ (c : Int) := by omega
      have n2 : (i : Int) ≤ (i : Int) + (k : Int) := by omega
      clear hs0 hs1 h0
      go_wp2_with fail
      go_quiet (fail)
      go_wp2_with fail
      have hd := drewN_below w1 nq
      have q2 := (Only.of_below (B := B) hd).trans (Only.set B 1 (.int .i64 ((i : Int) + (k : Int))) (w1.drewN nq))
      have t3 := (hT.later hd).set 1 (.int .i64 ((i : Int) + (k : Int)))
      rw [he] at t3
      have T3 : TB 40 ((w1.drewN nq).setCell ⟨B, 1, none⟩ (.int .i64 ((i : Int) + (k : Int)))) B #[.slice (some ⟨g, o, none⟩) l.length c, .int .i64 ((i : Int) + (k : Int)), .int .i64 0] := t3
      have hA3 := q2.bytes hA hneB
      have hO3 := hO1.trans q2
      generalize (w1.drewN nq).setCell ⟨B, 1, none⟩ (.int .i64 ((i : Int) + (k : Int))) = W3 at *
      clear x0 f0 b0 t3 q2 hd hc hg
      have x0 := fun j => T3.cell j
      have b0 := T3.lt
      have hfin : ∀ q : Nat, SpAt m l (W3.drewN q) B ⟨s1.left.drop k, s1.e⟩ := fun q => ⟨hmB, _, c, i + k, by rw [he]; exact T3.later (drewN_below W3 q), hA3.later (drewN_below W3 q), hlc, hcm, hne, by omega, fun _ => by simp only; rw [hleft, List.drop_drop], fun h => absurd he h⟩
      have hfin2 : Hid (∀ q : Nat, _) := hfin
      clear hfin
      have htk : (s1.left.take k).length = k := by rw [List.length_take, hll]; omega
      have hstr : Hid (T = (⟨s1.left.drop k, s1.e⟩, s1.left.take k)) := ET
      clear ET
      have hD : BytesAt W3 (some ⟨g, o + i, none⟩) (s1.left.take k) := by
        rw [hleft]
        rcases hA3.2 with hz2 | ⟨g2, o2, hgo, hg2, hc2⟩
        · omega
        · cases hgo
          exact bytes_take (bytes_drop hc2 hg2 hA3.1 i (some ⟨g, o + i, none⟩) (fun _ => rfl)) k (by rw [List.length_drop]; omega)
      by_cases hci : c - i = 0
      · have hk0 : k = 0 := by omega
        subst hk0
        have hnl : s1.left.take 0 = [] := rfl
        have v1 := fun n => conv_bytes (w := W3.drewN n) (a := some ⟨g, o, none⟩) (l := []) ⟨Nat.zero_le _, Or.inl rfl⟩ 0
        simp only [List.length_nil] at v1
        rw [hnl] at hstr
        clear hD htk hleft
        go_quiet (fail)
        go_wp2
        go_ret
        exact ⟨by rw [hstr.out]; rfl, by rw [hstr.out]; exact hfin2.out _, hO3.trans (Only.of_below (drewN_below _ _))⟩
      · have v1 := fun n => conv_bytes (hD.later (drewN_below W3 n)) (c - i)
        rw [htk] at v1
        generalize s1.left.take k = TK at *
        clear hD htk hleft
        go_quiet (fail)
        go_wp2
        go_ret
        exact ⟨by rw [hstr.out]; rfl, by rw [hstr.out]; exact hfin2.out _, hO3.trans (Only.of_below (drewN_below _ _))⟩
  · have hb : (s1.e == 0) = false := by simp [he]
    have hb2 : (s1.e != 0) = true := by simp [he]
    have hk := h0 he
    subst hk
    have hnil := hs1 he
    have ET2 : Hid (T = (s1, [])) := by
      unfold Hid
      rw [ET.out, if_neg (by omega), hnil]
      cases s1
      simp only at *
      rw [hnil]
      rfl
    clear ET h0
    go_wp2_with fail
    go_quiet (fail)
    have hd := drewN_below w1 nq
    go_wp2
    go_ret
    exact ⟨by rw [ET2.out]; rfl, by rw [ET2.out]; exact ⟨hmB, a, c, i, hT.later hd, hA.later hd, hlc, hcm, hne, hil, hs0, hs1⟩, hO1.trans (Only.of_below hd)⟩
end Go.Proofs.YtogpkbhjobhodaaDoor

/- Appends of a page and of an item to rows of the call's own. -/
namespace Go.Proofs.YtogpkbhjobhodaaDoor
open Go.ChangeShapes Go.WideShapes Go.ChangeAt Go.RowKit
set_option linter.unusedVariables false
set_option linter.unusedSimpArgs false

/-- 'append(out, Page{..})' in a plain region. -/
theorem append_page1 {ops : Array Oper} {rest : List Oper} {o : Oper} {a : Act} {Q : Exit → Act → World → Prop} (w : World) (hgd : o.guard = none) (s x : Operand)
    (ho : o.op = .call { callee := .builtin .append, args := #[s, x], argTypes := #[25, 25] }) (n : Nat) (v : Value) (l : List (PageR × Value)) (hs : a.eval s = v) (hW : OwnPg n w v l) (p : PageR × Value) (B : Nat) (hx : a.eval x = .slice (some ⟨B, 0, none⟩) 1 1)
    (hB : w.heap[B]? = some (.cells (pgCells p).toArray 45 (0, 0))) (hp : PgOk n w v p) (hone : p.2.oneCell' = true) (hn : n ≤ w.heap.size) (hsz : (l.length + 1) * 32 ≤ 140737488351232)
    (h : ∀ g cap w', OwnPg n w' (.slice (some ⟨g, 0, none⟩) (l.length + 1) cap) (l ++ [p]) → w.grownBy w' v.ownBlock → wpList Tryd.prog ops Q rest (a.put o.dst (.slice (some ⟨g, 0, none⟩) (l.length + 1) cap)) w') : wpList Tryd.prog ops Q (o :: rest) a w := by
  obtain ⟨i0, hi, hz0, hz1, hz2⟩ := info_parts infoPage
  refine wpList_append_lies w hgd s x 25 ho n 45 i0 _ 2 32 Tryd.underlying25 hi hz0 hz1 hz2 rfl (by omega) v l.length (l.flatMap pgCells) hs hW.1 ⟨B, 0, none⟩ 1 1 (pgCells p) hx rfl ?_ ?_ (by omega) (by unfold maxLen; omega) (by omega) hn w.heap.size rfl ?_
  · exact World.news_of_block hB
  · intro u hu
    simp [pgCells] at hu
    rcases hu with rfl | rfl
    · rfl
    · exact hone
  intro g cap w' h2 h3 h4 h5
  have hv : (Value.slice (some ⟨g, 0, none⟩) (l.length + 1) cap).ownBlock = v.ownBlock ∨ ∃ g', (Value.slice (some ⟨g, 0, none⟩) (l.length + 1) cap).ownBlock = some g' ∧ w.heap.size ≤ g' := by
    rcases h4 with h4 | h4
    · exact Or.inl (by rw [h4]; rfl)
    · exact Or.inr ⟨g, rfl, by omega⟩
  have hk : ∀ b, n ≤ b → b < w.heap.size → v.ownBlock ≠ some b → w'.heap[b]? = w.heap[b]? := fun b _ hl hne => h3.block b hl (fun e => hne e.symm)
  refine h g cap w' ⟨?_, fun y hy => ?_⟩ h3
  · rw [List.length_append, List.flatMap_append]
    simpa using h2
  · rcases List.mem_append.1 hy with hy | hy
    · exact (hW.2 y hy).kept h3.size hk hv
    · simp at hy; subst hy; exact hp.kept h3.size hk hv

/-- Items in a row of the call's own, in a block from n on. -/
def OwnI2 (n : Nat) (w : World) (v : Value) (l : List ItemR) : Prop := w.ownsRow n 49 9 v l.length (l.flatMap itemCells)

theorem append_item1 {ops : Array Oper} {rest : List Oper} {o : Oper} {a : Act} {Q : Exit → Act → World → Prop} (w : World) (hgd : o.guard = none) (s x : Operand)
    (ho : o.op = .call { callee := .builtin .append, args := #[s, x], argTypes := #[24, 24] })
    (n : Nat) (v : Value) (l : List ItemR) (hs : a.eval s = v) (hW : OwnI2 n w v l) (it : ItemR) (B : Nat) (hx : a.eval x = .slice (some ⟨B, 0, none⟩) 1 1) (hB : w.heap[B]? = some (.cells (itemCells it).toArray 49 (0, 0))) (hn : n ≤ w.heap.size) (hsz : (l.length + 1) * 88 ≤ 140737488351232)
    (h : ∀ g cap w', OwnI2 n w' (.slice (some ⟨g, 0, none⟩) (l.length + 1) cap) (l ++ [it]) → w.grownBy w' v.ownBlock → (v.ownBlock = some g ∨ g = w.heap.size) → wpList Tryd.prog ops Q rest (a.put o.dst (.slice (some ⟨g, 0, none⟩) (l.length + 1) cap)) w') : wpList Tryd.prog ops Q (o :: rest) a w := by
  obtain ⟨i0, hi, hz0, hz1, hz2⟩ := info_parts infoItemR
  refine wpList_append_lies w hgd s x 24 ho n 49 i0 _ 9 88 Tryd.underlying24 hi hz0 hz1 hz2 rfl (by omega) v l.length (l.flatMap itemCells) hs hW ⟨B, 0, none⟩ 1 1 (itemCells it) hx rfl ?_ ?_ (by omega) (by unfold maxLen; omega) (by omega) hn w.heap.size rfl ?_
  · exact World.news_of_block hB
  · intro u hu
    simp [itemCells] at hu
    rcases hu with rfl | rfl | rfl | rfl | rfl | rfl | rfl | rfl | rfl <;> rfl
  intro g cap w' h2 h3 h4 h5
  refine h g cap w' ?_ h3 h4
  unfold OwnI2
  rw [List.length_append, List.flatMap_append]
  simpa using h2

/-- A world of n blocks below another one. -/
theorem trunc (w : World) (n : Nat) (h : n ≤ w.heap.size) : ∃ W0 : World, W0.heap.size = n ∧ Below W0.heap.size W0 w := by
  refine ⟨{ w with heap := w.heap.extract 0 n }, by simp; omega, ⟨rfl, rfl, rfl, by simp; omega, fun k hk => ?_⟩⟩
  simp only [Array.size_extract] at hk
  rw [Array.getElem?_extract]
  simp only [Nat.zero_add]
  split
  · rfl
  · omega

theorem OwnI2.items {n : Nat} {w : World} {v : Value} {l : List ItemR} (h : OwnI2 n w v l) (hn : n ≤ w.heap.size) (hm : l.length ≤ maxLen) : ∃ a c, v = .slice a l.length c ∧ ItemsFrom n w a l := by
  obtain ⟨W0, h0, hb⟩ := trunc w n hn
  subst h0
  exact OwnIt.items ⟨h, hb⟩ hm

theorem OwnI2.kept {n : Nat} {w w' : World} {v : Value} {l : List ItemR} {row : Option Nat} (h : OwnI2 n w v l) (hg : w.grownBy w' row) (hne : ∀ k, v.ownBlock = some k → row ≠ some k) : OwnI2 n w' v l := by
  refine World.ownsRow.kept h hg ?_
  cases hv : v.ownBlock with
  | none => exact Or.inl rfl
  | some k => exact Or.inr (fun e => hne k hv e.symm)

/-! What is wrong stays. -/
theorem num_err (st : RS) (h : st.e ≠ 0) (hl : st.left = []) : numR st = (st, 0) := by
  unfold numR
  rw [numF, hl]
  simp only
  rw [refuse_err 5 st h hl]
theorem count_err (most : Nat) (st : RS) (h : st.e ≠ 0) (hl : st.left = []) : countR most st = (st, 0) := by
  unfold countR
  rw [num_err st h hl]
  simp
theorem text_err (most : Nat) (st : RS) (h : st.e ≠ 0) (hl : st.left = []) : textR most st = (st, []) := by
  unfold textR
  rw [count_err most st h hl]
  unfold takeR
  cases st
  simp only at *
  rw [hl]
  simp
end Go.Proofs.YtogpkbhjobhodaaDoor

/- The contract of dovecoteref.StoreOf. -/
namespace Go.Proofs.YtogpkbhjobhodaaDoor
open Go.ChangeShapes Go.WideShapes Go.ChangeAt Go.RowKit
set_option linter.unusedVariables false
set_option linter.unusedSimpArgs false

theorem body_drop (l : List UInt8) (h : 7 ≤ l.length) : (l.take (l.length - 4)).drop 3 = bodyL l := by
  unfold bodyL
  rw [List.drop_take]
  congr 1

/-- The spool, and two boxes of a store: the answer's and the one that is filled. -/
def GB (m : Nat) (L : List UInt8) (w : World) (B S : Nat) (wi : World) (st : RS) (cs : Array Value) : Prop := SpAt m L wi B st ∧ TB 29 wi w.heap.size #[.int .i64 0, .int .i64 0, .int .i64 0, .int .i64 0, .int .i64 0, .int .i64 0, .int .i64 0, .int .i64 0, .slice none 0 0, .int .i64 0, .int .i64 0, .slice none 0 0] ∧ TB 29 wi S cs ∧ Below w.heap.size w wi ∧ w.heap.size < B ∧ B < S
theorem GB.call {m : Nat} {L : List UInt8} {w : World} {B S : Nat} {wi w1 : World} {st st' : RS} {cs : Array Value} (h : GB m L w B S wi st cs) (hR : SpAt m L w1 B st') (hO : Only B wi w1) : GB m L w B S w1 st' cs := by
  obtain ⟨h1, h2, h3, h4, h5, h6⟩ := h
  exact ⟨hR, hO.tb h2 (by omega), hO.tb h3 (by omega), hO.below h4 (by omega), h5, h6⟩
theorem GB.later {m : Nat} {L : List UInt8} {w : World} {B S : Nat} {wi w1 : World} {st : RS} {cs : Array Value} (h : GB m L w B S wi st cs) (hb : Below wi.heap.size wi w1) : GB m L w B S w1 st cs := by
  obtain ⟨h1, h2, h3, h4, h5, h6⟩ := h
  exact ⟨h1.later hb, h2.later hb, h3.later hb, h4.trans (hb.mono h4.size), h5, h6⟩
theorem GB.set {m : Nat} {L : List UInt8} {w : World} {B S : Nat} {wi : World} {st : RS} {cs : Array Value} (h : GB m L w B S wi st cs) (j : Nat) (v : Value) : GB m L w B S (wi.setCell ⟨S, j, none⟩ v) st (cs.setIfInBounds j v) := by
  obtain ⟨h1, h2, h3, h4, h5, h6⟩ := h
  exact ⟨h1.set j v (by omega) (by have := h1.1; omega), h2.far ⟨S, j, none⟩ v (by show w.heap.size ≠ S; omega), h3.set j v, h4.setCell (show w.heap.size ≤ S by omega) _, h5, h6⟩

theorem GB.grown {m : Nat} {L : List UInt8} {w : World} {B S : Nat} {wi w1 : World} {st : RS} {cs : Array Value} {row : Option Nat} (h : GB m L w B S wi st cs) (hg : wi.grownBy w1 row) (hrow : ∀ k, row = some k → S < k) : GB m L w B S w1 st cs := by
  obtain ⟨⟨q0, a, c, i, q1, q2, q3, q4, q5, q6⟩, h2, h3, h4, h5, h6⟩ := h
  have hne : ∀ b, b ≤ S → row ≠ some b := fun b hb e => by have := hrow b e; omega
  refine ⟨⟨q0, a, c, i, grown_tb hg q1 (hne _ (by omega)), ⟨q2.1, ?_⟩, q3, q4, q5, q6⟩, grown_tb hg h2 (hne _ (by omega)), grown_tb hg h3 (hne _ (by omega)), h4.grown hg h4.size (fun k hk => by have := hrow k hk; omega), h5, h6⟩
  rcases q2.2 with q | ⟨b, o, hb, hl, hc⟩
  · exact Or.inl q
  · refine Or.inr ⟨b, o, hb, Nat.lt_of_lt_of_le hl hg.size, fun j hj => ?_⟩
    have hbm := q5 _ hb
    simp only at hbm
    rw [← hc j hj]
    simp only [World.cell?, hg.block b hl (fun e => hne b (by omega) e.symm)]
theorem pages_err (x : Int) (st : RS) (k : Nat) (he : (pagesR k x st).1.e ≠ 0) (hl : (pagesR k x st).1.left = []) : ∀ j, (pagesR (k + j) x st).1 = (pagesR k x st).1
  | 0 => rfl
  | j + 1 => by
    have ih := pages_err x st k he hl j
    show (textR 256 (pagesR (k + j) x st).1).1 = _
    rw [ih, text_err 256 _ he hl]
theorem num_zero (st : RS) (hl : st.e ≠ 0 → st.left = []) (h : (numR st).1.e ≠ 0) : (numR st).2 = 0 := by
  by_cases he : st.e = 0
  · rcases numF_zero 7 0 0 st h with h1 | h1
    · exact h1
    · exact absurd he h1
  · rw [num_err st he (hl he)]
theorem yes_err (st : RS) (h : st.e ≠ 0) (hl : st.left = []) : yesR st = (st, false) := by
  unfold yesR
  rw [num_err st h hl]
  simp
theorem item_err (st : RS) (h : st.e ≠ 0) (hl : st.left = []) : (itemR st).1 = st := by
  unfold itemR itemHead
  simp only [text_err 20 st h hl, num_err st h hl, yes_err st h hl, text_err 200 st h hl]
  simp
theorem items_err (st : RS) (k : Nat) (he : (itemsR k st).1.e ≠ 0) (hl : (itemsR k st).1.left = []) : ∀ j, (itemsR (k + j) st).1 = (itemsR k st).1
  | 0 => rfl
  | j + 1 => by
    have ih := items_err st k he hl j
    show (itemR (itemsR (k + j) st).1).1 = _
    rw [ih, item_err _ he hl]
theorem GB.farQ {m : Nat} {L : List UInt8} {w : World} {B S : Nat} {wi : World} {st : RS} {cs : Array Value} (h : GB m L w B S wi st cs) {Q : Nat} (j : Nat) (v : Value) (hQ : S < Q) : GB m L w B S (wi.setCell ⟨Q, j, none⟩ v) st cs := by
  obtain ⟨h1, h2, h3, h4, h5, h6⟩ := h
  exact ⟨h1.set j v (by omega) (by have := h1.1; omega), h2.far ⟨Q, j, none⟩ v (by show w.heap.size ≠ Q; omega), h3.far ⟨Q, j, none⟩ v (by show S ≠ Q; omega), h4.setCell (show w.heap.size ≤ Q by omega) _, h5, h6⟩
/-- Within a round of the items' loop: the item's box too; what lay from n on when the round began is as it was. -/
def IJ (m : Nat) (L : List UInt8) (w : World) (B S n : Nat) (wr wi : World) (st : RS) (cs ds : Array Value) : Prop := GB m L w B S wi st cs ∧ TB 49 wi wr.heap.size ds ∧ PgK n wr wi ∧ S < wr.heap.size ∧ B < n
theorem IJ.call {m : Nat} {L : List UInt8} {w : World} {B S n : Nat} {wr wi w1 : World} {st st' : RS} {cs ds : Array Value} (h : IJ m L w B S n wr wi st cs ds) (hR : SpAt m L w1 B st') (hO : Only B wi w1) : IJ m L w B S n wr w1 st' cs ds := by
  obtain ⟨h1, h2, h3, h4, h5⟩ := h
  have h6 := h1.2.2.2.2.2
  exact ⟨h1.call hR hO, hO.tb h2 (by omega), h3.only hO (Or.inl h5), h4, h5⟩
theorem IJ.set {m : Nat} {L : List UInt8} {w : World} {B S n : Nat} {wr wi : World} {st : RS} {cs ds : Array Value} (h : IJ m L w B S n wr wi st cs ds) (j : Nat) (v : Value) : IJ m L w B S n wr (wi.setCell ⟨wr.heap.size, j, none⟩ v) st cs (ds.setIfInBounds j v) := by
  obtain ⟨h1, h2, h3, h4, h5⟩ := h
  exact ⟨h1.farQ j v h4, h2.set j v, h3.only (Only.set wr.heap.size j v wi) (Or.inr (Nat.le_refl _)), h4, h5⟩
/-- The spool's third cell is set. -/
theorem IJ.fault {m : Nat} {L : List UInt8} {w : World} {B S n : Nat} {wr wi : World} {st : RS} {cs ds : Array Value} (h : IJ m L w B S n wr wi st cs ds) (he : st.e = 0) (k : Int) (hk : k ≠ 0) : IJ m L w B S n wr (wi.setCell ⟨B, 2, none⟩ (.int .i64 k)) (refuseR k st) cs ds := by
  have hO := Only.set B 2 (.int .i64 k) wi
  refine h.call ?_ hO
  obtain ⟨⟨h0, a, c, i, h1, h2, h3, h4, h5, h6, _⟩, _⟩ := h.1
  rw [refuse_ok k st he]
  exact sp_fault h0 hk (h1.set 2 _) (hO.bytes h2 (fun x hx => by have := h5 x hx; omega)) h3 h4 h5 h6
theorem own_keep {n b : Nat} {w w' : World} {v : Value} {l : List ItemR} (h : OwnI2 b w v l) (hK : PgK n w w') (hn : n ≤ b) : OwnI2 b w' v l := by
  refine ⟨h.1, ?_⟩
  rcases h.2 with h0 | ⟨g, cap, cur, hv, hg, hc, q⟩
  · exact Or.inl h0
  · have hlt : g < w.heap.size := (Array.getElem?_eq_some_iff.1 hc).1
    exact Or.inr ⟨g, cap, cur, hv, hg, by rw [hK.2 g (Nat.le_trans hn hg) hlt]; exact hc, q⟩
theorem PgK.trans {n : Nat} {w0 w1 w2 : World} (h : PgK n w0 w1) (k : PgK n w1 w2) : PgK n w0 w2 := ⟨Nat.le_trans h.1 k.1, fun b hb hl => by rw [k.2 b hb (Nat.lt_of_lt_of_le hl h.1), h.2 b hb hl]⟩
theorem PgK.later {n : Nat} {w0 w1 : World} (hb : Below w0.heap.size w0 w1) : PgK n w0 w1 := ⟨hb.size, fun b _ hl => hb.block b hl⟩

theorem items_end {m : Nat} {L : List UInt8} {w w10 w13 w15 : World} {B S g cap k : Nat} {t : RS} {cs : Array Value} {iv : Value} {il : List ItemR} {it : ItemR}
    (J : GB m L w B S w15 t cs) (hg : w10.grownBy w15 iv.ownBlock) (hIt15 : OwnI2 w13.heap.size w15 (.slice (some ⟨g, 0, none⟩) (il.length + 1) cap) (il ++ [it])) (hIt : OwnI2 w13.heap.size w10 iv il) (hK : PgK (S + 1) w13 w10) (hIl : il.length = k) (hS : S + 1 ≤ w13.heap.size) :
    GB m L w B S (w15.setCell ⟨S, 8, none⟩ (.slice (some ⟨g, 0, none⟩) (k + 1) cap)) t (cs.setIfInBounds 8 (.slice (some ⟨g, 0, none⟩) (k + 1) cap)) ∧ OwnI2 w13.heap.size (w15.setCell ⟨S, 8, none⟩ (.slice (some ⟨g, 0, none⟩) (k + 1) cap)) (.slice (some ⟨g, 0, none⟩) (k + 1) cap) (il ++ [it]) ∧ PgK (S + 1) w13 (w15.setCell ⟨S, 8, none⟩ (.slice (some ⟨g, 0, none⟩) (k + 1) cap)) := by
  subst hIl
  have hS16 : ∀ b, S + 1 ≤ b → (w15.setCell ⟨S, 8, none⟩ (.slice (some ⟨g, 0, none⟩) (il.length + 1) cap)).heap[b]? = w15.heap[b]? := fun b hb => heap_setCell_other _ _ _ _ (show b ≠ S by omega)
  have hivb : ∀ q, iv.ownBlock = some q → w13.heap.size ≤ q := fun q hq => (World.ownsRow.lt hIt q hq).1
  have hK15 : PgK (S + 1) w13 w15 := ⟨Nat.le_trans hK.1 hg.size, fun b hb hl => by rw [hg.block b (Nat.lt_of_lt_of_le hl hK.1) (fun e => by have := hivb b e.symm; omega), hK.2 b hb hl]⟩
  refine ⟨J.set 8 _, own_keep hIt15 (n := w13.heap.size) ⟨by simp [World.setCell], fun b hb _ => hS16 b (by omega)⟩ (Nat.le_refl _), ⟨by simpa [World.setCell] using hK15.1, fun b hb hl => by rw [hS16 b hb]; exact hK15.2 b hb hl⟩⟩

theorem ownPg_only {n B : Nat} {w w' : World} {v : Value} {l : List (PageR × Value)} (h : OwnPg n w v l) (hO : Only B w w') (hB : B < n) : OwnPg n w' v l := h.kept hO.size (fun b hb hl => hO.block b hl (fun e => by cases e; omega))
theorem ownPg_later {n : Nat} {w w' : World} {v : Value} {l : List (PageR × Value)} (h : OwnPg n w v l) (hb : Below w.heap.size w w') : OwnPg n w' v l := h.kept hb.size (fun b _ hl => hb.block b hl)

/-- Behind k numbers of the four. -/
def HeldG (m : Nat) (L : List UInt8) (w : World) (B S : Nat) (n1 n2 n3 n4 n5 n6 n7 n8 : Nat) (s4 s5 s6 s7 s8 : RS) (k : Nat) (wi : World) : Prop :=
  (k = 0 ∧ GB m L w B S wi s4 #[.int .i64 (n1 : Int), .int .i64 (n2 : Int), .int .i64 (n3 : Int), .int .i64 (n4 : Int), .int .i64 0, .int .i64 0, .int .i64 0, .int .i64 0, .slice none 0 0, .int .i64 0, .int .i64 0, .slice none 0 0]) ∨ (k = 1 ∧ GB m L w B S wi s5 #[.int .i64 (n1 : Int), .int .i64 (n2 : Int), .int .i64 (n3 : Int), .int .i64 (n4 : Int), .int .i64 (n5 : Int), .int .i64 0, .int .i64 0, .int .i64 0, .slice none 0 0, .int .i64 0, .int .i64 0, .slice none 0 0]) ∨ (k = 2 ∧ GB m L w B S wi s6 #[.int .i64 (n1 : Int), .int .i64 (n2 : Int), .int .i64 (n3 : Int), .int .i64 (n4 : Int), .int .i64 (n5 : Int), .int .i64 (n6 : Int), .int .i64 0, .int .i64 0, .slice none 0 0, .int .i64 0, .int .i64 0, .slice none 0 0]) ∨ (k = 3 ∧ GB m L w B S wi s7 #[.int .i64 (n1 : Int), .int .i64 (n2 : Int), .int .i64 (n3 : Int), .int .i64 (n4 : Int), .int .i64 (n5 : Int), .int .i64 (n6 : Int), .int .i64 (n7 : Int), .int .i64 0, .slice none 0 0, .int .i64 0, .int .i64 0, .slice none 0 0]) ∨ (k = 4 ∧ GB m L w B S wi s8 #[.int .i64 (n1 : Int), .int .i64 (n2 : Int), .int .i64 (n3 : Int), .int .i64 (n4 : Int), .int .i64 (n5 : Int), .int .i64 (n6 : Int), .int .i64 (n7 : Int), .int .i64 (n8 : Int), .slice none 0 0, .int .i64 0, .int .i64 0, .slice none 0 0])

theorem Bool.beq_comm_list (x y : List UInt8) : (x == y) = (y == x) := by
  rw [Bool.eq_iff_iff, beq_iff_eq, beq_iff_eq]
  exact ⟨Eq.symm, Eq.symm⟩

set_option maxHeartbeats 8000000 in
set_option maxRecDepth 100000 in
theorem storeOf_bad (l : List UInt8) (a : Option Addr) (c : Nat) (w : World) (hA : BytesAt w a l) (hlc : l.length ≤ c) (hcm : c ≤ maxLen) (hvi : VIn) (h0 : wrapE l ≠ 0) :
    Calls Tryd.prog 5 #[.slice a l.length c] w (DecPost l w) := by
  have A1 : Below w.heap.size w (w.alloc (.cells #[.int .i64 0, .int .i64 0, .int .i64 0, .int .i64 0, .int .i64 0, .int .i64 0, .int .i64 0, .int .i64 0, .slice none 0 0, .int .i64 0, .int .i64 0, .slice none 0 0] 29)) := (Below.refl _ _).alloc (Nat.le_refl _) _
  have T1 := TB.new 29 w #[.int .i64 0, .int .i64 0, .int .i64 0, .int .i64 0, .int .i64 0, .int .i64 0, .int .i64 0, .int .i64 0, .slice none 0 0, .int .i64 0, .int .i64 0, .slice none 0 0]
  have hmax := hA.1
  have hcm2 := hcm
  unfold maxLen at hmax hcm2
  have hEW : wrapE l = if 200000 < l.length then 1 else if l.length < 7 then 5 else if (l.take 3 == mark3) = false then 4 else if (l.drop (l.length - 4) == sealB (l.take (l.length - 4))) = false then 9 else 0 := rfl
  have hDE : wrapE l ≠ 0 → decE l = wrapE l := fun h => by unfold decE; rw [if_neg h]
  by_cases h1 : 200000 < l.length
  · have h1z : (200000 : Int) < (l.length : Int) := by omega
    rw [if_pos h1] at hEW
    have hbad := fun w' (hb : Below w.heap.size w w') => dec_bad (l := l) (w := w) (w' := w') (k := 1) (by rw [hDE (by rw [hEW]; decide), hEW]) (by decide) hb
    generalize DecPost l w = PO at *
    clear hEW hDE
    go_enter Tryd.func5, Tryd.ntmps5
    go_wp2_with fail
    refine bodyPost_ret (v := .tuple #[.agg #[.int .i64 0, .int .i64 0, .int .i64 0, .int .i64 0, .int .i64 0, .int .i64 0, .int .i64 0, .int .i64 0, .slice none 0 0, .int .i64 0, .int .i64 0, .slice none 0 0], .int .i64 1]) (by simp [results, Tryd.results5, go_sem]) rfl (hbad _ ?_)
    exact A1
  have h1z : ¬ (200000 : Int) < (l.length : Int) := by omega
  rw [if_neg h1] at hEW
  by_cases h2 : l.length < 7
  · have h2z : (l.length : Int) < 7 := by omega
    rw [if_pos h2] at hEW
    have hbad := fun w' (hb : Below w.heap.size w w') => dec_bad (l := l) (w := w) (w' := w') (k := 5) (by rw [hDE (by rw [hEW]; decide), hEW]) (by decide) hb
    generalize DecPost l w = PO at *
    clear hEW hDE
    go_enter Tryd.func5, Tryd.ntmps5
    go_wp2_with fail
    exact bodyPost_ret (v := .tuple #[.agg #[.int .i64 0, .int .i64 0, .int .i64 0, .int .i64 0, .int .i64 0, .int .i64 0, .int .i64 0, .int .i64 0, .slice none 0 0, .int .i64 0, .int .i64 0, .slice none 0 0], .int .i64 5]) (by simp [results, Tryd.results5, go_sem]) rfl (hbad _ A1)
  have h2z : ¬ (l.length : Int) < 7 := by omega
  rw [if_neg h2] at hEW
  rcases hA.2 with hA2 | ⟨b, o, rfl, hbl, hc⟩
  · omega
  have n3 : (3 : Int) ≤ (c : Int) := by omega
  have ht3 := bytes_take (hA.later A1) 3 (by omega)
  have htl3 : (l.take 3).length = 3 := by rw [List.length_take]; omega
  have cv3 := conv_bytes ht3 c
  rw [htl3] at cv3
  have hcmp : ((strB (l.take 3)).toList == [100, 99, 49]) = (l.take 3 == mark3) := by
    rw [strB_toList]
    rfl
  cases hp : (l.take 3 == mark3)
  · rw [if_pos hp] at hEW
    rw [hp] at hcmp
    have hbad := fun w' (hb : Below w.heap.size w w') => dec_bad (l := l) (w := w) (w' := w') (k := 4) (by rw [hDE (by rw [hEW]; decide), hEW]) (by decide) hb
    generalize DecPost l w = PO at *
    generalize strB (l.take 3) = S3 at *
    clear hEW hDE ht3 htl3 hp
    go_enter Tryd.func5, Tryd.ntmps5
    go_wp2_with fail
    exact bodyPost_ret (v := .tuple #[.agg #[.int .i64 0, .int .i64 0, .int .i64 0, .int .i64 0, .int .i64 0, .int .i64 0, .int .i64 0, .int .i64 0, .slice none 0 0, .int .i64 0, .int .i64 0, .slice none 0 0], .int .i64 4]) (by simp [results, Tryd.results5, go_sem]) rfl (hbad _ A1)
  rw [if_neg (by rw [hp]; decide)] at hEW
  rw [hp] at hcmp
  have hT := bytes_take hA (l.length - 4) (by omega)
  have htl : (l.take (l.length - 4)).length = l.length - 4 := by rw [List.length_take]; omega
  have hdl : (l.drop (l.length - 4)).length = 4 := by rw [List.length_drop]; omega
  have hbd := body_drop l (by omega)
  generalize hN : l.length - 4 = N at *
  have e4 : (l.length : Int) - 4 = (N : Int) := by omega
  have n0 : (0 : Int) ≤ (N : Int) := by omega
  have n1 : (N : Int) ≤ (l.length : Int) := by omega
  have n2 : (N : Int) ≤ (c : Int) := by omega
  have n5 : l.length - N = 4 := by omega
  have hwN : IntKind.i64.wrap (N : Int) = (N : Int) := by simp only [IntKind.wrap_i64]; omega
  have hw4 : IntKind.i64.wrap ((l.length : Int) - 4) = (N : Int) := by simp only [IntKind.wrap_i64]; omega
  have n4 : ¬ c - N = 0 := by omega
  have hD := bytes_drop hc hbl (by unfold maxLen; omega) N (some ⟨b, o + N, none⟩) (fun _ => rfl)
  have hd1 : Below (w.alloc (.cells #[.int .i64 0, .int .i64 0, .int .i64 0, .int .i64 0, .int .i64 0, .int .i64 0, .int .i64 0, .int .i64 0, .slice none 0 0, .int .i64 0, .int .i64 0, .slice none 0 0] 29)).heap.size (w.alloc (.cells #[.int .i64 0, .int .i64 0, .int .i64 0, .int .i64 0, .int .i64 0, .int .i64 0, .int .i64 0, .int .i64 0, .slice none 0 0, .int .i64 0, .int .i64 0, .slice none 0 0] 29)) (w.alloc (.cells #[.int .i64 0, .int .i64 0, .int .i64 0, .int .i64 0, .int .i64 0, .int .i64 0, .int .i64 0, .int .i64 0, .slice none 0 0, .int .i64 0, .int .i64 0, .slice none 0 0] 29)).drew := drewN_below _ 1
  have hAd := A1.trans (hd1.mono A1.size)
  have hseal : Calls Tryd.prog 10 #[.slice (some ⟨b, o, none⟩) N c] (w.alloc (.cells #[.int .i64 0, .int .i64 0, .int .i64 0, .int .i64 0, .int .i64 0, .int .i64 0, .int .i64 0, .int .i64 0, .slice none 0 0, .int .i64 0, .int .i64 0, .slice none 0 0] 29)).drew (NewPost (sealB (l.take N)) (w.alloc (.cells #[.int .i64 0, .int .i64 0, .int .i64 0, .int .i64 0, .int .i64 0, .int .i64 0, .int .i64 0, .int .i64 0, .slice none 0 0, .int .i64 0, .int .i64 0, .slice none 0 0] 29)).drew) := by
    have := sealOf_any (l.take N) (some ⟨b, o, none⟩) c _ (hT.later hAd)
    rw [htl] at this
    exact this
  have hsl : (sealB (l.take N)).length = 4 := seal_len _
  have cvd := fun w2 (hb : Below w.heap.size w w2) => conv_bytes (hD.later hb) (c - N)
  rw [hdl] at cvd
  have hcmp2 : ((strB (sealB (l.take N))).toList == (strB (l.drop N)).toList) = (l.drop N == sealB (l.take N)) := by
    rw [strB_toList, strB_toList]
    exact Bool.beq_comm_list _ _
  have hT1d := T1.later hd1
  unfold NewPost at hseal
  generalize hSB : sealB (l.take N) = SB at *
  have ht3l : Hid ((l.take 3).length = 3) := htl3
  clear ht3 htl3 hp
  generalize strB (l.take 3) = S3 at *
  cases hss : (l.drop N == SB)
  · rw [if_pos hss] at hEW
    rw [hss] at hcmp2
    have hbad := fun w' (hb : Below w.heap.size w w') => dec_bad (l := l) (w := w) (w' := w') (k := 9) (by rw [hDE (by rw [hEW]; decide), hEW]) (by decide) hb
    generalize DecPost l w = PO at *
    clear hEW hDE hss hbd hvi
    go_enter Tryd.func5, Tryd.ntmps5
    go_wp2_with fail
    go_cut [39] (fun v wx => v = .bool true ∧ Below w.heap.size w wx ∧ TB 29 wx w.heap.size #[.int .i64 0, .int .i64 0, .int .i64 0, .int .i64 0, .int .i64 0, .int .i64 0, .int .i64 0, .int .i64 0, .slice none 0 0, .int .i64 0, .int .i64 0, .slice none 0 0])
    case first =>
      have cvd1 := cvd _ hAd
      go_region_with (first | (go_at_call 10; refine hseal.mono ?_; rintro e w2 ⟨v2, rfl, hR2, hb2⟩; obtain ⟨a2, c2, rfl, hA2⟩ := hR2.bytes (by unfold maxLen; omega); have hbw2 := hAd.trans (hb2.mono hAd.size); have cv2 := conv_bytes hA2 c2; have cvd2 := cvd _ hbw2; have hT2 := hT1d.later hb2; rw [hsl] at cv2 ⊢))
      all_goals
        go_wp2
        go_meet
        exact ⟨rfl, hbw2, hT2⟩
    case rest =>
    obtain ⟨rfl, hB2, hT2⟩ := hcut
    have x2 := fun j => hT2.cell j
    have f2 := fun j => hT2.frozen j
    have l2 := hT2.lt
    go_wp2_with fail
    exact bodyPost_ret (v := .tuple #[.agg #[.int .i64 0, .int .i64 0, .int .i64 0, .int .i64 0, .int .i64 0, .int .i64 0, .int .i64 0, .int .i64 0, .slice none 0 0, .int .i64 0, .int .i64 0, .slice none 0 0], .int .i64 9]) (by simp [results, Tryd.results5, go_sem, l2, x2]) rfl (hbad _ ((((((((((((hB2.setCell (Nat.le_refl _) _).setCell (Nat.le_refl _) _).setCell (Nat.le_refl _) _).setCell (Nat.le_refl _) _).setCell (Nat.le_refl _) _).setCell (Nat.le_refl _) _).setCell (Nat.le_refl _) _).setCell (Nat.le_refl _) _).setCell (Nat.le_refl _) _).setCell (Nat.le_refl _) _).setCell (Nat.le_refl _) _).setCell (Nat.le_refl _) _))
  rw [if_neg (by rw [hss]; decide)] at hEW
  exact absurd hEW h0

set_option maxHeartbeats 8000000 in
set_option maxRecDepth 100000 in
theorem storeOf_good (l : List UInt8) (a : Option Addr) (c : Nat) (w : World) (hA : BytesAt w a l) (hlc : l.length ≤ c) (hcm : c ≤ maxLen) (hvi : VIn) (h0 : wrapE l = 0) :
    Calls Tryd.prog 5 #[.slice a l.length c] w (DecPost l w) := by
  have A1 : Below w.heap.size w (w.alloc (.cells #[.int .i64 0, .int .i64 0, .int .i64 0, .int .i64 0, .int .i64 0, .int .i64 0, .int .i64 0, .int .i64 0, .slice none 0 0, .int .i64 0, .int .i64 0, .slice none 0 0] 29)) := (Below.refl _ _).alloc (Nat.le_refl _) _
  have T1 := TB.new 29 w #[.int .i64 0, .int .i64 0, .int .i64 0, .int .i64 0, .int .i64 0, .int .i64 0, .int .i64 0, .int .i64 0, .slice none 0 0, .int .i64 0, .int .i64 0, .slice none 0 0]
  have hmax := hA.1
  have hcm2 := hcm
  unfold maxLen at hmax hcm2
  have hEW : wrapE l = if 200000 < l.length then 1 else if l.length < 7 then 5 else if (l.take 3 == mark3) = false then 4 else if (l.drop (l.length - 4) == sealB (l.take (l.length - 4))) = false then 9 else 0 := rfl
  have hDE : wrapE l ≠ 0 → decE l = wrapE l := fun h => by unfold decE; rw [if_neg h]
  by_cases h1 : 200000 < l.length
  · have h1z : (200000 : Int) < (l.length : Int) := by omega
    rw [if_pos h1] at hEW
    exact absurd h0 (by rw [hEW]; decide)
  have h1z : ¬ (200000 : Int) < (l.length : Int) := by omega
  rw [if_neg h1] at hEW
  by_cases h2 : l.length < 7
  · have h2z : (l.length : Int) < 7 := by omega
    rw [if_pos h2] at hEW
    exact absurd h0 (by rw [hEW]; decide)
  have h2z : ¬ (l.length : Int) < 7 := by omega
  rw [if_neg h2] at hEW
  rcases hA.2 with hA2 | ⟨b, o, rfl, hbl, hc⟩
  · omega
  have n3 : (3 : Int) ≤ (c : Int) := by omega
  have ht3 := bytes_take (hA.later A1) 3 (by omega)
  have htl3 : (l.take 3).length = 3 := by rw [List.length_take]; omega
  have cv3 := conv_bytes ht3 c
  rw [htl3] at cv3
  have hcmp : ((strB (l.take 3)).toList == [100, 99, 49]) = (l.take 3 == mark3) := by
    rw [strB_toList]
    rfl
  cases hp : (l.take 3 == mark3)
  · rw [if_pos hp] at hEW
    rw [hp] at hcmp
    exact absurd h0 (by rw [hEW]; decide)
  rw [if_neg (by rw [hp]; decide)] at hEW
  rw [hp] at hcmp
  have hT := bytes_take hA (l.length - 4) (by omega)
  have htl : (l.take (l.length - 4)).length = l.length - 4 := by rw [List.length_take]; omega
  have hdl : (l.drop (l.length - 4)).length = 4 := by rw [List.length_drop]; omega
  have hbd := body_drop l (by omega)
  generalize hN : l.length - 4 = N at *
  have e4 : (l.length : Int) - 4 = (N : Int) := by omega
  have n0 : (0 : Int) ≤ (N : Int) := by omega
  have n1 : (N : Int) ≤ (l.length : Int) := by omega
  have n2 : (N : Int) ≤ (c : Int) := by omega
  have n5 : l.length - N = 4 := by omega
  have hwN : IntKind.i64.wrap (N : Int) = (N : Int) := by simp only [IntKind.wrap_i64]; omega
  have hw4 : IntKind.i64.wrap ((l.length : Int) - 4) = (N : Int) := by simp only [IntKind.wrap_i64]; omega
  have n4 : ¬ c - N = 0 := by omega
  have hD := bytes_drop hc hbl (by unfold maxLen; omega) N (some ⟨b, o + N, none⟩) (fun _ => rfl)
  have hd1 : Below (w.alloc (.cells #[.int .i64 0, .int .i64 0, .int .i64 0, .int .i64 0, .int .i64 0, .int .i64 0, .int .i64 0, .int .i64 0, .slice none 0 0, .int .i64 0, .int .i64 0, .slice none 0 0] 29)).heap.size (w.alloc (.cells #[.int .i64 0, .int .i64 0, .int .i64 0, .int .i64 0, .int .i64 0, .int .i64 0, .int .i64 0, .int .i64 0, .slice none 0 0, .int .i64 0, .int .i64 0, .slice none 0 0] 29)) (w.alloc (.cells #[.int .i64 0, .int .i64 0, .int .i64 0, .int .i64 0, .int .i64 0, .int .i64 0, .int .i64 0, .int .i64 0, .slice none 0 0, .int .i64 0, .int .i64 0, .slice none 0 0] 29)).drew := drewN_below _ 1
  have hAd := A1.trans (hd1.mono A1.size)
  have hseal : Calls Tryd.prog 10 #[.slice (some ⟨b, o, none⟩) N c] (w.alloc (.cells #[.int .i64 0, .int .i64 0, .int .i64 0, .int .i64 0, .int .i64 0, .int .i64 0, .int .i64 0, .int .i64 0, .slice none 0 0, .int .i64 0, .int .i64 0, .slice none 0 0] 29)).drew (NewPost (sealB (l.take N)) (w.alloc (.cells #[.int .i64 0, .int .i64 0, .int .i64 0, .int .i64 0, .int .i64 0, .int .i64 0, .int .i64 0, .int .i64 0, .slice none 0 0, .int .i64 0, .int .i64 0, .slice none 0 0] 29)).drew) := by
    have := sealOf_any (l.take N) (some ⟨b, o, none⟩) c _ (hT.later hAd)
    rw [htl] at this
    exact this
  have hsl : (sealB (l.take N)).length = 4 := seal_len _
  have cvd := fun w2 (hb : Below w.heap.size w w2) => conv_bytes (hD.later hb) (c - N)
  rw [hdl] at cvd
  have hcmp2 : ((strB (sealB (l.take N))).toList == (strB (l.drop N)).toList) = (l.drop N == sealB (l.take N)) := by
    rw [strB_toList, strB_toList]
    exact Bool.beq_comm_list _ _
  have hT1d := T1.later hd1
  unfold NewPost at hseal
  generalize hSB : sealB (l.take N) = SB at *
  have ht3l : Hid ((l.take 3).length = 3) := htl3
  clear ht3 htl3 hp
  generalize strB (l.take 3) = S3 at *
  cases hss : (l.drop N == SB)
  · rw [if_pos hss] at hEW
    rw [hss] at hcmp2
    exact absurd h0 (by rw [hEW]; decide)
  rw [if_neg (by rw [hss]; decide)] at hEW
  rw [hss] at hcmp2
  have hdE : decE l = endE (readR (bodyL l)) := by unfold decE; rw [if_pos hEW]
  have hdS : decE l = 0 → decS l = (readR (bodyL l)).1 := fun h => by unfold decS; rw [if_pos h]
  have hgood := fun (h : decE l = 0) (w' : World) (ia pa : Option Addr) (ic pc : Nat) hF hb => dec_good (l := l) (w := w) (w' := w') (ia := ia) (pa := pa) (ic := ic) (pc := pc) (hdS h) h hF hb
  have hbad := fun (k : Int) (hk : decE l = k) (h0 : k ≠ 0) (w' : World) (hb : Below w.heap.size w w') => dec_bad (l := l) (w := w) (w' := w') (k := k) hk h0 hb
  have hok : ItemsOk (readR (bodyL l)).1.items := storeR_ok ⟨bodyL l, 0⟩
  unfold endE readR at hdE
  unfold readR at hgood hok
  clear hdS hEW hDE hss h0
  have hLl : (l.take N).length = N := htl
  have hLb : (l.take N).drop 3 = bodyL l := hbd
  generalize l.take N = L at *
  generalize decE l = D at *
  generalize DecPost l w = PO at *
  generalize bodyL l = BL at *
  unfold storeR headR flashR at hdE hgood hok
  simp only at hdE hgood hok
  have c1 := fun (B : Nat) w1 (hr : SpAt w.heap.size L w1 B ⟨BL, 0⟩) => next_sp w.heap.size L ⟨BL, 0⟩ B w1 hr
  have hb1 := numR_lt (⟨BL, 0⟩ : RS)
  generalize numR ⟨BL, 0⟩ = N1 at *
  obtain ⟨s1, n1⟩ := N1
  try simp only at *
  have c2 := fun (B : Nat) w1 (hr : SpAt w.heap.size L w1 B s1) => next_sp w.heap.size L s1 B w1 hr
  have hb2 := numR_lt (s1 : RS)
  generalize numR s1 = N2 at *
  obtain ⟨s2, n2⟩ := N2
  try simp only at *
  have c3 := fun (B : Nat) w1 (hr : SpAt w.heap.size L w1 B s2) => next_sp w.heap.size L s2 B w1 hr
  have hb3 := numR_lt (s2 : RS)
  generalize numR s2 = N3 at *
  obtain ⟨s3, n3⟩ := N3
  try simp only at *
  have c4 := fun (B : Nat) w1 (hr : SpAt w.heap.size L w1 B s3) => next_sp w.heap.size L s3 B w1 hr
  have hb4 := numR_lt (s3 : RS)
  generalize numR s3 = N4 at *
  obtain ⟨s4, n4⟩ := N4
  try simp only at *
  have c5 := fun (B : Nat) w1 (hr : SpAt w.heap.size L w1 B s4) => next_sp w.heap.size L s4 B w1 hr
  have hb5 := numR_lt (s4 : RS)
  generalize numR s4 = N5 at *
  obtain ⟨s5, n5⟩ := N5
  try simp only at *
  have c6 := fun (B : Nat) w1 (hr : SpAt w.heap.size L w1 B s5) => next_sp w.heap.size L s5 B w1 hr
  have hb6 := numR_lt (s5 : RS)
  generalize numR s5 = N6 at *
  obtain ⟨s6, n6⟩ := N6
  try simp only at *
  have c7 := fun (B : Nat) w1 (hr : SpAt w.heap.size L w1 B s6) => next_sp w.heap.size L s6 B w1 hr
  have hb7 := numR_lt (s6 : RS)
  generalize numR s6 = N7 at *
  obtain ⟨s7, n7⟩ := N7
  try simp only at *
  have c8 := fun (B : Nat) w1 (hr : SpAt w.heap.size L w1 B s7) => next_sp w.heap.size L s7 B w1 hr
  have hb8 := numR_lt (s7 : RS)
  generalize numR s7 = N8 at *
  obtain ⟨s8, n8⟩ := N8
  try simp only at *
  have c9 := fun (B : Nat) w1 (hr : SpAt w.heap.size L w1 B s8) => next_sp w.heap.size L s8 B w1 hr
  have hb9 := numR_lt (s8 : RS)
  generalize numR s8 = N9 at *
  obtain ⟨s9, n9⟩ := N9
  try simp only at *
  have c10 := fun (B : Nat) w1 (hr : SpAt w.heap.size L w1 B s9) => next_sp w.heap.size L s9 B w1 hr
  have hb10 := numR_lt (s9 : RS)
  generalize numR s9 = N10 at *
  obtain ⟨s10, n10⟩ := N10
  try simp only at *
  have c11 := fun (B : Nat) w1 (hr : SpAt w.heap.size L w1 B s10) => many_sp w.heap.size 20 L s10 B w1 hr
  have hle := count_le 20 s10
  generalize countR 20 s10 = C11 at *
  obtain ⟨s11, np⟩ := C11
  try simp only at *
  unfold SpPost at *
  simp only at *
  go_enter Tryd.func5, Tryd.ntmps5
  go_wp2_with fail
  go_cut [39] (fun v wx => v = .bool false ∧ Below w.heap.size w wx ∧ TB 29 wx w.heap.size #[.int .i64 0, .int .i64 0, .int .i64 0, .int .i64 0, .int .i64 0, .int .i64 0, .int .i64 0, .int .i64 0, .slice none 0 0, .int .i64 0, .int .i64 0, .slice none 0 0])
  case first =>
    have cvd1 := cvd _ hAd
    go_region_with (first | (go_at_call 10; refine hseal.mono ?_; rintro e w2 ⟨v2, rfl, hR2, hb2⟩; obtain ⟨a2, c2, rfl, hA2⟩ := hR2.bytes (by unfold maxLen; omega); have hbw2 := hAd.trans (hb2.mono hAd.size); have cv2 := conv_bytes hA2 c2; have cvd2 := cvd _ hbw2; have hT2 := hT1d.later hb2; rw [hsl] at cv2 ⊢))
    all_goals
      go_wp2
      go_meet
      exact ⟨rfl, hbw2, hT2⟩
  case rest =>
  obtain ⟨rfl, hB2, hT2⟩ := hcut
  obtain ⟨w0, hw0⟩ : ∃ x, x = wc := ⟨_, rfl⟩
  subst hw0
  clear hseal cvd hcmp2 hT1d hAd hd1 hD hcmp cv3
  have hI0 : ∀ wq : World, Below w0.heap.size w0 wq → True := fun _ _ => trivial
  have A3 : Below w0.heap.size w0 (w0.alloc (.cells #[.slice (some ⟨b, o, none⟩) N c, .int .i64 3, .int .i64 0] 40)) := (Below.refl _ _).alloc (Nat.le_refl _) _
  have hs3 : (w0.alloc (.cells #[.slice (some ⟨b, o, none⟩) N c, .int .i64 3, .int .i64 0] 40)).heap.size = w0.heap.size + 1 := by simp
  have A4 : Below (w0.alloc (.cells #[.slice (some ⟨b, o, none⟩) N c, .int .i64 3, .int .i64 0] 40)).heap.size (w0.alloc (.cells #[.slice (some ⟨b, o, none⟩) N c, .int .i64 3, .int .i64 0] 40)) ((w0.alloc (.cells #[.slice (some ⟨b, o, none⟩) N c, .int .i64 3, .int .i64 0] 40)).alloc (.cells #[.int .i64 0, .int .i64 0, .int .i64 0, .int .i64 0, .int .i64 0, .int .i64 0, .int .i64 0, .int .i64 0, .slice none 0 0, .int .i64 0, .int .i64 0, .slice none 0 0] 29)) := (Below.refl _ _).alloc (Nat.le_refl _) _
  have TS := TB.new 29 (w0.alloc (.cells #[.slice (some ⟨b, o, none⟩) N c, .int .i64 3, .int .i64 0] 40)) #[.int .i64 0, .int .i64 0, .int .i64 0, .int .i64 0, .int .i64 0, .int .i64 0, .int .i64 0, .int .i64 0, .slice none 0 0, .int .i64 0, .int .i64 0, .slice none 0 0]
  rw [hs3] at TS
  have hl2 := hT2.lt
  have I0 : GB w.heap.size L w w0.heap.size (w0.heap.size + 1) ((w0.alloc (.cells #[.slice (some ⟨b, o, none⟩) N c, .int .i64 3, .int .i64 0] 40)).alloc (.cells #[.int .i64 0, .int .i64 0, .int .i64 0, .int .i64 0, .int .i64 0, .int .i64 0, .int .i64 0, .int .i64 0, .slice none 0 0, .int .i64 0, .int .i64 0, .slice none 0 0] 29)) ⟨BL, 0⟩ #[.int .i64 0, .int .i64 0, .int .i64 0, .int .i64 0, .int .i64 0, .int .i64 0, .int .i64 0, .int .i64 0, .slice none 0 0, .int .i64 0, .int .i64 0, .slice none 0 0] := by
    have hB3 := hB2.trans (A3.mono hB2.size)
    have hB4 := hB3.trans (A4.mono hB3.size)
    refine ⟨⟨Nat.le_of_lt hl2, some ⟨b, o, none⟩, c, 3, by rw [hLl]; exact (TB.new 40 w0 #[.slice (some ⟨b, o, none⟩) N c, .int .i64 3, .int .i64 0]).later A4, hT.later hB4, by omega, hcm, fun x hx => by cases hx; exact hbl, by omega, fun _ => hLb.symm, fun h => absurd rfl h⟩, (hT2.later A3).later A4, TS, hB4, hl2, by omega⟩
  clear A3 A4 TS hs3 hI0
  go_wp2_with fail
  refine (c1 _ _ I0.1).mono ?_
  rintro e w1 ⟨rfl, hR1, hO1⟩
  have J1 := I0.call hR1 hO1
  have x1 := fun j => J1.2.2.1.cell j
  have f1 := fun j => J1.2.2.1.frozen j
  have l1 := J1.2.2.1.lt
  have I1 : GB w.heap.size L w w0.heap.size (w0.heap.size + 1) (w1.setCell ⟨w0.heap.size + 1, 0, none⟩ (.int .i64 (n1 : Int))) s1 #[.int .i64 (n1 : Int), .int .i64 0, .int .i64 0, .int .i64 0, .int .i64 0, .int .i64 0, .int .i64 0, .int .i64 0, .slice none 0 0, .int .i64 0, .int .i64 0, .slice none 0 0] := J1.set 0 _
  clear I0 hR1 hO1
  go_wp2_with fail
  clear x1 f1 l1 J1
  refine (c2 _ _ I1.1).mono ?_
  rintro e w2 ⟨rfl, hR2, hO2⟩
  have J2 := I1.call hR2 hO2
  have x2 := fun j => J2.2.2.1.cell j
  have f2 := fun j => J2.2.2.1.frozen j
  have l2 := J2.2.2.1.lt
  have I2 : GB w.heap.size L w w0.heap.size (w0.heap.size + 1) (w2.setCell ⟨w0.heap.size + 1, 1, none⟩ (.int .i64 (n2 : Int))) s2 #[.int .i64 (n1 : Int), .int .i64 (n2 : Int), .int .i64 0, .int .i64 0, .int .i64 0, .int .i64 0, .int .i64 0, .int .i64 0, .slice none 0 0, .int .i64 0, .int .i64 0, .slice none 0 0] := J2.set 1 _
  clear I1 hR2 hO2
  go_wp2_with fail
  clear x2 f2 l2 J2
  refine (c3 _ _ I2.1).mono ?_
  rintro e w3 ⟨rfl, hR3, hO3⟩
  have J3 := I2.call hR3 hO3
  have x3 := fun j => J3.2.2.1.cell j
  have f3 := fun j => J3.2.2.1.frozen j
  have l3 := J3.2.2.1.lt
  have I3 : GB w.heap.size L w w0.heap.size (w0.heap.size + 1) (w3.setCell ⟨w0.heap.size + 1, 2, none⟩ (.int .i64 (n3 : Int))) s3 #[.int .i64 (n1 : Int), .int .i64 (n2 : Int), .int .i64 (n3 : Int), .int .i64 0, .int .i64 0, .int .i64 0, .int .i64 0, .int .i64 0, .slice none 0 0, .int .i64 0, .int .i64 0, .slice none 0 0] := J3.set 2 _
  clear I2 hR3 hO3
  go_wp2_with fail
  clear x3 f3 l3 J3
  refine (c4 _ _ I3.1).mono ?_
  rintro e w4 ⟨rfl, hR4, hO4⟩
  have J4 := I3.call hR4 hO4
  have x4 := fun j => J4.2.2.1.cell j
  have f4 := fun j => J4.2.2.1.frozen j
  have l4 := J4.2.2.1.lt
  have I4 : GB w.heap.size L w w0.heap.size (w0.heap.size + 1) (w4.setCell ⟨w0.heap.size + 1, 3, none⟩ (.int .i64 (n4 : Int))) s4 #[.int .i64 (n1 : Int), .int .i64 (n2 : Int), .int .i64 (n3 : Int), .int .i64 (n4 : Int), .int .i64 0, .int .i64 0, .int .i64 0, .int .i64 0, .slice none 0 0, .int .i64 0, .int .i64 0, .slice none 0 0] := J4.set 3 _
  clear I3 hR4 hO4
  go_wp2_with fail
  clear x4 f4 l4 J4
  go_loopw [6] (fun i wr => ∃ k : Nat, i = .int .i64 k ∧ HeldG w.heap.size L w w0.heap.size (w0.heap.size + 1) n1 n2 n3 n4 n5 n6 n7 n8 s4 s5 s6 s7 s8 k wr) (fun i _ => 4 - (intOf i).toNat)
  case atStart => exact ⟨0, rfl, Or.inl ⟨rfl, I4⟩⟩
  case round =>
    clear I4
    obtain ⟨k, rfl, hH⟩ := hrel
    rcases hH with ⟨rfl, I4⟩ | ⟨rfl, I5⟩ | ⟨rfl, I6⟩ | ⟨rfl, I7⟩ | ⟨rfl, I8⟩
    · go_wp2_with fail
      refine (c5 _ _ I4.1).mono ?_
      rintro e w5 ⟨rfl, hR5, hO5⟩
      have J5 := I4.call hR5 hO5
      have x5 := fun j => J5.2.2.1.cell j
      have f5 := fun j => J5.2.2.1.frozen j
      have l5 := J5.2.2.1.lt
      have I5 : GB w.heap.size L w w0.heap.size (w0.heap.size + 1) (w5.setCell ⟨w0.heap.size + 1, 4, none⟩ (.int .i64 (n5 : Int))) s5 #[.int .i64 (n1 : Int), .int .i64 (n2 : Int), .int .i64 (n3 : Int), .int .i64 (n4 : Int), .int .i64 (n5 : Int), .int .i64 0, .int .i64 0, .int .i64 0, .slice none 0 0, .int .i64 0, .int .i64 0, .slice none 0 0] := J5.set 4 _
      clear I4 hR5 hO5
      go_wp2_with fail
      exact ⟨⟨1, rfl, Or.inr (Or.inl ⟨rfl, I5⟩)⟩, by simp [intOf]⟩
    · go_wp2_with fail
      refine (c6 _ _ I5.1).mono ?_
      rintro e w6 ⟨rfl, hR6, hO6⟩
      have J6 := I5.call hR6 hO6
      have x6 := fun j => J6.2.2.1.cell j
      have f6 := fun j => J6.2.2.1.frozen j
      have l6 := J6.2.2.1.lt
      have I6 : GB w.heap.size L w w0.heap.size (w0.heap.size + 1) (w6.setCell ⟨w0.heap.size + 1, 5, none⟩ (.int .i64 (n6 : Int))) s6 #[.int .i64 (n1 : Int), .int .i64 (n2 : Int), .int .i64 (n3 : Int), .int .i64 (n4 : Int), .int .i64 (n5 : Int), .int .i64 (n6 : Int), .int .i64 0, .int .i64 0, .slice none 0 0, .int .i64 0, .int .i64 0, .slice none 0 0] := J6.set 5 _
      clear I5 hR6 hO6
      go_wp2_with fail
      exact ⟨⟨2, rfl, Or.inr (Or.inr (Or.inl ⟨rfl, I6⟩))⟩, by simp [intOf]⟩
    · go_wp2_with fail
      refine (c7 _ _ I6.1).mono ?_
      rintro e w7 ⟨rfl, hR7, hO7⟩
      have J7 := I6.call hR7 hO7
      have x7 := fun j => J7.2.2.1.cell j
      have f7 := fun j => J7.2.2.1.frozen j
      have l7 := J7.2.2.1.lt
      have I7 : GB w.heap.size L w w0.heap.size (w0.heap.size + 1) (w7.setCell ⟨w0.heap.size + 1, 6, none⟩ (.int .i64 (n7 : Int))) s7 #[.int .i64 (n1 : Int), .int .i64 (n2 : Int), .int .i64 (n3 : Int), .int .i64 (n4 : Int), .int .i64 (n5 : Int), .int .i64 (n6 : Int), .int .i64 (n7 : Int), .int .i64 0, .slice none 0 0, .int .i64 0, .int .i64 0, .slice none 0 0] := J7.set 6 _
      clear I6 hR7 hO7
      go_wp2_with fail
      exact ⟨⟨3, rfl, Or.inr (Or.inr (Or.inr (Or.inl ⟨rfl, I7⟩)))⟩, by simp [intOf]⟩
    · go_wp2_with fail
      refine (c8 _ _ I7.1).mono ?_
      rintro e w8 ⟨rfl, hR8, hO8⟩
      have J8 := I7.call hR8 hO8
      have x8 := fun j => J8.2.2.1.cell j
      have f8 := fun j => J8.2.2.1.frozen j
      have l8 := J8.2.2.1.lt
      have I8 : GB w.heap.size L w w0.heap.size (w0.heap.size + 1) (w8.setCell ⟨w0.heap.size + 1, 7, none⟩ (.int .i64 (n8 : Int))) s8 #[.int .i64 (n1 : Int), .int .i64 (n2 : Int), .int .i64 (n3 : Int), .int .i64 (n4 : Int), .int .i64 (n5 : Int), .int .i64 (n6 : Int), .int .i64 (n7 : Int), .int .i64 (n8 : Int), .slice none 0 0, .int .i64 0, .int .i64 0, .slice none 0 0] := J8.set 7 _
      clear I7 hR8 hO8
      go_wp2_with fail
      exact ⟨⟨4, rfl, Or.inr (Or.inr (Or.inr (Or.inr (⟨rfl, I8⟩))))⟩, by simp [intOf]⟩
    · go_wp2_with fail
      refine (c9 _ _ I8.1).mono ?_
      rintro e w9 ⟨rfl, hR9, hO9⟩
      have J9 := I8.call hR9 hO9
      have x9 := fun j => J9.2.2.1.cell j
      have f9 := fun j => J9.2.2.1.frozen j
      have l9 := J9.2.2.1.lt
      have I9 : GB w.heap.size L w w0.heap.size (w0.heap.size + 1) (w9.setCell ⟨w0.heap.size + 1, 9, none⟩ (.int .i64 (n9 : Int))) s9 #[.int .i64 (n1 : Int), .int .i64 (n2 : Int), .int .i64 (n3 : Int), .int .i64 (n4 : Int), .int .i64 (n5 : Int), .int .i64 (n6 : Int), .int .i64 (n7 : Int), .int .i64 (n8 : Int), .slice none 0 0, .int .i64 (n9 : Int), .int .i64 0, .slice none 0 0] := J9.set 9 _
      clear I8 hR9 hO9
      go_wp2_with fail
      clear x9 f9 l9 J9
      refine (c10 _ _ I9.1).mono ?_
      rintro e w10 ⟨rfl, hR10, hO10⟩
      have J10 := I9.call hR10 hO10
      have x10 := fun j => J10.2.2.1.cell j
      have f10 := fun j => J10.2.2.1.frozen j
      have l10 := J10.2.2.1.lt
      have I10 : GB w.heap.size L w w0.heap.size (w0.heap.size + 1) (w10.setCell ⟨w0.heap.size + 1, 10, none⟩ (.int .i64 (n10 : Int))) s10 #[.int .i64 (n1 : Int), .int .i64 (n2 : Int), .int .i64 (n3 : Int), .int .i64 (n4 : Int), .int .i64 (n5 : Int), .int .i64 (n6 : Int), .int .i64 (n7 : Int), .int .i64 (n8 : Int), .slice none 0 0, .int .i64 (n9 : Int), .int .i64 (n10 : Int), .slice none 0 0] := J10.set 10 _
      clear I9 hR10 hO10
      go_wp2_with fail
      clear x10 f10 l10 J10
      refine (c11 _ _ I10.1).mono ?_
      rintro e w11 ⟨rfl, hR11, hO11⟩
      have I11 := I10.call hR11 hO11
      clear I10 hR11 hO11 c1 c2 c3 c4 c5 c6 c7 c8 c9 c10 c11
      go_upto_block 2 with fail
      have hX : -100 ≤ (n10 : Int) - np ∧ (n10 : Int) - np ≤ 4398046511104 := by omega
      obtain ⟨hX0, hX1⟩ := hX
      generalize hXe : (n10 : Int) - np = X at *
      have hsS : w0.heap.size + 1 < w11.heap.size := I11.2.2.1.lt
      go_cut [8] (fun _ wx => ∃ (pv : Value) (pl : List (PageR × Value)), GB w.heap.size L w w0.heap.size (w0.heap.size + 1) wx (pagesR np X s11).1 #[.int .i64 (n1 : Int), .int .i64 (n2 : Int), .int .i64 (n3 : Int), .int .i64 (n4 : Int), .int .i64 (n5 : Int), .int .i64 (n6 : Int), .int .i64 (n7 : Int), .int .i64 (n8 : Int), .slice none 0 0, .int .i64 (n9 : Int), .int .i64 (n10 : Int), pv] ∧ OwnPg (w0.heap.size + 2) wx pv pl ∧ w0.heap.size + 2 ≤ wx.heap.size ∧ ((pagesR np X s11).1.e = 0 → pl.map (·.1) = (pagesR np X s11).2))
      case first =>
        go_wp2_with fail
        go_loopw [8] (fun i wr => ∃ (k : Nat) (pv : Value) (pl : List (PageR × Value)), k ≤ np ∧ i = .int .i64 k ∧ GB w.heap.size L w w0.heap.size (w0.heap.size + 1) wr (pagesR k X s11).1 #[.int .i64 (n1 : Int), .int .i64 (n2 : Int), .int .i64 (n3 : Int), .int .i64 (n4 : Int), .int .i64 (n5 : Int), .int .i64 (n6 : Int), .int .i64 (n7 : Int), .int .i64 (n8 : Int), .slice none 0 0, .int .i64 (n9 : Int), .int .i64 (n10 : Int), pv] ∧ OwnPg (w0.heap.size + 2) wr pv pl ∧ w0.heap.size + 2 ≤ wr.heap.size ∧ pl.map (·.1) = (pagesR k X s11).2) (fun i _ => np - (intOf i).toNat)
        case atStart => exact ⟨0, _, [], Nat.zero_le _, rfl, I11, ⟨World.ownsRow_nil _ _ _ _, fun x hx => by simp at hx⟩, hsS, rfl⟩
        case round =>
          clear I11 hsS
          obtain ⟨k, pv, pl, hk, rfl, hI, hPg, hsz, hpl⟩ := hrel
          have hI' := hI
          obtain ⟨⟨q0, a5, c5, i5, q1, q2, q3, q4, q5, q6, q7, q8⟩, _⟩ := hI'
          have x5 := fun j => q1.cell j
          have l5 := q1.lt
          by_cases hlt : k < np
          · have hltz : (k : Int) < (np : Int) := by omega
            by_cases he : (pagesR k X s11).1.e = 0
            · have hz : ((pagesR k X s11).1.e == 0) = true := by simp [he]
              have c12 := text_sp w.heap.size 256 L (pagesR k X s11).1 w0.heap.size wr hI.1 (by omega) (by omega) (by omega)
              have ht6 := text_le 256 (pagesR k X s11).1
              have hps : Hid ((pagesR (k + 1) X s11).1 = (textR 256 (pagesR k X s11).1).1) := rfl
              have hpt : Hid ((pagesR (k + 1) X s11).2 = (pagesR k X s11).2 ++ [⟨X + k, (textR 256 (pagesR k X s11).1).2⟩]) := rfl
              unfold StrPost at c12
              generalize textR 256 (pagesR k X s11).1 = T at *
              obtain ⟨s5', bs⟩ := T
              simp only at *
              rw [he] at x5
              go_wp2_with fail
              refine c12.mono ?_
              rintro e w12 ⟨rfl, hR12, hO12⟩
              have hI12 := hI.call hR12 hO12
              have hPg12 := ownPg_only hPg hO12 (by omega)
              have hown12 : ∀ q, pv.ownBlock = some q → w0.heap.size + 2 ≤ q ∧ q < w12.heap.size := fun q hq => World.ownsRow.lt hPg12.1 q hq
              have hsz12 : w0.heap.size + 2 ≤ w12.heap.size := Nat.le_trans hsz hO12.size
              have kc : (convert 9 22 (.string (strB bs))).run Tryd.prog w12 = .ok (.slice (some ⟨w12.heap.size, 0, none⟩) bs.length (grownCap w12 bs.length 0 5)) (Lib.bytesWorld w12 5 (strB bs)) := Lib.run_convert_string_bytes (P := Tryd.prog) w12 9 22 5 (strB bs) Tryd.underlying9 Tryd.underlying22 Tryd.underlying5
              obtain ⟨hBy, hcap1, hcap2⟩ := bytes_of w12 bs (by unfold maxLen; omega)
              have hb13 := bytes_below w12 (strB bs)
              have hs13 := Lib.bytesWorld_size w12 5 (strB bs)
              generalize Lib.bytesWorld w12 5 (strB bs) = w13 at *
              generalize grownCap w12 bs.length 0 5 = cap at *
              have hs13' : w12.heap.size < w13.heap.size := by omega
              clear hs13
              have hI13 := hI12.later hb13
              have hPg13 := ownPg_later hPg12 hb13
              have x12 := fun j => hI12.2.2.1.cell j
              have l12 := hI12.2.2.1.lt
              have A14 : Below w13.heap.size w13 (w13.alloc (.cells #[.int .i64 (X + (k : Int)), .slice (some ⟨w12.heap.size, 0, none⟩) bs.length cap] 45)) := (Below.refl _ _).alloc (Nat.le_refl _) _
              have hI14 := hI13.later A14
              have hPg14 := ownPg_later hPg13 A14
              have hB14 : (w13.alloc (.cells #[.int .i64 (X + (k : Int)), .slice (some ⟨w12.heap.size, 0, none⟩) bs.length cap] 45)).heap[w13.heap.size]? = some (.cells (pgCells (⟨X + (k : Int), bs⟩, .slice (some ⟨w12.heap.size, 0, none⟩) bs.length cap)).toArray 45 (0, 0)) := heap_alloc_new w13 _
              have hpOk : PgOk (w0.heap.size + 2) (w13.alloc (.cells #[.int .i64 (X + (k : Int)), .slice (some ⟨w12.heap.size, 0, none⟩) bs.length cap] 45)) pv (⟨X + (k : Int), bs⟩, .slice (some ⟨w12.heap.size, 0, none⟩) bs.length cap) := ⟨_, _, rfl, hBy.later A14, hcap1, hcap2, fun y hy => by cases hy; exact ⟨hsz12, Nat.lt_of_lt_of_le (show w12.heap.size < w13.heap.size by omega) A14.size, fun e => absurd (hown12 _ e).2 (Nat.lt_irrefl _)⟩⟩
              have hnum : (n10 : Int) + (k : Int) - (np : Int) = X + (k : Int) := by omega
              have hrow : ∀ q, pv.ownBlock = some q → w0.heap.size + 1 < q := fun q hq => by have := (hown12 q hq).1; omega
              have hpl14 : pl.length ≤ 20 := by have := congrArg List.length hpl; rw [List.length_map, pagesR_len] at this; omega
              have hsz14 : w0.heap.size + 2 ≤ (w13.alloc (.cells #[.int .i64 (X + (k : Int)), .slice (some ⟨w12.heap.size, 0, none⟩) bs.length cap] 45)).heap.size := Nat.le_trans hsz12 (Nat.le_trans hb13.size A14.size)
              clear c12 hR12 hO12 hI12 hPg12 hPg13 x5 l5 hBy
              go_wp2_with (at_builtin; refine append_page1 _ rfl (.tmp 96) (.tmp 107) rfl (w0.heap.size + 2) pv pl rfl hPg14 (⟨X + (k : Int), bs⟩, .slice (some ⟨w12.heap.size, 0, none⟩) bs.length cap) _ rfl hB14 hpOk rfl hsz14 (by omega) ?_; intro g cap2 w15 hPg15 hg15; have J15 := hI14.grown hg15 hrow; have x15 := (fun j => J15.2.2.1.cell j); have f15 := (fun j => J15.2.2.1.frozen j); have l15 := J15.2.2.1.lt)
              have I15 : GB w.heap.size L w w0.heap.size (w0.heap.size + 1) (w15.setCell ⟨w0.heap.size + 1, 11, none⟩ (.slice (some ⟨g, 0, none⟩) (pl.length + 1) cap2)) s5' #[.int .i64 (n1 : Int), .int .i64 (n2 : Int), .int .i64 (n3 : Int), .int .i64 (n4 : Int), .int .i64 (n5 : Int), .int .i64 (n6 : Int), .int .i64 (n7 : Int), .int .i64 (n8 : Int), .slice none 0 0, .int .i64 (n9 : Int), .int .i64 (n10 : Int), .slice (some ⟨g, 0, none⟩) (pl.length + 1) cap2] := J15.set 11 _
              have hPg16 : OwnPg (w0.heap.size + 2) (w15.setCell ⟨w0.heap.size + 1, 11, none⟩ (.slice (some ⟨g, 0, none⟩) (pl.length + 1) cap2)) (.slice (some ⟨g, 0, none⟩) (pl.length + 1) cap2) (pl ++ [(⟨X + (k : Int), bs⟩, .slice (some ⟨w12.heap.size, 0, none⟩) bs.length cap)]) := hPg15.kept (by simp [World.setCell]) (fun b hb hl => heap_setCell_other _ _ _ _ (show b ≠ w0.heap.size + 1 by omega))
              have hsz16 : w0.heap.size + 2 ≤ (w15.setCell ⟨w0.heap.size + 1, 11, none⟩ (.slice (some ⟨g, 0, none⟩) (pl.length + 1) cap2)).heap.size := Nat.le_trans hsz14 (Nat.le_trans hg15.size (by simp [World.setCell]))
              rw [← hps.out] at I15
              have hpl16 : (pl ++ [((⟨X + (k : Int), bs⟩ : PageR), Value.slice (some ⟨w12.heap.size, 0, none⟩) bs.length cap)]).map (·.1) = (pagesR (k + 1) X s11).2 := by rw [List.map_append, hpl, hpt.out]; rfl
              exact ⟨⟨k + 1, _, _, by omega, by simp, I15, hPg16, hsz16, hpl16⟩, by simp [intOf]; omega⟩
            · have hb : ((pagesR k X s11).1.e == 0) = false := by simp [he]
              have hst : (pagesR np X s11).1 = (pagesR k X s11).1 := by
                have := pages_err X s11 k he (q8 he) (np - k)
                rwa [show k + (np - k) = np by omega] at this
              go_wp2
              go_meet
              exact ⟨pv, pl, by rw [hst]; exact hI, hPg, hsz, fun h => absurd (hst ▸ h) he⟩
          · have hltz : ¬ (k : Int) < (np : Int) := by omega
            have hke : k = np := by omega
            subst hke
            go_wp2
            go_meet
            exact ⟨pv, pl, hI, hPg, hsz, fun _ => hpl⟩
      case rest =>
      obtain ⟨w12, hw12⟩ : ∃ y, y = wc := ⟨_, rfl⟩
      subst hw12
      obtain ⟨pv, pl, I12, hPg, hsz, hpl⟩ := hcut
      clear I11
      have hpgl : (pagesR np X s11).2.length ≤ 20 := by rw [pagesR_len]; omega
      generalize pagesR np X s11 = PG at *
      obtain ⟨s12, pgs⟩ := PG
      simp only at *
      have c13 := many_sp w.heap.size 1000 L s12 w0.heap.size w12 I12.1
      have hle2 := count_le 1000 s12
      have hl12 : Hid (s12.e ≠ 0 → s12.left = []) := by
        obtain ⟨⟨_, a6, k6, j6, _, _, _, _, _, _, _, h⟩, _⟩ := I12
        exact h
      have hc12 : Hid (s12.e ≠ 0 → (countR 1000 s12).1 = s12) := fun h => by rw [count_err 1000 s12 h (hl12.out h)]
      generalize countR 1000 s12 = C13 at *
      obtain ⟨s13, ni⟩ := C13
      simp only at *
      unfold SpPost at c13
      simp only at c13
      go_wp2_with fail
      refine c13.mono ?_
      rintro e w13 ⟨rfl, hR13, hO13⟩
      have I13 := I12.call hR13 hO13
      have hPg13 := ownPg_only hPg hO13 (by omega)
      have hsz13 : w0.heap.size + 2 ≤ w13.heap.size := Nat.le_trans hsz hO13.size
      clear I12 hPg hsz hR13 hO13 c13
      go_upto_block 4 with fail
      go_cut [10] (fun _ wx => ∃ (iv : Value) (il : List ItemR), GB w.heap.size L w w0.heap.size (w0.heap.size + 1) wx (itemsR ni s13).1 #[.int .i64 (n1 : Int), .int .i64 (n2 : Int), .int .i64 (n3 : Int), .int .i64 (n4 : Int), .int .i64 (n5 : Int), .int .i64 (n6 : Int), .int .i64 (n7 : Int), .int .i64 (n8 : Int), iv, .int .i64 (n9 : Int), .int .i64 (n10 : Int), pv] ∧ OwnI2 w13.heap.size wx iv il ∧ PgK (w0.heap.size + 2) w13 wx ∧ ((itemsR ni s13).1.e = 0 → il = (itemsR ni s13).2))
      case first =>
        go_wp2_with fail
        go_loopw [10] (fun i wr => ∃ (k : Nat) (iv : Value), k ≤ ni ∧ i = .int .i64 k ∧ GB w.heap.size L w w0.heap.size (w0.heap.size + 1) wr (itemsR k s13).1 #[.int .i64 (n1 : Int), .int .i64 (n2 : Int), .int .i64 (n3 : Int), .int .i64 (n4 : Int), .int .i64 (n5 : Int), .int .i64 (n6 : Int), .int .i64 (n7 : Int), .int .i64 (n8 : Int), iv, .int .i64 (n9 : Int), .int .i64 (n10 : Int), pv] ∧ OwnI2 w13.heap.size wr iv (itemsR k s13).2 ∧ PgK (w0.heap.size + 2) w13 wr) (fun i _ => ni - (intOf i).toNat)
        case atStart => exact ⟨0, _, Nat.zero_le _, rfl, I13, World.ownsRow_nil _ _ _ _, ⟨Nat.le_refl _, fun _ _ _ => rfl⟩⟩
        case round =>
          clear I13
          obtain ⟨k, iv, hk, rfl, hI, hIt, hK⟩ := hrel
          have hI' := hI
          obtain ⟨⟨q0, a5, c5, i5, q1, q2, q3, q4, q5, q6, q7, q8⟩, _⟩ := hI'
          have x5 := fun j => q1.cell j
          have l5 := q1.lt
          have hIl := itemsR_len k s13
          have hS5 := hI.2.2.1.lt
          by_cases hlt : k < ni
          · have hltz : (k : Int) < (ni : Int) := by omega
            by_cases he : (itemsR k s13).1.e = 0
            · have hz : ((itemsR k s13).1.e == 0) = true := by simp [he]
              have his : Hid ((itemsR (k + 1) s13).1 = (itemR (itemsR k s13).1).1) := rfl
              have hit : Hid ((itemsR (k + 1) s13).2 = (itemsR k s13).2 ++ [(itemR (itemsR k s13).1).2]) := rfl
              have hIt0 := hIt
              generalize (itemsR k s13).2 = il at *
              generalize (itemsR k s13).1 = t0 at *
              unfold itemR itemHead at his hit
              simp only at his hit
              rw [he] at x5
              have c1 := fun w1 (hr : SpAt w.heap.size L w1 w0.heap.size t0) => text_sp w.heap.size 20 L t0 w0.heap.size w1 hr (by omega) (by omega) (by omega)
              generalize textR 20 t0 = K1 at *
              obtain ⟨t1, kl⟩ := K1
              try simp only at *
              have c2 := fun w1 (hr : SpAt w.heap.size L w1 w0.heap.size t1) => next_sp w.heap.size L t1 w0.heap.size w1 hr
              generalize numR t1 = K2 at *
              obtain ⟨t2, i2n⟩ := K2
              try simp only at *
              have c3 := fun w1 (hr : SpAt w.heap.size L w1 w0.heap.size t2) => next_sp w.heap.size L t2 w0.heap.size w1 hr
              generalize numR t2 = K3 at *
              obtain ⟨t3, i3n⟩ := K3
              try simp only at *
              have c4 := fun w1 (hr : SpAt w.heap.size L w1 w0.heap.size t3) => next_sp w.heap.size L t3 w0.heap.size w1 hr
              generalize numR t3 = K4 at *
              obtain ⟨t4, i4n⟩ := K4
              try simp only at *
              have c5 := fun w1 (hr : SpAt w.heap.size L w1 w0.heap.size t4) => next_sp w.heap.size L t4 w0.heap.size w1 hr
              generalize numR t4 = K5 at *
              obtain ⟨t5, i5n⟩ := K5
              try simp only at *
              have c6 := fun w1 (hr : SpAt w.heap.size L w1 w0.heap.size t5) => next_sp w.heap.size L t5 w0.heap.size w1 hr
              unfold yesR at his hit
              have hz6 : (t5.e ≠ 0 → t5.left = []) → (numR t5).1.e ≠ 0 → (numR t5).2 = 0 := fun h1 h2 => num_zero t5 h1 h2
              generalize numR t5 = K6 at *
              obtain ⟨t6, i6n⟩ := K6
              try simp only at *
              unfold StrPost at c1
              unfold SpPost at c2 c3 c4 c5 c6
              simp only at c1 c2 c3 c4 c5 c6
              have N0 : IJ w.heap.size L w w0.heap.size (w0.heap.size + 1) (w0.heap.size + 2) wr (wr.alloc (.cells #[.string ⟨#[]⟩, .int .i64 0, .int .i64 0, .int .i64 0, .int .i64 0, .string ⟨#[]⟩, .bool false, .int .i64 0, .int .i64 0] 49)) (t0) #[.int .i64 (n1 : Int), .int .i64 (n2 : Int), .int .i64 (n3 : Int), .int .i64 (n4 : Int), .int .i64 (n5 : Int), .int .i64 (n6 : Int), .int .i64 (n7 : Int), .int .i64 (n8 : Int), iv, .int .i64 (n9 : Int), .int .i64 (n10 : Int), pv] #[.string ⟨#[]⟩, .int .i64 0, .int .i64 0, .int .i64 0, .int .i64 0, .string ⟨#[]⟩, .bool false, .int .i64 0, .int .i64 0] := by
                have A0 : Below wr.heap.size wr (wr.alloc (.cells #[.string ⟨#[]⟩, .int .i64 0, .int .i64 0, .int .i64 0, .int .i64 0, .string ⟨#[]⟩, .bool false, .int .i64 0, .int .i64 0] 49)) := (Below.refl _ _).alloc (Nat.le_refl _) _
                exact ⟨hI.later A0, TB.new _ _ _, PgK.later A0, hS5, by omega⟩
              go_wp2_with fail
              refine (c1 _ N0.1.1).mono ?_
              rintro e v1 ⟨rfl, hR1, hO1⟩
              have M1 := N0.call hR1 hO1
              have x1 := fun j => M1.2.1.cell j
              have f1 := fun j => M1.2.1.frozen j
              have l1 := M1.2.1.lt
              have N1 : IJ w.heap.size L w w0.heap.size (w0.heap.size + 1) (w0.heap.size + 2) wr (v1.setCell ⟨wr.heap.size, 0, none⟩ (.string (strB kl))) (t1) #[.int .i64 (n1 : Int), .int .i64 (n2 : Int), .int .i64 (n3 : Int), .int .i64 (n4 : Int), .int .i64 (n5 : Int), .int .i64 (n6 : Int), .int .i64 (n7 : Int), .int .i64 (n8 : Int), iv, .int .i64 (n9 : Int), .int .i64 (n10 : Int), pv] #[.string (strB kl), .int .i64 0, .int .i64 0, .int .i64 0, .int .i64 0, .string ⟨#[]⟩, .bool false, .int .i64 0, .int .i64 0] := M1.set 0 _
              clear N0 hR1 hO1
              go_wp2_with fail
              clear x1 f1 l1 M1
              refine (c2 _ N1.1.1).mono ?_
              rintro e v2 ⟨rfl, hR2, hO2⟩
              have M2 := N1.call hR2 hO2
              have x2 := fun j => M2.2.1.cell j
              have f2 := fun j => M2.2.1.frozen j
              have l2 := M2.2.1.lt
              have N2 : IJ w.heap.size L w w0.heap.size (w0.heap.size + 1) (w0.heap.size + 2) wr (v2.setCell ⟨wr.heap.size, 1, none⟩ (.int .i64 (i2n : Int))) (t2) #[.int .i64 (n1 : Int), .int .i64 (n2 : Int), .int .i64 (n3 : Int), .int .i64 (n4 : Int), .int .i64 (n5 : Int), .int .i64 (n6 : Int), .int .i64 (n7 : Int), .int .i64 (n8 : Int), iv, .int .i64 (n9 : Int), .int .i64 (n10 : Int), pv] #[.string (strB kl), .int .i64 (i2n : Int), .int .i64 0, .int .i64 0, .int .i64 0, .string ⟨#[]⟩, .bool false, .int .i64 0, .int .i64 0] := M2.set 1 _
              clear N1 hR2 hO2
              go_wp2_with fail
              clear x2 f2 l2 M2
              refine (c3 _ N2.1.1).mono ?_
              rintro e v3 ⟨rfl, hR3, hO3⟩
              have M3 := N2.call hR3 hO3
              have x3 := fun j => M3.2.1.cell j
              have f3 := fun j => M3.2.1.frozen j
              have l3 := M3.2.1.lt
              have N3 : IJ w.heap.size L w w0.heap.size (w0.heap.size + 1) (w0.heap.size + 2) wr (v3.setCell ⟨wr.heap.size, 2, none⟩ (.int .i64 (i3n : Int))) (t3) #[.int .i64 (n1 : Int), .int .i64 (n2 : Int), .int .i64 (n3 : Int), .int .i64 (n4 : Int), .int .i64 (n5 : Int), .int .i64 (n6 : Int), .int .i64 (n7 : Int), .int .i64 (n8 : Int), iv, .int .i64 (n9 : Int), .int .i64 (n10 : Int), pv] #[.string (strB kl), .int .i64 (i2n : Int), .int .i64 (i3n : Int), .int .i64 0, .int .i64 0, .string ⟨#[]⟩, .bool false, .int .i64 0, .int .i64 0] := M3.set 2 _
              clear N2 hR3 hO3
              go_wp2_with fail
              clear x3 f3 l3 M3
              refine (c4 _ N3.1.1).mono ?_
              rintro e v4 ⟨rfl, hR4, hO4⟩
              have M4 := N3.call hR4 hO4
              have x4 := fun j => M4.2.1.cell j
              have f4 := fun j => M4.2.1.frozen j
              have l4 := M4.2.1.lt
              have N4 : IJ w.heap.size L w w0.heap.size (w0.heap.size + 1) (w0.heap.size + 2) wr (v4.setCell ⟨wr.heap.size, 3, none⟩ (.int .i64 (i4n : Int))) (t4) #[.int .i64 (n1 : Int), .int .i64 (n2 : Int), .int .i64 (n3 : Int), .int .i64 (n4 : Int), .int .i64 (n5 : Int), .int .i64 (n6 : Int), .int .i64 (n7 : Int), .int .i64 (n8 : Int), iv, .int .i64 (n9 : Int), .int .i64 (n10 : Int), pv] #[.string (strB kl), .int .i64 (i2n : Int), .int .i64 (i3n : Int), .int .i64 (i4n : Int), .int .i64 0, .string ⟨#[]⟩, .bool false, .int .i64 0, .int .i64 0] := M4.set 3 _
              clear N3 hR4 hO4
              go_wp2_with fail
              clear x4 f4 l4 M4
              refine (c5 _ N4.1.1).mono ?_
              rintro e v5 ⟨rfl, hR5, hO5⟩
              have M5 := N4.call hR5 hO5
              have x5 := fun j => M5.2.1.cell j
              have f5 := fun j => M5.2.1.frozen j
              have l5 := M5.2.1.lt
              have N5 : IJ w.heap.size L w w0.heap.size (w0.heap.size + 1) (w0.heap.size + 2) wr (v5.setCell ⟨wr.heap.size, 4, none⟩ (.int .i64 (i5n : Int))) (t5) #[.int .i64 (n1 : Int), .int .i64 (n2 : Int), .int .i64 (n3 : Int), .int .i64 (n4 : Int), .int .i64 (n5 : Int), .int .i64 (n6 : Int), .int .i64 (n7 : Int), .int .i64 (n8 : Int), iv, .int .i64 (n9 : Int), .int .i64 (n10 : Int), pv] #[.string (strB kl), .int .i64 (i2n : Int), .int .i64 (i3n : Int), .int .i64 (i4n : Int), .int .i64 (i5n : Int), .string ⟨#[]⟩, .bool false, .int .i64 0, .int .i64 0] := M5.set 4 _
              clear N4 hR5 hO5
              go_wp2_with fail
              clear x5 f5 l5 M5
              refine (c6 _ N5.1.1).mono ?_
              rintro e v6 ⟨rfl, hR6, hO6⟩
              have N6 := N5.call hR6 hO6
              have hl5 : t5.e ≠ 0 → t5.left = [] := by
                obtain ⟨⟨_, a6, k6, j6, _, _, _, _, _, _, _, h⟩, _⟩ := N5.1
                exact h
              have hz6 : Hid (t6.e ≠ 0 → i6n = 0) := hz6 hl5
              clear N5 hR6 hO6 hl5
              obtain ⟨⟨_, a6, k6, j6, sp6, _⟩, _⟩ := N6.1
              have y6 := fun j => sp6.cell j
              have fy6 := fun j => sp6.frozen j
              have ly6 := sp6.lt
              go_upto_region 38 with fail
              go_cut [151] (fun v wx => v = .bool (decide (1 < i6n)) ∧ wx = v6)
              case first =>
                by_cases h6 : 1 < i6n
                · have he6 : t6.e = 0 := Classical.byContradiction fun h => by have := hz6.out h; omega
                  have hq1 : (t6.e == 0) = true := by simp [he6]
                  have hq2 : (1 : Int) < (i6n : Int) := by omega
                  go_wp2_with fail
                  go_meet
                  exact ⟨by simp [h6], rfl⟩
                · have hq2 : ¬ (1 : Int) < (i6n : Int) := by omega
                  by_cases he6 : t6.e = 0
                  · have hq1 : (t6.e == 0) = true := by simp [he6]
                    go_wp2_with fail
                    go_meet
                    exact ⟨by simp [h6], rfl⟩
                  · have hq1 : (t6.e == 0) = false := by simp [he6]
                    go_wp2_with fail
                    go_meet
                    exact ⟨by simp [h6], rfl⟩
              case rest =>
              obtain ⟨rfl, hv6⟩ := hcut
              subst hv6
              obtain ⟨v6, hv6⟩ : ∃ y, y = wc := ⟨_, rfl⟩
              subst hv6
              go_upto_if 151 with fail
              go_cut [12] (fun f wx => f = .int .i64 (i6n : Int) ∧ IJ w.heap.size L w w0.heap.size (w0.heap.size + 1) (w0.heap.size + 2) wr (wx) (if 1 < i6n then refuseR 4 t6 else t6) #[.int .i64 (n1 : Int), .int .i64 (n2 : Int), .int .i64 (n3 : Int), .int .i64 (n4 : Int), .int .i64 (n5 : Int), .int .i64 (n6 : Int), .int .i64 (n7 : Int), .int .i64 (n8 : Int), iv, .int .i64 (n9 : Int), .int .i64 (n10 : Int), pv] #[.string (strB kl), .int .i64 (i2n : Int), .int .i64 (i3n : Int), .int .i64 (i4n : Int), .int .i64 (i5n : Int), .string ⟨#[]⟩, .bool false, .int .i64 0, .int .i64 0])
              case first =>
                by_cases h6 : 1 < i6n
                · have he6 : t6.e = 0 := Classical.byContradiction fun h => by have := hz6.out h; omega
                  have N7 := N6.fault he6 4 (by decide)
                  have hd6 : decide (1 < i6n) = true := by simp [h6]
                  go_wp2_with fail
                  go_meet
                  exact ⟨rfl, by rw [if_pos h6]; exact N7⟩
                · have hd6 : decide (1 < i6n) = false := by simp [h6]
                  go_wp2_with fail
                  go_meet
                  exact ⟨rfl, by rw [if_neg h6]; exact N6⟩
              case rest =>
              obtain ⟨v7, hv7⟩ : ∃ y, y = wc := ⟨_, rfl⟩
              subst hv7
              obtain ⟨rfl, N7⟩ := hcut
              clear N6 sp6 y6 fy6 ly6 hz6
              generalize (if 1 < i6n then refuseR 4 t6 else t6) = t7 at *
              have hx7 := fun j => N7.2.1.cell j
              have hf7 := fun j => N7.2.1.frozen j
              have hl7 := N7.2.1.lt
              go_upto_if 156 with fail
              go_cut [10] (fun i wx => i = .int .i64 (k : Int) ∧ ∃ (it : ItemR) (t9 : RS), IJ w.heap.size L w w0.heap.size (w0.heap.size + 1) (w0.heap.size + 2) wr (wx) (t9) #[.int .i64 (n1 : Int), .int .i64 (n2 : Int), .int .i64 (n3 : Int), .int .i64 (n4 : Int), .int .i64 (n5 : Int), .int .i64 (n6 : Int), .int .i64 (n7 : Int), .int .i64 (n8 : Int), iv, .int .i64 (n9 : Int), .int .i64 (n10 : Int), pv] (itemCells it).toArray ∧ Hid ((itemsR (k + 1) s13).1 = t9 ∧ (itemsR (k + 1) s13).2 = il ++ [it]))
              case first =>
                by_cases hy : i6n = 1
                · have hd : decide (i6n = 1) = true := by simp [hy]
                  rw [hd] at his hit
                  simp only [if_true] at his hit
                  have c7 := fun w1 (hr : SpAt w.heap.size L w1 w0.heap.size t7) => next_sp w.heap.size L t7 w0.heap.size w1 hr
                  generalize numR t7 = K7 at *
                  obtain ⟨t8, i7n⟩ := K7
                  simp only at *
                  have c8 := fun w1 (hr : SpAt w.heap.size L w1 w0.heap.size t8) => next_sp w.heap.size L t8 w0.heap.size w1 hr
                  generalize numR t8 = K8 at *
                  obtain ⟨t9, i8n⟩ := K8
                  simp only at *
                  unfold SpPost at c7 c8
                  simp only at c7 c8
                  have hb1 : ((i6n : Int) == 1) = true := by simp [hy]
                  clear hy
                  have N8 : IJ w.heap.size L w w0.heap.size (w0.heap.size + 1) (w0.heap.size + 2) wr (v7.setCell ⟨wr.heap.size, 6, none⟩ (.bool true)) (t7) #[.int .i64 (n1 : Int), .int .i64 (n2 : Int), .int .i64 (n3 : Int), .int .i64 (n4 : Int), .int .i64 (n5 : Int), .int .i64 (n6 : Int), .int .i64 (n7 : Int), .int .i64 (n8 : Int), iv, .int .i64 (n9 : Int), .int .i64 (n10 : Int), pv] #[.string (strB kl), .int .i64 (i2n : Int), .int .i64 (i3n : Int), .int .i64 (i4n : Int), .int .i64 (i5n : Int), .string ⟨#[]⟩, .bool true, .int .i64 0, .int .i64 0] := N7.set 6 _
                  go_wp2_with fail
                  clear hx7 hf7 hl7 N7
                  refine (c7 _ N8.1.1).mono ?_
                  rintro e v9 ⟨rfl, hR9, hO9⟩
                  have M9 := N8.call hR9 hO9
                  have x9 := fun j => M9.2.1.cell j
                  have f9 := fun j => M9.2.1.frozen j
                  have l9 := M9.2.1.lt
                  have N9 : IJ w.heap.size L w w0.heap.size (w0.heap.size + 1) (w0.heap.size + 2) wr (v9.setCell ⟨wr.heap.size, 7, none⟩ (.int .i64 (i7n : Int))) (t8) #[.int .i64 (n1 : Int), .int .i64 (n2 : Int), .int .i64 (n3 : Int), .int .i64 (n4 : Int), .int .i64 (n5 : Int), .int .i64 (n6 : Int), .int .i64 (n7 : Int), .int .i64 (n8 : Int), iv, .int .i64 (n9 : Int), .int .i64 (n10 : Int), pv] #[.string (strB kl), .int .i64 (i2n : Int), .int .i64 (i3n : Int), .int .i64 (i4n : Int), .int .i64 (i5n : Int), .string ⟨#[]⟩, .bool true, .int .i64 (i7n : Int), .int .i64 0] := M9.set 7 _
                  clear N8 hR9 hO9
                  go_wp2_with fail
                  clear x9 f9 l9 M9
                  refine (c8 _ N9.1.1).mono ?_
                  rintro e v10 ⟨rfl, hR10, hO10⟩
                  have M10 := N9.call hR10 hO10
                  have x10 := fun j => M10.2.1.cell j
                  have f10 := fun j => M10.2.1.frozen j
                  have l10 := M10.2.1.lt
                  have N10 : IJ w.heap.size L w w0.heap.size (w0.heap.size + 1) (w0.heap.size + 2) wr (v10.setCell ⟨wr.heap.size, 8, none⟩ (.int .i64 (i8n : Int))) (t9) #[.int .i64 (n1 : Int), .int .i64 (n2 : Int), .int .i64 (n3 : Int), .int .i64 (n4 : Int), .int .i64 (n5 : Int), .int .i64 (n6 : Int), .int .i64 (n7 : Int), .int .i64 (n8 : Int), iv, .int .i64 (n9 : Int), .int .i64 (n10 : Int), pv] #[.string (strB kl), .int .i64 (i2n : Int), .int .i64 (i3n : Int), .int .i64 (i4n : Int), .int .i64 (i5n : Int), .string ⟨#[]⟩, .bool true, .int .i64 (i7n : Int), .int .i64 (i8n : Int)] := M10.set 8 _
                  clear N9 hR10 hO10
                  go_wp2_with fail
                  go_meet
                  exact ⟨rfl, ⟨strB kl, i2n, i3n, i4n, i5n, ⟨#[]⟩, true, i7n, i8n⟩, t9, N10, ⟨his.out, hit.out⟩⟩
                · have hd : decide (i6n = 1) = false := by simp [hy]
                  rw [hd] at his hit
                  simp only [Bool.false_eq_true, if_false] at his hit
                  have c7 := fun w1 (hr : SpAt w.heap.size L w1 w0.heap.size t7) => text_sp w.heap.size 200 L t7 w0.heap.size w1 hr (by omega) (by omega) (by omega)
                  generalize textR 200 t7 = K7 at *
                  obtain ⟨t9, vl⟩ := K7
                  simp only at *
                  unfold StrPost at c7
                  simp only at c7
                  have hb1 : ((i6n : Int) == 1) = false := by rw [beq_eq_false_iff_ne]; omega
                  go_wp2_with fail
                  clear hx7 hf7 hl7
                  refine (c7 _ N7.1.1).mono ?_
                  rintro e v8 ⟨rfl, hR8, hO8⟩
                  have M8 := N7.call hR8 hO8
                  have x8 := fun j => M8.2.1.cell j
                  have f8 := fun j => M8.2.1.frozen j
                  have l8 := M8.2.1.lt
                  have N8 : IJ w.heap.size L w w0.heap.size (w0.heap.size + 1) (w0.heap.size + 2) wr (v8.setCell ⟨wr.heap.size, 5, none⟩ (.string (strB vl))) (t9) #[.int .i64 (n1 : Int), .int .i64 (n2 : Int), .int .i64 (n3 : Int), .int .i64 (n4 : Int), .int .i64 (n5 : Int), .int .i64 (n6 : Int), .int .i64 (n7 : Int), .int .i64 (n8 : Int), iv, .int .i64 (n9 : Int), .int .i64 (n10 : Int), pv] #[.string (strB kl), .int .i64 (i2n : Int), .int .i64 (i3n : Int), .int .i64 (i4n : Int), .int .i64 (i5n : Int), .string (strB vl), .bool false, .int .i64 0, .int .i64 0] := M8.set 5 _
                  clear N7 hR8 hO8
                  go_wp2_with fail
                  go_meet
                  exact ⟨rfl, ⟨strB kl, i2n, i3n, i4n, i5n, strB vl, false, 0, 0⟩, t9, N8, ⟨his.out, hit.out⟩⟩
              case rest =>
              obtain ⟨v9, hv9⟩ : ∃ y, y = wc := ⟨_, rfl⟩
              subst hv9
              obtain ⟨rfl, it, t9, N9, hht⟩ := hcut
              clear N7 hx7 hf7 hl7 his hit
              have hQ := N9.2.1.lt
              have hK9 := PgK.trans hK N9.2.2.1
              have hIt9 := own_keep hIt0 N9.2.2.1 (by omega)
              have iB : TB 49 v9 wr.heap.size #[.string it.key, .int .i64 it.flags, .int .i64 it.until_, .int .i64 it.cas, .int .i64 it.used, .string it.value, .bool it.far, .int .i64 it.page, .int .i64 it.at_] := N9.2.1
              have xI := fun j => iB.cell j
              have xS := fun j => N9.1.2.2.1.cell j
              have lS := N9.1.2.2.1.lt
              have A10 : Below v9.heap.size v9 (v9.alloc (.cells #[.string it.key, .int .i64 it.flags, .int .i64 it.until_, .int .i64 it.cas, .int .i64 it.used, .string it.value, .bool it.far, .int .i64 it.page, .int .i64 it.at_] 49)) := (Below.refl _ _).alloc (Nat.le_refl _) _
              have I10 := N9.1.later A10
              have hIt10 := own_keep hIt9 (PgK.later A10) (Nat.le_refl _)
              have hK10 := PgK.trans hK9 (PgK.later A10)
              have hB10 : (v9.alloc (.cells #[.string it.key, .int .i64 it.flags, .int .i64 it.until_, .int .i64 it.cas, .int .i64 it.used, .string it.value, .bool it.far, .int .i64 it.page, .int .i64 it.at_] 49)).heap[v9.heap.size]? = some (.cells (itemCells it).toArray 49 (0, 0)) := heap_alloc_new v9 _
              have hil0 : il.length ≤ 1000 := by omega
              have hw13 : w13.heap.size ≤ (v9.alloc (.cells #[.string it.key, .int .i64 it.flags, .int .i64 it.until_, .int .i64 it.cas, .int .i64 it.used, .string it.value, .bool it.far, .int .i64 it.page, .int .i64 it.at_] 49)).heap.size := hK10.1
              have hrow : ∀ q, iv.ownBlock = some q → w0.heap.size + 1 < q := fun q hq => by have := (World.ownsRow.lt hIt9 q hq).1; omega
              clear hK9 hIt9 N9
              go_wp2_with (at_builtin; refine append_item1 _ rfl (.tmp 170) (.tmp 172) rfl w13.heap.size iv il rfl hIt10 it _ rfl hB10 hw13 (by omega) ?_; intro g cap2 w15 hIt15 hg15 hat15; have J15 := I10.grown hg15 hrow; have x15 := (fun j => J15.2.2.1.cell j); have f15 := (fun j => J15.2.2.1.frozen j); have l15 := J15.2.2.1.lt)
              obtain ⟨q1', q2'⟩ := hht.out
              have hE := items_end J15 hg15 hIt15 hIt10 hK10 hIl (by omega)
              rw [← q1', ← q2'] at hE
              obtain ⟨I16, hIt16, hK16⟩ := hE
              exact ⟨⟨k + 1, .slice (some ⟨g, 0, none⟩) (k + 1) cap2, by omega, by simp, I16, hIt16, hK16⟩, by simp [intOf]; omega⟩
            · have hb : ((itemsR k s13).1.e == 0) = false := by simp [he]
              have hst : (itemsR ni s13).1 = (itemsR k s13).1 := by
                have := items_err s13 k he (q8 he) (ni - k)
                rwa [show k + (ni - k) = ni by omega] at this
              go_wp2
              go_meet
              exact ⟨iv, _, by rw [hst]; exact hI, hIt, hK, fun h => absurd (hst ▸ h) he⟩
          · have hltz : ¬ (k : Int) < (ni : Int) := by omega
            have hke : k = ni := by omega
            subst hke
            go_wp2
            go_meet
            exact ⟨iv, _, hI, hIt, hK, fun _ => rfl⟩
      case rest =>
      obtain ⟨w14, hw14⟩ : ∃ y, y = wc := ⟨_, rfl⟩
      subst hw14
      obtain ⟨iv, il, I14, hIt, hK, hil⟩ := hcut
      have hpl2 : Hid ((itemsR ni s13).1.e = 0 → s12.e = 0) := fun h => Classical.byContradiction fun h12 => by
        have h13 := hc12.out h12
        have := items_err s13 0 (by show s13.e ≠ 0; rw [h13]; exact h12) (by show s13.left = []; rw [h13]; exact hl12.out h12) ni
        rw [Nat.zero_add] at this
        rw [this] at h
        exact h12 (by rw [← h13]; exact h)
      have hitl : (itemsR ni s13).2.length ≤ 1000 := by rw [itemsR_len]; omega
      generalize itemsR ni s13 = T14 at *
      obtain ⟨s14, its⟩ := T14
      simp only at *
      unfold endR at hdE
      obtain ⟨⟨q0, a14, c14, i14, q1, q2, q3, q4, q5, q6, q7, q8⟩, _⟩ := id I14
      have x14 := fun j => q1.cell j
      have f14 := fun j => q1.frozen j
      have l14 := q1.lt
      have y14 := fun j => I14.2.1.cell j
      have fy14 := fun j => I14.2.1.frozen j
      have ly14 := I14.2.1.lt
      have z14 := fun j => I14.2.2.1.cell j
      have lz14 := I14.2.2.1.lt
      have hi14 : (i14 : Int) ≤ (L.length : Int) := by omega
      have hbw := I14.2.2.2.1
      have hSw : w.heap.size < w0.heap.size := hl2
      clear I13 hc12 hl12
      by_cases he : s14.e = 0
      · have hz : (s14.e == 0) = true := by simp [he]
        have hq7 := q7 he
        by_cases hlt : i14 < L.length
        · have hltz : (i14 : Int) < (L.length : Int) := by omega
          have hD4 : D = 4 := by
            rw [hdE, if_pos (show 0 < s14.left.length by rw [hq7, List.length_drop]; omega), refuse_ok 4 s14 he]
            rfl
          have hb4 := fun w' => hbad 4 hD4 (by decide) w'
          rw [he] at x14
          clear hgood hdE hbad
          go_wp2_with fail
          go_quiet (fail)
          have hd : Below w14.heap.size w14 (w14.drewN nq) := drewN_below w14 nq
          generalize w14.drewN nq = w16 at *
          have I16 := I14.later hd
          obtain ⟨⟨_, a16, c16, i16, sp16, _⟩, _⟩ := id I16
          rw [he] at sp16
          have T17 := sp16.set 2 (.int .i64 4)
          have x17 := fun j => T17.cell j
          have l17 := T17.lt
          have y17 := fun j => (I16.2.1.far ⟨w0.heap.size, 2, none⟩ (.int .i64 4) (show w.heap.size ≠ w0.heap.size by omega)).cell j
          have fy17 := fun j => (I16.2.1.far ⟨w0.heap.size, 2, none⟩ (.int .i64 4) (show w.heap.size ≠ w0.heap.size by omega)).frozen j
          have ly17 := (I16.2.1.far ⟨w0.heap.size, 2, none⟩ (.int .i64 4) (show w.heap.size ≠ w0.heap.size by omega)).lt
          have xs16 := fun j => sp16.cell j
          have fs16 := fun j => sp16.frozen j
          have ls16 := sp16.lt
          have hB17 : Below w.heap.size w (w16.setCell ⟨w0.heap.size, 2, none⟩ (.int .i64 4)) := I16.2.2.2.1.setCell (show w.heap.size ≤ w0.heap.size by omega) _
          clear x14 f14 l14 y14 fy14 ly14 z14 lz14 I14 hd
          go_upto_region 48 with fail
          generalize w16.setCell ⟨w0.heap.size, 2, none⟩ (.int .i64 4) = w17 at *
          go_wp2_with fail
          go_region
          go_wp2_with fail
          refine bodyPost_ret (v := .tuple #[.agg #[.int .i64 0, .int .i64 0, .int .i64 0, .int .i64 0, .int .i64 0, .int .i64 0, .int .i64 0, .int .i64 0, .slice none 0 0, .int .i64 0, .int .i64 0, .slice none 0 0], .int .i64 4]) (by simp [results, Tryd.results5, go_sem, drew_cell, ly17, y17]) rfl (hb4 _ ?_)
          exact (((((((((((((hB17.setCell (Nat.le_refl _) _).setCell (Nat.le_refl _) _).setCell (Nat.le_refl _) _).setCell (Nat.le_refl _) _).setCell (Nat.le_refl _) _).setCell (Nat.le_refl _) _).setCell (Nat.le_refl _) _).setCell (Nat.le_refl _) _).setCell (Nat.le_refl _) _).setCell (Nat.le_refl _) _).setCell (Nat.le_refl _) _).setCell (Nat.le_refl _) _)).drew
        · have hltz : ¬ (i14 : Int) < (L.length : Int) := by omega
          have hlen : s14.left.length = 0 := by rw [hq7, List.length_drop]; omega
          rw [if_neg (show ¬ 0 < s14.left.length by omega), if_pos he] at hdE
          have hpm := hpl (hpl2.out he)
          rw [hil he] at hIt
          have hs1413 := hK.1
          obtain ⟨ia, ic, e1, hIF⟩ := hIt.items hs1413 (by unfold maxLen; omega)
          subst e1
          have hPg14 := hPg13.kept hK.1 hK.2
          obtain ⟨pa, pc, e2, hPF⟩ := hPg14.pages (by have := congrArg List.length hpm; rw [List.length_map] at this; unfold maxLen; omega)
          rw [show pl.length = pgs.length by rw [← hpm, List.length_map], ] at e2
          rw [hpm] at hPF
          subst e2
          have hSI : ∀ w1 : World, Below w14.heap.size w14 w1 → StoreIn w1 (⟨(n1 : Int), (n2 : Int), (n3 : Int), (n4 : Int), (n5 : Int), (n6 : Int), (n7 : Int), (n8 : Int), its, (n9 : Int), (n10 : Int), pgs⟩ : StoreR) ia pa := fun w1 hb => ⟨hIF w1 hb.size (fun b _ hl => hb.block b hl), hPF w1 hb.size (fun b _ hl => hb.block b hl)⟩
          have hSF : ∀ w1 : World, w14.heap.size ≤ w1.heap.size → (∀ b, w0.heap.size + 2 ≤ b → b < w14.heap.size → w1.heap[b]? = w14.heap[b]?) → StoreFrom w.heap.size w1 (⟨(n1 : Int), (n2 : Int), (n3 : Int), (n4 : Int), (n5 : Int), (n6 : Int), (n7 : Int), (n8 : Int), its, (n9 : Int), (n10 : Int), pgs⟩ : StoreR) ia pa := fun w1 hs hk w2 hs2 hk2 => ⟨hIF w2 (Nat.le_trans hs hs2) (fun b hb hl => by rw [hk2 b (by omega) (by omega), hk b (by omega) hl]), hPF w2 (Nat.le_trans hs hs2) (fun b hb hl => by rw [hk2 b (by omega) (by omega), hk b hb hl])⟩
          have ck := fun w1 hb => storeMay_any (⟨(n1 : Int), (n2 : Int), (n3 : Int), (n4 : Int), (n5 : Int), (n6 : Int), (n7 : Int), (n8 : Int), its, (n9 : Int), (n10 : Int), pgs⟩ : StoreR) ia ic pa pc w1 (hSI w1 hb) hok hvi
          generalize storeB (⟨(n1 : Int), (n2 : Int), (n3 : Int), (n4 : Int), (n5 : Int), (n6 : Int), (n7 : Int), (n8 : Int), its, (n9 : Int), (n10 : Int), pgs⟩ : StoreR) = sb at hdE ck
          clear hil hpl hpl2 hlen hq7 hIF hPF hIt hPg13 hPg14 hok hpm hSI q1 q2 q5 q7 q8
          go_wp2_with fail
          go_quiet (fail)
          have hd : Below w14.heap.size w14 (w14.drewN nq) := drewN_below w14 nq
          generalize w14.drewN nq = w16 at *
          have ck16 := ck w16 hd
          have I16 := I14.later hd
          obtain ⟨⟨_, a16, c16, i16, sp16, _⟩, r16, s16, _⟩ := id I16
          rw [he] at sp16
          have x16 := fun j => sp16.cell j
          have l16 := sp16.lt
          have z16 := fun j => s16.cell j
          have lz16 := s16.lt
          clear x14 f14 l14 y14 fy14 ly14 z14 lz14 ck
          clear I16 sp16 r16 s16
          go_wp2_with fail
          refine ck16.mono ?_
          rintro e w17 ⟨rfl, hb17⟩
          have hd17 : Below w14.heap.size w14 w17 := hd.trans (hb17.mono hd.size)
          have I17 := I14.later hd17
          clear I14 x16 l16 z16 lz16 ck16 hb17 hd
          obtain ⟨⟨_, a17, c17, i17, sp17, _⟩, r17, s17, hB17', _⟩ := id I17
          rw [he] at sp17
          have xs17 := fun j => sp17.cell j
          have fs17 := fun j => sp17.frozen j
          have ls17 := sp17.lt
          cases sb
          · have hk : D = 8 := hdE
            have hb8 := hbad 8 hk (by decide)
            have T18 := sp17.set 2 (.int .i64 8)
            have x18 := fun j => T18.cell j
            have l18 := T18.lt
            have y18 := fun j => (r17.far ⟨w0.heap.size, 2, none⟩ (.int .i64 8) (show w.heap.size ≠ w0.heap.size by omega)).cell j
            have fy18 := fun j => (r17.far ⟨w0.heap.size, 2, none⟩ (.int .i64 8) (show w.heap.size ≠ w0.heap.size by omega)).frozen j
            have ly18 := (r17.far ⟨w0.heap.size, 2, none⟩ (.int .i64 8) (show w.heap.size ≠ w0.heap.size by omega)).lt
            have hB18 : Below w.heap.size w (w17.setCell ⟨w0.heap.size, 2, none⟩ (.int .i64 8)) := hB17'.setCell (show w.heap.size ≤ w0.heap.size by omega) _
            clear hgood hdE hbad hk hSF I17 sp17 r17 s17 hd17 T18
            go_upto_region 50 with fail
            generalize w17.setCell ⟨w0.heap.size, 2, none⟩ (.int .i64 8) = w18 at *
            clear xs17 fs17 ls17
            go_wp2_with fail
            go_region
            go_wp2_with fail
            refine bodyPost_ret (v := .tuple #[.agg #[.int .i64 0, .int .i64 0, .int .i64 0, .int .i64 0, .int .i64 0, .int .i64 0, .int .i64 0, .int .i64 0, .slice none 0 0, .int .i64 0, .int .i64 0, .slice none 0 0], .int .i64 8]) (by simp [results, Tryd.results5, go_sem, drew_cell, ly18, y18]) rfl (hb8 _ ?_)
            exact (((((((((((((hB18.setCell (Nat.le_refl _) _).setCell (Nat.le_refl _) _).setCell (Nat.le_refl _) _).setCell (Nat.le_refl _) _).setCell (Nat.le_refl _) _).setCell (Nat.le_refl _) _).setCell (Nat.le_refl _) _).setCell (Nat.le_refl _) _).setCell (Nat.le_refl _) _).setCell (Nat.le_refl _) _).setCell (Nat.le_refl _) _).setCell (Nat.le_refl _) _)).drew
          · have hk : D = 0 := hdE
            have hgood0 := fun w' q1 q2 => hgood hk w' ia pa ic pc q1 q2
            have y17 := fun j => r17.cell j
            have fy17 := fun j => r17.frozen j
            have ly17 := r17.lt
            have z17 := fun j => s17.cell j
            have lz17 := s17.lt
            clear hgood hdE hbad hk I17 sp17 r17 s17
            go_wp2_with fail
            refine bodyPost_ret (v := .tuple #[.agg #[.int .i64 (n1 : Int), .int .i64 (n2 : Int), .int .i64 (n3 : Int), .int .i64 (n4 : Int), .int .i64 (n5 : Int), .int .i64 (n6 : Int), .int .i64 (n7 : Int), .int .i64 (n8 : Int), .slice ia its.length ic, .int .i64 (n9 : Int), .int .i64 (n10 : Int), .slice pa pgs.length pc], .int .i64 0]) (by simp [results, Tryd.results5, go_sem, ly17, y17, lz17, z17]) rfl (hgood0 _ ?_ ?_)
            · refine hSF _ (by simpa [World.setCell] using hd17.size) (fun b hb hl => ?_)
              rw [set12_heap w17 w.heap.size b _ _ _ _ _ _ _ _ _ _ _ _ (by omega)]
              exact hd17.block b hl
            · exact ((((((((((((hB17'.setCell (Nat.le_refl _) _).setCell (Nat.le_refl _) _).setCell (Nat.le_refl _) _).setCell (Nat.le_refl _) _).setCell (Nat.le_refl _) _).setCell (Nat.le_refl _) _).setCell (Nat.le_refl _) _).setCell (Nat.le_refl _) _).setCell (Nat.le_refl _) _).setCell (Nat.le_refl _) _).setCell (Nat.le_refl _) _).setCell (Nat.le_refl _) _)
      · have hz : (s14.e == 0) = false := by simp [he]
        have hen : (s14.e != 0) = true := by simp [he]
        have hDe : D = s14.e := by
          rw [hdE, if_neg (show ¬ 0 < s14.left.length by rw [q8 he]; decide), if_neg he]
        have hbe := fun w' => hbad s14.e hDe he w'
        clear hgood hdE hbad hDe
        generalize s14.e = E14 at *
        go_wp2_with fail
        go_quiet (fail)
        have hd : Below w14.heap.size w14 (w14.drewN nq) := drewN_below w14 nq
        generalize w14.drewN nq = w16 at *
        have I16 := I14.later hd
        have T16 := q1.later hd
        have x16 := fun j => T16.cell j
        have f16 := fun j => T16.frozen j
        have l16 := T16.lt
        have y16 := fun j => I16.2.1.cell j
        have fy16 := fun j => I16.2.1.frozen j
        have ly16 := I16.2.1.lt
        have hB16 : Below w.heap.size w w16 := I16.2.2.2.1
        clear x14 f14 l14 y14 fy14 ly14 z14 lz14 I14 hd q1 I16
        go_wp2_with fail
        go_region
        go_wp2_with fail
        refine bodyPost_ret (v := .tuple #[.agg #[.int .i64 0, .int .i64 0, .int .i64 0, .int .i64 0, .int .i64 0, .int .i64 0, .int .i64 0, .int .i64 0, .slice none 0 0, .int .i64 0, .int .i64 0, .slice none 0 0], .int .i64 E14]) (by simp [results, Tryd.results5, go_sem, drew_cell, ly16, y16]) rfl (hbe _ ?_)
        exact (((((((((((((hB16.setCell (Nat.le_refl _) _).setCell (Nat.le_refl _) _).setCell (Nat.le_refl _) _).setCell (Nat.le_refl _) _).setCell (Nat.le_refl _) _).setCell (Nat.le_refl _) _).setCell (Nat.le_refl _) _).setCell (Nat.le_refl _) _).setCell (Nat.le_refl _) _).setCell (Nat.le_refl _) _).setCell (Nat.le_refl _) _).setCell (Nat.le_refl _) _)).drew

theorem storeOf_any (l : List UInt8) (a : Option Addr) (c : Nat) (w : World) (hA : BytesAt w a l) (hlc : l.length ≤ c) (hcm : c ≤ maxLen) (hvi : VIn) :
    Calls Tryd.prog 5 #[.slice a l.length c] w (DecPost l w) := by
  by_cases h : wrapE l = 0
  · exact storeOf_good l a c w hA hlc hcm hvi h
  · exact storeOf_bad l a c w hA hlc hcm hvi h
end Go.Proofs.YtogpkbhjobhodaaDoor
