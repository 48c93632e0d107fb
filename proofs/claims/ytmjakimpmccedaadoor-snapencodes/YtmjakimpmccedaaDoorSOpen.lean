/- A store that came in, opened with its sizes. -/
import Derived.Test.YtmjakimpmccedaaDoorSItems
import Derived.Test.YtmjakimpmccedaaDoorFOpenS
namespace Go.Proofs.YtmjakimpmccedaaDoor
open Go.ChangeShapes Go.WideShapes Go.ChangeAt Go.RowKit
set_option linter.unusedVariables false

theorem cellsStr : Tryd.prog.cellsOf 9 = 1 := by kernel_rfl
theorem cellsBool : Tryd.prog.cellsOf 4 = 1 := by kernel_rfl
theorem cellsPlace : Tryd.prog.cellsOf 47 = 2 := by kernel_rfl
theorem cellsItem : Tryd.prog.cellsOf 49 = 9 := by kernel_rfl
theorem cellsItems : Tryd.prog.cellsOf 23 = 1 := by kernel_rfl
theorem cellsArr4 : Tryd.prog.cellsOf 22 = 4 := by kernel_rfl
theorem cellsStore : Tryd.prog.cellsOf 28 = 12 := by kernel_rfl
theorem bytesItem : Tryd.prog.bytesOf 49 = 88 := by kernel_rfl

/-- A field of some cells of a struct by value, read. -/
theorem fieldMany {H : Type} {enc : TypeId × Value → H} {P : Program} {W : World} {base n : Nat} {sp : Nat → Bool} {hd : Bool} {fs : Array Field} {cs : List Value} {xs : List (DataW H × List MemPlace)}
    (hx : ∀ (i : Nat) (f : Field), fs[i]? = some f → DataW.trod enc P W base sp hd n f.type ((cs.drop f.offset).take (P.cellsOf f.type)) = xs[i]?) (i : Nat) (f : Field) (hf : fs[i]? = some f) (m : Nat) (h1 : P.cellsOf f.type = m) (l : List Value) (hl : (cs.drop f.offset).take m = l)
    (hi : i < xs.length) : DataW.trod enc P W base sp hd n f.type l = some xs[i] := by
  have h := hx i f hf
  rw [List.getElem?_eq_getElem hi, h1, hl] at h
  exact h

/-- A text's weight is its size. -/
theorem str_weight {H : Type} {s : ByteArray} {B : Nat} (t : TypeId) (hB : ∀ k ∈ (DataW.lit (.string s.data.toList) : DataW H).weights Tryd.prog t, k ≤ B) : s.size ≤ B := by
  have := hB s.data.toList.length (by simp [DataW.weights])
  simpa using this

set_option maxRecDepth 100000 in
theorem open_place_cells {H : Type} {enc : TypeId × Value → H} {W : World} {n : Nat} {c0 c1 : Value} {y : DataW H × List MemPlace}
    (h : DataW.trod enc Tryd.prog W 0 (fun _ => true) true n 47 [c0, c1] = some y) : ∃ p q : Int, c0 = .int .i64 p ∧ c1 = .int .i64 q := by
  obtain ⟨xs, k, _, _, _, hxl, hf⟩ := DataW.trod_struct Tryd.underlying47 h
  have hxl' : xs.length = 2 := hxl
  have h0 := fieldAt hf 0 _ rfl c0 rfl cellsInt (by omega)
  have h1 := fieldAt hf 1 _ rfl c1 rfl cellsInt (by omega)
  obtain ⟨p, e0, _, _⟩ := DataW.trod_int Tryd.underlying3 h0
  obtain ⟨q, e1, _, _⟩ := DataW.trod_int Tryd.underlying3 h1
  simp at e0 e1
  exact ⟨p, q, e0, e1⟩

set_option maxHeartbeats 1000000 in
set_option maxRecDepth 100000 in
theorem open_items {H : Type} {enc : TypeId × Value → H} {W : World} {n : Nat} {c : Value} {y : DataW H × List MemPlace} (B : Nat)
    (h : DataW.trod enc Tryd.prog W 0 (fun _ => true) true n 23 [c] = some y) (hB : ∀ k ∈ y.1.weights Tryd.prog 23, k ≤ B) :
    ∃ a l cap, c = .slice a (l : List ItemR).length cap ∧ ItemsAt W a l ∧ l.length * 88 ≤ B ∧ ∀ j, j < l.length → (l.getD j default).key.size ≤ B ∧ (l.getD j default).value.size ≤ B := by
  rcases Go.Deep.open_slice Tryd.underlying23 h with ⟨hcs, _⟩ | ⟨a, len, cap, m, n', D, Pl, hcs, _, hl, hm, hmm, hy, hx⟩
  · simp at hcs
    exact ⟨none, [], 0, hcs, ⟨Nat.zero_le _, Or.inl rfl⟩, by simp, fun j hj => by simp at hj⟩
  · simp at hcs hmm
    have hw := hB
    rw [hy] at hw
    have hlenB : len * 88 ≤ B := by
      have := hw ((((List.range len).map D).length + ((List.range (m - len)).map fun j => D (len + j)).length) * Tryd.prog.bytesOf 49) (by simp [DataW.weights, Tryd.underlying23])
      rw [bytesItem] at this
      simp at this
      omega
    have each : ∀ i, i < len → ∃ p : ItemR, (p.key.size ≤ B ∧ p.value.size ≤ B) ∧ W.cell? (a.add (i * 9)) = some (.string p.key) ∧ W.cell? (a.add (i * 9 + 1)) = some (.int .i64 p.flags) ∧ W.cell? (a.add (i * 9 + 2)) = some (.int .i64 p.until_) ∧ W.cell? (a.add (i * 9 + 3)) = some (.int .i64 p.cas) ∧ W.cell? (a.add (i * 9 + 4)) = some (.int .i64 p.used) ∧
        W.cell? (a.add (i * 9 + 5)) = some (.string p.value) ∧ W.cell? (a.add (i * 9 + 6)) = some (.bool p.far) ∧ W.cell? (a.add (i * 9 + 7)) = some (.int .i64 p.page) ∧ W.cell? (a.add (i * 9 + 8)) = some (.int .i64 p.at_) := by
      intro i hi
      obtain ⟨cs', h1, h2⟩ := hx i (by omega)
      rw [cellsItem] at h1
      obtain ⟨_, hlen, hcell⟩ := World.cells?_some h1
      obtain ⟨xs, k, hk, hxy, _, hxl, hf⟩ := DataW.trod_struct Tryd.underlying49 h2
      have hxl' : xs.length = 8 := hxl
      have hD : D i = .agg (xs.map (·.1)) := congrArg Prod.fst hxy
      have hwi : ∀ k ∈ (D i).weights Tryd.prog 49, k ≤ B := fun k hk => hw k (by
        simp only [DataW.weights, Tryd.underlying23, List.mem_cons, List.mem_append]
        exact Or.inr (Or.inl (weightsAll_mem (List.mem_map.2 ⟨i, List.mem_range.2 hi, rfl⟩) hk)))
      rw [hD] at hwi
      simp only [DataW.weights, Tryd.underlying49] at hwi
      match cs', hlen with
      | [c0, c1, c2, c3, c4, c5, c6, c7, c8], _ =>
        have h0 := fieldAt hf 0 _ rfl c0 rfl cellsStr (by omega)
        have h1 := fieldAt hf 1 _ rfl c1 rfl cellsInt (by omega)
        have h2 := fieldAt hf 2 _ rfl c2 rfl cellsInt (by omega)
        have h3 := fieldAt hf 3 _ rfl c3 rfl cellsInt (by omega)
        have h4 := fieldAt hf 4 _ rfl c4 rfl cellsInt (by omega)
        have h5 := fieldAt hf 5 _ rfl c5 rfl cellsStr (by omega)
        have h6 := fieldAt hf 6 _ rfl c6 rfl cellsBool (by omega)
        have h7 := fieldMany hf 7 _ rfl 2 cellsPlace [c7, c8] rfl (by omega)
        obtain ⟨key, e0, f0, _⟩ := DataW.trod_string Tryd.underlying9 h0
        obtain ⟨flags, e1, _, _⟩ := DataW.trod_int Tryd.underlying3 h1
        obtain ⟨until_, e2, _, _⟩ := DataW.trod_int Tryd.underlying3 h2
        obtain ⟨cas, e3, _, _⟩ := DataW.trod_int Tryd.underlying3 h3
        obtain ⟨used, e4, _, _⟩ := DataW.trod_int Tryd.underlying3 h4
        obtain ⟨value, e5, f5, _⟩ := DataW.trod_string Tryd.underlying9 h5
        obtain ⟨far, e6, _⟩ := DataW.trod_bool Tryd.underlying4 h6
        obtain ⟨page, at_, e7, e8⟩ := open_place_cells (c0 := c7) (c1 := c8) h7
        have w0 : key.size ≤ B := str_weight (H := H) 9 fun k hk => hwi k (DataW.weights_mem_each (j := 0) rfl (by rw [List.getElem?_map, List.getElem?_eq_getElem (by omega), f0]; rfl) k hk)
        have w5 : value.size ≤ B := str_weight (H := H) 9 fun k hk => hwi k (DataW.weights_mem_each (j := 5) rfl (by rw [List.getElem?_map, List.getElem?_eq_getElem (by omega), f5]; rfl) k hk)
        simp at e0 e1 e2 e3 e4 e5 e6
        subst e0 e1 e2 e3 e4 e5 e6 e7 e8
        have g0 := hcell 0 (by omega)
        have g1 := hcell 1 (by omega)
        have g2 := hcell 2 (by omega)
        have g3 := hcell 3 (by omega)
        have g4 := hcell 4 (by omega)
        have g5 := hcell 5 (by omega)
        have g6 := hcell 6 (by omega)
        have g7 := hcell 7 (by omega)
        have g8 := hcell 8 (by omega)
        rw [Go.Deep.add_add] at g0 g1 g2 g3 g4 g5 g6 g7 g8
        exact ⟨⟨key, flags, until_, cas, used, value, far, page, at_⟩, ⟨w0, w5⟩, by simpa using g0, by simpa using g1, by simpa using g2, by simpa using g3, by simpa using g4, by simpa using g5, by simpa using g6, by simpa using g7, by simpa using g8⟩
    obtain ⟨f, hf⟩ := Go.Deep.choose_lt (α := ItemR) each
    have hlen : ((List.range len).map f).length = len := by simp
    have hget : ∀ j, j < len → ((List.range len).map f).getD j default = f j := fun j hj => by
      rw [List.getD_eq_getElem?_getD, List.getElem?_eq_getElem (by rw [hlen]; exact hj)]
      simp
    refine ⟨some a, (List.range len).map f, cap, by rw [hlen]; exact hcs, ⟨by rw [hlen]; omega, ?_⟩, by rw [hlen]; exact hlenB, ?_⟩
    · rw [hlen]
      by_cases h0 : len = 0
      · exact Or.inl h0
      · obtain ⟨b, off, spot⟩ := a
        obtain ⟨_, g0, _⟩ := hf 0 (by omega)
        have hspot : spot = none := by simpa [Addr.add] using World.cell?_spot g0
        subst hspot
        refine Or.inr ⟨b, off, rfl, ?_, fun j hj => ?_⟩
        · rw [add_plain] at g0
          exact block_lt g0
        · obtain ⟨_, g0, g1, g2, g3, g4, g5, g6, g7, g8⟩ := hf j hj
          rw [add_plain] at g0 g1 g2 g3 g4 g5 g6 g7 g8
          rw [hget j hj]
          exact ⟨g0, g1, g2, g3, g4, g5, g6, g7, g8⟩
    · rw [hlen]
      intro j hj
      rw [hget j hj]
      exact (hf j hj).1

set_option maxRecDepth 100000 in
theorem open_arr4 {H : Type} {enc : TypeId × Value → H} {W : World} {n : Nat} {c0 c1 c2 c3 : Value} {y : DataW H × List MemPlace}
    (h : DataW.trod enc Tryd.prog W 0 (fun _ => true) true n 22 [c0, c1, c2, c3] = some y) : ∃ a b c d : Int, c0 = .int .i64 a ∧ c1 = .int .i64 b ∧ c2 = .int .i64 c ∧ c3 = .int .i64 d := by
  obtain ⟨xs, m, _, _, _, hl, hel⟩ := DataW.trod_array Tryd.underlying22 h
  have at_ : ∀ k, k < 4 → ∃ z : Int, ([c0, c1, c2, c3].drop k).take 1 = [.int .i64 z] := by
    intro k hk
    have hE := hel k hk
    rw [cellsInt, Nat.mul_one, List.getElem?_eq_getElem (by omega)] at hE
    obtain ⟨z, e, _, _⟩ := DataW.trod_int Tryd.underlying3 hE
    exact ⟨z, e⟩
  obtain ⟨a, ea⟩ := at_ 0 (by omega)
  obtain ⟨b, eb⟩ := at_ 1 (by omega)
  obtain ⟨c, ec⟩ := at_ 2 (by omega)
  obtain ⟨d, ed⟩ := at_ 3 (by omega)
  simp at ea eb ec ed
  exact ⟨a, b, c, d, ea, eb, ec, ed⟩

set_option maxHeartbeats 1000000 in
set_option maxRecDepth 100000 in
theorem open_store {H : Type} {enc : TypeId × Value → H} {W : World} {base : Nat} {v : Value} {d : DataW H} {p : List MemPlace} (B : Nat)
    (hv : Value.okWide Tryd.prog W .any base 28 v) (h : DataW.Trod enc Tryd.prog W 0 (fun _ => true) true 28 v d p) (hB : ∀ k ∈ d.weights Tryd.prog 28, k ≤ B) :
    ∃ (s : StoreR) (ia : Option Addr) (ic : Nat) (pa : Option Addr) (pc : Nat), v = storeV s ia ic pa pc ∧ StoreIn W s ia pa ∧ s.items.length * 88 ≤ B ∧ (∀ j, j < s.items.length → (s.items.getD j default).key.size ≤ B ∧ (s.items.getD j default).value.size ≤ B) ∧
      s.pages.length * 32 ≤ B ∧ ∀ j, j < s.pages.length → (s.pages.getD j default).bs.length ≤ B := by
  obtain ⟨cs, rfl, hsz⟩ := okWide_struct Tryd.underlying28 hv
  have hsz' : cs.size = 12 := hsz.trans cellsStore
  obtain ⟨c0, c1, c2, c3, c4, c5, c6, c7, c8, c9, c10, c11, rfl⟩ : ∃ c0 c1 c2 c3 c4 c5 c6 c7 c8 c9 c10 c11, cs = #[c0, c1, c2, c3, c4, c5, c6, c7, c8, c9, c10, c11] := by
    obtain ⟨l⟩ := cs
    match l, hsz' with
    | [c0, c1, c2, c3, c4, c5, c6, c7, c8, c9, c10, c11], _ => exact ⟨c0, c1, c2, c3, c4, c5, c6, c7, c8, c9, c10, c11, rfl⟩
  obtain ⟨fuel, hf⟩ := h
  obtain ⟨xs, n, _, hd, hl, hlen, hx⟩ := DataW.trod_struct Tryd.underlying28 hf
  have hlen' : xs.length = 7 := hlen
  have hd1 : d = .agg (xs.map (·.1)) := congrArg Prod.fst hd
  rw [hd1] at hB
  simp only [DataW.weights, Tryd.underlying28] at hB
  have h0 := fieldAt hx 0 _ rfl c0 rfl cellsInt (by omega)
  have h1 := fieldAt hx 1 _ rfl c1 rfl cellsInt (by omega)
  have h2 := fieldAt hx 2 _ rfl c2 rfl cellsInt (by omega)
  have h3 := fieldAt hx 3 _ rfl c3 rfl cellsInt (by omega)
  have h4 := fieldMany hx 4 _ rfl 4 cellsArr4 [c4, c5, c6, c7] rfl (by omega)
  have h5 := fieldAt hx 5 _ rfl c8 rfl cellsItems (by omega)
  have h6 := fieldMany hx 6 _ rfl 3 cellsFlash [c9, c10, c11] rfl (by omega)
  obtain ⟨clock, e0, _, _⟩ := DataW.trod_int Tryd.underlying3 h0
  obtain ⟨cas, e1, _, _⟩ := DataW.trod_int Tryd.underlying3 h1
  obtain ⟨uses, e2, _, _⟩ := DataW.trod_int Tryd.underlying3 h2
  obtain ⟨most, e3, _, _⟩ := DataW.trod_int Tryd.underlying3 h3
  obtain ⟨g0, g1, g2, g3, e4, e5, e6, e7⟩ := open_arr4 (c0 := c4) (c1 := c5) (c2 := c6) (c3 := c7) h4
  obtain ⟨ia, items, ic, e8, hI, hIn, hIs⟩ := open_items (c := c8) B h5 (fun k hk => hB k (DataW.weights_mem_each (j := 5) rfl (by rw [List.getElem?_map, List.getElem?_eq_getElem (by omega)]; rfl) k hk))
  have hfl := hB
  obtain ⟨ys, n2, _, hd2, _, hlen2, hx2⟩ := DataW.trod_struct Tryd.underlying26 h6
  have hlen2' : ys.length = 3 := hlen2
  have k0 := fieldAt hx2 0 _ rfl c9 rfl cellsInt (by omega)
  have k1 := fieldAt hx2 1 _ rfl c10 rfl cellsInt (by omega)
  have k2 := fieldAt hx2 2 _ rfl c11 rfl cellsPages (by omega)
  obtain ⟨fm, e9, _, _⟩ := DataW.trod_int Tryd.underlying3 k0
  obtain ⟨fx, e10, _, _⟩ := DataW.trod_int Tryd.underlying3 k1
  obtain ⟨pa, ps, pc, e11, hPs⟩ := open_pages (c := c11) k2
  simp at e0 e1 e2 e3 e9 e10
  subst e0 e1 e2 e3 e4 e5 e6 e7 e8 e9 e10 e11
  have hz := size_pages k2 hPs B fun k hk => hB k (DataW.weights_mem_each (j := 6) rfl (by rw [List.getElem?_map, List.getElem?_eq_getElem (by omega)]; rfl) k (by
    have hd3 : xs[6].1 = .agg (ys.map (·.1)) := congrArg Prod.fst hd2
    show k ∈ (xs[6].1).weights Tryd.prog 26
    rw [hd3]
    simp only [DataW.weights, Tryd.underlying26]
    exact DataW.weights_mem_each (j := 2) rfl (by rw [List.getElem?_map, List.getElem?_eq_getElem (by omega)]; rfl) k hk))
  exact ⟨⟨clock, cas, uses, most, g0, g1, g2, g3, items, fm, fx, ps⟩, ia, ic, pa, pc, rfl, ⟨hI, hPs⟩, hIn, hIs, hz.1, hz.2⟩
end Go.Proofs.YtmjakimpmccedaaDoor
