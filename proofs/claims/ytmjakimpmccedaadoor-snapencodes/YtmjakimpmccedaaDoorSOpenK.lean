/- A store that came in, opened; its items' numbers and texts are what the types allow. -/
import Derived.Test.YtmjakimpmccedaaDoorSOpen
import Derived.Test.YtmjakimpmccedaaDoorSChk4
namespace Go.Proofs.YtmjakimpmccedaaDoor
open Go.ChangeShapes Go.WideShapes Go.ChangeAt Go.RowKit
set_option linter.unusedVariables false

theorem wf_i64O {n : Int} (h : (Lit.int .i64 n).wf = true) : -9223372036854775808 ≤ n ∧ n ≤ 9223372036854775807 := by
  have h' : IntKind.i64.min ≤ n ∧ n ≤ IntKind.i64.max := by simpa [Lit.wf] using h
  exact h'

set_option maxRecDepth 100000 in
theorem open_place_wf {H : Type} {enc : TypeId × Value → H} {W : World} {n : Nat} {c0 c1 : Value} {y : DataW H × List MemPlace}
    (h : DataW.trod enc Tryd.prog W 0 (fun _ => true) true n 47 [c0, c1] = some y) : ∃ p q : Int, c0 = .int .i64 p ∧ c1 = .int .i64 q ∧ (Lit.int .i64 q).wf = true := by
  obtain ⟨xs, k, _, _, _, hxl, hf⟩ := DataW.trod_struct Tryd.underlying47 h
  have hxl' : xs.length = 2 := hxl
  have h0 := fieldAt hf 0 _ rfl c0 rfl cellsInt (by omega)
  have h1 := fieldAt hf 1 _ rfl c1 rfl cellsInt (by omega)
  obtain ⟨p, e0, _, _⟩ := DataW.trod_int Tryd.underlying3 h0
  obtain ⟨q, e1, _, hw⟩ := DataW.trod_int Tryd.underlying3 h1
  simp at e0 e1
  exact ⟨p, q, e0, e1, hw⟩

set_option maxHeartbeats 1000000 in
set_option maxRecDepth 100000 in
theorem open_itemsO {H : Type} {enc : TypeId × Value → H} {W : World} {n : Nat} {c : Value} {y : DataW H × List MemPlace}
    (h : DataW.trod enc Tryd.prog W 0 (fun _ => true) true n 23 [c] = some y) :
    ∃ a l cap, c = .slice a (l : List ItemR).length cap ∧ ItemsAt W a l ∧ ItemsOk l := by
  rcases Go.Deep.open_slice Tryd.underlying23 h with ⟨hcs, _⟩ | ⟨a, len, cap, m, n', D, Pl, hcs, _, hl, hm, hmm, hy, hx⟩
  · simp at hcs
    exact ⟨none, [], 0, hcs, ⟨Nat.zero_le _, Or.inl rfl⟩, fun j hj => by simp at hj⟩
  · simp at hcs hmm
    have each : ∀ i, i < len → ∃ p : ItemR, ItemOk p ∧ W.cell? (a.add (i * 9)) = some (.string p.key) ∧ W.cell? (a.add (i * 9 + 1)) = some (.int .i64 p.flags) ∧ W.cell? (a.add (i * 9 + 2)) = some (.int .i64 p.until_) ∧ W.cell? (a.add (i * 9 + 3)) = some (.int .i64 p.cas) ∧ W.cell? (a.add (i * 9 + 4)) = some (.int .i64 p.used) ∧
        W.cell? (a.add (i * 9 + 5)) = some (.string p.value) ∧ W.cell? (a.add (i * 9 + 6)) = some (.bool p.far) ∧ W.cell? (a.add (i * 9 + 7)) = some (.int .i64 p.page) ∧ W.cell? (a.add (i * 9 + 8)) = some (.int .i64 p.at_) := by
      intro i hi
      obtain ⟨cs', h1, h2⟩ := hx i (by omega)
      rw [cellsItem] at h1
      obtain ⟨_, hlen, hcell⟩ := World.cells?_some h1
      obtain ⟨xs, k, hk, hxy, _, hxl, hf⟩ := DataW.trod_struct Tryd.underlying49 h2
      have hxl' : xs.length = 8 := hxl
      match cs', hlen with
      | [c0, c1, c2, c3, c4, c5, c6, c7, c8], _ =>
        have h0 := fieldAt hf 0 _ rfl c0 rfl cellsStr (by omega)
        have h1 := fieldAt hf 1 _ rfl c1 rfl cellsInt (by omega)
        have h2 := fieldAt hf 2 _ rfl c2 rfl cellsInt (by omega)
        have h3 := fieldAt hf 3 _ rfl c3 rfl cellsInt (by omega)
        have h4 := fieldAt hf 4 _ rfl c4 rfl cellsInt (by omega)
        have h5 := fieldAt hf 5 _ rfl c5 rfl cellsStr (by omega)
        have h6 := fieldAt hf 6 _ rfl c6 rfl cellsBool (by omega)
        have h7 := fieldMany hf 7 _ rfl 2 cellsPlace [c7, c8] rfl (by omega)
        obtain ⟨key, e0, _, w0⟩ := DataW.trod_string Tryd.underlying9 h0
        obtain ⟨flags, e1, _, _⟩ := DataW.trod_int Tryd.underlying3 h1
        obtain ⟨until_, e2, _, _⟩ := DataW.trod_int Tryd.underlying3 h2
        obtain ⟨cas, e3, _, _⟩ := DataW.trod_int Tryd.underlying3 h3
        obtain ⟨used, e4, _, _⟩ := DataW.trod_int Tryd.underlying3 h4
        obtain ⟨value, e5, _, w5⟩ := DataW.trod_string Tryd.underlying9 h5
        obtain ⟨far, e6, _⟩ := DataW.trod_bool Tryd.underlying4 h6
        obtain ⟨page, at_, e7, e8, w8⟩ := open_place_wf (c0 := c7) (c1 := c8) h7
        simp at e0 e1 e2 e3 e4 e5 e6
        subst e0 e1 e2 e3 e4 e5 e6 e7 e8
        have g0 := hcell 0 (by omega)
        have g1 := hcell 1 (by omega)
        have g2 := hcell 2 (by omega)
        have g3 := hcell 3 (by omega)
        have g4 := hcell 4 (by omega)
        have g5 := hcell 5 (by omega)
        have g6 := hcell 6 (by omega)
        have g7 := hcell 7 (by omega)
        have g8 := hcell 8 (by omega)
        rw [Go.Deep.add_add] at g0 g1 g2 g3 g4 g5 g6 g7 g8
        exact ⟨⟨key, flags, until_, cas, used, value, far, page, at_⟩, ⟨w0, w5, (wf_i64O w8).1, (wf_i64O w8).2⟩, by simpa using g0, by simpa using g1, by simpa using g2, by simpa using g3, by simpa using g4, by simpa using g5, by simpa using g6, by simpa using g7, by simpa using g8⟩
    obtain ⟨f, hf⟩ := Go.Deep.choose_lt (α := ItemR) each
    have hlen : ((List.range len).map f).length = len := by simp
    have hget : ∀ j, j < len → ((List.range len).map f).getD j default = f j := fun j hj => by
      rw [List.getD_eq_getElem?_getD, List.getElem?_eq_getElem (by rw [hlen]; exact hj)]
      simp
    refine ⟨some a, (List.range len).map f, cap, by rw [hlen]; exact hcs, ⟨by rw [hlen]; omega, ?_⟩, ?_⟩
    · rw [hlen]
      by_cases h0 : len = 0
      · exact Or.inl h0
      · obtain ⟨b, off, spot⟩ := a
        obtain ⟨_, g0, _⟩ := hf 0 (by omega)
        have hspot : spot = none := by simpa [Addr.add] using World.cell?_spot g0
        subst hspot
        refine Or.inr ⟨b, off, rfl, ?_, fun j hj => ?_⟩
        · rw [add_plain] at g0
          exact block_lt g0
        · obtain ⟨_, g0, g1, g2, g3, g4, g5, g6, g7, g8⟩ := hf j hj
          rw [add_plain] at g0 g1 g2 g3 g4 g5 g6 g7 g8
          rw [hget j hj]
          exact ⟨g0, g1, g2, g3, g4, g5, g6, g7, g8⟩
    · intro j hj
      rw [hlen] at hj
      rw [hget j hj]
      exact (hf j hj).1

set_option maxHeartbeats 1000000 in
set_option maxRecDepth 100000 in
theorem open_storeO {H : Type} {enc : TypeId × Value → H} {W : World} {base : Nat} {v : Value} {d : DataW H} {p : List MemPlace}
    (hv : Value.okWide Tryd.prog W .any base 28 v) (h : DataW.Trod enc Tryd.prog W 0 (fun _ => true) true 28 v d p) :
    ∃ (s : StoreR) (ia : Option Addr) (ic : Nat) (pa : Option Addr) (pc : Nat), v = storeV s ia ic pa pc ∧ StoreIn W s ia pa ∧ ItemsOk s.items := by
  obtain ⟨cs, rfl, hsz⟩ := okWide_struct Tryd.underlying28 hv
  have hsz' : cs.size = 12 := hsz.trans cellsStore
  obtain ⟨c0, c1, c2, c3, c4, c5, c6, c7, c8, c9, c10, c11, rfl⟩ : ∃ c0 c1 c2 c3 c4 c5 c6 c7 c8 c9 c10 c11, cs = #[c0, c1, c2, c3, c4, c5, c6, c7, c8, c9, c10, c11] := by
    obtain ⟨l⟩ := cs
    match l, hsz' with
    | [c0, c1, c2, c3, c4, c5, c6, c7, c8, c9, c10, c11], _ => exact ⟨c0, c1, c2, c3, c4, c5, c6, c7, c8, c9, c10, c11, rfl⟩
  obtain ⟨fuel, hf⟩ := h
  obtain ⟨xs, n, _, hd, hl, hlen, hx⟩ := DataW.trod_struct Tryd.underlying28 hf
  have hlen' : xs.length = 7 := hlen
  have h0 := fieldAt hx 0 _ rfl c0 rfl cellsInt (by omega)
  have h1 := fieldAt hx 1 _ rfl c1 rfl cellsInt (by omega)
  have h2 := fieldAt hx 2 _ rfl c2 rfl cellsInt (by omega)
  have h3 := fieldAt hx 3 _ rfl c3 rfl cellsInt (by omega)
  have h4 := fieldMany hx 4 _ rfl 4 cellsArr4 [c4, c5, c6, c7] rfl (by omega)
  have h5 := fieldAt hx 5 _ rfl c8 rfl cellsItems (by omega)
  have h6 := fieldMany hx 6 _ rfl 3 cellsFlash [c9, c10, c11] rfl (by omega)
  obtain ⟨clock, e0, _, _⟩ := DataW.trod_int Tryd.underlying3 h0
  obtain ⟨cas, e1, _, _⟩ := DataW.trod_int Tryd.underlying3 h1
  obtain ⟨uses, e2, _, _⟩ := DataW.trod_int Tryd.underlying3 h2
  obtain ⟨most, e3, _, _⟩ := DataW.trod_int Tryd.underlying3 h3
  obtain ⟨g0, g1, g2, g3, e4, e5, e6, e7⟩ := open_arr4 (c0 := c4) (c1 := c5) (c2 := c6) (c3 := c7) h4
  obtain ⟨ia, items, ic, e8, hI, hIo⟩ := open_itemsO (c := c8) h5
  obtain ⟨ys, n2, _, hd2, _, hlen2, hx2⟩ := DataW.trod_struct Tryd.underlying26 h6
  have hlen2' : ys.length = 3 := hlen2
  have k0 := fieldAt hx2 0 _ rfl c9 rfl cellsInt (by omega)
  have k1 := fieldAt hx2 1 _ rfl c10 rfl cellsInt (by omega)
  have k2 := fieldAt hx2 2 _ rfl c11 rfl cellsPages (by omega)
  obtain ⟨fm, e9, _, _⟩ := DataW.trod_int Tryd.underlying3 k0
  obtain ⟨fx, e10, _, _⟩ := DataW.trod_int Tryd.underlying3 k1
  obtain ⟨pa, ps, pc, e11, hPs⟩ := open_pages (c := c11) k2
  simp at e0 e1 e2 e3 e9 e10
  subst e0 e1 e2 e3 e4 e5 e6 e7 e8 e9 e10 e11
  exact ⟨⟨clock, cas, uses, most, g0, g1, g2, g3, items, fm, fx, ps⟩, ia, ic, pa, pc, rfl, ⟨hI, hPs⟩, hIo⟩
end Go.Proofs.YtmjakimpmccedaaDoor
