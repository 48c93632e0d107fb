import Derived.Test.YtogpkbhjobhodaaDoorFPages
import Derived.ChangeSlices
import Derived.SizedLaws
import Derived.Test.YtogpkbhjobhodaaDoorFClone
import Derived.Test.YtogpkbhjobhodaaDoorFValsW
import Derived.Test.YtogpkbhjobhodaaDoorSSame
import Derived.Test.YtogpkbhjobhodaaDoorSpoolZ
import Derived.Test.YtogpkbhjobhodaaDoorTie
import Derived.Test.YtogpkbhjobhodaaDoorCards
import Derived.Lay
import Derived.Lib.LaidTab
import Derived.Stop.LaidErr
import Derived.Stop.Joined
import Derived.SevenTiedAt
/- A flash that came in, opened: its two numbers, and its pages in memory. -/
namespace Go.Proofs.YtogpkbhjobhodaaDoor
open Go.ChangeShapes Go.WideShapes Go.ChangeAt Go.RowKit
set_option linter.unusedVariables false

theorem cellsInt : Tryd.prog.cellsOf 3 = 1 := by kernel_rfl
theorem cellsByte : Tryd.prog.cellsOf 5 = 1 := by kernel_rfl
theorem cellsBytes : Tryd.prog.cellsOf 22 = 1 := by kernel_rfl
theorem cellsPage : Tryd.prog.cellsOf 45 = 2 := by kernel_rfl
theorem cellsPages : Tryd.prog.cellsOf 25 = 1 := by kernel_rfl
theorem cellsFlash : Tryd.prog.cellsOf 27 = 3 := by kernel_rfl

theorem list3 {α : Type} {cs : Array α} (h : cs.size = 3) : ∃ c0 c1 c2, cs = #[c0, c1, c2] := by
  obtain ⟨l⟩ := cs
  match l, h with
  | [c0, c1, c2], _ => exact ⟨c0, c1, c2, rfl⟩

/-- A field of one cell of a struct by value, read. -/
theorem fieldAt {H : Type} {enc : TypeId × Value → H} {P : Program} {W : World} {base n : Nat} {sp : Nat → Bool} {hd : Bool} {fs : Array Field} {cs : List Value} {xs : List (DataW H × List MemPlace)}
    (hx : ∀ (i : Nat) (f : Field), fs[i]? = some f → DataW.trod enc P W base sp hd n f.type ((cs.drop f.offset).take (P.cellsOf f.type)) = xs[i]?) (i : Nat) (f : Field) (hf : fs[i]? = some f) (c : Value) (hc : cs[f.offset]? = some c)
    (h1 : P.cellsOf f.type = 1) (hi : i < xs.length) : DataW.trod enc P W base sp hd n f.type [c] = some xs[i] := by
  have h := hx i f hf
  rw [List.getElem?_eq_getElem hi, h1] at h
  rw [← h]
  obtain ⟨hlt, he⟩ := List.getElem?_eq_some_iff.1 hc
  rw [List.drop_eq_getElem_cons hlt, he]
  rfl

theorem block_lt {W : World} {b o : Nat} {v : Value} (h : W.cell? ⟨b, o, none⟩ = some v) : b < W.heap.size := by
  rcases Nat.lt_or_ge b W.heap.size with h' | h'
  · exact h'
  · simp [World.cell?, Array.getElem?_eq_none h'] at h

/-- Bytes that came in. -/
theorem open_bytes {H : Type} {enc : TypeId × Value → H} {W : World} {n : Nat} {c : Value} {y : DataW H × List MemPlace}
    (h : DataW.trod enc Tryd.prog W 0 (fun _ => true) true n 22 [c] = some y) : ∃ a l cap, c = .slice a (l : List UInt8).length cap ∧ BytesAt W a l ∧ l.length ≤ cap ∧ cap ≤ maxLen := by
  rcases open_ints Tryd.underlying22 Tryd.underlying5 cellsByte h with ⟨hcs, _⟩ | ⟨a, len, cap, xs, hcs, _, hl, hm, hz, _, hcell, hall⟩
  · simp at hcs
    exact ⟨none, [], 0, hcs, ⟨Nat.zero_le _, Or.inl rfl⟩, Nat.le_refl _, Nat.zero_le _⟩
  · simp at hcs hz
    have hlen : ((xs.take len).map fun n => UInt8.ofNat n.toNat).length = len := by simp; omega
    refine ⟨some a, (xs.take len).map fun n => UInt8.ofNat n.toNat, cap, by rw [hlen]; exact hcs, ⟨by rw [hlen]; omega, ?_⟩, by rw [hlen]; exact hl, hm⟩
    rw [hlen]
    by_cases h0 : len = 0
    · exact Or.inl h0
    · obtain ⟨b, off, spot⟩ := a
      have g0 := hcell 0 (by omega)
      have hspot : spot = none := by simpa [Addr.add] using World.cell?_spot g0
      subst hspot
      refine Or.inr ⟨b, off, rfl, ?_, fun j hj => ?_⟩
      · rw [add_plain] at g0
        exact block_lt g0
      · have := hcell j (by omega)
        rw [add_plain] at this
        rw [this]
        have hjx : j < xs.length := by omega
        have hw := hall xs[j] (List.getElem_mem hjx)
        have hr : 0 ≤ xs[j] ∧ xs[j] ≤ 255 := by
          have hw' : IntKind.u8.min ≤ xs[j] ∧ xs[j] ≤ IntKind.u8.max := by simpa [Lit.wf] using hw
          exact hw'
        have e1 : xs.getD j 0 = xs[j] := by simp [List.getD_eq_getElem?_getD, List.getElem?_eq_getElem hjx]
        have e2 : ((xs.take len).map fun n => UInt8.ofNat n.toNat).getD j 0 = UInt8.ofNat xs[j].toNat := by
          rw [List.getD_eq_getElem?_getD, List.getElem?_eq_getElem (by rw [hlen]; exact hj)]
          simp
        rw [e1, e2]
        congr 2
        rw [UInt8.toNat_ofNat']
        omega

theorem open_pages {H : Type} {enc : TypeId × Value → H} {W : World} {n : Nat} {c : Value} {y : DataW H × List MemPlace}
    (h : DataW.trod enc Tryd.prog W 0 (fun _ => true) true n 25 [c] = some y) : ∃ a ps cap, c = .slice a (ps : List PageR).length cap ∧ PagesAt W a ps := by
  rcases Go.Deep.open_slice_pairs Tryd.underlying25 Tryd.underlying45 cellsPage rfl rfl cellsInt cellsBytes h with ⟨hcs, _⟩ | ⟨a, len, cap, m, n', V0, V1, D0, D1, P0, P1, hcs, _, hl, hm, hmm, _, hall⟩
  · simp at hcs
    exact ⟨none, [], 0, hcs, Nat.zero_le _, Or.inl rfl⟩
  · simp at hcs hmm
    have each : ∀ i, i < len → ∃ p : PageR, ∃ aa cc, W.cell? (a.add (i * 2)) = some (.int .i64 p.num) ∧ W.cell? (a.add (i * 2 + 1)) = some (.slice aa p.bs.length cc) ∧ BytesAt W aa p.bs ∧ p.bs.length ≤ cc ∧ cc ≤ maxLen := by
      intro i hi
      obtain ⟨h1, h2, h3, h4⟩ := hall i (by omega)
      obtain ⟨k, e0, _, _⟩ := DataW.trod_int Tryd.underlying3 h3
      obtain ⟨aa, l, cc, e1, hb⟩ := open_bytes h4
      simp at e0
      exact ⟨⟨k, l⟩, aa, cc, by rw [h1, e0], by rw [h2, e1], hb⟩
    obtain ⟨f, hf⟩ := Go.Deep.choose_lt (α := PageR) each
    have hlen : ((List.range len).map f).length = len := by simp
    refine ⟨some a, (List.range len).map f, cap, by rw [hlen]; exact hcs, by rw [hlen]; omega, ?_⟩
    rw [hlen]
    by_cases h0 : len = 0
    · exact Or.inl h0
    · obtain ⟨b, off, spot⟩ := a
      obtain ⟨_, _, g0, _⟩ := hf 0 (by omega)
      have hspot : spot = none := by simpa [Addr.add] using World.cell?_spot g0
      subst hspot
      refine Or.inr ⟨b, off, rfl, ?_, fun j hj => ?_⟩
      · rw [add_plain] at g0
        exact block_lt g0
      · obtain ⟨aa, cc, g1, g2, g3⟩ := hf j hj
        rw [add_plain] at g1 g2
        have e : ((List.range len).map f).getD j default = f j := by
          rw [List.getD_eq_getElem?_getD, List.getElem?_eq_getElem (by rw [hlen]; exact hj)]
          simp
        rw [e]
        exact ⟨aa, cc, g1, g2, g3⟩

set_option maxRecDepth 100000 in
theorem open_flash {H : Type} {enc : TypeId × Value → H} {W : World} {base : Nat} {v : Value} {d : DataW H} {p : List MemPlace}
    (hv : Value.okWide Tryd.prog W .any base 27 v) (h : DataW.Trod enc Tryd.prog W 0 (fun _ => true) true 27 v d p) :
    ∃ (m x : Int) (a : Option Addr) (ps : List PageR) (c : Nat), v = .agg #[.int .i64 m, .int .i64 x, .slice a ps.length c] ∧ PagesAt W a ps ∧
      (Lit.int .i64 m).wf = true ∧ (Lit.int .i64 x).wf = true := by
  obtain ⟨cs, rfl, hsz⟩ := okWide_struct Tryd.underlying27 hv
  obtain ⟨c0, c1, c2, rfl⟩ := list3 (hsz.trans cellsFlash)
  obtain ⟨fuel, hf⟩ := h
  obtain ⟨xs, n, _, _, hl, hlen, hx⟩ := DataW.trod_struct Tryd.underlying27 hf
  have hlen' : xs.length = 3 := hlen
  have h0 := fieldAt hx 0 _ rfl c0 rfl cellsInt (by omega)
  have h1 := fieldAt hx 1 _ rfl c1 rfl cellsInt (by omega)
  have h2 := fieldAt hx 2 _ rfl c2 rfl cellsPages (by omega)
  obtain ⟨m, e0, _, w0⟩ := DataW.trod_int Tryd.underlying3 h0
  obtain ⟨x, e1, _, w1⟩ := DataW.trod_int Tryd.underlying3 h1
  obtain ⟨a, ps, c, e2, w2⟩ := open_pages (c := c2) h2
  simp at e0 e1
  subst e0 e1 e2
  exact ⟨m, x, a, ps, c, rfl, w2, w0, w1⟩
end Go.Proofs.YtogpkbhjobhodaaDoor

/- A flash that came in, opened with its sizes: what the reach says of the data holds of its pages and of their bytes. -/
namespace Go.Proofs.YtogpkbhjobhodaaDoor
open Go.ChangeShapes Go.WideShapes Go.ChangeAt Go.RowKit
set_option linter.unusedVariables false

theorem bytesByte : Tryd.prog.bytesOf 5 = 1 := by kernel_rfl
theorem bytesPage : Tryd.prog.bytesOf 45 = 32 := by kernel_rfl

/-- Bytes that came in, and their size. -/
theorem size_bytes {H : Type} {enc : TypeId × Value → H} {W : World} {n : Nat} {c : Value} {y : DataW H × List MemPlace} {a : Option Addr} {len cap : Nat}
    (h : DataW.trod enc Tryd.prog W 0 (fun _ => true) true n 22 [c] = some y) (hc : c = .slice a len cap) (B : Nat) (hB : ∀ k ∈ y.1.weights Tryd.prog 22, k ≤ B) : len ≤ B := by
  rcases open_ints Tryd.underlying22 Tryd.underlying5 cellsByte h with ⟨hcs, _⟩ | ⟨a, len', cap, xs, hcs, _, hl, hm, hz, hy, _, _⟩
  · simp at hcs
    rw [hcs] at hc
    cases hc
    exact Nat.zero_le _
  · simp at hcs hz
    rw [hcs] at hc
    cases hc
    have := hB (((lits .u8 (xs.take len) : List (DataW H)).length + (lits .u8 (xs.drop len) : List (DataW H)).length) * Tryd.prog.bytesOf 5) (by rw [hy]; simp [DataW.weights, Tryd.underlying22])
    rw [bytesByte] at this
    simp [lits] at this
    omega

theorem weightsAll_mem {H : Type} {P : Program} {e : TypeId} {d : DataW H} {k : Nat} : ∀ {l : List (DataW H)}, d ∈ l → k ∈ d.weights P e → k ∈ DataW.weightsAll P e l
  | [], h, _ => by cases h
  | d0 :: r, h, hk => by
    simp only [DataW.weightsAll, List.mem_append]
    rcases List.mem_cons.1 h with rfl | h
    · exact Or.inl hk
    · exact Or.inr (weightsAll_mem h hk)

theorem size_pages {H : Type} {enc : TypeId × Value → H} {W : World} {n : Nat} {y : DataW H × List MemPlace} {a : Option Addr} {ps : List PageR} {cap : Nat}
    (h : DataW.trod enc Tryd.prog W 0 (fun _ => true) true n 25 [.slice a ps.length cap] = some y) (hP : PagesAt W a ps) (B : Nat) (hB : ∀ k ∈ y.1.weights Tryd.prog 25, k ≤ B) :
    ps.length * 32 ≤ B ∧ ∀ j, j < ps.length → (ps.getD j default).bs.length ≤ B := by
  rcases Go.Deep.open_slice_pairs Tryd.underlying25 Tryd.underlying45 cellsPage rfl rfl cellsInt cellsBytes h with ⟨hcs, _⟩ | ⟨a', len, cap', m, n', V0, V1, D0, D1, P0, P1, hcs, _, hl, hm, hmm, hy, hall⟩
  · simp at hcs
    have : ps.length = 0 := by simp [hcs.2.1]
    exact ⟨by omega, fun j hj => by omega⟩
  · simp at hcs hmm
    obtain ⟨rfl, rfl, rfl⟩ := hcs
    have hw := hB
    rw [hy] at hw
    constructor
    · have := hw ((((List.range ps.length).map fun i => (DataW.agg [D0 i, D1 i] : DataW H)).length + ((List.range (m - ps.length)).map fun j => (DataW.agg [D0 (ps.length + j), D1 (ps.length + j)] : DataW H)).length) * Tryd.prog.bytesOf 45) (by simp [DataW.weights, Tryd.underlying25])
      rw [bytesPage] at this
      simp at this
      omega
    · intro j hj
      obtain ⟨_, h2, _, h4⟩ := hall j (by omega)
      rcases hP.2 with hz | ⟨b, o, ha, hb, hc⟩
      · omega
      obtain ⟨aa, cc, _, g2, _⟩ := hc j hj
      cases ha
      rw [add_plain] at h2
      have hv : V1 j = .slice aa (ps.getD j default).bs.length cc := by
        have h2' : W.cell? ⟨b, o + j * 2 + 1, none⟩ = some (V1 j) := by rw [Nat.add_assoc]; exact h2
        rw [g2] at h2'
        exact (Option.some.inj h2').symm
      refine size_bytes h4 hv B fun k hk => hw k ?_
      have hk2 : k ∈ (DataW.agg [D0 j, D1 j] : DataW H).weights Tryd.prog 45 := by
        simp only [DataW.weights, Tryd.underlying45]
        exact DataW.weights_mem_each (j := 1) rfl rfl k hk
      simp only [DataW.weights, Tryd.underlying25, List.mem_cons, List.mem_append]
      exact Or.inr (Or.inl (weightsAll_mem (List.mem_map.2 ⟨j, List.mem_range.2 hj, rfl⟩) hk2))

theorem size_flash {H : Type} {enc : TypeId × Value → H} {W : World} {m x : Int} {a : Option Addr} {ps : List PageR} {c : Nat} {d : DataW H} {p : List MemPlace}
    (h : DataW.Trod enc Tryd.prog W 0 (fun _ => true) true 27 (.agg #[.int .i64 m, .int .i64 x, .slice a ps.length c]) d p) (hP : PagesAt W a ps) (B : Nat) (hB : ∀ k ∈ d.weights Tryd.prog 27, k ≤ B) :
    ps.length * 32 ≤ B ∧ ∀ j, j < ps.length → (ps.getD j default).bs.length ≤ B := by
  obtain ⟨fuel, hf⟩ := h
  obtain ⟨xs, n, _, hd, hl, hlen, hx⟩ := DataW.trod_struct Tryd.underlying27 hf
  have hlen' : xs.length = 3 := hlen
  have h2 := fieldAt hx 2 _ rfl (.slice a ps.length c) rfl cellsPages (by omega)
  refine size_pages h2 hP B fun k hk => hB k ?_
  have hd1 : d = .agg (xs.map (·.1)) := congrArg Prod.fst hd
  rw [hd1]
  simp only [DataW.weights, Tryd.underlying27]
  exact DataW.weights_mem_each (j := 2) rfl (by rw [List.getElem?_map, List.getElem?_eq_getElem (by omega)]; rfl) k hk
end Go.Proofs.YtogpkbhjobhodaaDoor

/- Of all bytes: snap.Decode and dovecoteref.StoreOf answer the same store and the same fault; the listed table holds what the program's text lays in it (the card ties it). -/
namespace Go.Proofs.YtogpkbhjobhodaaDoor
open Go.ChangeShapes Go.WideShapes Go.ChangeAt Go.RowKit
set_option linter.unusedVariables false

/-- 'append([]byte(nil), b...)' in a region that does not draw. -/
theorem append_clone_plain {ops : Array Oper} {rest : List Oper} {o : Oper} {a : Act} {Q : Exit → Act → World → Prop} (w : World) (hgd : o.guard = none) (s x : Operand)
    (ho : o.op = .call { callee := .builtin .append, args := #[s, x], argTypes := #[22, 22] }) (hs : a.eval s = .slice none 0 0)
    (l : List UInt8) (ad : Option Addr) (c : Nat) (hx : a.eval x = .slice ad l.length c) (hB : BytesAt w ad l) (hsz : l.length ≤ 140737488351232)
    (h : ∀ a2 c2 w', Below w.heap.size w w' → BytesAt w' a2 l → l.length ≤ c2 → c2 ≤ maxLen → wpList Tryd.prog ops Q rest (a.put o.dst (.slice a2 l.length c2)) w') : wpList Tryd.prog ops Q (o :: rest) a w := by
  refine wpList_plain hgd fun K hK => ?_
  have hw : Region.wanted o (yielded ops a.tmps) = true := by simp [Region.wanted, hgd]
  have := append_clone_step (E := True) (ops := ops) (K := K) (Q := Q) w hgd s x ho hs l ad c hx hB hsz fun a2 c2 w' h1 h2 h3 h4 _ => hK _ _ (h a2 c2 w' h1 h2 h3 h4)
  rwa [if_pos hw] at this
end Go.Proofs.YtogpkbhjobhodaaDoor

namespace Go.Proofs.YtogpkbhjobhodaaDoor.SnapDecodes
open Go.ChangeShapes Go.WideShapes Go.ChangeAt Go.RowKit
set_option linter.unusedVariables false

theorem own : ownKnob Tryd.prog.godebug = none := by kernel_rfl
theorem laidOut : laidOutB Tryd.prog = true := by kernel_rfl
theorem gChunks : Tryd.prog.globalNamed "dovecote/store.chunks" = some 0 := by kernel_rfl
theorem tChunks : (Tryd.prog.globals[0]?).map (·.type) = some 23 := by kernel_rfl

theorem laidC {W : World} (h : laidMetH Tryd.prog Rows.snapDecodesRow.laid W) : LaidC W := by
  rw [MakeChecks.laidMetH_plain _ _ _ (by kernel_rfl)] at h
  have hb : Lib.TabIs Tryd.prog W "dovecote/store.chunks" .i64 [32, 64, 128, 256] := Lib.tabIs_of_head gChunks tChunks Tryd.underlying23 Tryd.underlying3 (by kernel_rfl) (by kernel_rfl) h
  have c0 := hb.cell gChunks 0 (by decide)
  exact ⟨World.block_lt_of_cell? _ _ c0, c0, hb.cell gChunks 1 (by decide), hb.cell gChunks 2 (by decide), hb.cell gChunks 3 (by decide)⟩

set_option maxHeartbeats 2000000 in
set_option maxRecDepth 100000 in
theorem walk (l : List UInt8) (a : Option Addr) (c : Nat) (w : World) (hA : BytesAt w a l) (hlc : l.length ≤ c) (hcm : c ≤ maxLen) (hsz : l.length ≤ 140737488351232) (hL : LaidC w) :
    Calls Tryd.prog 3 #[.slice a l.length c] w fun e w' => e = .returned (.bool true) ∧ Below w.heap.size w w' := by
  have hvi : VIn := fun l a c w h1 h2 h3 h4 => valuesIn_vals l a c w h1 h2 h3 h4
  have hd := fun (a2 : Option Addr) (c2 : Nat) (w1 : World) (hb : Below w.heap.size w w1) (h1 : BytesAt w1 a2 l) (h2 : l.length ≤ c2) (h3 : c2 ≤ maxLen) => decode_any l a2 c2 w1 h1 h2 h3 (hL.later hb)
  have hr := fun (w1 : World) (hb : Below w.heap.size w w1) => storeOf_any l a c w1 (hA.later hb) hlc hcm hvi
  unfold DecPost at hd hr
  generalize decS l = t at *
  generalize decE l = E at *
  clear hL hvi
  have hsm := fun (ja ka : Option Addr) (jc kc : Nat) (qa ra : Option Addr) (qc rc : Nat) (w1 : World) (h1 : StoreIn w1 t ja qa) (h2 : StoreIn w1 t ka ra) => sameStore_same t ja ka jc kc qa ra qc rc w1 h1 h2
  obtain ⟨tclock, tcas, tuses, tmost, t0, t1, t2, t3, titems, tfm, tfx, tpages⟩ := t
  unfold storeV at *
  simp only at *
  go_enter Tryd.func3, Tryd.ntmps3
  go_wp2_with (at_builtin; refine append_clone_plain _ rfl _ (.tmp 8) rfl rfl l a c rfl hA hsz ?_; intro a2 c2 w0 hb0 hBy h2 h3; have hd0 := hd a2 c2 w0 hb0 hBy h2 h3)
  refine hd0.mono ?_
  rintro e w1 ⟨ja, jc, qa, qc, rfl, hF1, hb1⟩
  have hI1 := hF1 w1 (Nat.le_refl _) (fun _ _ _ => rfl)
  have hB1 := hb0.trans (hb1.mono hb0.size)
  have hB2 : Below w.heap.size w (w1.alloc (.cells #[.int .i64 tclock, .int .i64 tcas, .int .i64 tuses, .int .i64 tmost, .int .i64 t0, .int .i64 t1, .int .i64 t2, .int .i64 t3, .slice ja titems.length jc, .int .i64 tfm, .int .i64 tfx, .slice qa tpages.length qc] 29)) := hB1.alloc hB1.size _
  have hbA : Below w1.heap.size w1 (w1.alloc (.cells #[.int .i64 tclock, .int .i64 tcas, .int .i64 tuses, .int .i64 tmost, .int .i64 t0, .int .i64 t1, .int .i64 t2, .int .i64 t3, .slice ja titems.length jc, .int .i64 tfm, .int .i64 tfx, .slice qa tpages.length qc] 29)) := (Below.refl _ _).alloc (Nat.le_refl _) _
  have X0 := TB.new 29 w1 #[.int .i64 tclock, .int .i64 tcas, .int .i64 tuses, .int .i64 tmost, .int .i64 t0, .int .i64 t1, .int .i64 t2, .int .i64 t3, .slice ja titems.length jc, .int .i64 tfm, .int .i64 tfx, .slice qa tpages.length qc]
  have hr1 := hr _ hB2
  clear hd hd0 hr hBy
  go_wp2_with fail
  refine hr1.mono ?_
  rintro e w2 ⟨ka, kc, ra, rc, rfl, hF2, hb2⟩
  have hI2 := hF2 w2 (Nat.le_refl _) (fun _ _ _ => rfl)
  have hJ1 := (hI1.later hbA).later hb2
  have Y0 := X0.later hb2
  have y0 := fun j => Y0.cell j
  have m0 := Y0.lt
  have hB3 := hB2.trans (hb2.mono hB2.size)
  have hbC : Below w2.heap.size w2 (w2.alloc (.cells #[.int .i64 tclock, .int .i64 tcas, .int .i64 tuses, .int .i64 tmost, .int .i64 t0, .int .i64 t1, .int .i64 t2, .int .i64 t3, .slice ka titems.length kc, .int .i64 tfm, .int .i64 tfx, .slice ra tpages.length rc] 29)) := (Below.refl _ _).alloc (Nat.le_refl _) _
  have hB4 := hB3.trans (hbC.mono hB3.size)
  have hQ1 := hJ1.later hbC
  have hQ2 := hI2.later hbC
  have hEE : (E == E) = true := by simp
  clear X0 Y0 hF1 hF2 hr1
  go_wp2_with fail
  refine (hsm ja ka jc kc qa ra qc rc _ hQ1 hQ2).mono ?_
  rintro e w3 ⟨rfl, hb3⟩
  go_wp2
  go_ret
  exact ⟨rfl, hB4.trans (hb3.mono hB4.size)⟩

set_option maxRecDepth 100000 in
theorem lifted (os : Os) (started : os.Started) (H : Type) (enc : TypeId × Value → H) :
    ReturnsInHanded {} Tryd.checked os 3 .any (fun w args => (Rows.snapDecodesSpec.pre enc Tryd.prog Tryd.f3 Rows.snapDecodesRow.domain false w args ∧ laidMetH Tryd.prog Rows.snapDecodesRow.laid w) ∧ sizedMet enc Tryd.prog Tryd.f3 (OpenSpec.ofChange Rows.snapDecodesSpec) false w args)
      (Rows.snapDecodesSpec.post enc Tryd.prog Tryd.f3 false true false false) := by
  refine returnsInHanded_of_change_and (C := Tryd.checked) (X := fun w _ => laidMetH Tryd.prog Rows.snapDecodesRow.laid w) (fun _ _ _ hh h => h.of_heap hh) own started (by kernel_rfl) Tryd.func3
    (ChangeSpec.witness_shaped (enc := enc) (C := Tryd.checked) (os := os) (X := fun w _ => laidMetH Tryd.prog Rows.snapDecodesRow.laid w) false (World.laidAll Tryd.prog os Rows.snapDecodesRow.laid)
      #[.slice none 0 0] 8 (World.laidAll_os _ _ _)
      (World.shaped_of_ZipB (by kernel_rfl) (by kernel_rfl)) (by kernel_rfl) (by kernel_rfl) (by kernel_rfl)
      (by rw [MakeChecks.laidMetH_plain _ _ _ (by kernel_rfl)]; exact laidMet_laidAll _ (by kernel_rfl) (by kernel_rfl))) ?_
  intro W base args ds gs before hval0 hW hc hsz hL _
  have hval : ∀ (j : Nat) t v, Tryd.f3.params[j]? = some t → args[j]? = some v → Value.okWide Tryd.prog W .any base t v := hval0
  have hW' := hW
  obtain ⟨p, q, hA0, hV, rfl, hfz, hnd⟩ := hW
  have hA : DataW.TrodAll enc Tryd.prog W 0 (fun _ => true) true Tryd.f3.params.toList args.toList ds p := hA0
  rw [Tryd.params3] at hA hval
  obtain ⟨v0, vs0, d0, ds0, p0, q0, hargs0, rfl, rfl, h0, r0⟩ := trodAll_cons hA
  obtain ⟨rfl, rfl, rfl⟩ := trodAll_nil r0
  obtain rfl : args = #[v0] := by cases args; simp_all
  obtain ⟨rfl, rfl⟩ := trodVars_none hV
  have k0 := h0
  have lt0 : ∀ x ∈ p0, x.block < W.heap.size := by obtain ⟨m, hm⟩ := k0; exact DataW.trod_lt m _ _ _ hm
  obtain ⟨a', len', cap', rfl⟩ := okWide_slice Tryd.underlying22 (hval 0 22 v0 rfl rfl)
  have hlim : len' ≤ reachBytes := by
    obtain ⟨m1, hm1⟩ := k0
    exact size_bytes hm1 rfl reachBytes fun k hk => by
      have := List.all_eq_true.1 hsz k (DataW.weights_mem_each (j := 0) rfl rfl k hk)
      simpa using this
  have hR : reachBytes ≤ 140737488351232 := by decide
  obtain ⟨m0, hm0⟩ := h0
  obtain ⟨a, l, c, hsl, hBy, hlc, hcm⟩ := open_bytes (c := .slice a' len' cap') hm0
  cases hsl
  clear hA0 hval0
  refine (walk l _ _ W hBy hlc hcm (Nat.le_trans hlim hR) (laidC hL)).mono fun e W' ⟨he, bel⟩ => ?_
  subst he
  exact ⟨_, rfl, _, _, _, [], _, [], hW', trodAll_mk1 (shut_bool Tryd.underlying4 _), (trodAll_cons_mk (Below.trod laidOut (by kernel_rfl) (of_decide_eq_true (by kernel_rfl)) k0 bel lt0) trodAll_mk0), rfl, bel.frame _, fun h => by cases h⟩

set_option maxRecDepth 100000 in
theorem row_holds : Rows.SnapDecodesSaid :=
  OpenClaim.holds_of_wide 3 Tryd.f3 rfl rfl rfl rfl rfl rfl rfl ⟨rfl, rfl, rfl, rfl, rfl⟩ rfl rfl rfl rfl rfl (by kernel_rfl) Tryd.func3 (by kernel_rfl)
    (of_decide_eq_true (by kernel_rfl)) (by unfold Func.isWrapper; first | (rw [if_pos (by decide +kernel)]; kernel_rfl) | (rw [if_neg (by decide +kernel)]; exact ⟨rfl, rfl⟩))
    (fun os started H enc _ => lifted os started H enc)

theorem card_holds : Rows.SnapDecodesCardSaid :=
  Claim7.holds_tied_plain_at .later [] _ _ _ _
    row_holds (fun _ h => by cases h) (by kernel_rfl) (fun _ h => by cases h) snapDecodes_row_tie rfl ⟨rfl, rfl⟩ (by kernel_rfl) rfl
    (fun f fn hf hfn => by
      obtain rfl : f = 3 := Option.some.inj ((show Tryd.prog.funcNamed "dovecote/dovecotelaw.SnapDecodes" = some 3 by kernel_rfl).symm.trans hf) |>.symm
      obtain rfl : fn = Tryd.f3 := (Option.some.inj (Tryd.func3.symm.trans hfn)).symm
      exact ⟨by kernel_rfl, fun j t ht => by
        rw [Tryd.params3] at ht
        have hm : t ∈ [22] := by simpa using Array.mem_of_getElem? ht
        have hall : ([22].all fun u => !Tryd.prog.wantsStandIn u) = true := by kernel_rfl
        exact (show Tryd.prog.wantsStandIn t = false by simpa using List.all_eq_true.1 hall t hm)⟩)
    (by kernel_rfl)
end Go.Proofs.YtogpkbhjobhodaaDoor.SnapDecodes

namespace Go.Proofs.YtogpkbhjobhodaaDoor
theorem snapDecodes_holds : Rows.SnapDecodesCardSaid := SnapDecodes.card_holds
#print axioms snapDecodes_holds
end Go.Proofs.YtogpkbhjobhodaaDoor
