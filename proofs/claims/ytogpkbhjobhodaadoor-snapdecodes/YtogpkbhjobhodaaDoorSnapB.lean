/- Bytes of the call's own, and what appends leave as it was; the bytes of a number. -/
import Derived.Test.YtogpkbhjobhodaaDoorFRef
import Derived.Test.YtogpkbhjobhodaaDoorFVals
import Derived.Deep.AppendLies
namespace Go.Proofs.YtogpkbhjobhodaaDoor
open Go.ChangeShapes Go.WideShapes Go.ChangeAt Go.RowKit
set_option linter.unusedVariables false
set_option linter.unusedSimpArgs false

theorem strB_list (l : List UInt8) : (strB l).data.toList = l := rfl
theorem strB_size (l : List UInt8) : (strB l).size = l.length := rfl

def cellsOf (l : List UInt8) : List Value := l.map fun b => Value.int .u8 (b.toNat : Int)
/-- A row of bytes of the call's own, in a block from n on. -/
def RowB (n : Nat) (w : World) (v : Value) (l : List UInt8) : Prop := w.ownsRow n 5 1 v l.length (cellsOf l)
/-- From w to w' only the row of v and new blocks have changed; the row of v' is that of v, or a new one. -/
def Grew (w : World) (v : Value) (w' : World) (v' : Value) : Prop := w.grownBy w' v.ownBlock ∧ (v'.ownBlock = v.ownBlock ∨ ∃ g, v'.ownBlock = some g ∧ w.heap.size ≤ g)

theorem Grew.refl (w : World) (v : Value) : Grew w v w v := ⟨⟨rfl, rfl, rfl, Nat.le_refl _, fun _ _ _ => rfl⟩, Or.inl rfl⟩
theorem Grew.trans {w w1 w2 : World} {v v1 v2 : Value} (h : Grew w v w1 v1) (k : Grew w1 v1 w2 v2) : Grew w v w2 v2 := by
  obtain ⟨a, b⟩ := h
  obtain ⟨c, d⟩ := k
  refine ⟨⟨c.os.trans a.os, c.tape.trans a.tape, c.output.trans a.output, Nat.le_trans a.size c.size, fun i hi hne => ?_⟩, ?_⟩
  · rw [c.block i (Nat.lt_of_lt_of_le hi a.size) (fun e => ?_), a.block i hi hne]
    rcases b with b | ⟨g, hg, hs⟩
    · rw [b] at e; exact hne e
    · rw [hg] at e; cases e; omega
  · rcases d with d | ⟨g, hg, hs⟩
    · rw [d]; exact b
    · exact Or.inr ⟨g, hg, Nat.le_trans a.size hs⟩
theorem Grew.of_below {w w' : World} (v : Value) (h : Below w.heap.size w w') : Grew w v w' v := ⟨⟨h.os, h.tape, h.output, h.size, fun i hi _ => h.block i hi⟩, Or.inl rfl⟩
theorem Grew.cell {w w' : World} {v v' : Value} (h : Grew w v w' v') {b o : Nat} (hb : b < w.heap.size) (hne : v.ownBlock ≠ some b) : w'.cell? ⟨b, o, none⟩ = w.cell? ⟨b, o, none⟩ := by
  simp only [World.cell?, h.1.block b hb (fun e => hne e.symm)]
theorem Grew.apart {w w' : World} {v v' : Value} (h : Grew w v w' v') {b : Nat} (hb : b < w.heap.size) (hne : v.ownBlock ≠ some b) : v'.ownBlock ≠ some b := by
  rcases h.2 with e | ⟨g, hg, hs⟩
  · rw [e]; exact hne
  · rw [hg]; intro e; cases e; omega
theorem RowB.below {n : Nat} {w w' : World} {v : Value} {l : List UInt8} (h : RowB n w v l) (hb : Below w.heap.size w w') : RowB n w' v l := ownsRow_later h hb

/-- Whole numbers in memory. -/
def IntsAt (w : World) (a : Option Addr) (ns : List Nat) : Prop := ns.length ≤ maxLen ∧ (ns.length = 0 ∨ ∃ b o, a = some ⟨b, o, none⟩ ∧ b < w.heap.size ∧ ∀ j, j < ns.length → w.cell? ⟨b, o + j, none⟩ = some (.int .i64 (ns.getD j 0 : Nat)))

/-- The bytes of a number: seven bits each, the lowest ones first. -/
def sev (n : Nat) : List UInt8 := if h : n < 128 then [UInt8.ofNat n] else UInt8.ofNat (n % 128 + 128) :: sev (n / 128)
termination_by n
decreasing_by omega

theorem sev_small {n : Nat} (h : n < 128) : sev n = [UInt8.ofNat n] := by rw [sev, dif_pos h]
theorem sev_more {n : Nat} (h : ¬ n < 128) : sev n = UInt8.ofNat (n % 128 + 128) :: sev (n / 128) := by rw [sev, dif_neg h]
theorem sev_len : ∀ (k n : Nat), n < 128 ^ (k + 1) → (sev n).length ≤ k + 1
  | 0, n, h => by rw [sev_small (by simpa using h)]; simp
  | k + 1, n, h => by
    by_cases hn : n < 128
    · rw [sev_small hn]; simp
    · rw [sev_more hn, List.length_cons]
      have : n / 128 < 128 ^ (k + 1) := Nat.div_lt_of_lt_mul (by rw [Nat.pow_succ] at h; omega)
      have := sev_len k (n / 128) this
      omega

theorem byte_of (n : Nat) (h : n < 256) : IntKind.u8.wrap (n : Int) = ((UInt8.ofNat n).toNat : Int) := by
  have e1 : (UInt8.ofNat n).toNat = n := by simp; omega
  rw [e1]
  first
    | (simp only [IntKind.wrap_u8]; omega)
    | (simp [IntKind.wrap, IntKind.bits, IntKind.signed]; omega)

/-- 'append(b, x)', x one byte, onto a row of the call's own. -/
theorem append_byte_own {ops : Array Oper} {rest : List Oper} {o : Oper} {a : Act} {Q : Exit → Act → World → Prop} (w : World) (hgd : o.guard = none) (s x : Operand)
    (ho : o.op = .call { callee := .builtin .append, args := #[s, x], argTypes := #[22, 22] })
    (n : Nat) (v : Value) (l : List UInt8) (hs : a.eval s = v) (hW : RowB n w v l) (y : UInt8) (B : Nat) (hx : a.eval x = .slice (some ⟨B, 0, none⟩) 1 1) (hB : w.heap[B]? = some (.cells #[.int .u8 (y.toNat : Int)] 5 (0, 0))) (hn : n ≤ w.heap.size) (hsz : l.length + 1 ≤ 140737488351232)
    (h : ∀ g cap w', RowB n w' (.slice (some ⟨g, 0, none⟩) (l.length + 1) cap) (l ++ [y]) → Grew w v w' (.slice (some ⟨g, 0, none⟩) (l.length + 1) cap) → wpList Tryd.prog ops Q rest (a.put o.dst (.slice (some ⟨g, 0, none⟩) (l.length + 1) cap)) w') : wpList Tryd.prog ops Q (o :: rest) a w := by
  obtain ⟨i0, hi, hz0, hz1, hz2⟩ := info_parts infoByte
  refine wpList_append_lies w hgd s x 22 ho n 5 i0 _ 1 1 Tryd.underlying22 hi hz0 hz1 hz2 rfl (by omega) v l.length (cellsOf l) hs hW ⟨B, 0, none⟩ 1 1 [.int .u8 (y.toNat : Int)] hx rfl ?_ ?_ (by omega) (by unfold maxLen; omega) (by omega) hn w.heap.size rfl ?_
  · exact World.news_of_block hB
  · intro u hu
    simp at hu
    subst hu
    rfl
  intro g cap w' h2 h3 h4 h5
  refine h g cap w' ?_ ⟨h3, ?_⟩
  · unfold RowB cellsOf at *
    rw [List.length_append, List.map_append]
    simpa using h2
  · rcases h4 with h4 | h4
    · exact Or.inl (by rw [h4]; rfl)
    · exact Or.inr ⟨g, rfl, by omega⟩

/-- A row without spare room, whatever its mark: what '[]byte("..")' gives. -/
def FullB (n : Nat) (w : World) (v : Value) (l : List UInt8) : Prop := ∃ g cur fr, v = .slice (some ⟨g, 0, none⟩) l.length l.length ∧ n ≤ g ∧ w.heap[g]? = some (.cells cur 5 fr) ∧ cur.toList = cellsOf l
/-- A row that may be appended to. -/
def RowC (n : Nat) (w : World) (v : Value) (l : List UInt8) : Prop := RowB n w v l ∨ FullB n w v l

theorem FullB.lt {n : Nat} {w : World} {v : Value} {l : List UInt8} (h : FullB n w v l) : ∀ k, v.ownBlock = some k → n ≤ k ∧ k < w.heap.size := by
  obtain ⟨g, cur, fr, rfl, hg, hc, hl⟩ := h
  intro k hk
  have : g = k := by simpa [Value.ownBlock] using hk
  subst this
  refine ⟨hg, ?_⟩
  rcases Nat.lt_or_ge g w.heap.size with hlt | hge
  · exact hlt
  · rw [Array.getElem?_eq_none hge] at hc; cases hc
theorem RowC.lt {n : Nat} {w : World} {v : Value} {l : List UInt8} (h : RowC n w v l) : ∀ k, v.ownBlock = some k → n ≤ k ∧ k < w.heap.size := h.elim World.ownsRow.lt FullB.lt
theorem RowC.below {n : Nat} {w w' : World} {v : Value} {l : List UInt8} (h : RowC n w v l) (hb : Below w.heap.size w w') : RowC n w' v l := by
  rcases h with h | h
  · exact Or.inl (h.below hb)
  · have hlt := h.lt
    obtain ⟨g, cur, fr, rfl, hg, hc, hl⟩ := h
    exact Or.inr ⟨g, cur, fr, rfl, hg, by rw [hb.block g (hlt g rfl).2]; exact hc, hl⟩
theorem RowC.ne_new {n : Nat} {w : World} {v : Value} {l : List UInt8} (h : RowC n w v l) : v.ownBlock ≠ some w.heap.size := fun e => by have := (h.lt _ e).2; omega

theorem run_append_full (w : World) (ty : TypeId) (n : Nat) (v : Value) (l : List UInt8) (hW : FullB n w v l) (y : UInt8) (B : Nat) (hB : w.heap[B]? = some (.cells #[.int .u8 (y.toNat : Int)] 5 (0, 0))) (hn : n ≤ w.heap.size) (hsz : l.length + 1 ≤ 140737488351232) :
    ∃ g cap w', (Builtin.append_ #[22, 22] ty #[v, .slice (some ⟨B, 0, none⟩) 1 1]).run Tryd.prog w = .ok (.slice (some ⟨g, 0, none⟩) (l.length + 1) cap) w' ∧ RowB n w' (.slice (some ⟨g, 0, none⟩) (l.length + 1) cap) (l ++ [y]) ∧ Grew w v w' (.slice (some ⟨g, 0, none⟩) (l.length + 1) cap) := by
  obtain ⟨i0, hi, hz0, hz1, hz2⟩ := info_parts infoByte
  obtain ⟨g, cur, fr, rfl, hg, hc, hl⟩ := hW
  have hcl : (cellsOf l).length = l.length := by simp [cellsOf]
  have holds : ∀ j u, (cellsOf l)[j]? = some u → w.cell? ((⟨g, 0, none⟩ : Addr).add j) = some u := by rw [← hl]; exact World.news_of_block hc
  have hr := run_append_grow (P := Tryd.prog) w 22 ty 5 i0 (.int .u8 0) Tryd.underlying22 hi hz0 ⟨g, 0, none⟩ l.length l.length (cellsOf l) (by rw [hz1, hcl]; omega) holds ⟨B, 0, none⟩ 1 1 [.int .u8 (y.toNat : Int)] (by rw [hz1]; rfl) (World.news_of_block hB) (by omega) (by omega) (by rw [hz2]; exact growslice_fits (by omega) (by omega))
  have hge := grownCap_ge w (l.length + 1) l.length 5
  have hcm : grownCap w (l.length + 1) l.length 5 ≤ maxLen := grownCap_le_maxLen w (l.length + 1) l.length 5 (by unfold maxLen; omega)
  generalize grownCap w (l.length + 1) l.length 5 = cap at *
  refine ⟨_, _, _, hr, ?_, ⟨⟨rfl, rfl, rfl, by simp, fun k hk _ => heap_alloc_old w.drew _ hk⟩, Or.inr ⟨_, rfl, Nat.le_refl _⟩⟩⟩
  have hz : (Value.int IntKind.u8 0).cells.size = 1 := rfl
  unfold RowB
  rw [List.length_append]
  refine ⟨by simp [cellsOf], Or.inr ⟨w.heap.size, cap, _, rfl, hn, heap_alloc_new w.drew _, hge, hcm, ?_, ?_⟩⟩
  · simp only [Array.size_append, List.size_toArray, size_zeroCells, hz, hcl, List.length_cons, List.length_nil]
    omega
  · have e : (cellsOf (l ++ [y])).length = (l.length + [y].length) * 1 := by simp [cellsOf]
    rw [← e, Array.toList_append, Array.toList_append]
    have e2 : cellsOf l ++ [Value.int .u8 (y.toNat : Int)] = cellsOf (l ++ [y]) := by unfold cellsOf; rw [List.map_append]; rfl
    simp only [List.toList_toArray]
    rw [e2]
    exact List.take_left

theorem append_byte {ops : Array Oper} {rest : List Oper} {o : Oper} {a : Act} {Q : Exit → Act → World → Prop} (w : World) (hgd : o.guard = none) (s x : Operand)
    (ho : o.op = .call { callee := .builtin .append, args := #[s, x], argTypes := #[22, 22] })
    (n : Nat) (v : Value) (l : List UInt8) (hs : a.eval s = v) (hW : RowC n w v l) (y : UInt8) (B : Nat) (hx : a.eval x = .slice (some ⟨B, 0, none⟩) 1 1) (hB : w.heap[B]? = some (.cells #[.int .u8 (y.toNat : Int)] 5 (0, 0))) (hn : n ≤ w.heap.size) (hsz : l.length + 1 ≤ 140737488351232)
    (h : ∀ g cap w', RowB n w' (.slice (some ⟨g, 0, none⟩) (l.length + 1) cap) (l ++ [y]) → Grew w v w' (.slice (some ⟨g, 0, none⟩) (l.length + 1) cap) → wpList Tryd.prog ops Q rest (a.put o.dst (.slice (some ⟨g, 0, none⟩) (l.length + 1) cap)) w') : wpList Tryd.prog ops Q (o :: rest) a w := by
  rcases hW with hW | hW
  · exact append_byte_own w hgd s x ho n v l hs hW y B hx hB hn hsz h
  · refine wpList_plain hgd fun K hK => ?_
    obtain ⟨g, cap, w', hr, h2, h3⟩ := run_append_full w o.type n v l hW y B hB hn hsz
    unfold Oper.wp execOp
    simp only [ho, resolve, invoke, builtin, Sem.run_bind, Sem.run_pure, Result.andThen_ok, List.map_toArray, List.map_cons, List.map_nil, hs, hx, hr]
    exact hK _ _ (h g cap w' h2 h3)
end Go.Proofs.YtogpkbhjobhodaaDoor
