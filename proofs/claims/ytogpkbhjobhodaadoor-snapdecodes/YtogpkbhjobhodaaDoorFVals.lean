/- dovecoteref.valuesIn: the values of a page, where each begins, and whether its bytes are records. -/
import Derived.Test.YtogpkbhjobhodaaDoorFRef
namespace Go.Proofs.YtogpkbhjobhodaaDoor
open Go.ChangeShapes Go.WideShapes Go.ChangeAt Go.RowKit
set_option linter.unusedVariables false
set_option linter.unusedSimpArgs false

theorem infoStr : (Tryd.prog.info? 9).map (fun i => (i.zero, i.size, i.bytes)) = some (some (.string ByteArray.empty), 1, 16) := by kernel_rfl
theorem infoInt : (Tryd.prog.info? 3).map (fun i => (i.zero, i.size, i.bytes)) = some (some (.int .i64 0), 1, 8) := by kernel_rfl

/-- Texts, and numbers, in a row of the call's own. -/
def OwnS (W0 w : World) (v : Value) (l : List ByteArray) : Prop := w.ownsRow W0.heap.size 9 1 v l.length (l.map Value.string) ∧ Below W0.heap.size W0 w
def OwnI (W0 w : World) (v : Value) (l : List Int) : Prop := w.ownsRow W0.heap.size 3 1 v l.length (l.map (Value.int .i64)) ∧ Below W0.heap.size W0 w

theorem ownsRow_later {w w1 : World} {base : Nat} {e : TypeId} {size : Nat} {v : Value} {n : Nat} {xs : List Value} (h : w.ownsRow base e size v n xs) (hb : Below w.heap.size w w1) : w1.ownsRow base e size v n xs := by
  refine ⟨h.1, ?_⟩
  rcases h.2 with h0 | ⟨g, cap, cur, hv, hg, hc, h1, h2, h3, h4⟩
  · exact Or.inl h0
  · refine Or.inr ⟨g, cap, cur, hv, hg, ?_, h1, h2, h3, h4⟩
    have hlt : g < w.heap.size := by
      rcases Nat.lt_or_ge g w.heap.size with hlt | hge
      · exact hlt
      · rw [Array.getElem?_eq_none hge] at hc; cases hc
    rw [hb.block g hlt]
    exact hc
theorem OwnS.later {W0 w w1 : World} {v : Value} {l : List ByteArray} (h : OwnS W0 w v l) (hb : Below w.heap.size w w1) : OwnS W0 w1 v l := ⟨ownsRow_later h.1 hb, h.2.trans (hb.mono h.2.size)⟩
theorem OwnI.later {W0 w w1 : World} {v : Value} {l : List Int} (h : OwnI W0 w v l) (hb : Below w.heap.size w w1) : OwnI W0 w1 v l := ⟨ownsRow_later h.1 hb, h.2.trans (hb.mono h.2.size)⟩

theorem append_strs {ops : Array Oper} {rest : List Oper} {o : Oper} {a : Act} {Q : Exit → Act → World → Prop} (w : World) (hgd : o.guard = none) (s x : Operand)
    (ho : o.op = .call { callee := .builtin .append, args := #[s, x], argTypes := #[75, 75] })
    (W0 : World) (v : Value) (l : List ByteArray) (hs : a.eval s = v) (hW : OwnS W0 w v l) (n : ByteArray) (ad : Addr) (hx : a.eval x = .slice (some ad) 1 1) (hnews : w.cell? ad = some (.string n)) (hsz : l.length + 1 ≤ 1000000)
    (h : ∀ g cap w', OwnS W0 w' (.slice (some ⟨g, 0, none⟩) (l.length + 1) cap) (l ++ [n]) → w.grownBy w' v.ownBlock → (v.ownBlock = some g ∨ g = w.heap.size) → wpList Tryd.prog ops Q rest (a.put o.dst (.slice (some ⟨g, 0, none⟩) (l.length + 1) cap)) w') : wpList Tryd.prog ops Q (o :: rest) a w := by
  obtain ⟨i0, hi, hz0, hz1, hz2⟩ := info_parts infoStr
  refine wpList_append_lies w hgd s x 75 ho W0.heap.size 9 i0 (.string ByteArray.empty) 1 16 Tryd.underlying75 hi hz0 hz1 hz2 rfl (by omega) v l.length (l.map Value.string) hs hW.1 ad 1 1 [.string n] hx rfl ?_ ?_ (by omega) (by unfold maxLen; omega) (by omega) hW.2.size w.heap.size rfl ?_
  · intro j u hj
    match j, hj with
    | 0, hj => simp at hj; subst hj; simpa [Addr.add] using hnews
  · intro u hu
    simp at hu
    subst hu
    rfl
  intro g cap w' h2 h3 h4 h5
  refine h g cap w' ⟨?_, hW.2.grown h3 hW.2.size (fun k hk => (hW.1.lt k hk).1)⟩ h3 h4
  rw [List.length_append, List.map_append]
  exact h2

theorem append_nums {ops : Array Oper} {rest : List Oper} {o : Oper} {a : Act} {Q : Exit → Act → World → Prop} (w : World) (hgd : o.guard = none) (s x : Operand)
    (ho : o.op = .call { callee := .builtin .append, args := #[s, x], argTypes := #[76, 76] })
    (W0 : World) (v : Value) (l : List Int) (hs : a.eval s = v) (hW : OwnI W0 w v l) (n : Int) (ad : Addr) (hx : a.eval x = .slice (some ad) 1 1) (hnews : w.cell? ad = some (.int .i64 n)) (hsz : l.length + 1 ≤ 1000000)
    (h : ∀ g cap w', OwnI W0 w' (.slice (some ⟨g, 0, none⟩) (l.length + 1) cap) (l ++ [n]) → w.grownBy w' v.ownBlock → (v.ownBlock = some g ∨ g = w.heap.size) → wpList Tryd.prog ops Q rest (a.put o.dst (.slice (some ⟨g, 0, none⟩) (l.length + 1) cap)) w') : wpList Tryd.prog ops Q (o :: rest) a w := by
  obtain ⟨i0, hi, hz0, hz1, hz2⟩ := info_parts infoInt
  refine wpList_append_lies w hgd s x 76 ho W0.heap.size 3 i0 (.int .i64 0) 1 8 Tryd.underlying76 hi hz0 hz1 hz2 rfl (by omega) v l.length (l.map (Value.int .i64)) hs hW.1 ad 1 1 [.int .i64 n] hx rfl ?_ ?_ (by omega) (by unfold maxLen; omega) (by omega) hW.2.size w.heap.size rfl ?_
  · intro j u hj
    match j, hj with
    | 0, hj => simp at hj; subst hj; simpa [Addr.add] using hnews
  · intro u hu
    simp at hu
    subst hu
    rfl
  intro g cap w' h2 h3 h4 h5
  refine h g cap w' ⟨?_, hW.2.grown h3 hW.2.size (fun k hk => (hW.1.lt k hk).1)⟩ h3 h4
  rw [List.length_append, List.map_append]
  exact h2

/-- Is this record the one of its value? -/
theorem rec_eq (l : List UInt8) (n : Nat) (h : l.length = 3 + n) (hn : n ≤ 200) (h0 : (l.getD 0 0).toNat = n) : (l = recOf (l.drop 3)) ↔ sumOk l = true := by
  match l, h with
  | [], h => simp at h; omega
  | [_], h => simp at h; omega
  | [_, _], h => simp at h; omega
  | x0 :: x1 :: x2 :: r, h =>
    have hr : r.length = n := by simp at h; omega
    obtain ⟨s0, s1⟩ := sumF_range r 7 (by decide) (by decide)
    have e0 : x0 = UInt8.ofNat r.length := by
      apply UInt8.toNat_inj.1
      rw [u8_nat r.length (by omega), hr]
      simpa using h0
    unfold recOf sumOk
    simp only [List.drop_succ_cons, List.drop_zero, List.getD_cons_succ, List.getD_cons_zero, decide_eq_true_eq]
    generalize sumF r 7 = S at *
    have b1 := x1.toNat_lt
    have b2 := x2.toNat_lt
    constructor
    · intro h2
      simp only [List.cons.injEq] at h2
      obtain ⟨_, h3, h4, _⟩ := h2
      have e1 : x1.toNat = (S / 256).toNat := by rw [h3, u8_nat (S / 256).toNat (by omega)]
      have e2 : x2.toNat = (S % 256).toNat := by rw [h4, u8_nat (S % 256).toNat (by omega)]
      omega
    · intro h2
      have e1 : x1 = UInt8.ofNat (S / 256).toNat := by apply UInt8.toNat_inj.1; rw [u8_nat (S / 256).toNat (by omega)]; omega
      have e2 : x2 = UInt8.ofNat (S % 256).toNat := by apply UInt8.toNat_inj.1; rw [u8_nat (S % 256).toNat (by omega)]; omega
      rw [← e0, ← e1, ← e2]

end Go.Proofs.YtogpkbhjobhodaaDoor
