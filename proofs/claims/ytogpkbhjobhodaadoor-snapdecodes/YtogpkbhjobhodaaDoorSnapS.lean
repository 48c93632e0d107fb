/- 'append(b, s...)' of a text, and of a row of bytes, onto a row of the call's own. -/
import Derived.Test.YtogpkbhjobhodaaDoorSnapN
import Derived.Lib.AppendStr
namespace Go.Proofs.YtogpkbhjobhodaaDoor
open Go.ChangeShapes Go.WideShapes Go.ChangeAt Go.RowKit
set_option linter.unusedVariables false
set_option linter.unusedSimpArgs false

theorem ownsRow_base {w : World} {b b' : Nat} {e : TypeId} {size : Nat} {v : Value} {n : Nat} {xs : List Value} (h : w.ownsRow b e size v n xs) (hb : b' ≤ b) : w.ownsRow b' e size v n xs := by
  refine ⟨h.1, ?_⟩
  rcases h.2 with h0 | ⟨g, cap, cur, hv, hg, hc⟩
  · exact Or.inl h0
  · exact Or.inr ⟨g, cap, cur, hv, Nat.le_trans hb hg, hc⟩
theorem RowB.base {w : World} {b b' : Nat} {v : Value} {l : List UInt8} (h : RowB b w v l) (hb : b' ≤ b) : RowB b' w v l := ownsRow_base h hb
theorem RowB.lt {w : World} {b : Nat} {v : Value} {l : List UInt8} (h : RowB b w v l) : ∀ k, v.ownBlock = some k → b ≤ k ∧ k < w.heap.size := World.ownsRow.lt h

theorem cellsOf_str (s : ByteArray) : Lib.strCells s = cellsOf s.data.toList := rfl
theorem str_len (s : ByteArray) : s.data.toList.length = s.size := by rw [Array.length_toList]; rfl

theorem run_append_str (w : World) (ty : TypeId) (n : Nat) (v : Value) (l : List UInt8) (hW : RowB n w v l) (s : ByteArray) (hn : n ≤ w.heap.size) (hsz : l.length + s.size ≤ 140737488351232) :
    ∃ v' w', (Builtin.append_ #[22, 9] ty #[v, .string s]).run Tryd.prog w = .ok v' w' ∧ RowB n w' v' (l ++ s.data.toList) ∧ Grew w v w' v' := by
  obtain ⟨i0, hi, hz0, hz1, hz2⟩ := info_parts infoByte
  have hm : l.length + s.size ≤ maxLen := by unfold maxLen; omega
  rcases hW.2 with ⟨rfl, h0⟩ | ⟨g, cap, cur, rfl, hbg, hg, hnc, hcm, hcs, htake⟩
  · have hl : l = [] := List.length_eq_zero_iff.1 h0
    subst hl
    obtain ⟨v', w', hr, h2, h3, h4⟩ := Lib.run_append_own_string (P := Tryd.prog) w w.heap.size 22 9 ty 5 i0 Tryd.underlying22 Tryd.underlying9 hi hz0 hz1 hz2 (.slice none 0 0) 0 [] (World.ownsRow_nil _ _ _ _) s (by simpa using hm) (by simp at hsz; omega) (Nat.le_refl _)
    refine ⟨v', w', hr, ?_, h3, ?_⟩
    · unfold RowB
      rw [List.nil_append, str_len]
      have := ownsRow_base h2 hn
      rw [Nat.zero_add, List.nil_append] at this
      exact this
    · cases hv : v'.ownBlock with
      | none => exact Or.inl rfl
      | some g => exact Or.inr ⟨g, rfl, (h2.lt g hv).1⟩
  · obtain ⟨v', w', hr, h2, h3, h4⟩ := Lib.run_append_own_string (P := Tryd.prog) w n 22 9 ty 5 i0 Tryd.underlying22 Tryd.underlying9 hi hz0 hz1 hz2 _ l.length (cellsOf l) hW s hm (by omega) hn
    refine ⟨v', w', hr, ?_, h3, ?_⟩
    · unfold RowB
      rw [List.length_append, str_len]
      have e : cellsOf (l ++ s.data.toList) = cellsOf l ++ Lib.strCells s := by unfold cellsOf; rw [List.map_append]; rfl
      rw [e]
      exact h2
    · by_cases hroom : l.length + s.size ≤ cap
      · have hcs' : cur.size = cap := by simpa using hcs
        have hr2 := Lib.run_append_room_string (P := Tryd.prog) w 22 9 ty 5 i0 Tryd.underlying22 Tryd.underlying9 hi hz1 g l.length cap cur hg s hroom (by omega)
        rw [hr] at hr2
        injection hr2 with e1 e2
        subst e1
        exact Or.inl rfl
      · have holds : ∀ j u, (cellsOf l)[j]? = some u → w.cell? ((⟨g, 0, none⟩ : Addr).add j) = some u := World.ownsRow.cells hW (g := g) rfl
        have hr2 := Lib.run_append_grow_string (P := Tryd.prog) w 22 9 ty 5 i0 (.int .u8 0) Tryd.underlying22 Tryd.underlying9 hi hz0 ⟨g, 0, none⟩ l.length cap (cellsOf l) (by rw [hz1]; simp [cellsOf]) holds s (by omega) (by omega) (by rw [hz2]; exact growslice_fits (by omega) (by omega))
        rw [hr] at hr2
        injection hr2 with e1 e2
        subst e1
        exact Or.inr ⟨_, rfl, Nat.le_refl _⟩

theorem append_str {ops : Array Oper} {rest : List Oper} {o : Oper} {a : Act} {Q : Exit → Act → World → Prop} (w : World) (hgd : o.guard = none) (sl x : Operand)
    (ho : o.op = .call { callee := .builtin .append, args := #[sl, x], argTypes := #[22, 9] })
    (n : Nat) (v : Value) (l : List UInt8) (hs : a.eval sl = v) (hW : RowB n w v l) (s : ByteArray) (hx : a.eval x = .string s) (hn : n ≤ w.heap.size) (hsz : l.length + s.size ≤ 140737488351232)
    (h : ∀ v' w', RowB n w' v' (l ++ s.data.toList) → Grew w v w' v' → wpList Tryd.prog ops Q rest (a.put o.dst v') w') : wpList Tryd.prog ops Q (o :: rest) a w := by
  refine wpList_plain hgd fun K hK => ?_
  obtain ⟨v', w', hr, h2, h3⟩ := run_append_str w o.type n v l hW s hn hsz
  unfold Oper.wp execOp
  simp only [ho, resolve, invoke, builtin, Sem.run_bind, Sem.run_pure, Result.andThen_ok, List.map_toArray, List.map_cons, List.map_nil, hs, hx, hr]
  exact hK _ _ (h v' w' h2 h3)

/-- 'append(b, c...)', c bytes that lie in memory, at least one. -/
theorem append_row {ops : Array Oper} {rest : List Oper} {o : Oper} {a : Act} {Q : Exit → Act → World → Prop} (w : World) (hgd : o.guard = none) (s x : Operand)
    (ho : o.op = .call { callee := .builtin .append, args := #[s, x], argTypes := #[22, 22] })
    (n : Nat) (v : Value) (l : List UInt8) (hs : a.eval s = v) (hW : RowB n w v l) (k : Nat) (u : Value) (ys : List UInt8) (hx : a.eval x = u) (hY : RowB k w u ys) (h0 : 0 < ys.length) (hn : n ≤ w.heap.size) (hsz : l.length + ys.length ≤ 140737488351232)
    (h : ∀ v' w', RowB n w' v' (l ++ ys) → Grew w v w' v' → wpList Tryd.prog ops Q rest (a.put o.dst v') w') : wpList Tryd.prog ops Q (o :: rest) a w := by
  obtain ⟨i0, hi, hz0, hz1, hz2⟩ := info_parts infoByte
  obtain ⟨g0, cap0, rfl, _, _⟩ := World.ownsRow.form hY h0
  refine wpList_append_lies w hgd s x 22 ho n 5 i0 _ 1 1 Tryd.underlying22 hi hz0 hz1 hz2 rfl (by omega) v l.length (cellsOf l) hs hW ⟨g0, 0, none⟩ ys.length cap0 (cellsOf ys) hx (by simp [cellsOf]) (World.ownsRow.cells hY rfl) ?_ h0 (by unfold maxLen; omega) (by omega) hn w.heap.size rfl ?_
  · intro u hu
    simp only [cellsOf, List.mem_map] at hu
    obtain ⟨b, _, rfl⟩ := hu
    rfl
  intro g cap w' h2 h3 h4 h5
  refine h _ w' ?_ ⟨h3, ?_⟩
  · unfold RowB cellsOf at *
    rw [List.length_append, List.map_append]
    exact h2
  · rcases h4 with h4 | h4
    · exact Or.inl (by rw [h4]; rfl)
    · exact Or.inr ⟨g, rfl, by omega⟩
end Go.Proofs.YtogpkbhjobhodaaDoor
