/- Lists of texts in memory of the call's own: 'WordsAt', and what an append does to them. -/
import Derived.Test.YtkjfkonekajffaaDoorOpenReq
import Derived.Deep.AppendLies
import Derived.OwnWalk
namespace Go.Proofs.YtkjfkonekajffaaDoor
open Go.ChangeShapes Go.WideShapes Go.ChangeAt Go.RowKit
set_option linter.unusedVariables false

theorem infoStr : (Tryd.prog.info? 9).map (fun i => (i.zero, i.size, i.bytes)) = some (some (.string ByteArray.empty), 1, 16) := by kernel_rfl

/-- The slice 'v' holds the texts 'l' in memory that was made behind the world W0; what lay in W0 lies as it did. -/
def WordsAt (W0 w : World) (v : Value) (l : List ByteArray) : Prop :=
  w.ownsRow W0.heap.size 9 1 v l.length (l.map Value.string) ∧ Below W0.heap.size W0 w

theorem ownsRow_later {w w1 : World} {base : Nat} {e : TypeId} {size : Nat} {v : Value} {n : Nat} {xs : List Value} (h : w.ownsRow base e size v n xs) (hb : Below w.heap.size w w1) : w1.ownsRow base e size v n xs := by
  obtain ⟨h1, h2⟩ := h
  refine ⟨h1, ?_⟩
  rcases h2 with h2 | ⟨g, cap, cur, hv, hg, hh, r⟩
  · exact Or.inl h2
  · refine Or.inr ⟨g, cap, cur, hv, hg, ?_, r⟩
    rw [hb.block g ?_]
    · exact hh
    · rcases Nat.lt_or_ge g w.heap.size with h' | h'
      · exact h'
      · rw [Array.getElem?_eq_none h'] at hh; cases hh

theorem WordsAt.later {W0 w w1 : World} {v : Value} {l : List ByteArray} (h : WordsAt W0 w v l) (hb : Below w.heap.size w w1) : WordsAt W0 w1 v l :=
  ⟨ownsRow_later h.1 hb, h.2.trans (hb.mono h.2.size)⟩
theorem WordsAt.alloc {W0 w : World} {v : Value} {l : List ByteArray} (h : WordsAt W0 w v l) (o : Obj) : WordsAt W0 (w.alloc o) v l :=
  h.later ((Below.refl _ _).alloc (Nat.le_refl _) o)
theorem WordsAt.drew {W0 w : World} {v : Value} {l : List ByteArray} (h : WordsAt W0 w v l) : WordsAt W0 w.drew v l := ⟨h.1, h.2.drew⟩

/-- 'words = append(words, ..)', at a plain region's list. -/
theorem append_words {ops : Array Oper} {rest : List Oper} {o : Oper} {a : Act} {Q : Exit → Act → World → Prop} (w : World) (hgd : o.guard = none) (s x : Operand)
    (ho : o.op = .call { callee := .builtin .append, args := #[s, x], argTypes := #[22, 22] })
    (W0 : World) (v : Value) (l : List ByteArray) (hs : a.eval s = v) (hW : WordsAt W0 w v l)
    (ad : Addr) (m c : Nat) (news : List ByteArray) (hx : a.eval x = .slice (some ad) m c) (hl : news.length = m) (hnews : ∀ j u, news[j]? = some u → w.cell? (ad.add j) = some (.string u))
    (hm : 0 < m) (hsz : l.length + m ≤ 1000000)
    (h : ∀ g cap w', WordsAt W0 w' (.slice (some ⟨g, 0, none⟩) (l.length + m) cap) (l ++ news) → wpList Tryd.prog ops Q rest (a.put o.dst (.slice (some ⟨g, 0, none⟩) (l.length + m) cap)) w') : wpList Tryd.prog ops Q (o :: rest) a w := by
  obtain ⟨i0, hi, hz0, hz1, hz2⟩ := info_parts infoStr
  refine wpList_append_lies w hgd s x 22 ho W0.heap.size 9 i0 (.string ByteArray.empty) 1 16 Tryd.underlying22 hi hz0 hz1 hz2 rfl (by omega) v l.length (l.map Value.string) hs hW.1 ad m c (news.map Value.string) hx (by simp [hl]) ?_ ?_ hm (by unfold maxLen; omega) (by omega) hW.2.size w.heap.size rfl ?_
  · intro j u hj
    rw [List.getElem?_map, Option.map_eq_some_iff] at hj
    obtain ⟨y, hy, rfl⟩ := hj
    exact hnews j y hy
  · intro u hu
    obtain ⟨y, _, rfl⟩ := List.mem_map.1 hu
    rfl
  intro g cap w' h2 h3 h4 h5
  refine h g cap w' ⟨?_, hW.2.grown h3 hW.2.size (fun k hk => (hW.1.lt k hk).1)⟩
  rw [List.length_append, hl, List.map_append]
  exact h2

/-- The same at a step of a region that draws its order. -/
theorem append_words_step {ops : Array Oper} {o : Oper} {a : Act} {K : Act → World → Prop} {Q : Exit → Act → World → Prop} {E : Prop} (w : World) (hgd : o.guard = none) (s x : Operand)
    (ho : o.op = .call { callee := .builtin .append, args := #[s, x], argTypes := #[22, 22] })
    (W0 : World) (v : Value) (l : List ByteArray) (hs : a.eval s = v) (hW : WordsAt W0 w v l)
    (ad : Addr) (m c : Nat) (news : List ByteArray) (hx : a.eval x = .slice (some ad) m c) (hl : news.length = m) (hnews : ∀ j u, news[j]? = some u → w.cell? (ad.add j) = some (.string u))
    (hm : 0 < m) (hsz : l.length + m ≤ 1000000)
    (h : ∀ g cap w', WordsAt W0 w' (.slice (some ⟨g, 0, none⟩) (l.length + m) cap) (l ++ news) → K (a.put o.dst (.slice (some ⟨g, 0, none⟩) (l.length + m) cap)) w') :
    if Region.wanted o (yielded ops a.tmps) = true then Oper.wp Tryd.prog o a w K Q else E := by
  obtain ⟨i0, hi, hz0, hz1, hz2⟩ := info_parts infoStr
  refine step_append_lies w hgd s x 22 ho W0.heap.size 9 i0 (.string ByteArray.empty) 1 16 Tryd.underlying22 hi hz0 hz1 hz2 rfl (by omega) v l.length (l.map Value.string) hs hW.1 ad m c (news.map Value.string) hx (by simp [hl]) ?_ ?_ hm (by unfold maxLen; omega) (by omega) hW.2.size w.heap.size rfl ?_
  · intro j u hj
    rw [List.getElem?_map, Option.map_eq_some_iff] at hj
    obtain ⟨y, hy, rfl⟩ := hj
    exact hnews j y hy
  · intro u hu
    obtain ⟨y, _, rfl⟩ := List.mem_map.1 hu
    rfl
  intro g cap w' h2 h3 h4 h5
  refine h g cap w' ⟨?_, hW.2.grown h3 hW.2.size (fun k hk => (hW.1.lt k hk).1)⟩
  rw [List.length_append, hl, List.map_append]
  exact h2
end Go.Proofs.YtkjfkonekajffaaDoor
