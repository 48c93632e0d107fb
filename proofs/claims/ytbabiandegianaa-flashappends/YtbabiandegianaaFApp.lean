/- What flash.Append does, over plain lists; the laws of its walk. -/
import Derived.Test.YtbabiandegianaaFRoom
import Derived.Test.YtbabiandegianaaFRefd
import Derived.Test.YtbabiandegianaaFOf
import Derived.Test.YtbabiandegianaaFCopyO
import Derived.Test.YtbabiandegianaaFReadR
namespace Go.Proofs.Ytbabiandegianaa
open Go.ChangeShapes Go.WideShapes Go.ChangeAt Go.RowKit
set_option linter.unusedVariables false
set_option linter.unusedSimpArgs false

/-- Bytes behind those of the last page. -/
def lastP : List PageR → List UInt8 → List PageR
  | [], _ => []
  | [p], R => [⟨p.num, p.bs ++ R⟩]
  | p :: q :: r, R => p :: lastP (q :: r) R
theorem lastP_snoc : ∀ (l : List PageR) (p : PageR) (R : List UInt8), lastP (l ++ [p]) R = l ++ [⟨p.num, p.bs ++ R⟩]
  | [], p, R => rfl
  | [q], p, R => rfl
  | q :: q2 :: r, p, R => by
    show q :: lastP (q2 :: r ++ [p]) R = _
    rw [lastP_snoc (q2 :: r) p R]
    rfl
/-- What an append gives: the pages, the next number, the place, which page had to go. -/
structure AppR where
  pages : List PageR
  fx : Int
  page : Int
  at_ : Int
  gone : Int
def appF (m x : Int) (ps : List PageR) (R : List UInt8) : AppR :=
  let r := roomP m x ps R.length
  ⟨lastP r.1 R, r.2.1, (r.1.getLastD default).num, (r.1.getLastD default).bs.length, r.2.2⟩

theorem recOf_len (l : List UInt8) : (recOf l).length = 3 + l.length := by unfold recOf; simp; omega

/-- 'append(p.Bytes, rec...)' in a plain region. -/
theorem append_bytesO {ops : Array Oper} {rest : List Oper} {o : Oper} {a : Act} {Q : Exit → Act → World → Prop} (w : World) (hgd : o.guard = none) (s x : Operand)
    (ho : o.op = .call { callee := .builtin .append, args := #[s, x], argTypes := #[38, 38] }) (num : Int) (bs : List UInt8) (v : Value) (hs : a.eval s = v) (hq : OwnBy 0 w (⟨num, bs⟩, v)) (R : List UInt8) (b off c : Nat) (hx : a.eval x = .slice (some ⟨b, off, none⟩) R.length c)
    (hR : BytesAt w (some ⟨b, off, none⟩) R) (hp : 0 < R.length) (hsz : bs.length + R.length ≤ 1000000)
    (h : ∀ g cap w', OwnBy 0 w' (⟨num, bs ++ R⟩, .slice (some ⟨g, 0, none⟩) (bs.length + R.length) cap) → w.grownBy w' v.ownBlock → (v.ownBlock = some g ∨ g = w.heap.size) → wpList Try.prog ops Q rest (a.put o.dst (.slice (some ⟨g, 0, none⟩) (bs.length + R.length) cap)) w') : wpList Try.prog ops Q (o :: rest) a w := by
  obtain ⟨i0, hi, hz0, hz1, hz2⟩ := info_parts infoByte
  refine wpList_append_lies w hgd s x 38 ho 0 5 i0 _ 1 1 Try.underlying38 hi hz0 hz1 hz2 rfl (by omega) v bs.length (byteVs bs) hs hq ⟨b, off, none⟩ R.length c (byteVs R) hx (by simp [byteVs]) ?_ ?_ hp (by unfold maxLen; omega) (by omega) (Nat.zero_le _) w.heap.size rfl ?_
  · intro j u hj
    unfold byteVs at hj
    rw [List.getElem?_map, Option.map_eq_some_iff] at hj
    obtain ⟨y, hy, rfl⟩ := hj
    obtain ⟨hjl, hje⟩ := List.getElem?_eq_some_iff.1 hy
    rcases hR.2 with h0 | ⟨b2, o2, hb2, _, hc⟩
    · omega
    cases hb2
    rw [WideShapes.add_plain, hc j hjl, List.getD_eq_getElem?_getD, hy]
    rfl
  · intro u hu
    unfold byteVs at hu
    obtain ⟨y, _, rfl⟩ := List.mem_map.1 hu
    rfl
  intro g cap w' h2 h3 h4 h5
  refine h g cap w' ?_ h3 h4
  unfold OwnBy
  simp only
  rw [List.length_append]
  have e : byteVs (bs ++ R) = byteVs bs ++ byteVs R := by unfold byteVs; rw [List.map_append]
  rw [e]
  exact h2

theorem flat_set : ∀ (l : List (PageR × Value)) (q : PageR × Value) (bs : List UInt8) (u : Value), ((l ++ [q]).flatMap pgCells).set (l.length * 2 + 1) u = (l ++ [((⟨q.1.num, bs⟩ : PageR), u)]).flatMap pgCells
  | [], q, bs, u => rfl
  | p :: r, q, bs, u => by
    have ih := flat_set r q bs u
    rw [List.cons_append, List.flatMap_cons, List.cons_append, List.flatMap_cons, List.length_cons, ← ih]
    show (Value.int .i64 p.1.num :: p.2 :: _).set ((r.length + 1) * 2 + 1) u = _
    rw [show (r.length + 1) * 2 + 1 = r.length * 2 + 1 + 1 + 1 by omega]
    rfl

/-- The last page with other bytes. -/
theorem PgO.last {O O' : Nat → Prop} {w w' : World} {l : List (PageR × Value)} {q : PageR × Value} {gr cp g n cap : Nat} {bs : List UInt8} (h : PgO O w (.slice (some ⟨gr, 0, none⟩) (l.length + 1) cp) (l ++ [q])) (hown : OwnBy 0 w' (⟨q.1.num, bs⟩, .slice (some ⟨g, 0, none⟩) n cap)) (hgr : w.grownBy w' q.2.ownBlock) (hat : q.2.ownBlock = some g ∨ g = w.heap.size)
    (ho : ∀ b, O b → O' b) (hg : O' g) : PgO O' (w'.setCell ⟨gr, l.length * 2 + 1, none⟩ (.slice (some ⟨g, 0, none⟩) n cap)) (.slice (some ⟨gr, 0, none⟩) (l.length + 1) cp) (l ++ [((⟨q.1.num, bs⟩ : PageR), .slice (some ⟨g, 0, none⟩) n cap)]) := by
  obtain ⟨⟨h1, h2, h3, h4⟩, h5, h6⟩ := h
  have hqm : q ∈ l ++ [q] := by simp
  have hgw : gr < w.heap.size := (World.ownsRow.lt h1 gr rfl).2
  have hne : ∀ x ∈ l ++ [q], ∀ b, x.2.ownBlock = some b → b ≠ gr := fun x hx b hb e => h3 x hx b hb (by rw [e]; rfl)
  have hgg : g ≠ gr := by
    rcases hat with e | e
    · exact hne q hqm g e
    · omega
  have hr1 : w'.ownsRow 0 40 2 (.slice (some ⟨gr, 0, none⟩) (l.length + 1) cp) (l.length + 1) ((l ++ [q]).flatMap pgCells) := by
    have := World.ownsRow.kept h1 hgr (Or.inr (fun e => hne q hqm gr e.symm rfl))
    rw [List.length_append] at this
    exact this
  have hr2 := (hr1.stored (l.length * 2 + 1) (.slice (some ⟨g, 0, none⟩) n cap)).1
  rw [flat_set l q bs] at hr2
  have hpw := List.pairwise_append.1 h4
  have hset : ∀ x : PageR × Value, OwnBy 0 w' x → (∀ b, x.2.ownBlock = some b → b ≠ gr) → OwnBy 0 (w'.setCell ⟨gr, l.length * 2 + 1, none⟩ (.slice (some ⟨g, 0, none⟩) n cap)) x := fun x hx hb => hx.kept fun b hb' _ => heap_setCell_other w' ⟨gr, l.length * 2 + 1, none⟩ b _ (hb b hb')
  have hold : ∀ x ∈ l, OwnBy 0 w' x := fun x hx => (h2 x (by simp [hx])).kept fun b hb hl => hgr.block b hl (fun e => hpw.2.2 x hx q (by simp) b hb e.symm)
  refine ⟨⟨by rw [List.length_append]; exact hr2, fun x hx => ?_, fun x hx b hb e => ?_, ?_⟩, fun b hb => ho b (h5 b hb), fun x hx b hb => ?_⟩
  · rcases List.mem_append.1 hx with hx | hx
    · exact hset x (hold x hx) (hne x (by simp [hx]))
    · simp at hx; subst hx
      exact hset _ hown (fun b hb => by have e : g = b := by simpa [Value.ownBlock] using hb
                                        omega)
  · have e' : gr = b := by simpa [Value.ownBlock] using e
    rcases List.mem_append.1 hx with hx | hx
    · exact hne x (by simp [hx]) b hb e'.symm
    · simp at hx; subst hx
      have e2 : g = b := by simpa [Value.ownBlock] using hb
      omega
  · rw [List.pairwise_append]
    refine ⟨hpw.1, List.pairwise_singleton _ _, fun x hx y hy b hb e => ?_⟩
    simp at hy
    subst hy
    have e2 : g = b := by simpa [Value.ownBlock] using e
    subst e2
    rcases hat with e3 | e3
    · exact hpw.2.2 x hx q (by simp) g hb e3
    · have := ((h2 x (by simp [hx])).lt g hb).2
      omega
  · rcases List.mem_append.1 hx with hx | hx
    · exact ho b (h6 x (by simp [hx]) b hb)
    · simp at hx; subst hx
      have e2 : g = b := by simpa [Value.ownBlock] using hb
      exact e2 ▸ hg
end Go.Proofs.Ytbabiandegianaa
