/- The contract of dovecoteref.FlashCopy once more: rows of the call's own. -/
import Derived.Test.YtbabiandegianaaFCopyO
import Derived.Test.YtbabiandegianaaRegRel
import Derived.Deep.RegionLaw
namespace Go.Proofs.Ytbabiandegianaa
open Go.ChangeShapes Go.WideShapes Go.ChangeAt Go.RowKit
set_option linter.unusedVariables false
set_option linter.unusedSimpArgs false

/-- Behind so many rounds: the pages l in a row of the call's own, the three boxes. -/
def RG (m x : Int) (ps : List PageR) (a : Option Addr) (c : Nat) (w : World) (k : Nat) (v : Value) (l : List (PageR × Value)) (wr : World) : Prop :=
  l.map (·.1) = ps.take k ∧ PgOwn (w.heap.size + 3) wr v l ∧ TB 24 wr w.heap.size #[.int .i64 m, .int .i64 x, .slice a ps.length c] ∧ TB 24 wr (w.heap.size + 1) #[.int .i64 0, .int .i64 0, .slice none 0 0] ∧ TB 24 wr (w.heap.size + 1 + 1) #[.int .i64 m, .int .i64 x, v] ∧ Below w.heap.size w wr

theorem RG.later {m x : Int} {ps : List PageR} {a : Option Addr} {c : Nat} {w : World} {k : Nat} {v : Value} {l : List (PageR × Value)} {wr w' : World} (h : RG m x ps a c w k v l wr) (hb : Below wr.heap.size wr w') : RG m x ps a c w k v l w' := by
  obtain ⟨h1, h2, h3, h4, h5, h6⟩ := h
  exact ⟨h1, h2.later hb, h3.later hb, h4.later hb, h5.later hb, h6.trans (hb.mono h6.size)⟩

theorem PgOwn.vlt {n : Nat} {w : World} {v : Value} {l : List (PageR × Value)} (h : PgOwn n w v l) : ∀ g, v.ownBlock = some g → n ≤ g ∧ g < w.heap.size := fun g hg => World.ownsRow.lt h.1 g hg

/-- 'append([]byte(nil), b...)' at a step of a region that draws: the same bytes, in a row of its own. -/
theorem append_cloneO_step {ops : Array Oper} {o : Oper} {a : Act} {K : Act → World → Prop} {Q : Exit → Act → World → Prop} {E : Prop} (w : World) (hgd : o.guard = none) (s x : Operand)
    (ho : o.op = .call { callee := .builtin .append, args := #[s, x], argTypes := #[38, 38] }) (hs : a.eval s = .slice none 0 0) (num : Int)
    (l : List UInt8) (ad : Option Addr) (c : Nat) (hx : a.eval x = .slice ad l.length c) (hB : BytesAt w ad l) (hsz : l.length ≤ 140737488351232)
    (h : ∀ a2 c2 w', Below w.heap.size w w' → OwnBy w.heap.size w' (⟨num, l⟩, .slice a2 l.length c2) → K (a.put o.dst (.slice a2 l.length c2)) w') :
    if Region.wanted o (yielded ops a.tmps) = true then Oper.wp Try.prog o a w K Q else E := by
  rcases Nat.eq_zero_or_pos l.length with hz | hp
  · have hl : l = [] := List.length_eq_zero_iff.1 hz
    subst hl
    exact append_none_step w hgd s x ho hs ad c hx (h none 0 w (Below.refl _ _) (World.ownsRow_nil _ _ _ _))
  · refine append_copy_step w hgd s x ho hs l ad c hx hB hp hsz ?_
    intro g cap w' hO hg
    exact h _ _ w' (made_keeps hg) hO.1

/-- 'append(out, Page{..})' at a step of a region that draws. -/
theorem append_pgO_step {ops : Array Oper} {o : Oper} {a : Act} {K : Act → World → Prop} {Q : Exit → Act → World → Prop} {E : Prop} (w : World) (hgd : o.guard = none) (s x : Operand)
    (ho : o.op = .call { callee := .builtin .append, args := #[s, x], argTypes := #[22, 22] }) (n : Nat) (v : Value) (l : List (PageR × Value)) (hs : a.eval s = v) (hW : PgOwn n w v l) (q : PageR × Value) (B : Nat) (hx : a.eval x = .slice (some ⟨B, 0, none⟩) 1 1)
    (hB : w.heap[B]? = some (.cells (pgCells q).toArray 40 (0, 0))) (hq : OwnBy n w q) (hqa : ∀ b, q.2.ownBlock = some b → v.ownBlock ≠ some b ∧ ∀ y ∈ l, y.2.ownBlock ≠ some b) (hone : q.2.oneCell' = true) (hn : n ≤ w.heap.size) (hsz : (l.length + 1) * 32 ≤ 140737488351232)
    (h : ∀ g cap w', PgOwn n w' (.slice (some ⟨g, 0, none⟩) (l.length + 1) cap) (l ++ [q]) → w.grownBy w' v.ownBlock → K (a.put o.dst (.slice (some ⟨g, 0, none⟩) (l.length + 1) cap)) w') :
    if Region.wanted o (yielded ops a.tmps) = true then Oper.wp Try.prog o a w K Q else E := by
  obtain ⟨i0, hi, hz0, hz1, hz2⟩ := info_parts infoPage
  have hP := hW.toO.mono (O' := fun b => n ≤ b) (fun b hb => hb.1)
  refine step_append_lies w hgd s x 22 ho 0 40 i0 _ 2 32 Try.underlying22 hi hz0 hz1 hz2 rfl (by omega) v l.length (l.flatMap pgCells) hs hP.1.1 ⟨B, 0, none⟩ 1 1 (pgCells q) hx rfl ?_ ?_ (by omega) (by unfold maxLen; omega) (by omega) (Nat.zero_le _) w.heap.size rfl ?_
  · exact World.news_of_block hB
  · intro u hu
    simp [pgCells] at hu
    rcases hu with rfl | rfl
    · rfl
    · exact hone
  intro g cap w' h2 h3 h4 h5
  refine h g cap w' ((hP.snoc (O' := fun b => n ≤ b) h2 h3 h4 (World.ownsRow.mono hq (Nat.zero_le _)) (fun b hb => ⟨(hqa b hb).1, (hqa b hb).2, (hq.lt b hb).1⟩) (fun b hb => hb) ?_).toOwn (fun b hb => hb)) h3
  rcases h4 with e | e
  · exact (hW.vlt g e).1
  · show n ≤ g; omega

theorem RG.step {m x : Int} {ps : List PageR} {a : Option Addr} {c : Nat} {w : World} {k : Nat} {v v' : Value} {l : List (PageR × Value)} {wr w' : World} {p : PageR × Value} (h : RG m x ps a c w k v l wr) (hp : ps.take k ++ [p.1] = ps.take (k + 1)) (hO : PgOwn (w.heap.size + 3) w' v' (l ++ [p])) (hg : wr.grownBy w' v.ownBlock) :
    RG m x ps a c w (k + 1) v' (l ++ [p]) (w'.setCell ⟨w.heap.size + 1 + 1, 2, none⟩ v') := by
  obtain ⟨h1, h2, h3, h4, h5, h6⟩ := h
  have hlt := h2.vlt
  have kb : ∀ b, b < w.heap.size + 3 → b < wr.heap.size → w'.heap[b]? = wr.heap[b]? := fun b hb hl => hg.block b hl (fun e => by have := (hlt b e.symm).1; omega)
  have t3 : TB 24 w' w.heap.size #[.int .i64 m, .int .i64 x, .slice a ps.length c] := by unfold TB; rw [kb _ (by omega) h3.lt]; exact h3
  have t4 : TB 24 w' (w.heap.size + 1) #[.int .i64 0, .int .i64 0, .slice none 0 0] := by unfold TB; rw [kb _ (by omega) h4.lt]; exact h4
  have t5 : TB 24 w' (w.heap.size + 1 + 1) #[.int .i64 m, .int .i64 x, v] := by unfold TB; rw [kb _ (by omega) h5.lt]; exact h5
  refine ⟨by rw [List.map_append, h1]; exact hp, ?_, t3.far _ _ (show w.heap.size ≠ w.heap.size + 1 + 1 by omega), t4.far _ _ (show w.heap.size + 1 ≠ w.heap.size + 1 + 1 by omega), t5.set 2 v', ?_⟩
  · refine hO.kept fun b hb hl => ?_
    exact heap_setCell_other _ _ _ _ (show b ≠ w.heap.size + 1 + 1 by omega)
  · exact (h6.grown hg h6.size (fun g hg' => by have := (hlt g hg').1; omega)).setCell (show w.heap.size ≤ w.heap.size + 1 + 1 by omega) _

theorem OwnBy.new {n : Nat} {w0 w w1 : World} {v : Value} {l : List (PageR × Value)} {q : PageR × Value} (hO : PgOwn n w0 v l) (hn : n ≤ w0.heap.size) (hq : OwnBy w0.heap.size w q) (hb : Below w.heap.size w w1) : OwnBy n w1 q ∧ ∀ b, q.2.ownBlock = some b → v.ownBlock ≠ some b ∧ ∀ y ∈ l, y.2.ownBlock ≠ some b := by
  refine ⟨World.ownsRow.mono (hq.kept fun g _ hl => hb.block g hl) hn, fun b hb' => ?_⟩
  have := (hq.lt b hb').1
  exact ⟨fun e => by have := (hO.vlt b e).2; omega, fun y hy e => by have := ((hO.2.1 y hy).lt b e).2; omega⟩

theorem RG.out {m x : Int} {ps : List PageR} {a : Option Addr} {c : Nat} {w : World} {k : Nat} {v : Value} {l : List (PageR × Value)} {wr w' : World} (h : RG m x ps a c w k v l wr) (hg : wr.grownBy w' v.ownBlock) : w'.cell? ⟨w.heap.size + 1 + 1, 2, none⟩ = some v ∧ w'.frozen? ⟨w.heap.size + 1 + 1, 2, none⟩ = false := by
  obtain ⟨h1, h2, h3, h4, h5, h6⟩ := h
  have t5 : TB 24 w' (w.heap.size + 1 + 1) #[.int .i64 m, .int .i64 x, v] := by
    unfold TB
    rw [hg.block _ h5.lt (fun e => by have := (h2.vlt _ e.symm).1; omega)]
    exact h5
  exact ⟨t5.cell 2, t5.frozen 2⟩

set_option maxHeartbeats 4000000 in
set_option maxRecDepth 100000 in
theorem rflash_own (m x : Int) (ps : List PageR) (a : Option Addr) (c : Nat) (w : World) (hA : PagesAt w a ps) (hn : ps.length * 32 ≤ 140737488351232) (hbs : ∀ j, j < ps.length → (ps.getD j default).bs.length ≤ 140737488351232) :
    Calls Try.prog 5 #[.agg #[.int .i64 m, .int .i64 x, .slice a ps.length c]] w (CopyPg m x ps w) := by
  obtain ⟨hmax, hmm⟩ := hA
  have hmx := hmax
  unfold maxLen at hmax
  go_enter Try.func5, Try.ntmps5
  go_wp2_with fail
  go_loopw [4] (fun i wr => ∃ (k : Nat) (v : Value) (l : List (PageR × Value)), k ≤ ps.length ∧ i = .int .i64 k ∧ RG m x ps a c w k v l wr) (fun i _ => ps.length - (intOf i).toNat)
  case atStart =>
    refine ⟨0, _, [], Nat.zero_le _, rfl, by simp, ⟨World.ownsRow_nil _ _ _ _, fun x hx => by simp at hx, fun x hx => by simp at hx, List.Pairwise.nil⟩, ?_, ?_, ?_, ?_⟩
    · exact ((TB.new _ _ _).alloc _).alloc _
    · have h := (TB.new 24 (w.alloc (.cells #[.int .i64 m, .int .i64 x, .slice a ps.length c] 24)) #[.int .i64 0, .int .i64 0, .slice none 0 0]).alloc (.cells #[.int .i64 m, .int .i64 x, .slice none 0 0] 24)
      rw [show (w.alloc (.cells #[.int .i64 m, .int .i64 x, .slice a ps.length c] 24)).heap.size = w.heap.size + 1 by simp] at h
      exact h
    · have h := TB.new 24 ((w.alloc (.cells #[.int .i64 m, .int .i64 x, .slice a ps.length c] 24)).alloc (.cells #[.int .i64 0, .int .i64 0, .slice none 0 0] 24)) #[.int .i64 m, .int .i64 x, .slice none 0 0]
      rw [show ((w.alloc (.cells #[.int .i64 m, .int .i64 x, .slice a ps.length c] 24)).alloc (.cells #[.int .i64 0, .int .i64 0, .slice none 0 0] 24)).heap.size = w.heap.size + 1 + 1 by simp] at h
      exact h
    · exact (((Below.refl w.heap.size w).alloc (Nat.le_refl _) _).alloc (by simp) _).alloc (by simp; omega) _
  case round =>
    obtain ⟨k, v, l, hk, rfl, hR⟩ := hrel
    have hll : l.length = k := by
      have := congrArg List.length hR.1
      rw [List.length_map, List.length_take] at this
      omega
    obtain ⟨_, hOwn, T0, T1, T2, hbw⟩ := id hR
    have a2 := T0.cell 2
    have o2 := T2.cell 2
    have of2 := T2.frozen 2
    have l0 := T0.lt
    have l2 := T2.lt
    simp at a2 o2
    by_cases hlt : k < ps.length
    · have hltz : (k : Int) < (ps.length : Int) := by omega
      have hk0 : (0 : Int) ≤ (k : Int) := Int.natCast_nonneg _
      rcases hmm with hmm | ⟨b, o, rfl, hbl, hc⟩
      · omega
      obtain ⟨p, q, n1, n2, n3, n4, n5⟩ := (hc k hlt).later hbl hbw
      have hbk := hbs k hlt
      have hl2 : b < wr.heap.size := Nat.lt_of_lt_of_le hbl hbw.size
      have htk : ps.take k ++ [ps.getD k default] = ps.take (k + 1) := by
        rw [List.getD_eq_getElem?_getD, List.getElem?_eq_getElem hlt, Option.getD_some, List.take_append_getElem hlt]
      have a2'' := a2
      clear hc
      generalize hPk : ps.getD k default = P at *
      obtain ⟨num, bs⟩ := P
      simp only at *
      have hRd := hR.later ((Below.refl _ _).drew)
      have hB3 := n3.later ((Below.refl _ _).drew)
      have hl3 : w.heap.size + 3 ≤ wr.heap.size := by omega
      go_wp2_with fail
      refine region_rel (fun a' wx => ∃ (g6 cap6 c2 B : Nat) (a2 : Option Addr) (l' : List (PageR × Value)), RG m x ps (some ⟨b, o, none⟩) c w (k + 1) (.slice (some ⟨g6, 0, none⟩) (k + 1) cap6) l' wx ∧ a' = { tmps := #[.agg #[.int .i64 m, .int .i64 x, .slice (some ⟨b, o, none⟩) ps.length c], .pointer (some ⟨w.heap.size, 0, none⟩), .pointer (some ⟨w.heap.size + 1, 0, none⟩), .pointer (some ⟨w.heap.size + 1 + 1, 0, none⟩), .int .i64 k, .pointer (some ⟨w.heap.size, 0, none⟩), .int .i64 m, .pointer (some ⟨w.heap.size, 1, none⟩), .int .i64 x, .agg #[.int .i64 m, .int .i64 x, .slice none 0 0], .int .i64 k, .pointer (some ⟨w.heap.size, 2, none⟩), .slice (some ⟨b, o, none⟩) ps.length c, .int .i64 ps.length, .bool true, u15, u16, .pointer (some ⟨w.heap.size + 1 + 1, 2, none⟩), v, .pointer (some ⟨w.heap.size, 2, none⟩), .slice (some ⟨b, o, none⟩) ps.length c, .int .i64 k, .pointer (some ⟨b, o + k * 2, none⟩), .pointer (some ⟨b, o + k * 2, none⟩), .int .i64 num, .pointer (some ⟨w.heap.size, 2, none⟩), .slice (some ⟨b, o, none⟩) ps.length c, .int .i64 k, .pointer (some ⟨b, o + k * 2, none⟩), .pointer (some ⟨b, o + k * 2 + 1, none⟩), .slice p bs.length q, .slice a2 bs.length c2, .agg #[.int .i64 num, .slice a2 bs.length c2], .slice (some ⟨B, 0, none⟩) 1 1, .slice (some ⟨g6, 0, none⟩) (k + 1) cap6, .pointer (some ⟨w.heap.size + 1 + 1, 2, none⟩), undef], defers := [] }) ?_ ?_
      · go_region_law (first
          | (refine append_cloneO_step wr.drew (by rfl) _ (.tmp 30) (by rfl) (by rfl) num bs p q (by rfl) hB3 hbk ?_
             intro a2 c2 w2 hb2 hB2
             obtain ⟨z1, z2⟩ := bcell hb2
             have hR2 := hRd.later hb2
             have e1 : w2.cell? ⟨w.heap.size, 2, none⟩ = some (.slice (some ⟨b, o, none⟩) ps.length c) := by rw [z1 _ _ (by simpa using l0)]; simpa using a2''
             have e2 : w2.cell? ⟨w.heap.size + 1 + 1, 2, none⟩ = some v := by rw [z1 _ _ (by simpa using l2)]; simpa using o2
             have e3 : w2.cell? ⟨b, o + k * 2, none⟩ = some (.int .i64 num) := by rw [z1 _ _ (by simpa using hl2)]; simpa using n1
             have e4 : w.heap.size + 1 + 1 < w2.heap.size := Nat.lt_of_lt_of_le l2 (by simpa using hb2.size)
             have hb5 : Below w2.heap.size w2 (w2.alloc (.cells (pgCells (⟨num, bs⟩, .slice a2 bs.length c2)).toArray 40)) := (Below.refl _ _).alloc (Nat.le_refl _) _
             have hR5 := hR2.later hb5
             have hT5 := TB.new 40 w2 (pgCells (⟨num, bs⟩, .slice a2 bs.length c2)).toArray
             have hP5 := OwnBy.new hR.2.1 hl3 hB2 hb5
             unfold pgCells at hb5 hR5 hT5 hP5)
          | (refine append_pgO_step _ (by rfl) (.tmp 18) (.tmp 33) (by rfl) (w.heap.size + 3) v l (by rfl) hR5.2.1 (⟨num, bs⟩, .slice a2 bs.length c2) w2.heap.size (by rfl) hT5 hP5.1 hP5.2 (by rfl) (by have := hb2.size; simp at this ⊢; omega) (by rw [hll]; omega) ?_
             intro g6 cap6 w6 hO6 hg6
             have hR6 := hR5.step htk hO6 hg6
             rw [hll] at hR6
             obtain ⟨e6, e7⟩ := hR5.out hg6
             clear hR5 hT5 hP5 hb5 e1 e2 e3 z1 z2 hB2))
        all_goals exact ⟨g6, cap6, c2, w2.heap.size, a2, _, hR6, rfl⟩
      · rintro a' wx ⟨g6, cap6, c2, B, a2', l', hR6, rfl⟩
        clear hR hRd hB3 n1 n2 n3 a2 o2 of2 T0 T1 T2 hOwn
        go_wp2_with fail
        exact ⟨⟨k + 1, _, l', hlt, by simp, hR6⟩, by simp [intOf]; omega⟩
    · have hke : k = ps.length := by omega
      have hlt' : ¬ ((k : Int) < (ps.length : Int)) := by omega
      subst hke
      have hml : l.map (·.1) = ps := by rw [hR.1, List.take_length]
      obtain ⟨va, vc, rfl⟩ := hOwn.slice
      rw [hll] at *
      have c0 := T2.cell 0
      have c1 := T2.cell 1
      have d0 := T1.cell 0
      have d1 := T1.cell 1
      have d2 := T1.cell 2
      have h0 := T1.frozen 0
      have h1 := T1.frozen 1
      have h2 := T1.frozen 2
      have l1 := T1.lt
      simp at c0 c1 d0 d1 d2
      have hOwn' := hOwn
      clear hR hOwn T0 T1 T2
      have hlt2 : ¬ ((ps.length : Int) < (ps.length : Int)) := by omega
      clear hlt hlt' hmm
      go_wp2_with fail
      refine bodyPost_ret (v := .agg #[.int .i64 m, .int .i64 x, .slice va ps.length vc]) (by simp [results, Try.results5, go_sem, c0, c1, o2, d0, d1, d2, l1, l2]) rfl ⟨_, l, rfl, hml, ?_, ?_⟩
      · exact (((hOwn'.far (by omega)).far (by omega)).far (by omega)).mono (by omega)
      · exact ((hbw.setCell (Nat.le_succ _) _).setCell (Nat.le_succ _) _).setCell (Nat.le_succ _) _
end Go.Proofs.Ytbabiandegianaa
