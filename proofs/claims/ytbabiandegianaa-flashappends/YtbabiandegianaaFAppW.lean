/- The contract of flash.Append. -/
import Derived.Test.YtbabiandegianaaFApp
import Derived.Deep.RegionHeld3
import Derived.Deep.DeepCutAuto
namespace Go.Proofs.Ytbabiandegianaa
open Go.ChangeShapes Go.WideShapes Go.ChangeAt Go.RowKit
set_option linter.unusedVariables false
set_option linter.unusedSimpArgs false

def AppBad (k : Int) (w : World) (e : Ending) (w' : World) : Prop := e = .returned (.tuple #[.agg #[.int .i64 0, .int .i64 0, .slice none 0 0], .agg #[.int .i64 0, .int .i64 0], .int .i64 0, .int .i64 k]) ∧ Below w.heap.size w w'

set_option maxHeartbeats 1000000 in
set_option maxRecDepth 100000 in
theorem append_bad (m x : Int) (ps : List PageR) (a : Option Addr) (c : Nat) (s : ByteArray) (w : World) (hA : PagesAt w a ps) (hs : s.size ≤ maxLen) (hr : refN m x ps s.size ≠ 0) :
    Calls Try.prog 6 #[.agg #[.int .i64 m, .int .i64 x, .slice a ps.length c], .string s] w (AppBad (refN m x ps s.size) w) := by
  have hB0 : Below w.heap.size w (((w.alloc (.cells #[.int .i64 m, .int .i64 x, .slice a ps.length c] 24)).alloc (.cells #[.int .i64 0, .int .i64 0, .slice none 0 0] 24)).alloc (.cells #[.int .i64 0, .int .i64 0] 27)) := (((Below.refl _ _).alloc (Nat.le_refl _) _).alloc (by simp) _).alloc (by simp; omega) _
  have hrf := fun w1 (hb : Below w.heap.size w w1) => frefused_any m x ps a c s w1 (hA.later hb) hs
  have q1 : (refN m x ps s.size != 0) = true := by simpa using hr
  unfold AppBad
  generalize refN m x ps s.size = R at *
  go_enter Try.func6, Try.ntmps6
  go_wp2_with (go_at_call 13; refine (hrf _ hB0).mono ?_; rintro e w1 ⟨rfl, hb1⟩; obtain ⟨p1, p2⟩ := bcell hb1; have hy := hb1.size; have hy1 : w.heap.size < w1.heap.size := Nat.lt_of_lt_of_le (by simp; omega) hy; have hy2 : w.heap.size + 1 < w1.heap.size := Nat.lt_of_lt_of_le (by simp) hy; have hy3 : w.heap.size + 1 + 1 < w1.heap.size := Nat.lt_of_lt_of_le (by simp) hy)
  have hbw := hB0.trans (hb1.mono hB0.size)
  exact bodyPost_ret (v := .tuple #[.agg #[.int .i64 0, .int .i64 0, .slice none 0 0], .agg #[.int .i64 0, .int .i64 0], .int .i64 0, .int .i64 R]) (by simp [results, Try.results6, go_sem, p1, hy1, hy2, hy3]) rfl ⟨rfl, ((((hbw.setCell (by simp) _).setCell (by simp) _).setCell (by simp) _).setCell (by simp; omega) _).setCell (by simp; omega) _⟩

/-- Three boxes laid: the flash, the answer's flash, the answer's place. -/
def ApB (w wi : World) (cs : Array Value) : Prop := TB 24 wi w.heap.size cs ∧ TB 24 wi (w.heap.size + 1) #[.int .i64 0, .int .i64 0, .slice none 0 0] ∧ TB 27 wi (w.heap.size + 2) #[.int .i64 0, .int .i64 0] ∧ Below w.heap.size w wi
theorem ApB.fr {O : Nat → Prop} {w wi w' : World} {cs : Array Value} (h : ApB w wi cs) (hf : Fr O wi w') (ho : ∀ b, O b → w.heap.size + 3 ≤ b) : ApB w w' cs := by
  obtain ⟨h1, h2, h3, h4⟩ := h
  have hn : ∀ b, b < w.heap.size + 3 → ¬ O b := fun b hb e => by have := ho b e; omega
  exact ⟨hf.tb h1 (hn _ (by omega)), hf.tb h2 (hn _ (by omega)), hf.tb h3 (hn _ (by omega)), h4.trans (hf.below (fun b hb => by have := ho b hb; omega) h4.size)⟩
theorem ApB.later {w wi w' : World} {cs : Array Value} (h : ApB w wi cs) (hb : Below wi.heap.size wi w') : ApB w w' cs := by
  obtain ⟨h1, h2, h3, h4⟩ := h
  exact ⟨h1.later hb, h2.later hb, h3.later hb, h4.trans (hb.mono h4.size)⟩
theorem ApB.set {w wi : World} {cs : Array Value} (h : ApB w wi cs) (j : Nat) (v : Value) : ApB w (wi.setCell ⟨w.heap.size, j, none⟩ v) (cs.setIfInBounds j v) := by
  obtain ⟨h1, h2, h3, h4⟩ := h
  exact ⟨h1.set j v, h2.far ⟨w.heap.size, j, none⟩ v (by show w.heap.size + 1 ≠ w.heap.size; omega), h3.far ⟨w.heap.size, j, none⟩ v (by show w.heap.size + 2 ≠ w.heap.size; omega), h4.setCell (Nat.le_refl _) _⟩

theorem pgO_last {O : Nat → Prop} {w : World} {v : Value} {l : List (PageR × Value)} (h : PgO O w v l) (hne : l ≠ []) (hbs : ∀ p ∈ l, p.1.bs.length ≤ 256) : ∃ l0 q gr cp pa pc, l = l0 ++ [q] ∧ v = .slice (some ⟨gr, 0, none⟩) (l0.length + 1) cp ∧ q.2 = .slice pa q.1.bs.length pc ∧ O gr ∧ gr < w.heap.size ∧
    w.cell? ⟨gr, l0.length * 2, none⟩ = some (.int .i64 q.1.num) ∧ w.cell? ⟨gr, l0.length * 2 + 1, none⟩ = some (.slice pa q.1.bs.length pc) ∧ (∀ j, w.frozen? ⟨gr, j, none⟩ = false) := by
  obtain ⟨l0, q, hlq⟩ := last_split l hne
  have hql : q ∈ l := by rw [hlq]; simp
  have hlen : l.length = l0.length + 1 := by rw [hlq]; simp
  have hqb := hbs q hql
  obtain ⟨pa, pc, hpv, _⟩ := (h.1.2.1 q hql).bytes (by unfold maxLen; omega)
  rcases h.1.1.2 with ⟨_, h0⟩ | ⟨g, cap, cur, hv, hg, hc, h1, h2, h3, h4⟩
  · exact absurd (List.length_eq_zero_iff.1 h0) hne
  have hgl : g < w.heap.size := by
    rcases Nat.lt_or_ge g w.heap.size with hlt | hge
    · exact hlt
    · rw [Array.getElem?_eq_none hge] at hc; cases hc
  obtain ⟨f1, f2⟩ := flat2 l l0.length q (by rw [hlq]; simp)
  refine ⟨l0, q, g, cap, pa, pc, hlq, by rw [hv, hlen], hpv, h.2.1 g (by rw [hv]; rfl), hgl, ?_, ?_, fun j => frozen_of_row w g j cur 40 hc⟩
  · rw [cell_of_row w g _ cur 40 (0, 0) hc, ← f1, ← h4, List.getElem?_take_of_lt (by omega), Array.getElem?_toList]
  · rw [cell_of_row w g _ cur 40 (0, 0) hc, ← hpv, ← f2, ← h4, List.getElem?_take_of_lt (by omega), Array.getElem?_toList]

theorem may_facts {m x : Int} {ps : List PageR} (h : mayB m x ps = true) : 0 ≤ m ∧ m ≤ 20 ∧ 1 ≤ x ∧ x ≤ 1099511627776 ∧ (ps.length : Int) ≤ m ∧ ∀ p ∈ ps, 1 ≤ p.bs.length ∧ p.bs.length ≤ 256 := by
  have hb := may_bytes h
  unfold mayB boundsB inB at h
  simp only [Bool.and_eq_true, decide_eq_true_eq] at h
  obtain ⟨⟨⟨h1, h2⟩, ⟨h3, h4⟩, h5⟩, _⟩ := h
  refine ⟨h1, h2, h3, h4, h5, fun p hp => ?_⟩
  obtain ⟨j, hj, rfl⟩ := List.getElem_of_mem hp
  have := hb j hj
  rw [List.getD_eq_getElem?_getD, List.getElem?_eq_getElem hj] at this
  exact ⟨this.1, this.2.1⟩
theorem room_len {m x : Int} {ps : List PageR} {n : Nat} (h : mayB m x ps = true) (hm : m ≠ 0) : ((roomP m x ps n).1.length : Int) ≤ m ∧ (∀ p ∈ (roomP m x ps n).1, p.bs.length ≤ 256) ∧ ((roomP m x ps n).2.1 = x ∨ (roomP m x ps n).2.1 = x + 1) := by
  obtain ⟨h1, h2, h3, h4, h5, h6⟩ := may_facts h
  unfold roomP
  split
  · exact ⟨h5, fun p hp => (h6 p hp).2, Or.inl rfl⟩
  · split
    · next he =>
      refine ⟨?_, fun p hp => ?_, Or.inr rfl⟩
      · simp only [List.length_append, List.length_tail, List.length_cons, List.length_nil]
        omega
      · rcases List.mem_append.1 hp with hp | hp
        · exact (h6 p (List.mem_of_mem_tail hp)).2
        · simp at hp; subst hp; exact Nat.zero_le _
    · next he =>
      refine ⟨?_, fun p hp => ?_, Or.inr rfl⟩
      · simp only [List.length_append, List.length_cons, List.length_nil]
        omega
      · rcases List.mem_append.1 hp with hp | hp
        · exact (h6 p hp).2
        · simp at hp; subst hp; exact Nat.zero_le _

def AppOk (m : Int) (r : AppR) (w : World) (e : Ending) (w' : World) : Prop := ∃ a c, e = .returned (.tuple #[.agg #[.int .i64 m, .int .i64 r.fx, .slice a r.pages.length c], .agg #[.int .i64 r.page, .int .i64 r.at_], .int .i64 r.gone, .int .i64 0]) ∧ PagesFrom w.heap.size w' a r.pages ∧ Below w.heap.size w w'

set_option maxHeartbeats 4000000 in
set_option maxRecDepth 100000 in
theorem append_ok (m x : Int) (ps : List PageR) (a : Option Addr) (c : Nat) (s : ByteArray) (w : World) (hA : PagesAt w a ps) (hs : s.size ≤ maxLen) (hr : refN m x ps s.size = 0) :
    Calls Try.prog 6 #[.agg #[.int .i64 m, .int .i64 x, .slice a ps.length c], .string s] w (AppOk m (appF m x ps (recOf s.data.toList)) w) := by
  have hmay : mayB m x ps = true := by
    cases hm : mayB m x ps
    · unfold refN at hr; rw [hm] at hr; simp at hr
    · rfl
  have hs200 : s.size ≤ 200 := by
    rcases Nat.lt_or_ge 200 s.size with h | h
    · unfold refN at hr; rw [hmay, if_pos rfl, if_pos h] at hr; simp at hr
    · exact h
  have hm0 : m ≠ 0 := by
    intro h
    unfold refN at hr
    rw [hmay, if_pos rfl, if_neg (by omega), if_pos h] at hr
    simp at hr
  obtain ⟨f1, f2, f3, f4, f5, f6⟩ := may_facts hmay
  obtain ⟨rl1, rl2, rl3⟩ := room_len (n := (recOf s.data.toList).length) hmay hm0
  have hRl : (recOf s.data.toList).length = 3 + s.size := recOf_len _
  have hrne := roomP_ne m x ps (recOf s.data.toList).length
  have I0 : ApB w (((w.alloc (.cells #[.int .i64 m, .int .i64 x, .slice a ps.length c] 24)).alloc (.cells #[.int .i64 0, .int .i64 0, .slice none 0 0] 24)).alloc (.cells #[.int .i64 0, .int .i64 0] 27)) #[.int .i64 m, .int .i64 x, .slice a ps.length c] := by
    have A1 : Below w.heap.size w (w.alloc (.cells #[.int .i64 m, .int .i64 x, .slice a ps.length c] 24)) := (Below.refl _ _).alloc (Nat.le_refl _) _
    have T2 := TB.new 24 (w.alloc (.cells #[.int .i64 m, .int .i64 x, .slice a ps.length c] 24)) #[.int .i64 0, .int .i64 0, .slice none 0 0]
    have T3 := TB.new 27 ((w.alloc (.cells #[.int .i64 m, .int .i64 x, .slice a ps.length c] 24)).alloc (.cells #[.int .i64 0, .int .i64 0, .slice none 0 0] 24)) #[.int .i64 0, .int .i64 0]
    rw [show (w.alloc (.cells #[.int .i64 m, .int .i64 x, .slice a ps.length c] 24)).heap.size = w.heap.size + 1 by simp] at T2
    rw [show ((w.alloc (.cells #[.int .i64 m, .int .i64 x, .slice a ps.length c] 24)).alloc (.cells #[.int .i64 0, .int .i64 0, .slice none 0 0] 24)).heap.size = w.heap.size + 2 by simp] at T3
    exact ⟨((TB.new 24 w _).alloc _).alloc _, T2.alloc _, T3, (A1.alloc (by simp) _).alloc (by simp; omega) _⟩
  have hrf := fun w1 (hb : Below w.heap.size w w1) => frefused_any m x ps a c s w1 (hA.later hb) hs
  rw [hr] at hrf
  have hof := fun w1 => recOf_any s w1 hs200
  have hcp := fun w1 (hb : Below w.heap.size w w1) => copy_pg m x ps a c w1 (hA.later hb) (by omega) (fun j hj => by have := (f6 _ (List.getElem_mem hj)).2; rw [List.getD_eq_getElem?_getD, List.getElem?_eq_getElem hj]; show ps[j].bs.length ≤ _; omega)
  have hrm : ∀ (O : Nat → Prop) (v : Value) (l : List (PageR × Value)) (w1 : World), PgO O w1 v l → (∀ b, O b → b < w1.heap.size) → l.map (fun y : PageR × Value => y.1) = ps → Calls Try.prog 15 #[.agg #[.int .i64 m, .int .i64 x, v], .int .i64 (recOf s.data.toList).length] w1 (RoomPost O m (roomP m x ps (recOf s.data.toList).length) w1) := by
    intro O v l w1 hW hO hl
    have h := room_any O m x v l (recOf s.data.toList).length w1 hW hO (by have := congrArg List.length hl; rw [List.length_map] at this; omega) (fun p hp => (f6 p.1 (by rw [← hl]; exact List.mem_map_of_mem hp)).2) (by omega) hm0 (by omega) f4
    rw [hl] at h
    exact h
  unfold appF
  simp only
  unfold BytesPost at hof
  generalize recOf s.data.toList = R at *
  unfold RoomPost at hrm
  unfold CopyPg at hcp
  generalize roomP m x ps R.length = rp at *
  obtain ⟨rps, rx, rg⟩ := rp
  simp only at *
  have hbsl : ∀ (l0 : List (PageR × Value)) (q : PageR × Value), (l0 ++ [q]).map (fun y : PageR × Value => y.1) = rps → ∀ y ∈ l0, y.1.bs.length ≤ 256 := fun l0 q e y hy => rl2 y.1 (by rw [← e]; simp; exact Or.inl ⟨_, hy⟩)
  have hpost : Hid (∀ (a' : Option Addr) (c' : Nat) (w' : World), PagesFrom w.heap.size w' a' (lastP rps R) → Below w.heap.size w w' → AppOk m ⟨lastP rps R, rx, (rps.getLastD default).num, (rps.getLastD default).bs.length, rg⟩ w (.returned (.tuple #[.agg #[.int .i64 m, .int .i64 rx, .slice a' (lastP rps R).length c'], .agg #[.int .i64 (rps.getLastD default).num, .int .i64 (rps.getLastD default).bs.length], .int .i64 rg, .int .i64 0])) w') := fun a' c' w' h1 h2 => ⟨a', c', rfl, h1, h2⟩
  generalize AppOk m ⟨lastP rps R, rx, (rps.getLastD default).num, (rps.getLastD default).bs.length, rg⟩ w = PO at *
  have hR200 : R.length ≤ 203 := by omega
  have hRp : 0 < R.length := by omega
  clear hRl
  go_enter Try.func6, Try.ntmps6
  go_wp2_with (first | (go_at_call 13; refine (hrf _ I0.2.2.2).mono ?_; rintro e w1 ⟨rfl, hb1⟩; have I1 := I0.later hb1; have x1 := (fun j => I1.1.cell j); have l1 := I1.1.lt) | (go_at_call 14; refine (hof _).mono ?_; rintro e w2 ⟨gR, cR, rfl, hBR, hgR, hb2⟩; have I2 := I1.later hb2; have x2 := (fun j => I2.1.cell j); have l2 := I2.1.lt) | (go_at_call 16; refine (hcp _ I2.2.2.2).mono ?_; rintro e w3 ⟨v3, l3, rfl, hl3, hP3, hb3⟩; have I3 := I2.later hb3; have hBR3 := hBR.later hb3; have x3 := (fun j => I3.1.cell j); have l3' := I3.1.lt) | (go_at_call 15; refine (hrm (fun b => w2.heap.size ≤ b ∧ b < w3.heap.size) v3 l3 _ hP3.toO (fun b hb => hb.2) hl3).mono ?_; rintro e w4 ⟨v4, l4, rfl, hl4, hP4, hF4⟩; have I4 := I3.fr hF4 (fun b hb => by have := I2.2.2.1.lt; omega); obtain ⟨l0, q, gr, cp, pa, pc, rfl, rfl, hqv, hOg, hgl, c1, c2, fz⟩ := pgO_last hP4 (by intro h; subst h; simp at hl4; exact hrne hl4) (fun p hp => rl2 p.1 (by rw [← hl4]; exact List.mem_map_of_mem hp)); have hz0 : (0 : Int) ≤ (l0.length : Int) := (Int.natCast_nonneg _); have hz1 : (l0.length : Int) ≤ 20 := (by have e := congrArg List.length hl4; simp at e; omega); have hlz : (l0.length : Int) < (l0.length : Int) + 1 := (by omega); have x4 := (fun j => I4.1.cell j); have f4' := (fun j => I4.1.frozen j); have l4' := I4.1.lt))
  obtain ⟨⟨qn, qb⟩, qv⟩ := q
  simp only at hqv c1 c2
  subst hqv
  have hbsl := hbsl _ _ hl4
  have hrps : rps = l0.map (fun y : PageR × Value => y.1) ++ [⟨qn, qb⟩] := by rw [← hl4]; simp
  have hLP : lastP rps R = l0.map (fun y : PageR × Value => y.1) ++ [⟨qn, qb ++ R⟩] := by rw [hrps, lastP_snoc]
  have hLl : (lastP rps R).length = l0.length + 1 := by rw [hLP]; simp
  have hLd : rps.getLastD default = ⟨qn, qb⟩ := by rw [hrps]; simp
  have hqb : qb.length ≤ 256 := rl2 ⟨qn, qb⟩ (by rw [hrps]; simp)
  rw [hLl, hLd] at hpost
  simp only at hpost
  have hw3 : w.heap.size + 3 ≤ w2.heap.size := by have := I2.2.2.1.lt; omega
  have hO4 : ∀ b, ((w2.heap.size ≤ b ∧ b < w3.heap.size) ∨ w3.heap.size + 2 ≤ b) → w.heap.size + 3 ≤ b := fun b hb => by
    have := hb3.size
    omega
  have hn : ∀ b, b < w.heap.size + 3 → ¬ ((w2.heap.size ≤ b ∧ b < w3.heap.size) ∨ w3.heap.size + 2 ≤ b) := fun b hb e => by have := hO4 b e; omega
  have hgn : gr ≠ w.heap.size := by have := hO4 gr hOg; omega
  have hgR3 : gR < w2.heap.size := by
    rcases hBR.2 with h0 | ⟨b2, o2, hb2', hlt2, _⟩
    · omega
    · cases hb2'; exact hlt2
  have hkR : ∀ (W : World), w4.heap.size ≤ W.heap.size → (∀ b, b < w4.heap.size → b ≠ w.heap.size → W.heap[b]? = w4.heap[b]?) → BytesAt W (some ⟨gR, 0, none⟩) R := by
    intro W h1 h2
    refine ⟨hBR3.1, ?_⟩
    rcases hBR3.2 with h0 | ⟨b2, o2, hb2', hlt2, hc2⟩
    · exact Or.inl h0
    cases hb2'
    have e1 := hF4.block gR hlt2 (fun e => by have := e.1; omega)
    have hsz4 := hF4.size
    have e2 := h2 gR (by omega) (by have := I1.2.2.1.lt; omega)
    exact Or.inr ⟨gR, 0, rfl, by omega, fun j hj => by rw [← hc2 j hj]; simp only [World.cell?, e2, e1]⟩
  have J5 : ApB w (((w4.setCell ⟨w.heap.size, 0, none⟩ (.int .i64 m)).setCell ⟨w.heap.size, 1, none⟩ (.int .i64 rx)).setCell ⟨w.heap.size, 2, none⟩ (.slice (some ⟨gr, 0, none⟩) (l0.length + 1) cp)) #[.int .i64 m, .int .i64 rx, .slice (some ⟨gr, 0, none⟩) (l0.length + 1) cp] := ((I4.set 0 _).set 1 _).set 2 _
  have P5 := ((hP4.far 0 (.int .i64 m) (hn w.heap.size (by omega))).far 1 (.int .i64 rx) (hn w.heap.size (by omega))).far 2 (.slice (some ⟨gr, 0, none⟩) (l0.length + 1) cp) (hn w.heap.size (by omega))
  have B5 := hkR (((w4.setCell ⟨w.heap.size, 0, none⟩ (.int .i64 m)).setCell ⟨w.heap.size, 1, none⟩ (.int .i64 rx)).setCell ⟨w.heap.size, 2, none⟩ (.slice (some ⟨gr, 0, none⟩) (l0.length + 1) cp)) (by simp [World.setCell]) (fun b _ hb => by rw [heap_setCell_other _ _ _ _ (show b ≠ w.heap.size from hb), heap_setCell_other _ _ _ _ (show b ≠ w.heap.size from hb), heap_setCell_other _ _ _ _ (show b ≠ w.heap.size from hb)])
  have c1' : (((w4.setCell ⟨w.heap.size, 0, none⟩ (.int .i64 m)).setCell ⟨w.heap.size, 1, none⟩ (.int .i64 rx)).setCell ⟨w.heap.size, 2, none⟩ (.slice (some ⟨gr, 0, none⟩) (l0.length + 1) cp)).cell? ⟨gr, l0.length * 2, none⟩ = some (.int .i64 qn) := by
    iterate 3 rw [World.cell?_setCell_far _ _ ⟨gr, l0.length * 2, none⟩ _ (show w.heap.size ≠ gr from fun e => hgn e.symm)]
    exact c1
  have c2' : (((w4.setCell ⟨w.heap.size, 0, none⟩ (.int .i64 m)).setCell ⟨w.heap.size, 1, none⟩ (.int .i64 rx)).setCell ⟨w.heap.size, 2, none⟩ (.slice (some ⟨gr, 0, none⟩) (l0.length + 1) cp)).cell? ⟨gr, l0.length * 2 + 1, none⟩ = some (.slice pa qb.length pc) := by
    iterate 3 rw [World.cell?_setCell_far _ _ ⟨gr, l0.length * 2 + 1, none⟩ _ (show w.heap.size ≠ gr from fun e => hgn e.symm)]
    exact c2
  have hsz5 : (((w4.setCell ⟨w.heap.size, 0, none⟩ (.int .i64 m)).setCell ⟨w.heap.size, 1, none⟩ (.int .i64 rx)).setCell ⟨w.heap.size, 2, none⟩ (.slice (some ⟨gr, 0, none⟩) (l0.length + 1) cp)).heap.size = w4.heap.size := by simp [World.setCell]
  rw [← hsz5] at hgl
  have hsz35 : w3.heap.size + 2 ≤ (((w4.setCell ⟨w.heap.size, 0, none⟩ (.int .i64 m)).setCell ⟨w.heap.size, 1, none⟩ (.int .i64 rx)).setCell ⟨w.heap.size, 2, none⟩ (.slice (some ⟨gr, 0, none⟩) (l0.length + 1) cp)).heap.size ∨ True := Or.inr trivial
  generalize hW5 : (((w4.setCell ⟨w.heap.size, 0, none⟩ (.int .i64 m)).setCell ⟨w.heap.size, 1, none⟩ (.int .i64 rx)).setCell ⟨w.heap.size, 2, none⟩ (.slice (some ⟨gr, 0, none⟩) (l0.length + 1) cp)) = W5 at *
  have hl5 : w.heap.size + 2 < W5.heap.size := J5.2.2.1.lt
  have hw35 : w3.heap.size ≤ W5.heap.size := by have := hF4.size; omega
  clear hW5 hsz5 hsz35 c1 c2 fz x4 f4' l4' I4 hP4 hF4 hkR hrf hof hcp hrm I0 I1 x1 l1 I2 x2 l2 I3 x3 l3' hBR hBR3 hA hP3 hl3 hb1 hb2 rl1 rl2 f6 hrps hLd hl4
  have A6 := fun (o : Obj) => ((Below.refl W5.heap.size W5).alloc (Nat.le_refl _) o)
  have J6 := J5.later ((A6 (.cells #[.int .i64 qn, .int .i64 qb.length] 27)).drew)
  have P6 := P5.later ((A6 (.cells #[.int .i64 qn, .int .i64 qb.length] 27)).drew)
  have B6 := B5.later ((A6 (.cells #[.int .i64 qn, .int .i64 qb.length] 27)).drew)
  have T6 : TB 27 (W5.alloc (.cells #[.int .i64 qn, .int .i64 qb.length] 27)).drew W5.heap.size #[.int .i64 qn, .int .i64 qb.length] := TB.new 27 W5 _
  have q6 : OwnBy 0 (W5.alloc (.cells #[.int .i64 qn, .int .i64 qb.length] 27)).drew (⟨qn, qb⟩, .slice pa qb.length pc) := P6.1.2.1 _ (by simp)
  have hs6 : (W5.alloc (.cells #[.int .i64 qn, .int .i64 qb.length] 27)).drew.heap.size = W5.heap.size + 1 := by simp [World.drew]
  have hqO : ∀ g, (Value.slice pa qb.length pc).ownBlock = some g → ((w2.heap.size ≤ g ∧ g < w3.heap.size) ∨ w3.heap.size + 2 ≤ g) ∧ g < W5.heap.size := fun g hg => ⟨P5.2.2 (⟨qn, qb⟩, .slice pa qb.length pc) (by simp) g hg, ((P5.1.2.1 (⟨qn, qb⟩, .slice pa qb.length pc) (by simp)).lt g hg).2⟩
  have x5 := fun j => J5.1.cell j
  have f5' := fun j => J5.1.frozen j
  have l5 := J5.1.lt
  have hzq : (qb.length : Int) ≤ 256 := by omega
  have fz5 : ∀ j, W5.frozen? ⟨gr, j, none⟩ = false := by
    obtain ⟨cur, _, hc, _⟩ := owns_block (by have := P5.1.1; rw [List.length_append] at this; exact this)
    exact fun j => frozen_of_row W5 gr j cur 40 hc
  have hqg : ∀ g, (Value.slice pa qb.length pc).ownBlock = some g → g ≠ gr := fun g hg e => P5.1.2.2.1 (⟨qn, qb⟩, .slice pa qb.length pc) (by simp) g hg (by rw [e]; rfl)
  have hzl : (l0.length : Int) ≤ 20 := hz1
  have hfin : Hid (∀ (g8 cap8 : Nat) (w8 : World), OwnBy 0 w8 (⟨qn, qb ++ R⟩, .slice (some ⟨g8, 0, none⟩) (qb.length + R.length) cap8) → (W5.alloc (.cells #[.int .i64 qn, .int .i64 qb.length] 27)).drew.grownBy w8 (Value.slice pa qb.length pc).ownBlock → ((Value.slice pa qb.length pc).ownBlock = some g8 ∨ g8 = (W5.alloc (.cells #[.int .i64 qn, .int .i64 qb.length] 27)).drew.heap.size) →
      ApB w (w8.setCell ⟨gr, l0.length * 2 + 1, none⟩ (.slice (some ⟨g8, 0, none⟩) (qb.length + R.length) cap8)) #[.int .i64 m, .int .i64 rx, .slice (some ⟨gr, 0, none⟩) (l0.length + 1) cp] ∧ TB 27 (w8.setCell ⟨gr, l0.length * 2 + 1, none⟩ (.slice (some ⟨g8, 0, none⟩) (qb.length + R.length) cap8)) W5.heap.size #[.int .i64 qn, .int .i64 qb.length] ∧ w8.cell? ⟨gr, l0.length * 2 + 1, none⟩ = some (.slice pa qb.length pc) ∧ w8.frozen? ⟨gr, l0.length * 2 + 1, none⟩ = false ∧
      ∀ w', Fr (fun b => b = w.heap.size + 1 ∨ b = w.heap.size + 2) (w8.setCell ⟨gr, l0.length * 2 + 1, none⟩ (.slice (some ⟨g8, 0, none⟩) (qb.length + R.length) cap8)) w' → PO (.returned (.tuple #[.agg #[.int .i64 m, .int .i64 rx, .slice (some ⟨gr, 0, none⟩) (l0.length + 1) cp], .agg #[.int .i64 qn, .int .i64 qb.length], .int .i64 rg, .int .i64 0])) w') := by
    intro g8 cap8 w8 hO8 hg8 hat8
    have P9 := P6.last (O' := fun b => w.heap.size + 3 ≤ b) hO8 hg8 hat8 (fun b hb => hO4 b hb) (by
      rcases hat8 with e | e
      · exact hO4 g8 (hqO g8 e).1
      · rw [hs6] at e; omega)
    have J8 := J6.fr (O := fun b => (Value.slice pa qb.length pc).ownBlock = some b) (Fr.of_grown hg8 (fun g hg => Or.inl hg)) (fun b hb => hO4 b (hqO b hb).1)
    have hF9 : Fr (fun b => b = gr) w8 (w8.setCell ⟨gr, l0.length * 2 + 1, none⟩ (.slice (some ⟨g8, 0, none⟩) (qb.length + R.length) cap8)) := (Fr.refl _ _).set _ _ (Or.inl rfl)
    have J9 := J8.fr hF9 (fun b hb => by rw [hb]; exact hO4 gr hOg)
    have T8 := grown_tb hg8 T6 (fun e => by have := (hqO _ e).2; omega)
    have hne : some gr ≠ (Value.slice pa qb.length pc).ownBlock := fun e => hqg gr e.symm rfl
    refine ⟨J9, hF9.tb T8 (fun e => by omega), ?_, ?_, fun w' hw' => ?_⟩
    · rw [hg8.cell_far ⟨gr, l0.length * 2 + 1, none⟩ (by show gr < _; omega) hne]
      show (W5.alloc _).cell? _ = _
      rw [(A6 _).cell (p := ⟨gr, l0.length * 2 + 1, none⟩) hgl]
      exact c2'
    · rw [hg8.frozen_far ⟨gr, l0.length * 2 + 1, none⟩ (by show gr < _; omega) hne]
      show (W5.alloc _).frozen? _ = _
      rw [(A6 _).frozen (p := ⟨gr, l0.length * 2 + 1, none⟩) hgl]
      exact fz5 _
    · have P10 : PgOwn (w.heap.size + 3) w' _ _ := (P9.kept (w' := w') fun b hb hl => hw'.block b hl (fun e => by omega)).toOwn (fun b hb => hb)
      obtain ⟨a', c', hv', hpf⟩ := P10.pages (by rw [List.length_append, List.length_singleton]; unfold maxLen; omega) (fun y hy => by
        rcases List.mem_append.1 hy with hy | hy
        · have := (P10.2.1 y (by simp [hy])).1
          have h2 := hbsl y hy
          unfold maxLen; omega
        · simp at hy; subst hy
          show (qb ++ R).length ≤ maxLen
          rw [List.length_append]
          unfold maxLen; omega)
      rw [List.map_append] at hpf
      have hpf2 : PagesFrom (w.heap.size + 3) w' a' (lastP rps R) := by rw [hLP]; exact hpf
      rw [List.length_append, List.length_singleton] at hv'
      cases hv'
      exact hpost.out _ _ w' (fun w2' h1 h2 => hpf2 w2' h1 (fun b hb hl => h2 b (by omega) hl)) (J9.2.2.2.trans (hw'.below (fun b hb => by omega) J9.2.2.2.size))
  clear hpost J6 P6 T6 P5
  go_region
  all_goals
    go_wp2_with (at_builtin; refine append_bytesO _ rfl (.tmp 52) (.tmp 53) rfl qn qb _ rfl q6 R gR 0 cR rfl B6 hRp (by omega) ?_; intro g8 cap8 w8 hO8 hg8 hat8; have hF := hfin.out g8 cap8 w8 hO8 hg8 hat8; have c8 := hF.2.2.1; have z8 := hF.2.2.2.1)
  all_goals
    obtain ⟨J9, T9, _, _, hEnd⟩ := hF
    have hEnd' : Hid _ := hEnd
    clear hEnd hfin hO8 hg8 hat8 c8 z8 c1' c2' fz5 q6 B6 A6 x5 f5'
    generalize w8.setCell ⟨gr, l0.length * 2 + 1, none⟩ (.slice (some ⟨g8, 0, none⟩) (qb.length + R.length) cap8) = W9 at *
    have x9 := fun j => J9.1.cell j
    have l9 := J9.1.lt
    have y9 := fun j => J9.2.1.cell j
    have fy9 := fun j => J9.2.1.frozen j
    have ly9 := J9.2.1.lt
    have v9 := fun j => J9.2.2.1.cell j
    have fv9 := fun j => J9.2.2.1.frozen j
    have lv9 := J9.2.2.1.lt
    have t9 := fun j => T9.cell j
    have lt9 := T9.lt
    go_region
    all_goals
      go_wp2_with fail
      exact bodyPost_ret (v := .tuple #[.agg #[.int .i64 m, .int .i64 rx, .slice (some ⟨gr, 0, none⟩) (l0.length + 1) cp], .agg #[.int .i64 qn, .int .i64 qb.length], .int .i64 rg, .int .i64 0]) (by simp [results, Try.results6, go_sem, y9, ly9, v9, lv9]) rfl (hEnd'.out _ (Fr.drew (Fr.set (Fr.set (Fr.set (Fr.set (Fr.set (Fr.refl _ _) _ _ (Or.inl (Or.inl rfl))) _ _ (Or.inl (Or.inl rfl))) _ _ (Or.inl (Or.inl rfl))) _ _ (Or.inl (Or.inr rfl))) _ _ (Or.inl (Or.inr rfl)))))
end Go.Proofs.Ytbabiandegianaa
