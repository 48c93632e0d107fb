/- Parts of the proof. -/
import Derived.Test.YtdblegdgmjakfaaGreatDoorMJ04
import Derived.Test.YtdblegdgmjakfaaGreatDoorMJ00
import Derived.Deep.RegionHeld3
import Derived.Deep.DeepCutAuto
namespace Go.Proofs.YtdblegdgmjakfaaGreatDoor
open Go.ChangeShapes Go.WideShapes Go.ChangeAt Go.RowKit
set_option linter.unusedVariables false
set_option linter.unusedSimpArgs false

/- The contract of flash.Append. -/

def AppBad (k : Int) (w : World) (e : Ending) (w' : World) : Prop := e = .returned (.tuple #[.agg #[.int .i64 0, .int .i64 0, .slice none 0 0], .agg #[.int .i64 0, .int .i64 0], .int .i64 0, .int .i64 k]) ∧ Below w.heap.size w w'

set_option maxHeartbeats 1000000 in
set_option maxRecDepth 100000 in
theorem append_bad (m x : Int) (ps : List PageR) (a : Option Addr) (c : Nat) (s : ByteArray) (w : World) (hA : PagesAt w a ps) (hs : s.size ≤ maxLen) (hr : refN m x ps s.size ≠ 0) :
 Calls Tryz.prog 158 #[.agg #[.int .i64 m, .int .i64 x, .slice a ps.length c], .string s] w (AppBad (refN m x ps s.size) w) := by
 have hB0 : Below w.heap.size w (((w.alloc (.cells #[.int .i64 m, .int .i64 x, .slice a ps.length c] 27)).alloc (.cells #[.int .i64 0, .int .i64 0, .slice none 0 0] 27)).alloc (.cells #[.int .i64 0, .int .i64 0] 60)) := (((Below.refl _ _).alloc (Nat.le_refl _) _).alloc (by simp) _).alloc (by simp; omega) _
 have hrf := fun w1 (hb : Below w.heap.size w w1) => frefused_any m x ps a c s w1 (hA.later hb) hs
 have q1 : (refN m x ps s.size != 0) = true := by simpa using hr
 unfold AppBad
 generalize refN m x ps s.size = R at *
 go_enter Tryz.func158, Tryz.ntmps158
 go_wp2_with (go_at_call 161; refine (hrf _ hB0).mono ?_; rintro e w1 ⟨rfl, hb1⟩; obtain ⟨p1, p2⟩ := bcell hb1; have hy := hb1.size; have hy1 : w.heap.size < w1.heap.size := Nat.lt_of_lt_of_le (by simp; omega) hy; have hy2 : w.heap.size + 1 < w1.heap.size := Nat.lt_of_lt_of_le (by simp) hy; have hy3 : w.heap.size + 1 + 1 < w1.heap.size := Nat.lt_of_lt_of_le (by simp) hy)
 have hbw := hB0.trans (hb1.mono hB0.size)
 exact bodyPost_ret (v := .tuple #[.agg #[.int .i64 0, .int .i64 0, .slice none 0 0], .agg #[.int .i64 0, .int .i64 0], .int .i64 0, .int .i64 R]) (by simp [results, Tryz.results158, go_sem, p1, hy1, hy2, hy3]) rfl ⟨rfl, ((((hbw.setCell (by simp) _).setCell (by simp) _).setCell (by simp) _).setCell (by simp; omega) _).setCell (by simp; omega) _⟩

/-- Three boxes laid: the flash, the answer's flash, the answer's place. -/
def ApB (w wi : World) (cs : Array Value) : Prop := TB 27 wi w.heap.size cs ∧ TB 27 wi (w.heap.size + 1) #[.int .i64 0, .int .i64 0, .slice none 0 0] ∧ TB 60 wi (w.heap.size + 2) #[.int .i64 0, .int .i64 0] ∧ Below w.heap.size w wi
theorem ApB.fr {O : Nat → Prop} {w wi w' : World} {cs : Array Value} (h : ApB w wi cs) (hf : Fr O wi w') (ho : ∀ b, O b → w.heap.size + 3 ≤ b) : ApB w w' cs := by
 obtain ⟨h1, h2, h3, h4⟩ := h
 have hn : ∀ b, b < w.heap.size + 3 → ¬ O b := fun b hb e => by have := ho b e; omega
 exact ⟨hf.tb h1 (hn _ (by omega)), hf.tb h2 (hn _ (by omega)), hf.tb h3 (hn _ (by omega)), h4.trans (hf.below (fun b hb => by have := ho b hb; omega) h4.size)⟩
theorem ApB.later {w wi w' : World} {cs : Array Value} (h : ApB w wi cs) (hb : Below wi.heap.size wi w') : ApB w w' cs := by
 obtain ⟨h1, h2, h3, h4⟩ := h
 exact ⟨h1.later hb, h2.later hb, h3.later hb, h4.trans (hb.mono h4.size)⟩
theorem ApB.set {w wi : World} {cs : Array Value} (h : ApB w wi cs) (j : Nat) (v : Value) : ApB w (wi.setCell ⟨w.heap.size, j, none⟩ v) (cs.setIfInBounds j v) := by
 obtain ⟨h1, h2, h3, h4⟩ := h
 exact ⟨h1.set j v, h2.far ⟨w.heap.size, j, none⟩ v (by show w.heap.size + 1 ≠ w.heap.size; omega), h3.far ⟨w.heap.size, j, none⟩ v (by show w.heap.size + 2 ≠ w.heap.size; omega), h4.setCell (Nat.le_refl _) _⟩

theorem pgO_last {O : Nat → Prop} {w : World} {v : Value} {l : List (PageR × Value)} (h : PgO O w v l) (hne : l ≠ []) (hbs : ∀ p ∈ l, p.1.bs.length ≤ 256) : ∃ l0 q gr cp pa pc, l = l0 ++ [q] ∧ v = .slice (some ⟨gr, 0, none⟩) (l0.length + 1) cp ∧ q.2 = .slice pa q.1.bs.length pc ∧ O gr ∧ gr < w.heap.size ∧
 w.cell? ⟨gr, l0.length * 2, none⟩ = some (.int .i64 q.1.num) ∧ w.cell? ⟨gr, l0.length * 2 + 1, none⟩ = some (.slice pa q.1.bs.length pc) ∧ (∀ j, w.frozen? ⟨gr, j, none⟩ = false) := by
 obtain ⟨l0, q, hlq⟩ := last_split l hne
 have hql : q ∈ l := by rw [hlq]; simp
 have hlen : l.length = l0.length + 1 := by rw [hlq]; simp
 have hqb := hbs q hql
 obtain ⟨pa, pc, hpv, _⟩ := (h.1.2.1 q hql).bytes (by unfold maxLen; omega)
 rcases h.1.1.2 with ⟨_, h0⟩ | ⟨g, cap, cur, hv, hg, hc, h1, h2, h3, h4⟩
 · exact absurd (List.length_eq_zero_iff.1 h0) hne
 have hgl : g < w.heap.size := by
  rcases Nat.lt_or_ge g w.heap.size with hlt | hge
  · exact hlt
  · rw [Array.getElem?_eq_none hge] at hc; cases hc
 obtain ⟨f1, f2⟩ := flat2 l l0.length q (by rw [hlq]; simp)
 refine ⟨l0, q, g, cap, pa, pc, hlq, by rw [hv, hlen], hpv, h.2.1 g (by rw [hv]; rfl), hgl, ?_, ?_, fun j => frozen_of_row w g j cur 119 hc⟩
 · rw [cell_of_row w g _ cur 119 (0, 0) hc, ← f1, ← h4, List.getElem?_take_of_lt (by omega), Array.getElem?_toList]
 · rw [cell_of_row w g _ cur 119 (0, 0) hc, ← hpv, ← f2, ← h4, List.getElem?_take_of_lt (by omega), Array.getElem?_toList]

theorem may_facts {m x : Int} {ps : List PageR} (h : mayB m x ps = true) : 0 ≤ m ∧ m ≤ 20 ∧ 1 ≤ x ∧ x ≤ 1099511627776 ∧ (ps.length : Int) ≤ m ∧ ∀ p ∈ ps, 1 ≤ p.bs.length ∧ p.bs.length ≤ 256 := by
 have hb := may_bytes h
 unfold mayB boundsB inB at h
 simp only [Bool.and_eq_true, decide_eq_true_eq] at h
 obtain ⟨⟨⟨h1, h2⟩, ⟨h3, h4⟩, h5⟩, _⟩ := h
 refine ⟨h1, h2, h3, h4, h5, fun p hp => ?_⟩
 obtain ⟨j, hj, rfl⟩ := List.getElem_of_mem hp
 have := hb j hj
 rw [List.getD_eq_getElem?_getD, List.getElem?_eq_getElem hj] at this
 exact ⟨this.1, this.2.1⟩
theorem room_len {m x : Int} {ps : List PageR} {n : Nat} (h : mayB m x ps = true) (hm : m ≠ 0) : ((roomP m x ps n).1.length : Int) ≤ m ∧ (∀ p ∈ (roomP m x ps n).1, p.bs.length ≤ 256) ∧ ((roomP m x ps n).2.1 = x ∨ (roomP m x ps n).2.1 = x + 1) := by
 obtain ⟨h1, h2, h3, h4, h5, h6⟩ := may_facts h
 unfold roomP
 split
 · exact ⟨h5, fun p hp => (h6 p hp).2, Or.inl rfl⟩
 · split
   · next he =>
     refine ⟨?_, fun p hp => ?_, Or.inr rfl⟩
     · simp only [List.length_append, List.length_tail, List.length_cons, List.length_nil]
       omega
     · rcases List.mem_append.1 hp with hp | hp
       · exact (h6 p (List.mem_of_mem_tail hp)).2
       · simp at hp; subst hp; exact Nat.zero_le _
   · next he =>
     refine ⟨?_, fun p hp => ?_, Or.inr rfl⟩
     · simp only [List.length_append, List.length_cons, List.length_nil]
       omega
     · rcases List.mem_append.1 hp with hp | hp
       · exact (h6 p hp).2
       · simp at hp; subst hp; exact Nat.zero_le _

def AppOk (m : Int) (r : AppR) (w : World) (e : Ending) (w' : World) : Prop := ∃ a c, e = .returned (.tuple #[.agg #[.int .i64 m, .int .i64 r.fx, .slice a r.pages.length c], .agg #[.int .i64 r.page, .int .i64 r.at_], .int .i64 r.gone, .int .i64 0]) ∧ PagesFrom w.heap.size w' a r.pages ∧ Below w.heap.size w w'

set_option maxHeartbeats 4000000 in
set_option maxRecDepth 100000 in
theorem append_ok (m x : Int) (ps : List PageR) (a : Option Addr) (c : Nat) (s : ByteArray) (w : World) (hA : PagesAt w a ps) (hs : s.size ≤ maxLen) (hr : refN m x ps s.size = 0) :
 Calls Tryz.prog 158 #[.agg #[.int .i64 m, .int .i64 x, .slice a ps.length c], .string s] w (AppOk m (appF m x ps (recOf s.data.toList)) w) := by
 have hmay : mayB m x ps = true := by
  cases hm : mayB m x ps
  · unfold refN at hr; rw [hm] at hr; simp at hr
  · rfl
 have hs200 : s.size ≤ 200 := by
  rcases Nat.lt_or_ge 200 s.size with h | h
  · unfold refN at hr; rw [hmay, if_pos rfl, if_pos h] at hr; simp at hr
  · exact h
 have hm0 : m ≠ 0 := by
  intro h
  unfold refN at hr
  rw [hmay, if_pos rfl, if_neg (by omega), if_pos h] at hr
  simp at hr
 obtain ⟨f1, f2, f3, f4, f5, f6⟩ := may_facts hmay
 obtain ⟨rl1, rl2, rl3⟩ := room_len (n := (recOf s.data.toList).length) hmay hm0
 have hRl : (recOf s.data.toList).length = 3 + s.size := recOf_len _
 have hrne := roomP_ne m x ps (recOf s.data.toList).length
 have I0 : ApB w (((w.alloc (.cells #[.int .i64 m, .int .i64 x, .slice a ps.length c] 27)).alloc (.cells #[.int .i64 0, .int .i64 0, .slice none 0 0] 27)).alloc (.cells #[.int .i64 0, .int .i64 0] 60)) #[.int .i64 m, .int .i64 x, .slice a ps.length c] := by
  have A1 : Below w.heap.size w (w.alloc (.cells #[.int .i64 m, .int .i64 x, .slice a ps.length c] 27)) := (Below.refl _ _).alloc (Nat.le_refl _) _
  have T2 := TB.new 27 (w.alloc (.cells #[.int .i64 m, .int .i64 x, .slice a ps.length c] 27)) #[.int .i64 0, .int .i64 0, .slice none 0 0]
  have T3 := TB.new 60 ((w.alloc (.cells #[.int .i64 m, .int .i64 x, .slice a ps.length c] 27)).alloc (.cells #[.int .i64 0, .int .i64 0, .slice none 0 0] 27)) #[.int .i64 0, .int .i64 0]
  rw [show (w.alloc (.cells #[.int .i64 m, .int .i64 x, .slice a ps.length c] 27)).heap.size = w.heap.size + 1 by simp] at T2
  rw [show ((w.alloc (.cells #[.int .i64 m, .int .i64 x, .slice a ps.length c] 27)).alloc (.cells #[.int .i64 0, .int .i64 0, .slice none 0 0] 27)).heap.size = w.heap.size + 2 by simp] at T3
  exact ⟨((TB.new 27 w _).alloc _).alloc _, T2.alloc _, T3, (A1.alloc (by simp) _).alloc (by simp; omega) _⟩
 have hrf := fun w1 (hb : Below w.heap.size w w1) => frefused_any m x ps a c s w1 (hA.later hb) hs
 rw [hr] at hrf
 have hof := fun w1 => recOf_any s w1 hs200
 have hcp := fun w1 (hb : Below w.heap.size w w1) => copy_pg m x ps a c w1 (hA.later hb) (by omega) (fun j hj => by have := (f6 _ (List.getElem_mem hj)).2; rw [List.getD_eq_getElem?_getD, List.getElem?_eq_getElem hj]; show ps[j].bs.length ≤ _; omega)
 have hrm : ∀ (O : Nat → Prop) (v : Value) (l : List (PageR × Value)) (w1 : World), PgO O w1 v l → (∀ b, O b → b < w1.heap.size) → l.map (fun y : PageR × Value => y.1) = ps → Calls Tryz.prog 163 #[.agg #[.int .i64 m, .int .i64 x, v], .int .i64 (recOf s.data.toList).length] w1 (RoomPost O m (roomP m x ps (recOf s.data.toList).length) w1) := by
  intro O v l w1 hW hO hl
  have h := room_any O m x v l (recOf s.data.toList).length w1 hW hO (by have := congrArg List.length hl; rw [List.length_map] at this; omega) (fun p hp => (f6 p.1 (by rw [← hl]; exact List.mem_map_of_mem hp)).2) (by omega) hm0 (by omega) f4
  rw [hl] at h
  exact h
 unfold appF
 simp only
 unfold BytesPost at hof
 generalize recOf s.data.toList = R at *
 unfold RoomPost at hrm
 unfold CopyPg at hcp
 generalize roomP m x ps R.length = rp at *
 obtain ⟨rps, rx, rg⟩ := rp
 simp only at *
 have hbsl : ∀ (l0 : List (PageR × Value)) (q : PageR × Value), (l0 ++ [q]).map (fun y : PageR × Value => y.1) = rps → ∀ y ∈ l0, y.1.bs.length ≤ 256 := fun l0 q e y hy => rl2 y.1 (by rw [← e]; simp; exact Or.inl ⟨_, hy⟩)
 have hpost : Hid (∀ (a' : Option Addr) (c' : Nat) (w' : World), PagesFrom w.heap.size w' a' (lastP rps R) → Below w.heap.size w w' → AppOk m ⟨lastP rps R, rx, (rps.getLastD default).num, (rps.getLastD default).bs.length, rg⟩ w (.returned (.tuple #[.agg #[.int .i64 m, .int .i64 rx, .slice a' (lastP rps R).length c'], .agg #[.int .i64 (rps.getLastD default).num, .int .i64 (rps.getLastD default).bs.length], .int .i64 rg, .int .i64 0])) w') := fun a' c' w' h1 h2 => ⟨a', c', rfl, h1, h2⟩
 generalize AppOk m ⟨lastP rps R, rx, (rps.getLastD default).num, (rps.getLastD default).bs.length, rg⟩ w = PO at *
 have hR200 : R.length ≤ 203 := by omega
 have hRp : 0 < R.length := by omega
 clear hRl
 go_enter Tryz.func158, Tryz.ntmps158
 go_wp2_with (first | (go_at_call 161; refine (hrf _ I0.2.2.2).mono ?_; rintro e w1 ⟨rfl, hb1⟩; have I1 := I0.later hb1; have x1 := (fun j => I1.1.cell j); have l1 := I1.1.lt) | (go_at_call 162; refine (hof _).mono ?_; rintro e w2 ⟨gR, cR, rfl, hBR, hgR, hb2⟩; have I2 := I1.later hb2; have x2 := (fun j => I2.1.cell j); have l2 := I2.1.lt) | (go_at_call 56; refine (hcp _ I2.2.2.2).mono ?_; rintro e w3 ⟨v3, l3, rfl, hl3, hP3, hb3⟩; have I3 := I2.later hb3; have hBR3 := hBR.later hb3; have x3 := (fun j => I3.1.cell j); have l3' := I3.1.lt) | (go_at_call 163; refine (hrm (fun b => w2.heap.size ≤ b ∧ b < w3.heap.size) v3 l3 _ hP3.toO (fun b hb => hb.2) hl3).mono ?_; rintro e w4 ⟨v4, l4, rfl, hl4, hP4, hF4⟩; have I4 := I3.fr hF4 (fun b hb => by have := I2.2.2.1.lt; omega); obtain ⟨l0, q, gr, cp, pa, pc, rfl, rfl, hqv, hOg, hgl, c1, c2, fz⟩ := pgO_last hP4 (by intro h; subst h; simp at hl4; exact hrne hl4) (fun p hp => rl2 p.1 (by rw [← hl4]; exact List.mem_map_of_mem hp)); have hz0 : (0 : Int) ≤ (l0.length : Int) := (Int.natCast_nonneg _); have hz1 : (l0.length : Int) ≤ 20 := (by have e := congrArg List.length hl4; simp at e; omega); have hlz : (l0.length : Int) < (l0.length : Int) + 1 := (by omega); have x4 := (fun j => I4.1.cell j); have f4' := (fun j => I4.1.frozen j); have l4' := I4.1.lt))
 obtain ⟨⟨qn, qb⟩, qv⟩ := q
 simp only at hqv c1 c2
 subst hqv
 have hbsl := hbsl _ _ hl4
 have hrps : rps = l0.map (fun y : PageR × Value => y.1) ++ [⟨qn, qb⟩] := by rw [← hl4]; simp
 have hLP : lastP rps R = l0.map (fun y : PageR × Value => y.1) ++ [⟨qn, qb ++ R⟩] := by rw [hrps, lastP_snoc]
 have hLl : (lastP rps R).length = l0.length + 1 := by rw [hLP]; simp
 have hLd : rps.getLastD default = ⟨qn, qb⟩ := by rw [hrps]; simp
 have hqb : qb.length ≤ 256 := rl2 ⟨qn, qb⟩ (by rw [hrps]; simp)
 rw [hLl, hLd] at hpost
 simp only at hpost
 have hw3 : w.heap.size + 3 ≤ w2.heap.size := by have := I2.2.2.1.lt; omega
 have hO4 : ∀ b, ((w2.heap.size ≤ b ∧ b < w3.heap.size) ∨ w3.heap.size + 2 ≤ b) → w.heap.size + 3 ≤ b := fun b hb => by
  have := hb3.size
  omega
 have hn : ∀ b, b < w.heap.size + 3 → ¬ ((w2.heap.size ≤ b ∧ b < w3.heap.size) ∨ w3.heap.size + 2 ≤ b) := fun b hb e => by have := hO4 b e; omega
 have hgn : gr ≠ w.heap.size := by have := hO4 gr hOg; omega
 have hgR3 : gR < w2.heap.size := by
  rcases hBR.2 with h0 | ⟨b2, o2, hb2', hlt2, _⟩
  · omega
  · cases hb2'; exact hlt2
 have hkR : ∀ (W : World), w4.heap.size ≤ W.heap.size → (∀ b, b < w4.heap.size → b ≠ w.heap.size → W.heap[b]? = w4.heap[b]?) → BytesAt W (some ⟨gR, 0, none⟩) R := by
  intro W h1 h2
  refine ⟨hBR3.1, ?_⟩
  rcases hBR3.2 with h0 | ⟨b2, o2, hb2', hlt2, hc2⟩
  · exact Or.inl h0
  cases hb2'
  have e1 := hF4.block gR hlt2 (fun e => by have := e.1; omega)
  have hsz4 := hF4.size
  have e2 := h2 gR (by omega) (by have := I1.2.2.1.lt; omega)
  exact Or.inr ⟨gR, 0, rfl, by omega, fun j hj => by rw [← hc2 j hj]; simp only [World.cell?, e2, e1]⟩
 have J5 : ApB w (((w4.setCell ⟨w.heap.size, 0, none⟩ (.int .i64 m)).setCell ⟨w.heap.size, 1, none⟩ (.int .i64 rx)).setCell ⟨w.heap.size, 2, none⟩ (.slice (some ⟨gr, 0, none⟩) (l0.length + 1) cp)) #[.int .i64 m, .int .i64 rx, .slice (some ⟨gr, 0, none⟩) (l0.length + 1) cp] := ((I4.set 0 _).set 1 _).set 2 _
 have P5 := ((hP4.far 0 (.int .i64 m) (hn w.heap.size (by omega))).far 1 (.int .i64 rx) (hn w.heap.size (by omega))).far 2 (.slice (some ⟨gr, 0, none⟩) (l0.length + 1) cp) (hn w.heap.size (by omega))
 have B5 := hkR (((w4.setCell ⟨w.heap.size, 0, none⟩ (.int .i64 m)).setCell ⟨w.heap.size, 1, none⟩ (.int .i64 rx)).setCell ⟨w.heap.size, 2, none⟩ (.slice (some ⟨gr, 0, none⟩) (l0.length + 1) cp)) (by simp [World.setCell]) (fun b _ hb => by rw [heap_setCell_other _ _ _ _ (show b ≠ w.heap.size from hb), heap_setCell_other _ _ _ _ (show b ≠ w.heap.size from hb), heap_setCell_other _ _ _ _ (show b ≠ w.heap.size from hb)])
 have c1' : (((w4.setCell ⟨w.heap.size, 0, none⟩ (.int .i64 m)).setCell ⟨w.heap.size, 1, none⟩ (.int .i64 rx)).setCell ⟨w.heap.size, 2, none⟩ (.slice (some ⟨gr, 0, none⟩) (l0.length + 1) cp)).cell? ⟨gr, l0.length * 2, none⟩ = some (.int .i64 qn) := by
  iterate 3 rw [World.cell?_setCell_far _ _ ⟨gr, l0.length * 2, none⟩ _ (show w.heap.size ≠ gr from fun e => hgn e.symm)]
  exact c1
 have c2' : (((w4.setCell ⟨w.heap.size, 0, none⟩ (.int .i64 m)).setCell ⟨w.heap.size, 1, none⟩ (.int .i64 rx)).setCell ⟨w.heap.size, 2, none⟩ (.slice (some ⟨gr, 0, none⟩) (l0.length + 1) cp)).cell? ⟨gr, l0.length * 2 + 1, none⟩ = some (.slice pa qb.length pc) := by
  iterate 3 rw [World.cell?_setCell_far _ _ ⟨gr, l0.length * 2 + 1, none⟩ _ (show w.heap.size ≠ gr from fun e => hgn e.symm)]
  exact c2
 have hsz5 : (((w4.setCell ⟨w.heap.size, 0, none⟩ (.int .i64 m)).setCell ⟨w.heap.size, 1, none⟩ (.int .i64 rx)).setCell ⟨w.heap.size, 2, none⟩ (.slice (some ⟨gr, 0, none⟩) (l0.length + 1) cp)).heap.size = w4.heap.size := by simp [World.setCell]
 rw [← hsz5] at hgl
 have hsz35 : w3.heap.size + 2 ≤ (((w4.setCell ⟨w.heap.size, 0, none⟩ (.int .i64 m)).setCell ⟨w.heap.size, 1, none⟩ (.int .i64 rx)).setCell ⟨w.heap.size, 2, none⟩ (.slice (some ⟨gr, 0, none⟩) (l0.length + 1) cp)).heap.size ∨ True := Or.inr trivial
 generalize hW5 : (((w4.setCell ⟨w.heap.size, 0, none⟩ (.int .i64 m)).setCell ⟨w.heap.size, 1, none⟩ (.int .i64 rx)).setCell ⟨w.heap.size, 2, none⟩ (.slice (some ⟨gr, 0, none⟩) (l0.length + 1) cp)) = W5 at *
 have hl5 : w.heap.size + 2 < W5.heap.size := J5.2.2.1.lt
 have hw35 : w3.heap.size ≤ W5.heap.size := by have := hF4.size; omega
 clear hW5 hsz5 hsz35 c1 c2 fz x4 f4' l4' I4 hP4 hF4 hkR hrf hof hcp hrm I0 I1 x1 l1 I2 x2 l2 I3 x3 l3' hBR hBR3 hA hP3 hl3 hb1 hb2 rl1 rl2 f6 hrps hLd hl4
 have A6 := fun (o : Obj) => ((Below.refl W5.heap.size W5).alloc (Nat.le_refl _) o)
 have J6 := J5.later ((A6 (.cells #[.int .i64 qn, .int .i64 qb.length] 60)).drew)
 have P6 := P5.later ((A6 (.cells #[.int .i64 qn, .int .i64 qb.length] 60)).drew)
 have B6 := B5.later ((A6 (.cells #[.int .i64 qn, .int .i64 qb.length] 60)).drew)
 have T6 : TB 60 (W5.alloc (.cells #[.int .i64 qn, .int .i64 qb.length] 60)).drew W5.heap.size #[.int .i64 qn, .int .i64 qb.length] := TB.new 60 W5 _
 have q6 : OwnBy 0 (W5.alloc (.cells #[.int .i64 qn, .int .i64 qb.length] 60)).drew (⟨qn, qb⟩, .slice pa qb.length pc) := P6.1.2.1 _ (by simp)
 have hs6 : (W5.alloc (.cells #[.int .i64 qn, .int .i64 qb.length] 60)).drew.heap.size = W5.heap.size + 1 := by simp [World.drew]
 have hqO : ∀ g, (Value.slice pa qb.length pc).ownBlock = some g → ((w2.heap.size ≤ g ∧ g < w3.heap.size) ∨ w3.heap.size + 2 ≤ g) ∧ g < W5.heap.size := fun g hg => ⟨P5.2.2 (⟨qn, qb⟩, .slice pa qb.length pc) (by simp) g hg, ((P5.1.2.1 (⟨qn, qb⟩, .slice pa qb.length pc) (by simp)).lt g hg).2⟩
 have x5 := fun j => J5.1.cell j
 have f5' := fun j => J5.1.frozen j
 have l5 := J5.1.lt
 have hzq : (qb.length : Int) ≤ 256 := by omega
 have fz5 : ∀ j, W5.frozen? ⟨gr, j, none⟩ = false := by
  obtain ⟨cur, _, hc, _⟩ := owns_block (by have := P5.1.1; rw [List.length_append] at this; exact this)
  exact fun j => frozen_of_row W5 gr j cur 119 hc
 have hqg : ∀ g, (Value.slice pa qb.length pc).ownBlock = some g → g ≠ gr := fun g hg e => P5.1.2.2.1 (⟨qn, qb⟩, .slice pa qb.length pc) (by simp) g hg (by rw [e]; rfl)
 have hzl : (l0.length : Int) ≤ 20 := hz1
 have hfin : Hid (∀ (g8 cap8 : Nat) (w8 : World), OwnBy 0 w8 (⟨qn, qb ++ R⟩, .slice (some ⟨g8, 0, none⟩) (qb.length + R.length) cap8) → (W5.alloc (.cells #[.int .i64 qn, .int .i64 qb.length] 60)).drew.grownBy w8 (Value.slice pa qb.length pc).ownBlock → ((Value.slice pa qb.length pc).ownBlock = some g8 ∨ g8 = (W5.alloc (.cells #[.int .i64 qn, .int .i64 qb.length] 60)).drew.heap.size) →
  ApB w (w8.setCell ⟨gr, l0.length * 2 + 1, none⟩ (.slice (some ⟨g8, 0, none⟩) (qb.length + R.length) cap8)) #[.int .i64 m, .int .i64 rx, .slice (some ⟨gr, 0, none⟩) (l0.length + 1) cp] ∧ TB 60 (w8.setCell ⟨gr, l0.length * 2 + 1, none⟩ (.slice (some ⟨g8, 0, none⟩) (qb.length + R.length) cap8)) W5.heap.size #[.int .i64 qn, .int .i64 qb.length] ∧ w8.cell? ⟨gr, l0.length * 2 + 1, none⟩ = some (.slice pa qb.length pc) ∧ w8.frozen? ⟨gr, l0.length * 2 + 1, none⟩ = false ∧
  ∀ w', Fr (fun b => b = w.heap.size + 1 ∨ b = w.heap.size + 2) (w8.setCell ⟨gr, l0.length * 2 + 1, none⟩ (.slice (some ⟨g8, 0, none⟩) (qb.length + R.length) cap8)) w' → PO (.returned (.tuple #[.agg #[.int .i64 m, .int .i64 rx, .slice (some ⟨gr, 0, none⟩) (l0.length + 1) cp], .agg #[.int .i64 qn, .int .i64 qb.length], .int .i64 rg, .int .i64 0])) w') := by
  intro g8 cap8 w8 hO8 hg8 hat8
  have P9 := P6.last (O' := fun b => w.heap.size + 3 ≤ b) hO8 hg8 hat8 (fun b hb => hO4 b hb) (by
   rcases hat8 with e | e
   · exact hO4 g8 (hqO g8 e).1
   · rw [hs6] at e; omega)
  have J8 := J6.fr (O := fun b => (Value.slice pa qb.length pc).ownBlock = some b) (Fr.of_grown hg8 (fun g hg => Or.inl hg)) (fun b hb => hO4 b (hqO b hb).1)
  have hF9 : Fr (fun b => b = gr) w8 (w8.setCell ⟨gr, l0.length * 2 + 1, none⟩ (.slice (some ⟨g8, 0, none⟩) (qb.length + R.length) cap8)) := (Fr.refl _ _).set _ _ (Or.inl rfl)
  have J9 := J8.fr hF9 (fun b hb => by rw [hb]; exact hO4 gr hOg)
  have T8 := grown_tb hg8 T6 (fun e => by have := (hqO _ e).2; omega)
  have hne : some gr ≠ (Value.slice pa qb.length pc).ownBlock := fun e => hqg gr e.symm rfl
  refine ⟨J9, hF9.tb T8 (fun e => by omega), ?_, ?_, fun w' hw' => ?_⟩
  · rw [hg8.cell_far ⟨gr, l0.length * 2 + 1, none⟩ (by show gr < _; omega) hne]
    show (W5.alloc _).cell? _ = _
    rw [(A6 _).cell (p := ⟨gr, l0.length * 2 + 1, none⟩) hgl]
    exact c2'
  · rw [hg8.frozen_far ⟨gr, l0.length * 2 + 1, none⟩ (by show gr < _; omega) hne]
    show (W5.alloc _).frozen? _ = _
    rw [(A6 _).frozen (p := ⟨gr, l0.length * 2 + 1, none⟩) hgl]
    exact fz5 _
  · have P10 : PgOwn (w.heap.size + 3) w' _ _ := (P9.kept (w' := w') fun b hb hl => hw'.block b hl (fun e => by omega)).toOwn (fun b hb => hb)
    obtain ⟨a', c', hv', hpf⟩ := P10.pages (by rw [List.length_append, List.length_singleton]; unfold maxLen; omega) (fun y hy => by
     rcases List.mem_append.1 hy with hy | hy
     · have := (P10.2.1 y (by simp [hy])).1
       have h2 := hbsl y hy
       unfold maxLen; omega
     · simp at hy; subst hy
       show (qb ++ R).length ≤ maxLen
       rw [List.length_append]
       unfold maxLen; omega)
    rw [List.map_append] at hpf
    have hpf2 : PagesFrom (w.heap.size + 3) w' a' (lastP rps R) := by rw [hLP]; exact hpf
    rw [List.length_append, List.length_singleton] at hv'
    cases hv'
    exact hpost.out _ _ w' (fun w2' h1 h2 => hpf2 w2' h1 (fun b hb hl => h2 b (by omega) hl)) (J9.2.2.2.trans (hw'.below (fun b hb => by omega) J9.2.2.2.size))
 clear hpost J6 P6 T6 P5
 go_region
 all_goals
  go_wp2_with (at_builtin; refine append_bytesO _ rfl (.tmp 52) (.tmp 53) rfl qn qb _ rfl q6 R gR 0 cR rfl B6 hRp (by omega) ?_; intro g8 cap8 w8 hO8 hg8 hat8; have hF := hfin.out g8 cap8 w8 hO8 hg8 hat8; have c8 := hF.2.2.1; have z8 := hF.2.2.2.1)
 all_goals
  obtain ⟨J9, T9, _, _, hEnd⟩ := hF
  have hEnd' : Hid _ := hEnd
  clear hEnd hfin hO8 hg8 hat8 c8 z8 c1' c2' fz5 q6 B6 A6 x5 f5'
  generalize w8.setCell ⟨gr, l0.length * 2 + 1, none⟩ (.slice (some ⟨g8, 0, none⟩) (qb.length + R.length) cap8) = W9 at *
  have x9 := fun j => J9.1.cell j
  have l9 := J9.1.lt
  have y9 := fun j => J9.2.1.cell j
  have fy9 := fun j => J9.2.1.frozen j
  have ly9 := J9.2.1.lt
  have v9 := fun j => J9.2.2.1.cell j
  have fv9 := fun j => J9.2.2.1.frozen j
  have lv9 := J9.2.2.1.lt
  have t9 := fun j => T9.cell j
  have lt9 := T9.lt
  go_region
  all_goals
   go_wp2_with fail
   exact bodyPost_ret (v := .tuple #[.agg #[.int .i64 m, .int .i64 rx, .slice (some ⟨gr, 0, none⟩) (l0.length + 1) cp], .agg #[.int .i64 qn, .int .i64 qb.length], .int .i64 rg, .int .i64 0]) (by simp [results, Tryz.results158, go_sem, y9, ly9, v9, lv9]) rfl (hEnd'.out _ (Fr.drew (Fr.set (Fr.set (Fr.set (Fr.set (Fr.set (Fr.refl _ _) _ _ (Or.inl (Or.inl rfl))) _ _ (Or.inl (Or.inl rfl))) _ _ (Or.inl (Or.inl rfl))) _ _ (Or.inl (Or.inr rfl))) _ _ (Or.inl (Or.inr rfl)))))

/- Plain facts of flash.Append: what may be stays so; what was appended is found, and what was there before, as long as its page is. -/

theorem pagesF_get : ∀ {ps : List PageR} {f : Int}, pagesF f ps = true → ∀ j (hj : j < ps.length), ps[j].num = f + j ∧ bytesB ps[j].bs = true
 | [], f, h, j, hj => by simp at hj
 | p :: r, f, h, j, hj => by
  unfold pagesF at h
  rw [Bool.and_eq_true, Bool.and_eq_true] at h
  cases j with
  | zero => exact ⟨by have := of_decide_eq_true h.1; simpa using this, h.2.1⟩
  | succ j =>
   have := pagesF_get h.2.2 j (by simpa using hj)
   refine ⟨?_, by simpa using this.2⟩
   have e := this.1
   simp
   omega
theorem pagesF_of : ∀ {ps : List PageR} {f : Int}, (∀ j (hj : j < ps.length), ps[j].num = f + j ∧ bytesB ps[j].bs = true) → pagesF f ps = true
 | [], f, h => rfl
 | p :: r, f, h => by
  unfold pagesF
  have h0 := h 0 (by simp)
  have hr := pagesF_of (ps := r) (f := f + 1) fun j hj => by
   have := h (j + 1) (by simpa using hj)
   simp at this
   exact ⟨by omega, this.2⟩
  simp at h0
  rw [hr, h0.2, decide_eq_true h0.1]
  rfl
theorem pageI_at {ps : List PageR} {f : Int} (h : pagesF f ps = true) (j : Nat) (hj : j < ps.length) : pageI ps (f + j) = j := by
 unfold pageI
 refine (List.findIdx_eq hj).2 ⟨by simp [(pagesF_get h j hj).1], fun i hi => ?_⟩
 have := (pagesF_get h i (by omega)).1
 simp
 omega
theorem pageI_in {ps : List PageR} {f : Int} (h : pagesF f ps = true) (n : Int) (hn : pageI ps n < ps.length) : n = f + (pageI ps n : Int) := by
 have h1 : (ps[pageI ps n]).num == n := List.findIdx_getElem (w := hn)
 have h2 := (pagesF_get h _ hn).1
 have h3 : (ps[pageI ps n]).num = n := by simpa using h1
 omega
/-- The value at a place of page j. -/
theorem findN_at {ps : List PageR} {f : Int} (h : pagesF f ps = true) (j : Nat) (hj : j < ps.length) (p : Int) : findN ps (f + j) p = (if (valO (valsAt 0 ps[j].bs) p).isSome = true then 0 else 2) ∧ findS ps (f + j) p = ((valO (valsAt 0 ps[j].bs) p).getD ⟨#[]⟩) := by
 unfold findN findS
 rw [pageI_at h j hj, if_pos hj, if_pos hj, List.getD_eq_getElem?_getD, List.getElem?_eq_getElem hj]
 exact ⟨rfl, rfl⟩
theorem findN_out {ps : List PageR} {n p : Int} (h : findN ps n p = 0) : pageI ps n < ps.length := by
 unfold findN at h
 split at h
 · assumption
 · cases h

theorem bytesB_facts {l : List UInt8} : bytesB l = true ↔ 1 ≤ l.length ∧ l.length ≤ 256 ∧ recsB l = true := by
 unfold bytesB
 simp only [Bool.and_eq_true, decide_eq_true_eq]
theorem mayB_facts {m x : Int} {ps : List PageR} : mayB m x ps = true ↔ (0 ≤ m ∧ m ≤ 20) ∧ (1 ≤ x ∧ x ≤ 1099511627776) ∧ (ps.length : Int) ≤ m ∧ 1 ≤ x - ps.length ∧ pagesF (x - ps.length) ps = true := by
 unfold mayB boundsB pagesB inB
 simp only [Bool.and_eq_true, decide_eq_true_eq]
 constructor
 · rintro ⟨⟨⟨h1, h2⟩, ⟨h3, h4⟩, h5⟩, h6, h7⟩
   exact ⟨⟨h1, h2⟩, ⟨h3, h4⟩, h5, h6, h7⟩
 · rintro ⟨⟨h1, h2⟩, ⟨h3, h4⟩, h5, h6, h7⟩
   exact ⟨⟨⟨h1, h2⟩, ⟨h3, h4⟩, h5⟩, h6, h7⟩
theorem refN_facts {m x : Int} {ps : List PageR} {n : Nat} (h : refN m x ps n = 0) : mayB m x ps = true ∧ n ≤ 200 ∧ m ≠ 0 ∧ x ≠ 1099511627776 := by
 unfold refN at h
 split at h
 · next h1 =>
   split at h
   · simp at h
   · next h2 =>
     split at h
     · simp at h
     · next h3 =>
       split at h
       · simp at h
       · next h4 => exact ⟨h1, by omega, h3, h4⟩
 · simp at h

/-- The last page has a record more. -/
theorem fits_last {m x : Int} {ps : List PageR} (h : mayB m x ps = true) (v : List UInt8) (hv : v.length ≤ 200) (hf : fitsB ps (3 + v.length) = true) : ∃ l0 p, ps = l0 ++ [p] ∧ p.num = x - 1 ∧ p.bs.length + (3 + v.length) ≤ 256 ∧ recsB p.bs = true ∧ 1 ≤ p.bs.length := by
 unfold fitsB at hf
 cases hl : ps.getLast? with
 | none => rw [hl] at hf; cases hf
 | some p =>
  rw [hl] at hf
  obtain ⟨l0, rfl⟩ := List.getLast?_eq_some_iff.1 hl
  obtain ⟨_, _, _, _, h5⟩ := mayB_facts.1 h
  have h6 := pagesF_get h5 l0.length (by simp)
  have e : (l0 ++ [p])[l0.length]'(by simp) = p := by simp
  rw [e] at h6
  have h7 := bytesB_facts.1 h6.2
  refine ⟨l0, p, rfl, ?_, of_decide_eq_true hf, h7.2.2, h7.1⟩
  have := h6.1
  simp at this
  omega
/-- What an append gives, in its three cases. -/
theorem appF_cases {m x : Int} {ps : List PageR} {v : ByteArray} (h : refN m x ps v.size = 0) :
 (∃ l0 p, ps = l0 ++ [p] ∧ p.num = x - 1 ∧ p.bs.length + (3 + v.size) ≤ 256 ∧ recsB p.bs = true ∧ 1 ≤ p.bs.length ∧ appF m x ps (recOf v.data.toList) = ⟨l0 ++ [⟨p.num, p.bs ++ recOf v.data.toList⟩], x, p.num, p.bs.length, 0⟩) ∨
 (∃ q r, ps = q :: r ∧ (ps.length : Int) = m ∧ q.num = x - m ∧ appF m x ps (recOf v.data.toList) = ⟨r ++ [⟨x, recOf v.data.toList⟩], x + 1, x, 0, q.num⟩) ∨
 ((ps.length : Int) < m ∧ appF m x ps (recOf v.data.toList) = ⟨ps ++ [⟨x, recOf v.data.toList⟩], x + 1, x, 0, 0⟩) := by
 obtain ⟨hm, hv, hm0, hx⟩ := refN_facts h
 have hvl : v.data.toList.length = v.size := by rw [Array.length_toList]; rfl
 have hR : (recOf v.data.toList).length = 3 + v.size := by rw [recOf_len, hvl]
 obtain ⟨h1, h2, h3, h4, h5⟩ := mayB_facts.1 hm
 unfold appF roomP
 rw [hR]
 by_cases hf : fitsB ps (3 + v.size) = true
 · rw [if_pos hf]
   obtain ⟨l0, p, rfl, e1, e2, e3, e4⟩ := fits_last hm v.data.toList (by omega) (by rw [hvl]; exact hf)
   rw [hvl] at e2
   refine Or.inl ⟨l0, p, rfl, e1, e2, e3, e4, ?_⟩
   simp only [lastP_snoc]
   simp
 · rw [if_neg hf]
   by_cases hl : (ps.length : Int) = m
   · rw [if_pos hl]
     cases ps with
     | nil => simp at hl; omega
     | cons q r =>
      refine Or.inr (Or.inl ⟨q, r, rfl, hl, ?_, ?_⟩)
      · have := (pagesF_get h5 0 (by simp)).1
        simp at this
        simp at hl
        omega
      · simp only [List.tail_cons, lastP_snoc]
        simp
   · rw [if_neg hl]
     refine Or.inr (Or.inr ⟨by omega, ?_⟩)
     simp only [lastP_snoc]
     simp

/- flash.Append: what may be stays so; what was appended is found, and what was there before, as long as its page is. -/

theorem bytesB_rec {v : ByteArray} (h : v.size ≤ 200) : bytesB (recOf v.data.toList) = true := by
 have hvl : v.data.toList.length = v.size := by rw [Array.length_toList]; rfl
 refine bytesB_facts.2 ⟨by rw [recOf_len]; omega, by rw [recOf_len]; omega, ?_⟩
 have := recsB_app v.data.toList (by omega) 0 [] (Nat.le_refl _) (recsB_nil [] rfl)
 simpa using this
theorem strB_data (v : ByteArray) : strB v.data.toList = v := by
 unfold strB
 simp

theorem appF_may {m x : Int} {ps : List PageR} {v : ByteArray} (h : refN m x ps v.size = 0) : mayB m (appF m x ps (recOf v.data.toList)).fx (appF m x ps (recOf v.data.toList)).pages = true := by
 obtain ⟨hm, hv, hm0, hx⟩ := refN_facts h
 have hvl : v.data.toList.length = v.size := by rw [Array.length_toList]; rfl
 obtain ⟨h1, h2, h3, h4, h5⟩ := mayB_facts.1 hm
 have hnew := bytesB_rec hv
 rcases appF_cases h with ⟨l0, p, rfl, e1, e2, e3, e4, e⟩ | ⟨q, r, rfl, e1, e2, e⟩ | ⟨e1, e⟩
 · rw [e]
   refine mayB_facts.2 ⟨h1, h2, by simpa using h3, by simpa using h4, pagesF_of fun j hj => ?_⟩
   simp at hj
   have hg := pagesF_get h5 j (by simpa using hj)
   by_cases hjl : j < l0.length
   · rw [List.getElem_append_left hjl] at hg ⊢
     simpa using hg
   · have hje : j = l0.length := by omega
     subst hje
     rw [List.getElem_append_right (Nat.le_refl _)] at hg ⊢
     simp at hg ⊢
     refine ⟨hg.1, bytesB_facts.2 ⟨by rw [List.length_append]; omega, by rw [List.length_append, recOf_len]; omega, recsB_app _ (by omega) _ _ (Nat.le_refl _) e3⟩⟩
 · rw [e]
   simp at e1
   refine mayB_facts.2 ⟨h1, ⟨by show 1 ≤ x + 1; omega, by show x + 1 ≤ _; omega⟩, by simp; omega, by simp; simp at h4; omega, pagesF_of fun j hj => ?_⟩
   simp at hj
   by_cases hjl : j < r.length
   · have hg := pagesF_get h5 (j + 1) (by simp; omega)
     simp at hg
     simp only [List.getElem_append_left hjl]
     refine ⟨?_, hg.2⟩
     rw [hg.1]
     simp
     omega
   · have hje : j = r.length := by omega
     subst hje
     simp
     exact ⟨by omega, hnew⟩
 · rw [e]
   refine mayB_facts.2 ⟨h1, ⟨by show 1 ≤ x + 1; omega, by show x + 1 ≤ _; omega⟩, by simp; omega, by simp; omega, pagesF_of fun j hj => ?_⟩
   simp at hj
   by_cases hjl : j < ps.length
   · have hg := pagesF_get h5 j hjl
     simp only [List.getElem_append_left hjl]
     refine ⟨?_, hg.2⟩
     rw [hg.1]
     simp
     omega
   · have hje : j = ps.length := by omega
     subst hje
     simp
     exact ⟨by omega, hnew⟩

theorem appF_new {m x : Int} {ps : List PageR} {v : ByteArray} (h : refN m x ps v.size = 0) : findN (appF m x ps (recOf v.data.toList)).pages (appF m x ps (recOf v.data.toList)).page (appF m x ps (recOf v.data.toList)).at_ = 0 ∧ findS (appF m x ps (recOf v.data.toList)).pages (appF m x ps (recOf v.data.toList)).page (appF m x ps (recOf v.data.toList)).at_ = v := by
 obtain ⟨hm, hv, hm0, hx⟩ := refN_facts h
 have hvl : v.data.toList.length = v.size := by rw [Array.length_toList]; rfl
 have hmay := appF_may h
 obtain ⟨h1, h2, h3, h4, h5⟩ := mayB_facts.1 hmay
 have hone : valO (valsAt 0 (recOf v.data.toList)) 0 = some v := by
  have := valO_app [] v.data.toList (by omega) (recsB_nil [] rfl) 0
  rw [List.nil_append] at this
  rw [this, if_pos (by simp), strB_data]
 rcases appF_cases h with ⟨l0, p, rfl, e1, e2, e3, e4, e⟩ | ⟨q, r, rfl, e1, e2, e⟩ | ⟨e1, e⟩
 · rw [e] at h5 ⊢
   have hf := findN_at h5 l0.length (by simp) p.bs.length
   have hn : (x - ((l0 ++ [(⟨p.num, p.bs ++ recOf v.data.toList⟩ : PageR)]).length : Int) + (l0.length : Int)) = p.num := by simp; omega
   rw [hn] at hf
   simp at hf
   have hva := valO_app p.bs v.data.toList (by omega) e3 p.bs.length
   rw [if_pos rfl, strB_data] at hva
   rw [hva] at hf
   simpa using hf
 · rw [e] at h5 ⊢
   have hf := findN_at h5 r.length (by simp) 0
   have hn : (x + 1 - ((r ++ [(⟨x, recOf v.data.toList⟩ : PageR)]).length : Int) + (r.length : Int)) = x := by simp; omega
   rw [hn] at hf
   simp [hone] at hf
   simpa using hf
 · rw [e] at h5 ⊢
   have hf := findN_at h5 ps.length (by simp) 0
   have hn : (x + 1 - ((ps ++ [(⟨x, recOf v.data.toList⟩ : PageR)]).length : Int) + (ps.length : Int)) = x := by simp; omega
   rw [hn] at hf
   simp [hone] at hf
   simpa using hf

theorem appF_old {m x : Int} {ps : List PageR} {v : ByteArray} (h : refN m x ps v.size = 0) (n p : Int) (hn : findN ps n p = 0) (hg : n ≠ (appF m x ps (recOf v.data.toList)).gone) : findN (appF m x ps (recOf v.data.toList)).pages n p = 0 ∧ findS (appF m x ps (recOf v.data.toList)).pages n p = findS ps n p := by
 obtain ⟨hm, hv, hm0, hx⟩ := refN_facts h
 have hvl : v.data.toList.length = v.size := by rw [Array.length_toList]; rfl
 have hmay := appF_may h
 obtain ⟨_, _, _, _, h5⟩ := mayB_facts.1 hm
 obtain ⟨_, _, _, _, k5⟩ := mayB_facts.1 hmay
 have hin := pageI_in h5 n (findN_out hn)
 have hlt := findN_out hn
 generalize pageI ps n = j at *
 have ho := findN_at h5 j hlt p
 rw [← hin] at ho
 have hsome : (valO (valsAt 0 ps[j].bs) p).isSome = true := by
  rcases Bool.eq_false_or_eq_true (valO (valsAt 0 ps[j].bs) p).isSome with q | q
  · exact q
  · rw [ho.1, q] at hn; simp at hn
 rcases appF_cases h with ⟨l0, q, rfl, e1, e2, e3, e4, e⟩ | ⟨q, r, rfl, e1, e2, e⟩ | ⟨e1, e⟩
 · rw [e] at k5 ⊢
   have hjl : j < (l0 ++ [(⟨q.num, q.bs ++ recOf v.data.toList⟩ : PageR)]).length := by simpa using hlt
   have hf := findN_at k5 j hjl p
   have hn2 : (x - ((l0 ++ [(⟨q.num, q.bs ++ recOf v.data.toList⟩ : PageR)]).length : Int) + (j : Int)) = n := by rw [hin]; simp
   rw [hn2] at hf
   have hv2 : valO (valsAt 0 (l0 ++ [(⟨q.num, q.bs ++ recOf v.data.toList⟩ : PageR)])[j].bs) p = valO (valsAt 0 (l0 ++ [q])[j].bs) p := by
    by_cases hj2 : j < l0.length
    · rw [List.getElem_append_left hj2, List.getElem_append_left hj2]
    · have hje : j = l0.length := by simp at hlt; omega
      subst hje
      simp at hsome ⊢
      rw [valO_app q.bs v.data.toList (by omega) e3 p, if_neg]
      intro e
      have := (valO_range _ _ hsome).2
      omega
   rw [hv2] at hf
   rw [hsome] at hf
   exact ⟨by simpa using hf.1, by rw [hf.2, ho.2]⟩
 · rw [e] at k5 hg ⊢
   simp at hg e1
   have hj0 : j ≠ 0 := fun e0 => by subst e0; simp at hin; omega
   obtain ⟨i, rfl⟩ : ∃ i, j = i + 1 := ⟨j - 1, by omega⟩
   have hil : i < r.length := by simpa using hlt
   have hjl : i < (r ++ [(⟨x, recOf v.data.toList⟩ : PageR)]).length := by simp; omega
   have hf := findN_at k5 i hjl p
   have hn2 : (x + 1 - ((r ++ [(⟨x, recOf v.data.toList⟩ : PageR)]).length : Int) + (i : Int)) = n := by rw [hin]; simp; omega
   rw [hn2, List.getElem_append_left hil] at hf
   simp only [List.getElem_cons_succ] at hsome ho
   rw [hsome] at hf
   exact ⟨by simpa using hf.1, by rw [hf.2, ho.2]⟩
 · rw [e] at k5 ⊢
   have hjl : j < (ps ++ [(⟨x, recOf v.data.toList⟩ : PageR)]).length := by simp; omega
   have hf := findN_at k5 j hjl p
   have hn2 : (x + 1 - ((ps ++ [(⟨x, recOf v.data.toList⟩ : PageR)]).length : Int) + (j : Int)) = n := by rw [hin]; simp; omega
   rw [hn2, List.getElem_append_left hlt, hsome] at hf
   exact ⟨by simpa using hf.1, by rw [hf.2, ho.2]⟩

/- Items and stores in memory; dovecotelaw.sameStore at two that are the same. -/

structure ItemR where
 key : ByteArray
 flags : Int
 until_ : Int
 cas : Int
 used : Int
 value : ByteArray
 far : Bool
 page : Int
 at_ : Int
 deriving Inhabited

structure StoreR where
 clock : Int
 cas : Int
 uses : Int
 most : Int
 h0 : Int
 h1 : Int
 h2 : Int
 h3 : Int
 items : List ItemR
 fm : Int
 fx : Int
 pages : List PageR

/-- One item at its nine cells. -/
def ItemAt (w : World) (b o : Nat) (it : ItemR) : Prop :=
 w.cell? ⟨b, o, none⟩ = some (.string it.key) ∧ w.cell? ⟨b, o + 1, none⟩ = some (.int .i64 it.flags) ∧ w.cell? ⟨b, o + 2, none⟩ = some (.int .i64 it.until_) ∧ w.cell? ⟨b, o + 3, none⟩ = some (.int .i64 it.cas) ∧ w.cell? ⟨b, o + 4, none⟩ = some (.int .i64 it.used) ∧
  w.cell? ⟨b, o + 5, none⟩ = some (.string it.value) ∧ w.cell? ⟨b, o + 6, none⟩ = some (.bool it.far) ∧ w.cell? ⟨b, o + 7, none⟩ = some (.int .i64 it.page) ∧ w.cell? ⟨b, o + 8, none⟩ = some (.int .i64 it.at_)

theorem ItemAt.later {w w' : World} {b o : Nat} {it : ItemR} (h : ItemAt w b o it) (hlt : b < w.heap.size) (hb : Below w.heap.size w w') : ItemAt w' b o it := by
 obtain ⟨h0, h1, h2, h3, h4, h5, h6, h7, h8⟩ := h
 exact ⟨by rw [hb.cell (p := ⟨b, o, none⟩) hlt]; exact h0, by rw [hb.cell (p := ⟨b, o + 1, none⟩) hlt]; exact h1, by rw [hb.cell (p := ⟨b, o + 2, none⟩) hlt]; exact h2, by rw [hb.cell (p := ⟨b, o + 3, none⟩) hlt]; exact h3, by rw [hb.cell (p := ⟨b, o + 4, none⟩) hlt]; exact h4,
  by rw [hb.cell (p := ⟨b, o + 5, none⟩) hlt]; exact h5, by rw [hb.cell (p := ⟨b, o + 6, none⟩) hlt]; exact h6, by rw [hb.cell (p := ⟨b, o + 7, none⟩) hlt]; exact h7, by rw [hb.cell (p := ⟨b, o + 8, none⟩) hlt]; exact h8⟩

/-- The items 'l' lie in memory as the slice (a, l.length) says. -/
def ItemsAt (w : World) (a : Option Addr) (l : List ItemR) : Prop :=
 l.length ≤ maxLen ∧ (l.length = 0 ∨ ∃ b o, a = some ⟨b, o, none⟩ ∧ b < w.heap.size ∧ ∀ j, j < l.length → ItemAt w b (o + j * 9) (l.getD j default))

theorem ItemsAt.later {w w' : World} {a : Option Addr} {l : List ItemR} (h : ItemsAt w a l) (hb : Below w.heap.size w w') : ItemsAt w' a l := by
 obtain ⟨h1, h2⟩ := h
 refine ⟨h1, ?_⟩
 rcases h2 with h2 | ⟨b, o, h3, h4, h5⟩
 · exact Or.inl h2
 · exact Or.inr ⟨b, o, h3, Nat.lt_of_lt_of_le h4 hb.size, fun j hj => (h5 j hj).later h4 hb⟩

theorem items_none (w : World) (a : Option Addr) : ItemsAt w a [] := ⟨Nat.zero_le _, Or.inl rfl⟩

/-- A store's value, and what of it lies in memory. -/
def storeV (s : StoreR) (ia : Option Addr) (ic : Nat) (pa : Option Addr) (pc : Nat) : Value := .agg #[.int .i64 s.clock, .int .i64 s.cas, .int .i64 s.uses, .int .i64 s.most, .int .i64 s.h0, .int .i64 s.h1, .int .i64 s.h2, .int .i64 s.h3, .slice ia s.items.length ic, .int .i64 s.fm, .int .i64 s.fx, .slice pa s.pages.length pc]
def StoreIn (w : World) (s : StoreR) (ia pa : Option Addr) : Prop := ItemsAt w ia s.items ∧ PagesAt w pa s.pages
theorem StoreIn.later {w w' : World} {s : StoreR} {ia pa : Option Addr} (h : StoreIn w s ia pa) (hb : Below w.heap.size w w') : StoreIn w' s ia pa := ⟨h.1.later hb, h.2.later hb⟩

end Go.Proofs.YtdblegdgmjakfaaGreatDoor
