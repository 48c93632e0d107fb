/- The contract of flash.withRoom, over pages of the call's own. -/
import Derived.Test.YtbabiandegianaaFDel
namespace Go.Proofs.Ytbabiandegianaa
open Go.ChangeShapes Go.WideShapes Go.ChangeAt Go.RowKit
set_option linter.unusedVariables false
set_option linter.unusedSimpArgs false

/-- Does the last page take n bytes more? -/
def fitsB (ps : List PageR) (n : Nat) : Bool := match ps.getLast? with
  | some p => decide (p.bs.length + n ≤ 256)
  | none => false
/-- The pages, the next number, and which page had to go. -/
def roomP (m x : Int) (ps : List PageR) (n : Nat) : List PageR × Int × Int :=
  if fitsB ps n = true then (ps, x, 0) else if (ps.length : Int) = m then (ps.tail ++ [⟨x, []⟩], x + 1, (ps.headD default).num) else (ps ++ [⟨x, []⟩], x + 1, 0)

def RoomPost (O : Nat → Prop) (m : Int) (r : List PageR × Int × Int) (w : World) (e : Ending) (w' : World) : Prop :=
  ∃ v l, e = .returned (.tuple #[.agg #[.int .i64 m, .int .i64 r.2.1, v], .int .i64 r.2.2]) ∧ l.map (·.1) = r.1 ∧ PgO (fun b => O b ∨ w.heap.size + 2 ≤ b) w' v l ∧ Fr O w w'

theorem last_split {α : Type} (l : List α) (h : l ≠ []) : ∃ l0 p, l = l0 ++ [p] := ⟨l.dropLast, l.getLast h, (List.dropLast_concat_getLast h).symm⟩

set_option maxHeartbeats 4000000 in
set_option maxRecDepth 100000 in
theorem room_fits (O : Nat → Prop) (m x : Int) (v : Value) (l : List (PageR × Value)) (N : Nat) (w : World) (hW : PgO O w v l) (hO : ∀ b, O b → b < w.heap.size) (hl : l.length ≤ 20) (hbs : ∀ p ∈ l, p.1.bs.length ≤ 256) (hN : N ≤ 256) (hf : fitsB (l.map (·.1)) N = true) :
    Calls Try.prog 15 #[.agg #[.int .i64 m, .int .i64 x, v], .int .i64 N] w (RoomPost O m (l.map (·.1), x, 0) w) := by
  have hne : l ≠ [] := by intro h; subst h; simp [fitsB] at hf
  have hW' := hW
  have hl' := hl
  obtain ⟨l0, p, hlp⟩ := last_split l hne
  have hpl : p ∈ l := by rw [hlp]; simp
  have hpb := hbs p hpl
  have hlen : l.length = l0.length + 1 := by rw [hlp]; simp
  have hfit : p.1.bs.length + N ≤ 256 := by
    rw [hlp] at hf
    simpa [fitsB] using hf
  obtain ⟨pa, pc, hpv, hpB, hp1, hp2, _, _⟩ := (hW.1.2.1 p hpl).bytes (by unfold maxLen; omega)
  rcases hW.1.1.2 with ⟨_, h0⟩ | ⟨g, cap, cur, hv, hg, hc, h1, h2, h3, h4⟩
  · exact absurd (List.length_eq_zero_iff.1 h0) hne
  have hx : (l.flatMap pgCells)[l0.length * 2 + 1]? = some p.2 := by
    have := (flat2 l l0.length p (by rw [hlp]; simp)).2
    exact this
  have hA1 : Below w.heap.size w (w.alloc (.cells #[.int .i64 m, .int .i64 x, v] 24)) := (Below.refl _ _).alloc (Nat.le_refl _) _
  have hA2 := fun o => hA1.alloc (w := w.alloc (.cells #[.int .i64 m, .int .i64 x, v] 24)) (by simp) o
  have hgl : g < w.heap.size := by
    rcases Nat.lt_or_ge g w.heap.size with hlt | hge
    · exact hlt
    · rw [Array.getElem?_eq_none hge] at hc; cases hc
  have c1 : w.cell? ⟨g, l0.length * 2 + 1, none⟩ = some (.slice pa p.1.bs.length pc) := by
    rw [cell_of_row w g _ cur 40 (0, 0) hc, ← hpv, ← hx, ← h4, List.getElem?_take_of_lt (by omega), Array.getElem?_toList]
  have hz1 : (p.1.bs.length : Int) + (N : Int) ≤ 256 := by omega
  have hz2 : (0 : Int) ≤ (l0.length : Int) := by omega
  have hz3 : (l0.length : Int) ≤ 20 := by omega
  have hz4 : (p.1.bs.length : Int) ≤ 256 := by omega
  have hz5 : (N : Int) ≤ 256 := by omega
  have hv' : v = .slice (some ⟨g, 0, none⟩) (l0.length + 1) cap := by rw [hv, hlen]
  have hpost : Hid (∀ w', Below w.heap.size w w' → RoomPost O m (l.map (·.1), x, 0) w (.returned (.tuple #[.agg #[.int .i64 m, .int .i64 x, v], .int .i64 0])) w') := fun w' hb => ⟨v, l, rfl, rfl, (hW'.later hb).mono (fun b hb => Or.inl hb), Fr.of_below hb⟩
  generalize RoomPost O m (l.map (·.1), x, 0) w = PO at *
  rw [hv'] at hpost hA1 hA2 ⊢
  clear hW hW' hbs hf hlp hx hv hv' h4 hc hpB hl'
  generalize p.1.bs.length = P at *
  go_enter Try.func15, Try.ntmps15
  go_wp2_with fail
  exact bodyPost_ret (v := .tuple #[.agg #[.int .i64 m, .int .i64 x, .slice (some ⟨g, 0, none⟩) (l0.length + 1) cap], .int .i64 0]) (by simp [results, Try.results15, go_sem]) rfl (hpost.out _ (hA2 _))

/-- Two boxes laid: the flash, and the answer's. -/
def RmB (O : Nat → Prop) (w wi : World) (cs : Array Value) : Prop := TB 24 wi w.heap.size cs ∧ TB 24 wi (w.heap.size + 1) #[.int .i64 0, .int .i64 0, .slice none 0 0] ∧ Fr O w wi ∧ ∀ b, O b → b < w.heap.size
theorem RmB.fr {O O' : Nat → Prop} {w wi w' : World} {cs : Array Value} (h : RmB O w wi cs) (hf : Fr O' wi w') (ho : ∀ b, O' b → O b ∨ w.heap.size + 2 ≤ b) : RmB O w w' cs := by
  obtain ⟨h1, h2, h3, h4⟩ := h
  have hn : ∀ b, b = w.heap.size ∨ b = w.heap.size + 1 → ¬ O' b := fun b hb e => by
    rcases ho b e with q | q
    · have := h4 b q; omega
    · omega
  exact ⟨hf.tb h1 (hn _ (Or.inl rfl)), hf.tb h2 (hn _ (Or.inr rfl)), h3.trans hf (fun b hb => (ho b hb).imp id (fun q => by omega)), h4⟩
theorem RmB.set {O : Nat → Prop} {w wi : World} {cs : Array Value} (h : RmB O w wi cs) (j : Nat) (v : Value) : RmB O w (wi.setCell ⟨w.heap.size, j, none⟩ v) (cs.setIfInBounds j v) := by
  obtain ⟨h1, h2, h3, h4⟩ := h
  exact ⟨h1.set j v, h2.far ⟨w.heap.size, j, none⟩ v (by show w.heap.size + 1 ≠ w.heap.size; omega), h3.set j v (Or.inr (Nat.le_refl _)), h4⟩

/-- Behind a new page: the end of withRoom. -/
theorem room_end (O : Nat → Prop) (m x gone : Int) (v : Value) (l : List (PageR × Value)) (w w1 : World) (r : List PageR) (hr : l.map (·.1) = r) (hI : RmB O w w1 #[.int .i64 m, .int .i64 (x + 1), v]) (hP : PgO (fun b => O b ∨ w.heap.size + 2 ≤ b) w1 v l) :
    RoomPost O m (r, x + 1, gone) w (.returned (.tuple #[.agg #[.int .i64 m, .int .i64 (x + 1), v], .int .i64 gone])) (((w1.setCell ⟨w.heap.size + 1, 0, none⟩ (.int .i64 m)).setCell ⟨w.heap.size + 1, 1, none⟩ (.int .i64 (x + 1))).setCell ⟨w.heap.size + 1, 2, none⟩ v) := by
  have hn : ¬ (O (w.heap.size + 1) ∨ w.heap.size + 2 ≤ w.heap.size + 1) := fun e => by
    rcases e with q | q
    · have := hI.2.2.2 _ q; omega
    · omega
  exact ⟨v, l, rfl, hr, ((hP.far 0 _ hn).far 1 _ hn).far 2 _ hn, ((hI.2.2.1.set 0 _ (Or.inr (by omega))).set 1 _ (Or.inr (by omega))).set 2 _ (Or.inr (by omega))⟩

set_option maxHeartbeats 4000000 in
set_option maxRecDepth 100000 in
theorem room_more (O : Nat → Prop) (m x : Int) (v : Value) (l : List (PageR × Value)) (N : Nat) (w : World) (hW : PgO O w v l) (hO : ∀ b, O b → b < w.heap.size) (hl : l.length ≤ 20) (hbs : ∀ p ∈ l, p.1.bs.length ≤ 256) (hN : N ≤ 256) (hf : fitsB (l.map (·.1)) N = false) (hm : (l.length : Int) ≠ m) (hx0 : 0 ≤ x) (hx1 : x ≤ 1099511627776) :
    Calls Try.prog 15 #[.agg #[.int .i64 m, .int .i64 x, v], .int .i64 N] w (RoomPost O m (l.map (·.1) ++ [⟨x, []⟩], x + 1, 0) w) := by
  have I0 : RmB O w ((w.alloc (.cells #[.int .i64 m, .int .i64 x, v] 24)).alloc (.cells #[.int .i64 0, .int .i64 0, .slice none 0 0] 24)) #[.int .i64 m, .int .i64 x, v] := by
    have A1 : Below w.heap.size w (w.alloc (.cells #[.int .i64 m, .int .i64 x, v] 24)) := (Below.refl _ _).alloc (Nat.le_refl _) _
    have T2 := TB.new 24 (w.alloc (.cells #[.int .i64 m, .int .i64 x, v] 24)) #[.int .i64 0, .int .i64 0, .slice none 0 0]
    rw [show (w.alloc (.cells #[.int .i64 m, .int .i64 x, v] 24)).heap.size = w.heap.size + 1 by simp] at T2
    exact ⟨(TB.new 24 w _).alloc _, T2, Fr.of_below (A1.alloc (by simp) _), hO⟩
  have hP0 : PgO O ((w.alloc (.cells #[.int .i64 m, .int .i64 x, v] 24)).alloc (.cells #[.int .i64 0, .int .i64 0, .slice none 0 0] 24)) v l := hW.later (((Below.refl _ _).alloc (Nat.le_refl _) _).alloc (by simp) _)
  have A3 := fun (W : World) (o : Obj) => ((Below.refl W.heap.size W).alloc (Nat.le_refl _) o)
  have hP3 := hP0.later (A3 _ (.cells #[.int .i64 x, .slice none 0 0] 40))
  have I3 := I0.fr (O' := O) (Fr.of_below (A3 _ (.cells #[.int .i64 x, .slice none 0 0] 40))) (fun b hb => Or.inl hb)
  have hB3 : (((w.alloc (.cells #[.int .i64 m, .int .i64 x, v] 24)).alloc (.cells #[.int .i64 0, .int .i64 0, .slice none 0 0] 24)).alloc (.cells #[.int .i64 x, .slice none 0 0] 40)).heap[w.heap.size + 1 + 1]? = some (.cells (pgCells (⟨x, []⟩, .slice none 0 0)).toArray 40 (0, 0)) := by
    have := heap_alloc_new ((w.alloc (.cells #[.int .i64 m, .int .i64 x, v] 24)).alloc (.cells #[.int .i64 0, .int .i64 0, .slice none 0 0] 24)) (.cells #[.int .i64 x, .slice none 0 0] 40)
    simpa [pgCells] using this
  have hwx : IntKind.i64.wrap (x + 1) = x + 1 := by simp only [IntKind.wrap_i64]; omega
  have hend : Hid (∀ v2 l2 w2, l2.map (·.1) = l.map (·.1) ++ [⟨x, []⟩] → RmB O w w2 #[.int .i64 m, .int .i64 (x + 1), v2] → PgO (fun b => O b ∨ w.heap.size + 2 ≤ b) w2 v2 l2 → RoomPost O m (l.map (·.1) ++ [⟨x, []⟩], x + 1, 0) w (.returned (.tuple #[.agg #[.int .i64 m, .int .i64 (x + 1), v2], .int .i64 0])) (((w2.setCell ⟨w.heap.size + 1, 0, none⟩ (.int .i64 m)).setCell ⟨w.heap.size + 1, 1, none⟩ (.int .i64 (x + 1))).setCell ⟨w.heap.size + 1, 2, none⟩ v2)) := fun v2 l2 w2 h => room_end O m x 0 v2 l2 w w2 _ h
  generalize RoomPost O m (l.map (·.1) ++ [⟨x, []⟩], x + 1, 0) w = PO at *
  by_cases hne : l = []
  · subst hne
    have hmz : ((0 : Int) == m) = false := by simpa using hm
    obtain ⟨va, vc, rfl⟩ : ∃ va vc, v = .slice va 0 vc := by
      rcases hW.1.1.2 with ⟨h0, _⟩ | ⟨g, cap, cur, hv, _⟩
      · exact ⟨none, 0, h0⟩
      · exact ⟨_, _, hv⟩
    clear hW hP0 I0 hf hbs
    go_enter Try.func15, Try.ntmps15
    go_wp2_with (at_builtin; refine append_pgO _ rfl (.tmp 43) (.tmp 47) rfl O _ [] rfl hP3 (⟨x, []⟩, .slice none 0 0) _ rfl hB3 (World.ownsRow_nil _ _ _ _) (fun b hb => by cases hb) rfl (by omega) ?_; intro g2 cap2 w2 hP2 hF2; have J2 := I3.fr hF2 (fun b hb => Or.inl hb); have x2 := (fun j => J2.1.cell j); have f2 := (fun j => J2.1.frozen j); have l2 := J2.1.lt; have y2 := (fun j => J2.2.1.cell j); have fy2 := (fun j => J2.2.1.frozen j); have ly2 := J2.2.1.lt)
    have hnO : ∀ b : Nat, b = w.heap.size → ¬ (O b ∨ w.heap.size + 2 ≤ b) := fun b e q => by
      rcases q with q | q
      · have := hO b q; omega
      · omega
    have hP9 := ((hP2.mono (O' := fun b => O b ∨ w.heap.size + 2 ≤ b) (fun b hb => hb.imp id (fun q => by simp at q; omega))).far 2 (.slice (some ⟨g2, 0, none⟩) (1) cap2) (hnO _ rfl)).far 1 (.int .i64 (x + 1)) (hnO _ rfl)
    have J9 := (J2.set 2 (.slice (some ⟨g2, 0, none⟩) (1) cap2)).set 1 (.int .i64 (x + 1))
    exact bodyPost_ret (v := .tuple #[.agg #[.int .i64 m, .int .i64 (x + 1), .slice (some ⟨g2, 0, none⟩) (1) cap2], .int .i64 0]) (by simp [results, Try.results15, go_sem, x2, l2, y2, ly2]) rfl (hend.out _ _ _ (by simp) J9 hP9)
  · obtain ⟨l0, p, hlp⟩ := last_split l hne
    have hpl : p ∈ l := by rw [hlp]; simp
    have hpb := hbs p hpl
    have hlen : l.length = l0.length + 1 := by rw [hlp]; simp
    have hfit : 256 < p.1.bs.length + N := by
      rw [hlp] at hf
      simpa [fitsB] using hf
    obtain ⟨pa, pc, hpv, hpB, hp1, hp2, _, _⟩ := (hW.1.2.1 p hpl).bytes (by unfold maxLen; omega)
    obtain ⟨g, cap, hv, hgl, c1⟩ : ∃ g cap, v = .slice (some ⟨g, 0, none⟩) (l0.length + 1) cap ∧ g < w.heap.size ∧ w.cell? ⟨g, l0.length * 2 + 1, none⟩ = some (.slice pa p.1.bs.length pc) := by
      rcases hW.1.1.2 with ⟨_, h0⟩ | ⟨g, cap, cur, hv, hg, hc, h1, h2, h3, h4⟩
      · exact absurd (List.length_eq_zero_iff.1 h0) hne
      · have hgl : g < w.heap.size := by
          rcases Nat.lt_or_ge g w.heap.size with hlt | hge
          · exact hlt
          · rw [Array.getElem?_eq_none hge] at hc; cases hc
        have hx : (l.flatMap pgCells)[l0.length * 2 + 1]? = some p.2 := (flat2 l l0.length p (by rw [hlp]; simp)).2
        refine ⟨g, cap, by rw [hv, hlen], hgl, ?_⟩
        rw [cell_of_row w g _ cur 40 (0, 0) hc, ← hpv, ← hx, ← h4, List.getElem?_take_of_lt (by omega), Array.getElem?_toList]
    subst hv
    have hz1 : ¬ (p.1.bs.length : Int) + (N : Int) ≤ 256 := by omega
    have hz2 : (0 : Int) ≤ (l0.length : Int) := by omega
    have hz3 : (l0.length : Int) ≤ 20 := by omega
    have hz4 : (p.1.bs.length : Int) ≤ 256 := by omega
    have hz5 : (N : Int) ≤ 256 := by omega
    have hmz : ((l0.length : Int) + 1 == m) = false := by
      rw [hlen] at hm
      simpa using hm
    have hlx : l.length * 32 ≤ 640 := by omega
    clear hW hP0 I0 hf hbs hpB hpv hlp
    generalize p.1.bs.length = P at *
    go_enter Try.func15, Try.ntmps15
    go_wp2_with (at_builtin; refine append_pgO _ rfl (.tmp 43) (.tmp 47) rfl O _ l rfl hP3 (⟨x, []⟩, .slice none 0 0) _ rfl hB3 (World.ownsRow_nil _ _ _ _) (fun b hb => by cases hb) rfl (by omega) ?_; intro g2 cap2 w2 hP2 hF2; have J2 := I3.fr hF2 (fun b hb => Or.inl hb); have x2 := (fun j => J2.1.cell j); have f2 := (fun j => J2.1.frozen j); have l2 := J2.1.lt; have y2 := (fun j => J2.2.1.cell j); have fy2 := (fun j => J2.2.1.frozen j); have ly2 := J2.2.1.lt)
    have hnO : ∀ b : Nat, b = w.heap.size → ¬ (O b ∨ w.heap.size + 2 ≤ b) := fun b e q => by
      rcases q with q | q
      · have := hO b q; omega
      · omega
    have hP9 := ((hP2.mono (O' := fun b => O b ∨ w.heap.size + 2 ≤ b) (fun b hb => hb.imp id (fun q => by simp at q; omega))).far 2 (.slice (some ⟨g2, 0, none⟩) (l0.length + 1 + 1) cap2) (hnO _ rfl)).far 1 (.int .i64 (x + 1)) (hnO _ rfl)
    have J9 := (J2.set 2 (.slice (some ⟨g2, 0, none⟩) (l0.length + 1 + 1) cap2)).set 1 (.int .i64 (x + 1))
    rw [hlen] at hP9
    exact bodyPost_ret (v := .tuple #[.agg #[.int .i64 m, .int .i64 (x + 1), .slice (some ⟨g2, 0, none⟩) (l0.length + 1 + 1) cap2], .int .i64 0]) (by simp [results, Try.results15, go_sem, x2, l2, y2, ly2]) rfl (hend.out _ _ _ (by simp) J9 hP9)

set_option maxHeartbeats 4000000 in
set_option maxRecDepth 100000 in
theorem room_drop (O : Nat → Prop) (m x : Int) (v : Value) (l : List (PageR × Value)) (N : Nat) (w : World) (hW : PgO O w v l) (hO : ∀ b, O b → b < w.heap.size) (hl : l.length ≤ 20) (hbs : ∀ p ∈ l, p.1.bs.length ≤ 256) (hN : N ≤ 256) (hf : fitsB (l.map (·.1)) N = false) (hm : (l.length : Int) = m) (hm0 : m ≠ 0) (hx0 : 0 ≤ x) (hx1 : x ≤ 1099511627776) :
    Calls Try.prog 15 #[.agg #[.int .i64 m, .int .i64 x, v], .int .i64 N] w (RoomPost O m ((l.map (·.1)).tail ++ [⟨x, []⟩], x + 1, ((l.map (fun y : PageR × Value => y.1)).headD default).num) w) := by
  have hne : l ≠ [] := by intro h; subst h; simp at hm; omega
  obtain ⟨p0, lt, rfl⟩ := List.exists_cons_of_ne_nil hne
  have I0 : RmB O w ((w.alloc (.cells #[.int .i64 m, .int .i64 x, v] 24)).alloc (.cells #[.int .i64 0, .int .i64 0, .slice none 0 0] 24)) #[.int .i64 m, .int .i64 x, v] := by
    have A1 : Below w.heap.size w (w.alloc (.cells #[.int .i64 m, .int .i64 x, v] 24)) := (Below.refl _ _).alloc (Nat.le_refl _) _
    have T2 := TB.new 24 (w.alloc (.cells #[.int .i64 m, .int .i64 x, v] 24)) #[.int .i64 0, .int .i64 0, .slice none 0 0]
    rw [show (w.alloc (.cells #[.int .i64 m, .int .i64 x, v] 24)).heap.size = w.heap.size + 1 by simp] at T2
    exact ⟨(TB.new 24 w _).alloc _, T2, Fr.of_below (A1.alloc (by simp) _), hO⟩
  have hP0 : PgO O ((w.alloc (.cells #[.int .i64 m, .int .i64 x, v] 24)).alloc (.cells #[.int .i64 0, .int .i64 0, .slice none 0 0] 24)) v (p0 :: lt) := hW.later (((Below.refl _ _).alloc (Nat.le_refl _) _).alloc (by simp) _)
  obtain ⟨l0, p, hlp⟩ := last_split (p0 :: lt) hne
  have hpl : p ∈ p0 :: lt := by rw [hlp]; simp
  have hpb := hbs p hpl
  have hlen : l0.length = lt.length := by have := congrArg List.length hlp; simpa using this.symm
  have hfit : 256 < p.1.bs.length + N := by
    rw [hlp] at hf
    simpa [fitsB] using hf
  obtain ⟨pa, pc, hpv, hpB, hp1, hp2, _, _⟩ := (hW.1.2.1 p hpl).bytes (by unfold maxLen; omega)
  obtain ⟨g, cap, hv, hgl, hgO, c1, c2⟩ : ∃ g cap, v = .slice (some ⟨g, 0, none⟩) (lt.length + 1) cap ∧ g < w.heap.size ∧ O g ∧ w.cell? ⟨g, lt.length * 2 + 1, none⟩ = some (.slice pa p.1.bs.length pc) ∧ w.cell? ⟨g, 0, none⟩ = some (.int .i64 p0.1.num) := by
    rcases hW.1.1.2 with ⟨_, h0⟩ | ⟨g, cap, cur, hv, hg, hc, h1, h2, h3, h4⟩
    · simp at h0
    · have hgl : g < w.heap.size := by
        rcases Nat.lt_or_ge g w.heap.size with hlt | hge
        · exact hlt
        · rw [Array.getElem?_eq_none hge] at hc; cases hc
      have hx : ((p0 :: lt).flatMap pgCells)[lt.length * 2 + 1]? = some p.2 := (flat2 (p0 :: lt) lt.length p (by rw [hlp, ← hlen]; simp)).2
      have hy : ((p0 :: lt).flatMap pgCells)[0]? = some (.int .i64 p0.1.num) := rfl
      refine ⟨g, cap, by rw [hv]; rfl, hgl, hW.2.1 g (by rw [hv]; rfl), ?_, ?_⟩
      · rw [cell_of_row w g _ cur 40 (0, 0) hc, ← hpv, ← hx, ← h4, List.getElem?_take_of_lt (by simp; omega), Array.getElem?_toList]
      · rw [cell_of_row w g _ cur 40 (0, 0) hc, ← hy, ← h4, List.getElem?_take_of_lt (by simp), Array.getElem?_toList]
  subst hv
  have hz1 : ¬ (p.1.bs.length : Int) + (N : Int) ≤ 256 := by omega
  have hz2 : (0 : Int) ≤ (lt.length : Int) := by omega
  have hz3 : (lt.length : Int) ≤ 20 := by simp at hl; omega
  have hz4 : (p.1.bs.length : Int) ≤ 256 := by omega
  have hz5 : (N : Int) ≤ 256 := by omega
  have hz6 : (0 : Int) < (lt.length : Int) + 1 := by omega
  have hmz : ((lt.length : Int) + 1 == m) = true := by
    rw [← hm]
    simp
  have hlx : (lt.length + 1) * 32 ≤ 672 := by simp at hl; omega
  have hdel := delete_first 0 g cap p0 lt _ hP0.1
  have hPt : ∀ g' cap' w3, PgOwn 0 w3 (.slice (some ⟨g', 0, none⟩) lt.length cap') lt → g' = g → PgO O w3 (.slice (some ⟨g', 0, none⟩) lt.length cap') lt := fun g' cap' w3 h e => by
    subst e
    refine ⟨h, fun b hb => ?_, fun x hx b hb => hW.2.2 x (List.mem_cons_of_mem _ hx) b hb⟩
    have e : g' = b := by simpa [Value.ownBlock] using hb
    exact e ▸ hgO
  have hend : Hid (∀ v2 l2 w2, l2.map (·.1) = ((p0 :: lt).map (·.1)).tail ++ [⟨x, []⟩] → RmB O w w2 #[.int .i64 m, .int .i64 (x + 1), v2] → PgO (fun b => O b ∨ w.heap.size + 2 ≤ b) w2 v2 l2 → RoomPost O m (((p0 :: lt).map (·.1)).tail ++ [⟨x, []⟩], x + 1, (((p0 :: lt).map (fun y : PageR × Value => y.1)).headD default).num) w (.returned (.tuple #[.agg #[.int .i64 m, .int .i64 (x + 1), v2], .int .i64 p0.1.num])) (((w2.setCell ⟨w.heap.size + 1, 0, none⟩ (.int .i64 m)).setCell ⟨w.heap.size + 1, 1, none⟩ (.int .i64 (x + 1))).setCell ⟨w.heap.size + 1, 2, none⟩ v2)) := fun v2 l2 w2 h => room_end O m x p0.1.num v2 l2 w w2 _ h
  generalize RoomPost O m (((p0 :: lt).map (·.1)).tail ++ [⟨x, []⟩], x + 1, (((p0 :: lt).map (fun y : PageR × Value => y.1)).headD default).num) w = PO at *
  generalize p0.1.num = q0 at *
  have hwx : IntKind.i64.wrap (x + 1) = x + 1 := by simp only [IntKind.wrap_i64]; omega
  have hnO : ∀ b : Nat, b = w.heap.size → ¬ (O b ∨ w.heap.size + 2 ≤ b) := fun b e q => by
    rcases q with q | q
    · have := hO b q; omega
    · omega
  clear hW hP0 hf hbs hpB hpv hlp hm
  generalize p.1.bs.length = P at *
  have A3 := fun (W : World) (o : Obj) => ((Below.refl W.heap.size W).alloc (Nat.le_refl _) o)
  go_enter Try.func15, Try.ntmps15
  go_wp2_with (first | (go_at_call 25; refine hdel.mono ?_; rintro e w3 ⟨rfl, hP3, hg3⟩; have J3 := I0.fr (O' := O) (Fr.of_grown hg3 (fun b hb => by cases hb; exact Or.inl hgO)) (fun b hb => Or.inl hb); have hPO3 := hPt _ _ _ hP3 rfl; have x3 := (fun j => J3.1.cell j); have f3 := (fun j => J3.1.frozen j); have l3 := J3.1.lt; have K3 := J3.set 2 (.slice (some ⟨g, 0, none⟩) lt.length cap); have K4 := K3.fr (O' := O) (Fr.of_below (A3 _ (.cells #[.int .i64 x, .slice none 0 0] 40))) (fun b hb => Or.inl hb); have hP4 := (hPO3.far 2 (.slice (some ⟨g, 0, none⟩) lt.length cap) (fun q => hnO _ rfl (Or.inl q))).later (A3 _ (.cells #[.int .i64 x, .slice none 0 0] 40)); have hB4 : ((w3.setCell ⟨w.heap.size, 2, none⟩ (.slice (some ⟨g, 0, none⟩) lt.length cap)).alloc (.cells #[.int .i64 x, .slice none 0 0] 40)).heap[w3.heap.size]? = some (.cells (pgCells (⟨x, []⟩, .slice none 0 0)).toArray 40 (0, 0)) := (by have := heap_alloc_new (w3.setCell ⟨w.heap.size, 2, none⟩ (.slice (some ⟨g, 0, none⟩) lt.length cap)) (.cells #[.int .i64 x, .slice none 0 0] 40); simpa [pgCells, World.setCell] using this)) | (at_builtin; refine append_pgO _ rfl (.tmp 43) (.tmp 47) rfl O _ lt rfl hP4 (⟨x, []⟩, .slice none 0 0) _ rfl hB4 (World.ownsRow_nil _ _ _ _) (fun b hb => by cases hb) rfl (by omega) ?_; intro g2 cap2 w2 hP2 hF2; have J2 := K4.fr hF2 (fun b hb => Or.inl hb); have x2 := (fun j => J2.1.cell j); have f2 := (fun j => J2.1.frozen j); have l2 := J2.1.lt; have y2 := (fun j => J2.2.1.cell j); have fy2 := (fun j => J2.2.1.frozen j); have ly2 := J2.2.1.lt))
  trace_state
  have hP9 := ((hP2.mono (O' := fun b => O b ∨ w.heap.size + 2 ≤ b) (fun b hb => hb.imp id (fun q => by simp [World.setCell] at q; have := J3.2.1.lt; omega))).far 2 (.slice (some ⟨g2, 0, none⟩) (lt.length + 1) cap2) (hnO _ rfl)).far 1 (.int .i64 (x + 1)) (hnO _ rfl)
  have J9 := (J2.set 2 (.slice (some ⟨g2, 0, none⟩) (lt.length + 1) cap2)).set 1 (.int .i64 (x + 1))
  exact bodyPost_ret (v := .tuple #[.agg #[.int .i64 m, .int .i64 (x + 1), .slice (some ⟨g2, 0, none⟩) (lt.length + 1) cap2], .int .i64 q0]) (by simp [results, Try.results15, go_sem, x2, l2, y2, ly2]) rfl (hend.out _ _ _ (by simp) J9 hP9)

theorem room_any (O : Nat → Prop) (m x : Int) (v : Value) (l : List (PageR × Value)) (N : Nat) (w : World) (hW : PgO O w v l) (hO : ∀ b, O b → b < w.heap.size) (hl : l.length ≤ 20) (hbs : ∀ p ∈ l, p.1.bs.length ≤ 256) (hN : N ≤ 256) (hm0 : m ≠ 0) (hx0 : 0 ≤ x) (hx1 : x ≤ 1099511627776) :
    Calls Try.prog 15 #[.agg #[.int .i64 m, .int .i64 x, v], .int .i64 N] w (RoomPost O m (roomP m x (l.map fun y : PageR × Value => y.1) N) w) := by
  unfold roomP
  cases hf : fitsB (l.map fun y : PageR × Value => y.1) N
  · rw [if_neg (by decide)]
    by_cases hm : (l.length : Int) = m
    · rw [if_pos (by simpa using hm)]
      exact room_drop O m x v l N w hW hO hl hbs hN hf hm hm0 hx0 hx1
    · rw [if_neg (by simpa using hm)]
      exact room_more O m x v l N w hW hO hl hbs hN hf hm hx0 hx1
  · rw [if_pos rfl]
    exact room_fits O m x v l N w hW hO hl hbs hN hf

theorem roomP_ne (m x : Int) (ps : List PageR) (n : Nat) : (roomP m x ps n).1 ≠ [] := by
  unfold roomP
  split
  · next h => intro e; subst e; simp [fitsB] at h
  · split <;> simp
end Go.Proofs.Ytbabiandegianaa
