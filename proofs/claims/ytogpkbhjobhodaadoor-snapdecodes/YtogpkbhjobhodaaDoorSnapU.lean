/- The contract of the reader's store. -/
import Derived.Test.YtogpkbhjobhodaaDoorSnapQ
import Derived.Test.YtogpkbhjobhodaaDoorSnapP
import Derived.Test.YtogpkbhjobhodaaDoorIRow
import Derived.Test.YtogpkbhjobhodaaDoorSSame
import Derived.Deep.RegionHeld3
namespace Go.Proofs.YtogpkbhjobhodaaDoor
open Go.ChangeShapes Go.WideShapes Go.ChangeAt Go.RowKit
set_option linter.unusedVariables false
set_option linter.unusedSimpArgs false

/-- Items that are read. -/
def itemsR : Nat → RS → RS × List ItemR
  | 0, st => (st, [])
  | k + 1, st => ((itemR (itemsR k st).1).1, (itemsR k st).2 ++ [(itemR (itemsR k st).1).2])
theorem itemsR_len : ∀ (k : Nat) (st : RS), (itemsR k st).2.length = k
  | 0, _ => rfl
  | k + 1, st => by simp [itemsR, itemsR_len k st]
theorem itemsR_at (st : RS) : ∀ (n k : Nat), k < n → (itemsR n st).2.getD k default = (itemR (itemsR k st).1).2
  | 0, k, h => absurd h (Nat.not_lt_zero _)
  | n + 1, k, h => by
    rw [itemsR]
    simp only
    by_cases hk : k = n
    · subst hk
      rw [List.getD_eq_getElem?_getD, List.getElem?_append_right (by rw [itemsR_len]; omega), itemsR_len]
      simp
    · have := itemsR_at st n k (by omega)
      rw [List.getD_eq_getElem?_getD, List.getElem?_append_left (by rw [itemsR_len]; omega), ← List.getD_eq_getElem?_getD]
      exact this

/-- The numbers ahead of flash. -/
def headR (st : RS) : RS × (Nat × Nat × Nat × Nat × Nat × Nat × Nat × Nat) :=
  let a := numR st
  let b := numR a.1
  let c := numR b.1
  let d := numR c.1
  let e := numR d.1
  let f := numR e.1
  let g := numR f.1
  let h := numR g.1
  (h.1, a.2, b.2, c.2, d.2, e.2, f.2, g.2, h.2)
/-- A store that is read. -/
def storeR (st : RS) : RS × StoreR :=
  let h := headR st
  let f := flashR h.1
  let n := countR 1000 f.1
  let t := itemsR n.2 n.1
  (t.1, ⟨h.2.1, h.2.2.1, h.2.2.2.1, h.2.2.2.2.1, h.2.2.2.2.2.1, h.2.2.2.2.2.2.1, h.2.2.2.2.2.2.2.1, h.2.2.2.2.2.2.2.2, t.2, f.2.1, f.2.2.1, f.2.2.2⟩)

/-- The reader, and two boxes of a store: the answer's and the one that is filled. -/
def StB (m B : Nat) (w : World) (wi : World) (st : RS) (cs : Array Value) : Prop := RdAt m wi B st ∧ TB 29 wi w.heap.size #[.int .i64 0, .int .i64 0, .int .i64 0, .int .i64 0, .int .i64 0, .int .i64 0, .int .i64 0, .int .i64 0, .slice none 0 0, .int .i64 0, .int .i64 0, .slice none 0 0] ∧ TB 29 wi (w.heap.size + 1) cs ∧ Only B w wi ∧ B < w.heap.size
theorem StB.call {m B : Nat} {w wi w1 : World} {st st' : RS} {cs : Array Value} (h : StB m B w wi st cs) (hR : RdAt m w1 B st') (hO : Only B wi w1) : StB m B w w1 st' cs := by
  obtain ⟨h1, h2, h3, h4, h5⟩ := h
  exact ⟨hR, hO.tb h2 (by omega), hO.tb h3 (by omega), h4.trans hO, h5⟩
theorem StB.set {m B : Nat} {w wi : World} {st : RS} {cs : Array Value} (h : StB m B w wi st cs) (j : Nat) (v : Value) : StB m B w (wi.setCell ⟨w.heap.size + 1, j, none⟩ v) st (cs.setIfInBounds j v) := by
  obtain ⟨h1, h2, h3, h4, h5⟩ := h
  exact ⟨h1.set j v (by omega) (by have := h1.1; omega), h2.far ⟨w.heap.size + 1, j, none⟩ v (by show w.heap.size ≠ w.heap.size + 1; omega), h3.set j v, h4.set_new (by omega) j v, h5⟩
theorem only9 {H k : Nat} {it : ItemR} (w : World) : Only H w (set9 w H k it) := by
  unfold set9
  exact ((((((((Only.set H _ _ w).trans (Only.set H _ _ _)).trans (Only.set H _ _ _)).trans (Only.set H _ _ _)).trans (Only.set H _ _ _)).trans (Only.set H _ _ _)).trans (Only.set H _ _ _)).trans (Only.set H _ _ _)).trans (Only.set H _ _ _)
theorem only_new9 {B H k : Nat} {it : ItemR} {w w1 : World} (h : Only B w w1) (hb : w.heap.size ≤ H) : Only B w (set9 w1 H k it) := by
  unfold set9
  exact ((((((((h.set_new hb _ _).set_new hb _ _).set_new hb _ _).set_new hb _ _).set_new hb _ _).set_new hb _ _).set_new hb _ _).set_new hb _ _).set_new hb _ _
theorem StB.far9 {m B : Nat} {w wi : World} {st : RS} {cs : Array Value} (h : StB m B w wi st cs) {Q k : Nat} {it : ItemR} (hQ : w.heap.size + 1 < Q) : StB m B w (set9 wi Q k it) st cs := by
  obtain ⟨h1, h2, h3, h4, h5⟩ := h
  exact ⟨h1.only (only9 wi) (by omega) (by have := h1.1; omega), (only9 wi).tb h2 (by omega), (only9 wi).tb h3 (by omega), only_new9 h4 (by omega), h5⟩

/-- The blocks from n on that w3 has are as they were. -/
def PgK (n : Nat) (w3 wi : World) : Prop := w3.heap.size ≤ wi.heap.size ∧ ∀ b, n ≤ b → b < w3.heap.size → wi.heap[b]? = w3.heap[b]?
theorem PgK.only {n : Nat} {w3 wi w' : World} (h : PgK n w3 wi) {D : Nat} (hO : Only D wi w') (hD : D < n ∨ w3.heap.size ≤ D) : PgK n w3 w' :=
  ⟨Nat.le_trans h.1 hO.size, fun b hb hl => by rw [hO.block b (Nat.lt_of_lt_of_le hl h.1) (fun e => by cases e; omega)]; exact h.2 b hb hl⟩

def StorePost (m B : Nat) (p : RS × StoreR) (w : World) (e : Ending) (w' : World) : Prop := ∃ ia ic pa pc, e = .returned (storeV p.2 ia ic pa pc) ∧ StoreFrom w.heap.size w' p.2 ia pa ∧ RdAt m w' B p.1 ∧ Only B w w'

/-- Behind k numbers of the four. -/
def HeldR (m B : Nat) (w : World) (n1 n2 n3 n4 n5 n6 n7 n8 : Nat) (s4 s5 s6 s7 s8 : RS) (k : Nat) (wi : World) : Prop :=
  (k = 0 ∧ StB m B w wi s4 #[.int .i64 (n1 : Int), .int .i64 (n2 : Int), .int .i64 (n3 : Int), .int .i64 (n4 : Int), .int .i64 0, .int .i64 0, .int .i64 0, .int .i64 0, .slice none 0 0, .int .i64 0, .int .i64 0, .slice none 0 0]) ∨ (k = 1 ∧ StB m B w wi s5 #[.int .i64 (n1 : Int), .int .i64 (n2 : Int), .int .i64 (n3 : Int), .int .i64 (n4 : Int), .int .i64 (n5 : Int), .int .i64 0, .int .i64 0, .int .i64 0, .slice none 0 0, .int .i64 0, .int .i64 0, .slice none 0 0]) ∨ (k = 2 ∧ StB m B w wi s6 #[.int .i64 (n1 : Int), .int .i64 (n2 : Int), .int .i64 (n3 : Int), .int .i64 (n4 : Int), .int .i64 (n5 : Int), .int .i64 (n6 : Int), .int .i64 0, .int .i64 0, .slice none 0 0, .int .i64 0, .int .i64 0, .slice none 0 0]) ∨ (k = 3 ∧ StB m B w wi s7 #[.int .i64 (n1 : Int), .int .i64 (n2 : Int), .int .i64 (n3 : Int), .int .i64 (n4 : Int), .int .i64 (n5 : Int), .int .i64 (n6 : Int), .int .i64 (n7 : Int), .int .i64 0, .slice none 0 0, .int .i64 0, .int .i64 0, .slice none 0 0]) ∨ (k = 4 ∧ StB m B w wi s8 #[.int .i64 (n1 : Int), .int .i64 (n2 : Int), .int .i64 (n3 : Int), .int .i64 (n4 : Int), .int .i64 (n5 : Int), .int .i64 (n6 : Int), .int .i64 (n7 : Int), .int .i64 (n8 : Int), .slice none 0 0, .int .i64 0, .int .i64 0, .slice none 0 0])

set_option maxHeartbeats 4000000 in
set_option maxRecDepth 100000 in
theorem rstore_m (m : Nat) (st : RS) (B : Nat) (w : World) (h : RdAt m w B st) :
    Calls Tryd.prog 19 #[.pointer (some ⟨B, 0, none⟩)] w (StorePost m B (storeR st) w) := by
  obtain ⟨ti, hi, iz0, iz1, iz2⟩ := info_parts infoItem
  unfold storeR headR
  simp only
  have c1 := fun w1 (hr : RdAt m w1 B st) => number_any m st B w1 hr
  try simp only
  generalize numR st = N1 at *
  obtain ⟨s1, n1⟩ := N1
  have c2 := fun w1 (hr : RdAt m w1 B s1) => number_any m s1 B w1 hr
  try simp only
  generalize numR s1 = N2 at *
  obtain ⟨s2, n2⟩ := N2
  have c3 := fun w1 (hr : RdAt m w1 B s2) => number_any m s2 B w1 hr
  try simp only
  generalize numR s2 = N3 at *
  obtain ⟨s3, n3⟩ := N3
  have c4 := fun w1 (hr : RdAt m w1 B s3) => number_any m s3 B w1 hr
  try simp only
  generalize numR s3 = N4 at *
  obtain ⟨s4, n4⟩ := N4
  have c5 := fun w1 (hr : RdAt m w1 B s4) => number_any m s4 B w1 hr
  try simp only
  generalize numR s4 = N5 at *
  obtain ⟨s5, n5⟩ := N5
  have c6 := fun w1 (hr : RdAt m w1 B s5) => number_any m s5 B w1 hr
  try simp only
  generalize numR s5 = N6 at *
  obtain ⟨s6, n6⟩ := N6
  have c7 := fun w1 (hr : RdAt m w1 B s6) => number_any m s6 B w1 hr
  try simp only
  generalize numR s6 = N7 at *
  obtain ⟨s7, n7⟩ := N7
  have c8 := fun w1 (hr : RdAt m w1 B s7) => number_any m s7 B w1 hr
  try simp only
  generalize numR s7 = N8 at *
  obtain ⟨s8, n8⟩ := N8
  have c9 := fun w1 (hr : RdAt m w1 B s8) => rflash_m m s8 B w1 hr
  try simp only
  generalize flashR s8 = F9 at *
  obtain ⟨s9, fm, fx, ps⟩ := F9
  have c10 := fun w1 (hr : RdAt m w1 B s9) => count_any m 1000 s9 B w1 hr
  have hle := count_le 1000 s9
  try simp only
  generalize countR 1000 s9 = C10 at *
  obtain ⟨s10, n⟩ := C10
  simp only at *
  have hil := itemsR_len n s10
  have hia := itemsR_at s10 n
  have his := fun k => show (itemsR (k + 1) s10).1 = (itemR (itemsR k s10).1).1 from rfl
  have hpost : Hid (∀ (ia : Option Addr) (ic : Nat) (pa : Option Addr) (pc : Nat) (w' : World), StoreFrom w.heap.size w' ⟨n1, n2, n3, n4, n5, n6, n7, n8, (itemsR n s10).2, fm, fx, ps⟩ ia pa → RdAt m w' B (itemsR n s10).1 → Only B w w' → StorePost m B ((itemsR n s10).1, ⟨n1, n2, n3, n4, n5, n6, n7, n8, (itemsR n s10).2, fm, fx, ps⟩) w (.returned (storeV ⟨n1, n2, n3, n4, n5, n6, n7, n8, (itemsR n s10).2, fm, fx, ps⟩ ia ic pa pc)) w') := fun ia ic pa pc w' q1 q2 q3 => ⟨ia, ic, pa, pc, rfl, q1, q2, q3⟩
  unfold storeV at hpost
  simp only at hpost
  generalize StorePost m B ((itemsR n s10).1, (⟨n1, n2, n3, n4, n5, n6, n7, n8, (itemsR n s10).2, fm, fx, ps⟩ : StoreR)) w = PO at *
  unfold NumPost at *
  unfold FlPost at *
  simp only at *
  have I0 : StB m B w ((w.alloc (.cells #[.int .i64 0, .int .i64 0, .int .i64 0, .int .i64 0, .int .i64 0, .int .i64 0, .int .i64 0, .int .i64 0, .slice none 0 0, .int .i64 0, .int .i64 0, .slice none 0 0] 29)).alloc (.cells #[.int .i64 0, .int .i64 0, .int .i64 0, .int .i64 0, .int .i64 0, .int .i64 0, .int .i64 0, .int .i64 0, .slice none 0 0, .int .i64 0, .int .i64 0, .slice none 0 0] 29)) st #[.int .i64 0, .int .i64 0, .int .i64 0, .int .i64 0, .int .i64 0, .int .i64 0, .int .i64 0, .int .i64 0, .slice none 0 0, .int .i64 0, .int .i64 0, .slice none 0 0] := by
    have A1 : Below w.heap.size w (w.alloc (.cells #[.int .i64 0, .int .i64 0, .int .i64 0, .int .i64 0, .int .i64 0, .int .i64 0, .int .i64 0, .int .i64 0, .slice none 0 0, .int .i64 0, .int .i64 0, .slice none 0 0] 29)) := (Below.refl _ _).alloc (Nat.le_refl _) _
    have A2 : Below (w.alloc (.cells #[.int .i64 0, .int .i64 0, .int .i64 0, .int .i64 0, .int .i64 0, .int .i64 0, .int .i64 0, .int .i64 0, .slice none 0 0, .int .i64 0, .int .i64 0, .slice none 0 0] 29)).heap.size (w.alloc (.cells #[.int .i64 0, .int .i64 0, .int .i64 0, .int .i64 0, .int .i64 0, .int .i64 0, .int .i64 0, .int .i64 0, .slice none 0 0, .int .i64 0, .int .i64 0, .slice none 0 0] 29)) ((w.alloc (.cells #[.int .i64 0, .int .i64 0, .int .i64 0, .int .i64 0, .int .i64 0, .int .i64 0, .int .i64 0, .int .i64 0, .slice none 0 0, .int .i64 0, .int .i64 0, .slice none 0 0] 29)).alloc (.cells #[.int .i64 0, .int .i64 0, .int .i64 0, .int .i64 0, .int .i64 0, .int .i64 0, .int .i64 0, .int .i64 0, .slice none 0 0, .int .i64 0, .int .i64 0, .slice none 0 0] 29)) := (Below.refl _ _).alloc (Nat.le_refl _) _
    have T2 := TB.new 29 (w.alloc (.cells #[.int .i64 0, .int .i64 0, .int .i64 0, .int .i64 0, .int .i64 0, .int .i64 0, .int .i64 0, .int .i64 0, .slice none 0 0, .int .i64 0, .int .i64 0, .slice none 0 0] 29)) #[.int .i64 0, .int .i64 0, .int .i64 0, .int .i64 0, .int .i64 0, .int .i64 0, .int .i64 0, .int .i64 0, .slice none 0 0, .int .i64 0, .int .i64 0, .slice none 0 0]
    rw [show (w.alloc (.cells #[.int .i64 0, .int .i64 0, .int .i64 0, .int .i64 0, .int .i64 0, .int .i64 0, .int .i64 0, .int .i64 0, .slice none 0 0, .int .i64 0, .int .i64 0, .slice none 0 0] 29)).heap.size = w.heap.size + 1 by simp] at T2
    exact ⟨(h.later A1).later A2, (TB.new 29 w #[.int .i64 0, .int .i64 0, .int .i64 0, .int .i64 0, .int .i64 0, .int .i64 0, .int .i64 0, .int .i64 0, .slice none 0 0, .int .i64 0, .int .i64 0, .slice none 0 0]).later A2, T2, (Only.of_below A1).trans (Only.of_below A2), h.lt⟩
  go_enter Tryd.func19, Tryd.ntmps19
  go_wp2_with fail
  refine (c1 _ I0.1).mono ?_
  rintro e w1 ⟨rfl, hR1, hO1⟩
  have J1 := I0.call hR1 hO1
  have x1 := fun j => J1.2.2.1.cell j
  have f1 := fun j => J1.2.2.1.frozen j
  have l1 := J1.2.2.1.lt
  have I1 : StB m B w (w1.setCell ⟨w.heap.size + 1, 0, none⟩ (.int .i64 (n1 : Int))) s1 #[.int .i64 (n1 : Int), .int .i64 0, .int .i64 0, .int .i64 0, .int .i64 0, .int .i64 0, .int .i64 0, .int .i64 0, .slice none 0 0, .int .i64 0, .int .i64 0, .slice none 0 0] := J1.set 0 _
  clear I0 hR1 hO1
  go_wp2_with fail
  clear x1 f1 l1 J1
  refine (c2 _ I1.1).mono ?_
  rintro e w2 ⟨rfl, hR2, hO2⟩
  have J2 := I1.call hR2 hO2
  have x2 := fun j => J2.2.2.1.cell j
  have f2 := fun j => J2.2.2.1.frozen j
  have l2 := J2.2.2.1.lt
  have I2 : StB m B w (w2.setCell ⟨w.heap.size + 1, 1, none⟩ (.int .i64 (n2 : Int))) s2 #[.int .i64 (n1 : Int), .int .i64 (n2 : Int), .int .i64 0, .int .i64 0, .int .i64 0, .int .i64 0, .int .i64 0, .int .i64 0, .slice none 0 0, .int .i64 0, .int .i64 0, .slice none 0 0] := J2.set 1 _
  clear I1 hR2 hO2
  go_wp2_with fail
  clear x2 f2 l2 J2
  refine (c3 _ I2.1).mono ?_
  rintro e w3 ⟨rfl, hR3, hO3⟩
  have J3 := I2.call hR3 hO3
  have x3 := fun j => J3.2.2.1.cell j
  have f3 := fun j => J3.2.2.1.frozen j
  have l3 := J3.2.2.1.lt
  have I3 : StB m B w (w3.setCell ⟨w.heap.size + 1, 2, none⟩ (.int .i64 (n3 : Int))) s3 #[.int .i64 (n1 : Int), .int .i64 (n2 : Int), .int .i64 (n3 : Int), .int .i64 0, .int .i64 0, .int .i64 0, .int .i64 0, .int .i64 0, .slice none 0 0, .int .i64 0, .int .i64 0, .slice none 0 0] := J3.set 2 _
  clear I2 hR3 hO3
  go_wp2_with fail
  clear x3 f3 l3 J3
  refine (c4 _ I3.1).mono ?_
  rintro e w4 ⟨rfl, hR4, hO4⟩
  have J4 := I3.call hR4 hO4
  have x4 := fun j => J4.2.2.1.cell j
  have f4 := fun j => J4.2.2.1.frozen j
  have l4 := J4.2.2.1.lt
  have I4 : StB m B w (w4.setCell ⟨w.heap.size + 1, 3, none⟩ (.int .i64 (n4 : Int))) s4 #[.int .i64 (n1 : Int), .int .i64 (n2 : Int), .int .i64 (n3 : Int), .int .i64 (n4 : Int), .int .i64 0, .int .i64 0, .int .i64 0, .int .i64 0, .slice none 0 0, .int .i64 0, .int .i64 0, .slice none 0 0] := J4.set 3 _
  clear I3 hR4 hO4
  go_wp2_with fail
  clear x4 f4 l4 J4
  go_loopw [18] (fun i wr => ∃ k : Nat, i = .int .i64 k ∧ HeldR m B w n1 n2 n3 n4 n5 n6 n7 n8 s4 s5 s6 s7 s8 k wr) (fun i _ => 4 - (intOf i).toNat)
  case atStart => exact ⟨0, rfl, Or.inl ⟨rfl, I4⟩⟩
  case round =>
    clear I4
    obtain ⟨k, rfl, hH⟩ := hrel
    rcases hH with ⟨rfl, I4⟩ | ⟨rfl, I5⟩ | ⟨rfl, I6⟩ | ⟨rfl, I7⟩ | ⟨rfl, I8⟩
    · go_wp2_with fail
      refine (c5 _ I4.1).mono ?_
      rintro e w5 ⟨rfl, hR5, hO5⟩
      have J5 := I4.call hR5 hO5
      have x5 := fun j => J5.2.2.1.cell j
      have f5 := fun j => J5.2.2.1.frozen j
      have l5 := J5.2.2.1.lt
      have I5 : StB m B w (w5.setCell ⟨w.heap.size + 1, 4, none⟩ (.int .i64 (n5 : Int))) s5 #[.int .i64 (n1 : Int), .int .i64 (n2 : Int), .int .i64 (n3 : Int), .int .i64 (n4 : Int), .int .i64 (n5 : Int), .int .i64 0, .int .i64 0, .int .i64 0, .slice none 0 0, .int .i64 0, .int .i64 0, .slice none 0 0] := J5.set 4 _
      clear I4 hR5 hO5
      go_wp2_with fail
      exact ⟨⟨1, rfl, Or.inr (Or.inl ⟨rfl, I5⟩)⟩, by simp [intOf]⟩
    · go_wp2_with fail
      refine (c6 _ I5.1).mono ?_
      rintro e w6 ⟨rfl, hR6, hO6⟩
      have J6 := I5.call hR6 hO6
      have x6 := fun j => J6.2.2.1.cell j
      have f6 := fun j => J6.2.2.1.frozen j
      have l6 := J6.2.2.1.lt
      have I6 : StB m B w (w6.setCell ⟨w.heap.size + 1, 5, none⟩ (.int .i64 (n6 : Int))) s6 #[.int .i64 (n1 : Int), .int .i64 (n2 : Int), .int .i64 (n3 : Int), .int .i64 (n4 : Int), .int .i64 (n5 : Int), .int .i64 (n6 : Int), .int .i64 0, .int .i64 0, .slice none 0 0, .int .i64 0, .int .i64 0, .slice none 0 0] := J6.set 5 _
      clear I5 hR6 hO6
      go_wp2_with fail
      exact ⟨⟨2, rfl, Or.inr (Or.inr (Or.inl ⟨rfl, I6⟩))⟩, by simp [intOf]⟩
    · go_wp2_with fail
      refine (c7 _ I6.1).mono ?_
      rintro e w7 ⟨rfl, hR7, hO7⟩
      have J7 := I6.call hR7 hO7
      have x7 := fun j => J7.2.2.1.cell j
      have f7 := fun j => J7.2.2.1.frozen j
      have l7 := J7.2.2.1.lt
      have I7 : StB m B w (w7.setCell ⟨w.heap.size + 1, 6, none⟩ (.int .i64 (n7 : Int))) s7 #[.int .i64 (n1 : Int), .int .i64 (n2 : Int), .int .i64 (n3 : Int), .int .i64 (n4 : Int), .int .i64 (n5 : Int), .int .i64 (n6 : Int), .int .i64 (n7 : Int), .int .i64 0, .slice none 0 0, .int .i64 0, .int .i64 0, .slice none 0 0] := J7.set 6 _
      clear I6 hR7 hO7
      go_wp2_with fail
      exact ⟨⟨3, rfl, Or.inr (Or.inr (Or.inr (Or.inl ⟨rfl, I7⟩)))⟩, by simp [intOf]⟩
    · go_wp2_with fail
      refine (c8 _ I7.1).mono ?_
      rintro e w8 ⟨rfl, hR8, hO8⟩
      have J8 := I7.call hR8 hO8
      have x8 := fun j => J8.2.2.1.cell j
      have f8 := fun j => J8.2.2.1.frozen j
      have l8 := J8.2.2.1.lt
      have I8 : StB m B w (w8.setCell ⟨w.heap.size + 1, 7, none⟩ (.int .i64 (n8 : Int))) s8 #[.int .i64 (n1 : Int), .int .i64 (n2 : Int), .int .i64 (n3 : Int), .int .i64 (n4 : Int), .int .i64 (n5 : Int), .int .i64 (n6 : Int), .int .i64 (n7 : Int), .int .i64 (n8 : Int), .slice none 0 0, .int .i64 0, .int .i64 0, .slice none 0 0] := J8.set 7 _
      clear I7 hR8 hO8
      go_wp2_with fail
      exact ⟨⟨4, rfl, Or.inr (Or.inr (Or.inr (Or.inr (⟨rfl, I8⟩))))⟩, by simp [intOf]⟩
    · have hW0 := I8.2.2.1.lt
      go_wp2_with fail
      refine (c9 _ I8.1).mono ?_
      rintro e w9 ⟨pa, pc, rfl, hPF, hR9, hO9⟩
      have J9 := I8.call hR9 hO9
      have hPK9 : PgK wr.heap.size w9 w9 := ⟨Nat.le_refl _, fun _ _ _ => rfl⟩
      have x9 := fun j => J9.2.2.1.cell j
      have f9 := fun j => J9.2.2.1.frozen j
      have l9 := J9.2.2.1.lt
      have I9 : StB m B w (((w9.setCell ⟨w.heap.size + 1, 9, none⟩ (.int .i64 (fm : Int))).setCell ⟨w.heap.size + 1, 10, none⟩ (.int .i64 (fx : Int))).setCell ⟨w.heap.size + 1, 11, none⟩ (.slice pa ps.length pc)) s9 #[.int .i64 (n1 : Int), .int .i64 (n2 : Int), .int .i64 (n3 : Int), .int .i64 (n4 : Int), .int .i64 (n5 : Int), .int .i64 (n6 : Int), .int .i64 (n7 : Int), .int .i64 (n8 : Int), .slice none 0 0, .int .i64 (fm : Int), .int .i64 (fx : Int), .slice pa ps.length pc] := ((J9.set 9 _).set 10 _).set 11 _
      have hPK9' : PgK wr.heap.size w9 (((w9.setCell ⟨w.heap.size + 1, 9, none⟩ (.int .i64 (fm : Int))).setCell ⟨w.heap.size + 1, 10, none⟩ (.int .i64 (fx : Int))).setCell ⟨w.heap.size + 1, 11, none⟩ (.slice pa ps.length pc)) := ((hPK9.only (Only.set (w.heap.size + 1) 9 _ _) (Or.inl hW0)).only (Only.set (w.heap.size + 1) 10 _ _) (Or.inl hW0)).only (Only.set (w.heap.size + 1) 11 _ _) (Or.inl hW0)
      have hsz9 : wr.heap.size ≤ w9.heap.size := hO9.size
      clear hR9 I8 c1 c2 c3 c4 c5 c6 c7 c8 c9
      go_wp2_with fail
      clear x9 f9 l9 J9 hPK9 hO9
      refine (c10 _ I9.1).mono ?_
      rintro e w10 ⟨rfl, hR10, hO10⟩
      have J10 := I9.call hR10 hO10
      have hPK10 := hPK9'.only hO10 (Or.inl (by have := I9.2.2.2.2; omega))
      have x10 := fun j => J10.2.2.1.cell j
      have f10 := fun j => J10.2.2.1.frozen j
      have l10 := J10.2.2.1.lt
      clear I9 hR10 hO10 hPK9'
      go_wp2_with (refine wpList_make_full _ rfl (.tmp 31) (.tmp 31) 24 rfl w10.heap.size 49 ti (.agg #[.string ByteArray.empty, .int .i64 0, .int .i64 0, .int .i64 0, .int .i64 0, .string ByteArray.empty, .bool false, .int .i64 0, .int .i64 0]) 9 Tryd.underlying24 hi iz0 iz1 .i64 .i64 _ _ n rfl rfl rfl rfl (by rw [iz2]; omega) (by unfold maxLen; omega) (Nat.le_refl _) ?_; intro w11 hO11 hg11; have hb11 := ((Below.refl _ _).grown hg11 (Nat.le_refl _) (fun k h => by cases h) : Below w10.heap.size w10 w11); have J11 := J10.call (J10.1.later hb11) (Only.of_below hb11); have x11 := (fun j => J11.2.2.1.cell j); have f11 := (fun j => J11.2.2.1.frozen j); have l11 := J11.2.2.1.lt)
      have hrow : ∃ cur : Array Value, w11.heap[w10.heap.size]? = some (.cells cur 49 (0, 0)) ∧ cur.size = n * 9 := by
        rcases hO11.2 with ⟨h0, _⟩ | ⟨g, cap, cur, hv, _, hcur, _, _, hcs, _⟩
        · simp at h0
        · simp at hv
          obtain ⟨rfl, rfl⟩ := hv
          exact ⟨cur, by simpa using hcur, hcs⟩
      obtain ⟨cur0, hc0, hs0⟩ := hrow
      have T0 : TB 49 w11 w10.heap.size cur0 := hc0
      have hPK11 := hPK10.only (Only.of_below (B := w.heap.size + 1) hb11) (Or.inl hW0)
      generalize hQ : w10.heap.size = Q at *
      have hQ9 : w9.heap.size ≤ Q := by have := hPK10.1; omega
      have I11 : StB m B w (w11.setCell ⟨w.heap.size + 1, 8, none⟩ (.slice (some ⟨Q, 0, none⟩) n n)) s10 #[.int .i64 (n1 : Int), .int .i64 (n2 : Int), .int .i64 (n3 : Int), .int .i64 (n4 : Int), .int .i64 (n5 : Int), .int .i64 (n6 : Int), .int .i64 (n7 : Int), .int .i64 (n8 : Int), .slice (some ⟨Q, 0, none⟩) n n, .int .i64 (fm : Int), .int .i64 (fx : Int), .slice pa ps.length pc] := J11.set 8 _
      have T11 := T0.far ⟨w.heap.size + 1, 8, none⟩ (.slice (some ⟨Q, 0, none⟩) n n) (by show Q ≠ w.heap.size + 1; omega)
      have hPK12 := hPK11.only (Only.set (w.heap.size + 1) 8 (.slice (some ⟨Q, 0, none⟩) n n) w11) (Or.inl hW0)
      have hB5 := J11.2.2.2.2
      have hWr : w.heap.size + 1 < wr.heap.size := hW0
      clear hO11 hg11 hb11 J11 x11 f11 l11 J10 x10 f10 hi iz0 iz1 iz2 T0 hc0 c10 hPK10 hPK11
      obtain ⟨w8, hw8⟩ : ∃ x, x = wr := ⟨_, rfl⟩
      subst hw8
      generalize hL : (itemsR n s10).2 = L at *
      go_loopw [37] (fun i wr => ∃ k : Nat, k ≤ n ∧ i = .int .i64 k ∧ StB m B w wr (itemsR k s10).1 #[.int .i64 (n1 : Int), .int .i64 (n2 : Int), .int .i64 (n3 : Int), .int .i64 (n4 : Int), .int .i64 (n5 : Int), .int .i64 (n6 : Int), .int .i64 (n7 : Int), .int .i64 (n8 : Int), .slice (some ⟨Q, 0, none⟩) n n, .int .i64 (fm : Int), .int .i64 (fx : Int), .slice pa ps.length pc] ∧ (∃ cur, TB 49 wr Q cur ∧ cur.size = n * 9 ∧ RowI L k cur) ∧ PgK w8.heap.size w9 wr) (fun i _ => n - (intOf i).toNat)
      case atStart => exact ⟨0, Nat.zero_le _, rfl, I11, ⟨cur0, T11, hs0, fun j hj => absurd hj (Nat.not_lt_zero j)⟩, hPK12⟩
      case round =>
        clear I11 T11 hPK12
        obtain ⟨k, hk, rfl, hI, ⟨cur, hcur, hcs, hRow⟩, hPK⟩ := hrel
        have x5 := fun j => hI.2.2.1.cell j
        have l5 := hI.2.2.1.lt
        have lQ := hcur.lt
        by_cases hlt : k < n
        · have hltz : (k : Int) < (n : Int) := by omega
          have hk0 : (0 : Int) ≤ (k : Int) := Int.natCast_nonneg _
          have hd5 : Below wr.heap.size wr wr.drew := drewN_below wr 1
          have c11 := ritem_any m (itemsR k s10).1 B wr.drew (hI.1.later hd5)
          unfold ItemPost at c11
          have his2 : Hid ((itemsR (k + 1) s10).1 = (itemR (itemsR k s10).1).1) := his k
          have hia2 : Hid (L.getD k default = (itemR (itemsR k s10).1).2) := hia k hlt
          clear hia his
          generalize itemR (itemsR k s10).1 = T at *
          obtain ⟨s5', it⟩ := T
          simp only at *
          have hS0 : wr.cell? ⟨w.heap.size + 1, 8, none⟩ = some (.slice (some ⟨Q, 0, none⟩) n n) := x5 8
          have hS1 : ∀ w' : World, Only B wr w' → w'.cell? ⟨w.heap.size + 1, 8, none⟩ = some (.slice (some ⟨Q, 0, none⟩) n n) := fun w' ho => (ho.cell l5 (by omega)).trans hS0
          have hS2 : ∀ (w2 : World) (v0 v1 v2 v3 v4 v5 v6 v7 v8 : Value), Only B wr w2 → (((((((((w2.setCell ⟨Q, k * 9, none⟩ v0).setCell ⟨Q, k * 9 + 1, none⟩ v1).setCell ⟨Q, k * 9 + 2, none⟩ v2).setCell ⟨Q, k * 9 + 3, none⟩ v3).setCell ⟨Q, k * 9 + 4, none⟩ v4).setCell ⟨Q, k * 9 + 5, none⟩ v5).setCell ⟨Q, k * 9 + 6, none⟩ v6).setCell ⟨Q, k * 9 + 7, none⟩ v7).setCell ⟨Q, k * 9 + 8, none⟩ v8).cell? ⟨w.heap.size + 1, 8, none⟩ = some (.slice (some ⟨Q, 0, none⟩) n n) := fun w2 v0 v1 v2 v3 v4 v5 v6 v7 v8 ho => by
            iterate 9 rw [World.cell?_setCell_far _ _ ⟨w.heap.size + 1, 8, none⟩ _ (show Q ≠ w.heap.size + 1 by omega)]
            exact hS1 w2 ho
          go_wp2_with fail
          clear x5
          go_region_held3 (fun w' => w'.cell? ⟨w.heap.size + 1, 8, none⟩ = some (.slice (some ⟨Q, 0, none⟩) n n)) (first | with_reducible assumption | with_reducible exact hS1 _ (by with_reducible assumption) | with_reducible exact hS2 _ _ _ _ _ _ _ _ _ _ (by with_reducible assumption) | go_keep) ((go_at_call 36; refine c11.mono ?_; rintro e w12 ⟨rfl, hR12, hO12⟩; have hOw12 : Only B wr w12 := (Only.of_below hd5).trans hO12; have t12 := hOw12.tb hcur (by omega); have u12 := (fun j => t12.frozen j); have v12 := t12.lt; have r120 : w12.cell? ⟨Q, k * 9, none⟩ = some (cur[k * 9]'(by omega)) := (by rw [t12.cell, Array.getElem?_eq_getElem]); have r121 : w12.cell? ⟨Q, k * 9 + 1, none⟩ = some (cur[k * 9 + 1]'(by omega)) := (by rw [t12.cell, Array.getElem?_eq_getElem]); have r122 : w12.cell? ⟨Q, k * 9 + 2, none⟩ = some (cur[k * 9 + 2]'(by omega)) := (by rw [t12.cell, Array.getElem?_eq_getElem]); have r123 : w12.cell? ⟨Q, k * 9 + 3, none⟩ = some (cur[k * 9 + 3]'(by omega)) := (by rw [t12.cell, Array.getElem?_eq_getElem]); have r124 : w12.cell? ⟨Q, k * 9 + 4, none⟩ = some (cur[k * 9 + 4]'(by omega)) := (by rw [t12.cell, Array.getElem?_eq_getElem]); have r125 : w12.cell? ⟨Q, k * 9 + 5, none⟩ = some (cur[k * 9 + 5]'(by omega)) := (by rw [t12.cell, Array.getElem?_eq_getElem]); have r126 : w12.cell? ⟨Q, k * 9 + 6, none⟩ = some (cur[k * 9 + 6]'(by omega)) := (by rw [t12.cell, Array.getElem?_eq_getElem]); have r127 : w12.cell? ⟨Q, k * 9 + 7, none⟩ = some (cur[k * 9 + 7]'(by omega)) := (by rw [t12.cell, Array.getElem?_eq_getElem]); have r128 : w12.cell? ⟨Q, k * 9 + 8, none⟩ = some (cur[k * 9 + 8]'(by omega)) := (by rw [t12.cell, Array.getElem?_eq_getElem])))
          have hI12 := (hI.call hR12 hOw12).far9 (Q := Q) (k := k) (it := it) (by omega)
          have hrs := set9_row (l := L) (H := Q) (k := k) (by rw [hil]; exact hlt) t12 (by rw [hil]; exact hcs) hRow it hia2.out
          have hPK' := (hPK.only hOw12 (Or.inl (by omega))).only (only9 (H := Q) (k := k) (it := it) w12) (Or.inr hQ9)
          rw [hil] at hrs
          rw [← his2.out] at hI12
          unfold set9 at hI12 hrs hPK'
          clear r120 r121 r122 r123 r124 r125 r126 r127 r128 u12 t12 hI hRow hPK
          go_wp2_with fail
          exact ⟨⟨k + 1, hlt, by simp, hI12, hrs, hPK'⟩, by simp [intOf]; omega⟩
        · have hlt' : ¬ ((k : Int) < (n : Int)) := by omega
          have hke : k = n := by omega
          subst hke
          have y0 := fun j => hI.2.1.cell j
          have y1 := fun j => hI.2.1.frozen j
          have ly := hI.2.1.lt
          rw [hil] at hpost
          clear hia his
          go_wp2_with fail
          obtain ⟨i1, i2, i3, i4, i5⟩ := hI
          have hm1 := i1.1
          have hw := Nat.le_refl w.heap.size
          have hne : B ≠ w.heap.size := by omega
          have hme : m ≤ w.heap.size := by omega
          refine bodyPost_ret (v := .agg #[.int .i64 (n1 : Int), .int .i64 (n2 : Int), .int .i64 (n3 : Int), .int .i64 (n4 : Int), .int .i64 (n5 : Int), .int .i64 (n6 : Int), .int .i64 (n7 : Int), .int .i64 (n8 : Int), .slice (some ⟨Q, 0, none⟩) k k, .int .i64 (fm : Int), .int .i64 (fx : Int), .slice pa ps.length pc]) (by simp [results, Tryd.results19, go_sem, l5, ly, x5, y0]) rfl (hpost.out (some ⟨Q, 0, none⟩) k pa pc _ ?_ ?_ ?_)
          · intro w13 hs13 h13
            have hs14 : wr.heap.size ≤ w13.heap.size := by simpa [World.setCell] using hs13
            have hk13 : ∀ b, w.heap.size < b → b < wr.heap.size → w13.heap[b]? = wr.heap[b]? := fun b hb hl => by
              rw [h13 b (by omega) (by simpa [World.setCell] using hl)]
              iterate 12 rw [heap_setCell_other _ _ _ _ (show b ≠ w.heap.size by omega)]
            refine ⟨row_items (by rw [hil]; unfold maxLen; omega) lQ hcur (by rw [hil]; exact hRow) hs14 (hk13 Q (by omega) lQ), hPF w13 (Nat.le_trans hPK.1 hs14) fun b hb hl => ?_⟩
            rw [hk13 b (by omega) (Nat.lt_of_lt_of_le hl hPK.1)]
            exact hPK.2 b hb hl
          · exact ((((((((((((i1.set 0 _ hne hme).set 1 _ hne hme).set 2 _ hne hme).set 3 _ hne hme).set 4 _ hne hme).set 5 _ hne hme).set 6 _ hne hme).set 7 _ hne hme).set 8 _ hne hme).set 9 _ hne hme).set 10 _ hne hme).set 11 _ hne hme)
          · exact ((((((((((((i4.set_new hw 0 _).set_new hw 1 _).set_new hw 2 _).set_new hw 3 _).set_new hw 4 _).set_new hw 5 _).set_new hw 6 _).set_new hw 7 _).set_new hw 8 _).set_new hw 9 _).set_new hw 10 _).set_new hw 11 _)
end Go.Proofs.YtogpkbhjobhodaaDoor
