/- What snap's reader does, over plain lists; a reader in memory; the contracts of refuse and take. -/
import Derived.Test.YtogpkbhjobhodaaDoorSnapB
import Derived.Test.YtogpkbhjobhodaaDoorTB
import Derived.Test.YtogpkbhjobhodaaDoorSItems
namespace Go.Proofs.YtogpkbhjobhodaaDoor
open Go.ChangeShapes Go.WideShapes Go.ChangeAt Go.RowKit
set_option linter.unusedVariables false
set_option linter.unusedSimpArgs false

/-- A reader: what is left, and what was wrong first. -/
structure RS where
  left : List UInt8
  e : Int

def refuseR (c : Int) (st : RS) : RS := ⟨[], if st.e = 0 then c else st.e⟩
def takeR (n : Nat) (st : RS) : RS × List UInt8 := if st.left.length < n then (refuseR 5 st, []) else (⟨st.left.drop n, st.e⟩, st.left.take n)
def numF : Nat → Nat → Nat → RS → RS × Nat
  | 0, _, _, st => (refuseR 4 st, 0)
  | f + 1, i, n, st =>
    match st.left with
    | [] => (refuseR 5 st, 0)
    | b :: r => if i = 6 ∨ b.toNat = 0 ∧ 0 < i then (refuseR 4 ⟨r, st.e⟩, 0) else if b.toNat < 128 then (⟨r, st.e⟩, n + b.toNat % 128 * 128 ^ i) else numF f (i + 1) (n + b.toNat % 128 * 128 ^ i) ⟨r, st.e⟩
def numR (st : RS) : RS × Nat := numF 7 0 0 st
def countR (most : Nat) (st : RS) : RS × Nat := if most < (numR st).2 then (refuseR 1 (numR st).1, 0) else numR st
def textR (most : Nat) (st : RS) : RS × List UInt8 := takeR (countR most st).2 (countR most st).1
def yesR (st : RS) : RS × Bool := (if 1 < (numR st).2 then refuseR 4 (numR st).1 else (numR st).1, decide ((numR st).2 = 1))

/-- From w to w' only the block B and new blocks have changed. -/
def Only (B : Nat) (w w' : World) : Prop := w.grownBy w' (some B)
theorem Only.refl (B : Nat) (w : World) : Only B w w := ⟨rfl, rfl, rfl, Nat.le_refl _, fun _ _ _ => rfl⟩
theorem Only.trans {B : Nat} {w w1 w2 : World} (h : Only B w w1) (k : Only B w1 w2) : Only B w w2 := World.grownBy.trans h k
theorem Only.of_below {B : Nat} {w w' : World} (h : Below w.heap.size w w') : Only B w w' := ⟨h.os, h.tape, h.output, h.size, fun i hi _ => h.block i hi⟩
theorem Only.set (B j : Nat) (v : Value) (w : World) : Only B w (w.setCell ⟨B, j, none⟩ v) :=
  ⟨rfl, rfl, rfl, by simp [World.setCell], fun i hi hne => heap_setCell_other w ⟨B, j, none⟩ i v (fun e => hne (by rw [e]))⟩
theorem Only.tb {B : Nat} {w w' : World} (h : Only B w w') {t : TypeId} {b : Nat} {cs : Array Value} (hT : TB t w b cs) (hne : b ≠ B) : TB t w' b cs := by
  have hl := hT.lt
  unfold TB at *
  rw [h.block b hl (fun e => hne (by cases e; rfl))]
  exact hT
theorem Only.cell {B : Nat} {w w' : World} (h : Only B w w') {b o : Nat} (hb : b < w.heap.size) (hne : b ≠ B) : w'.cell? ⟨b, o, none⟩ = w.cell? ⟨b, o, none⟩ := by
  simp only [World.cell?, h.block b hb (fun e => hne (by cases e; rfl))]
theorem Only.bytes {B : Nat} {w w' : World} (h : Only B w w') {a : Option Addr} {l : List UInt8} (hA : BytesAt w a l) (hne : ∀ x : Addr, a = some x → x.block ≠ B) : BytesAt w' a l := by
  obtain ⟨h1, h2⟩ := hA
  refine ⟨h1, ?_⟩
  rcases h2 with h2 | ⟨b, o, rfl, hb, hc⟩
  · exact Or.inl h2
  · exact Or.inr ⟨b, o, rfl, Nat.lt_of_lt_of_le hb h.size, fun j hj => by rw [h.cell hb (hne _ rfl)]; exact hc j hj⟩

/-- A reader in memory, in a block from m on; its bytes lie in a block below m. -/
def RdAt (m : Nat) (w : World) (B : Nat) (st : RS) : Prop := m ≤ B ∧ ∃ a c, TB 54 w B #[.slice a st.left.length c, .int .i64 st.e] ∧ BytesAt w a st.left ∧ st.left.length ≤ c ∧ c ≤ maxLen ∧ ∀ x : Addr, a = some x → x.block < m

theorem RdAt.later {m : Nat} {w w' : World} {B : Nat} {st : RS} (h : RdAt m w B st) (hb : Below w.heap.size w w') : RdAt m w' B st := by
  obtain ⟨h0, a, c, h1, h2, h3⟩ := h
  exact ⟨h0, a, c, h1.later hb, h2.later hb, h3⟩
theorem RdAt.only {m : Nat} {w w' : World} {B D : Nat} {st : RS} (h : RdAt m w B st) (hO : Only D w w') (hne : B ≠ D) (hD : m ≤ D) : RdAt m w' B st := by
  obtain ⟨h0, a, c, h1, h2, h3, h4, h5⟩ := h
  exact ⟨h0, a, c, hO.tb h1 hne, hO.bytes h2 (fun x hx => by have := h5 x hx; omega), h3, h4, h5⟩
theorem RdAt.set {m : Nat} {w : World} {B D : Nat} {st : RS} (h : RdAt m w B st) (j : Nat) (v : Value) (hne : B ≠ D) (hD : m ≤ D) : RdAt m (w.setCell ⟨D, j, none⟩ v) B st := h.only (Only.set D j v w) hne hD
theorem RdAt.lt {m : Nat} {w : World} {B : Nat} {st : RS} (h : RdAt m w B st) : B < w.heap.size := by
  obtain ⟨h0, a, c, h1, _⟩ := h
  exact h1.lt
theorem Only.set_new {B : Nat} {w w1 : World} (h : Only B w w1) {b : Nat} (hb : w.heap.size ≤ b) (j : Nat) (v : Value) : Only B w (w1.setCell ⟨b, j, none⟩ v) :=
  ⟨h.os, h.tape, h.output, by simpa [World.setCell] using h.size, fun i hi hne => by rw [heap_setCell_other w1 ⟨b, j, none⟩ i v (by show i ≠ b; omega)]; exact h.block i hi hne⟩

theorem rd_nil (m : Nat) (w : World) (B : Nat) (e : Int) (hm : m ≤ B) (h : TB 54 w B #[.slice none 0 0, .int .i64 e]) : RdAt m w B ⟨[], e⟩ := ⟨hm, none, 0, h, ⟨by simp, Or.inl rfl⟩, Nat.le_refl _, by simp, fun x hx => nomatch hx⟩

set_option maxHeartbeats 400000 in
theorem refuse_any (m : Nat) (c : Int) (st : RS) (B : Nat) (w : World) (h : RdAt m w B st) :
    Calls Tryd.prog 20 #[.pointer (some ⟨B, 0, none⟩), .int .i64 c] w fun e w' => e = .returned (.tuple #[]) ∧ RdAt m w' B (refuseR c st) ∧ Only B w w' := by
  obtain ⟨hmB, a, cap, hT, hA, hlc, hcm, hne⟩ := h
  obtain ⟨left, e⟩ := st
  have x0 := fun j => hT.cell j
  have f0 := fun j => hT.frozen j
  have l0 := hT.lt
  simp only at *
  by_cases he : e = 0
  · subst he
    have hfin : RdAt m ((w.setCell ⟨B, 1, none⟩ (.int .i64 c)).setCell ⟨B, 0, none⟩ (.slice none 0 0)) B (refuseR c ⟨left, 0⟩) := rd_nil _ _ _ _ hmB ((hT.set 1 _).set 0 _)
    go_enter Tryd.func20, Tryd.ntmps20
    go_wp2
    go_end0
    exact ⟨rfl, hfin, (Only.set B 1 _ w).trans (Only.set B 0 _ _)⟩
  · have hb : (e == 0) = false := by simp [he]
    have hfin : RdAt m (w.setCell ⟨B, 0, none⟩ (.slice none 0 0)) B (refuseR c ⟨left, e⟩) := by
      unfold refuseR
      rw [if_neg he]
      exact rd_nil _ _ _ _ hmB (hT.set 0 _)
    clear he
    go_enter Tryd.func20, Tryd.ntmps20
    go_wp2
    go_end0
    exact ⟨rfl, hfin, Only.set B 0 _ w⟩

/-- Bytes that lie in memory are answered. -/
def BytPost (m B : Nat) (p : RS × List UInt8) (w : World) (e : Ending) (w' : World) : Prop := ∃ a c, e = .returned (.slice a p.2.length c) ∧ BytesAt w' a p.2 ∧ p.2.length ≤ c ∧ c ≤ maxLen ∧ (∀ x : Addr, a = some x → x.block < m) ∧ RdAt m w' B p.1 ∧ Only B w w'

theorem add_lit (b o n : Nat) : (⟨b, o, none⟩ : Addr).add n = ⟨b, o + n, none⟩ := by unfold Addr.add; split <;> simp_all

theorem take_fin {m : Nat} {w : World} {B n c' cap : Nat} {st : RS} {a a' : Option Addr} (hT : TB 54 w B #[.slice a st.left.length cap, .int .i64 st.e]) (hA : BytesAt w a st.left) (hmB : m ≤ B) (hne : ∀ x : Addr, a = some x → x.block < m) (hn : n ≤ st.left.length) (ha : a' = a ∧ st.left.length = n ∨ a' = a.map (fun x => x.add n)) (h1 : st.left.length - n ≤ c') (h2 : c' ≤ maxLen) :
    RdAt m (w.setCell ⟨B, 0, none⟩ (.slice a' (st.left.length - n) c')) B ⟨st.left.drop n, st.e⟩ ∧ Only B w (w.setCell ⟨B, 0, none⟩ (.slice a' (st.left.length - n) c')) := by
  have hO := Only.set B 0 (.slice a' (st.left.length - n) c') w
  have hdl : (st.left.drop n).length = st.left.length - n := List.length_drop
  refine ⟨⟨hmB, a', c', ?_, hO.bytes ?_ ?_, by rw [hdl]; exact h1, h2, ?_⟩, hO⟩
  · simp only
    rw [hdl]
    exact hT.set 0 _
  · by_cases hl : n < st.left.length
    · obtain ⟨hm, hA⟩ := hA
      rcases hA with hA | ⟨b, o, hbo, hb, hc⟩
      · omega
      · refine bytes_drop hc hb hm n a' fun _ => ?_
        rcases ha with ⟨_, h⟩ | h
        · omega
        · rw [h, hbo, Option.map_some, add_lit]
    · exact ⟨by rw [hdl]; omega, Or.inl (by rw [hdl]; omega)⟩
  all_goals
    intro x hx
    have hx2 : x.block < m := by
      rcases ha with ⟨h, _⟩ | h
      · exact hne x (by rw [← h]; exact hx)
      · rw [h] at hx
        cases a with
        | none => cases hx
        | some y =>
          rw [Option.map_some] at hx
          cases hx
          have : (y.add n).block = y.block := by unfold Addr.add; split <;> rfl
          rw [this]
          exact hne y rfl
    first | exact hx2 | omega

set_option maxHeartbeats 1000000 in
theorem take_any (m : Nat) (n : Nat) (st : RS) (B : Nat) (w : World) (h : RdAt m w B st) (hn : n < 9223372036854775808) :
    Calls Tryd.prog 47 #[.pointer (some ⟨B, 0, none⟩), .int .i64 (n : Int)] w (BytPost m B (takeR n st) w) := by
  have href := fun w1 (hr : RdAt m w1 B st) => refuse_any m 5 st B w1 hr
  have h' := h
  obtain ⟨hmB, a, cap, hT, hA, hlc, hcm, hne⟩ := h
  have x0 := fun j => hT.cell j
  have f0 := fun j => hT.frozen j
  have l0 := hT.lt
  have hmax := hA.1
  unfold maxLen at hmax hcm
  by_cases hs : st.left.length < n
  · have hz : (st.left.length : Int) < (n : Int) := by omega
    have ht : takeR n st = (refuseR 5 st, []) := by unfold takeR; rw [if_pos hs]
    unfold BytPost
    rw [ht]
    go_enter Tryd.func47, Tryd.ntmps47
    go_wp2_with fail
    refine (href w h').mono ?_
    rintro e w1 ⟨rfl, hR1, hO1⟩
    go_wp2
    go_ret
    exact ⟨none, 0, rfl, ⟨by simp, Or.inl rfl⟩, Nat.le_refl _, by simp, (fun x hx => nomatch hx), hR1, hO1⟩
  · have hz : ¬ (st.left.length : Int) < (n : Int) := by omega
    have ht : takeR n st = (⟨st.left.drop n, st.e⟩, st.left.take n) := by unfold takeR; rw [if_neg hs]
    unfold BytPost
    rw [ht]
    have hT1 := bytes_take hA n (by omega)
    have htl : (st.left.take n).length = n := by rw [List.length_take]; omega
    have hdl : (st.left.drop n).length = st.left.length - n := List.length_drop
    have n0 : (0 : Int) ≤ (n : Int) := by omega
    have n1 : (n : Int) ≤ (st.left.length : Int) := by omega
    have n2 : (n : Int) ≤ (cap : Int) := by omega
    have hneB : ∀ x : Addr, a = some x → x.block ≠ B := fun x hx => by have := hne x hx; omega
    by_cases hcn : cap - n = 0
    · obtain ⟨q1, q2⟩ := take_fin (n := n) (c' := 0) (a' := a) hT hA hmB hne (by omega) (Or.inl ⟨rfl, by omega⟩) (by omega) (by omega)
      go_enter Tryd.func47, Tryd.ntmps47
      go_wp2
      go_ret
      exact ⟨a, cap, by first | rfl | rw [htl], q2.bytes hT1 hneB, by omega, by unfold maxLen; omega, hne, q1, q2⟩
    · obtain ⟨q1, q2⟩ := take_fin (n := n) (c' := cap - n) (a' := a.map (fun x => x.add n)) hT hA hmB hne (by omega) (Or.inr rfl) (by omega) (by unfold maxLen; omega)
      go_enter Tryd.func47, Tryd.ntmps47
      go_wp2
      go_ret
      exact ⟨a, cap, by first | rfl | rw [htl], q2.bytes hT1 hneB, by omega, by unfold maxLen; omega, hne, q1, q2⟩
end Go.Proofs.YtogpkbhjobhodaaDoor
