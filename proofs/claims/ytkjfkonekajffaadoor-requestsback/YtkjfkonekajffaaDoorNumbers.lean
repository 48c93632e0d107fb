/- The contract of wire.numbers: the numbers that words are, in new memory. -/
import Derived.Test.YtkjfkonekajffaaDoorNumber
import Derived.Test.YtkjfkonekajffaaDoorWords
namespace Go.Proofs.YtkjfkonekajffaaDoor
open Go.ChangeShapes Go.WideShapes Go.ChangeAt Go.RowKit
set_option linter.unusedVariables false

theorem infoInt : (Tryd.prog.info? 3).map (fun i => (i.zero, i.size, i.bytes)) = some (some (.int .i64 0), 1, 8) := by kernel_rfl

/-- The slice 'v' holds the numbers 'l' in memory that was made behind the world W0. -/
def IntsAt (W0 w : World) (v : Value) (l : List Int) : Prop :=
  w.ownsRow W0.heap.size 3 1 v l.length (l.map (Value.int .i64)) ∧ Below W0.heap.size W0 w

theorem IntsAt.later {W0 w w1 : World} {v : Value} {l : List Int} (h : IntsAt W0 w v l) (hb : Below w.heap.size w w1) : IntsAt W0 w1 v l :=
  ⟨ownsRow_later h.1 hb, h.2.trans (hb.mono h.2.size)⟩
theorem IntsAt.alloc {W0 w : World} {v : Value} {l : List Int} (h : IntsAt W0 w v l) (o : Obj) : IntsAt W0 (w.alloc o) v l :=
  h.later ((Below.refl _ _).alloc (Nat.le_refl _) o)

theorem append_ints {ops : Array Oper} {rest : List Oper} {o : Oper} {a : Act} {Q : Exit → Act → World → Prop} (w : World) (hgd : o.guard = none) (s x : Operand)
    (ho : o.op = .call { callee := .builtin .append, args := #[s, x], argTypes := #[52, 52] })
    (W0 : World) (v : Value) (l : List Int) (hs : a.eval s = v) (hW : IntsAt W0 w v l) (n : Int) (ad : Addr) (hx : a.eval x = .slice (some ad) 1 1) (hnews : w.cell? ad = some (.int .i64 n)) (hsz : l.length + 1 ≤ 1000000)
    (h : ∀ g cap w', IntsAt W0 w' (.slice (some ⟨g, 0, none⟩) (l.length + 1) cap) (l ++ [n]) → wpList Tryd.prog ops Q rest (a.put o.dst (.slice (some ⟨g, 0, none⟩) (l.length + 1) cap)) w') : wpList Tryd.prog ops Q (o :: rest) a w := by
  obtain ⟨i0, hi, hz0, hz1, hz2⟩ := info_parts infoInt
  refine wpList_append_lies w hgd s x 52 ho W0.heap.size 3 i0 (.int .i64 0) 1 8 Tryd.underlying52 hi hz0 hz1 hz2 rfl (by omega) v l.length (l.map (Value.int .i64)) hs hW.1 ad 1 1 [.int .i64 n] hx rfl ?_ ?_ (by omega) (by unfold maxLen; omega) (by omega) hW.2.size w.heap.size rfl ?_
  · intro j u hj
    match j, hj with
    | 0, hj => simp at hj; subst hj; simpa [Addr.add] using hnews
  · intro u hu
    simp at hu
    subst hu
    rfl
  intro g cap w' h2 h3 h4 h5
  refine h g cap w' ⟨?_, hW.2.grown h3 hW.2.size (fun k hk => (hW.1.lt k hk).1)⟩
  rw [List.length_append, List.map_append]
  exact h2

def numsD : List ByteArray → Option (List Int)
  | [] => some []
  | x :: r => match numD x with
    | none => none
    | some n => match numsD r with
      | none => none
      | some l => some (n :: l)

theorem numsD_snoc : ∀ (l : List ByteArray) (x : ByteArray), numsD (l ++ [x]) = match numsD l with
    | none => none
    | some vs => match numD x with
      | none => none
      | some n => some (vs ++ [n])
  | [], x => by
    show numsD [x] = _
    unfold numsD
    cases numD x <;> rfl
  | y :: r, x => by
    show numsD (y :: (r ++ [x])) = _
    unfold numsD
    rw [numsD_snoc r x]
    cases numD y with
    | none => rfl
    | some n => cases numsD r with
      | none => rfl
      | some vs => cases numD x <;> rfl

theorem numsD_prefix : ∀ (l r : List ByteArray), numsD l = none → numsD (l ++ r) = none
  | [], r, h => by simp [numsD] at h
  | y :: l, r, h => by
    show numsD (y :: (l ++ r)) = none
    unfold numsD at h ⊢
    cases hy : numD y with
    | none => rfl
    | some n =>
      rw [hy] at h
      cases hl : numsD l with
      | none => rw [numsD_prefix l r hl]
      | some vs => rw [hl] at h; simp at h

theorem take_snoc (l : List ByteArray) (k : Nat) (hk : k < l.length) : l.take (k + 1) = l.take k ++ [l.getD k ByteArray.empty] := by
  rw [List.take_succ_eq_append_getElem hk, List.getD_eq_getElem?_getD, List.getElem?_eq_getElem hk]; rfl

theorem ret_nums {v : Value} {x y : Bool} (h : x = y) : Ending.returned (.tuple #[v, .bool x]) = .returned (.tuple #[v, .bool y]) := by rw [h]

def NumsPost (l : List ByteArray) (w : World) (e : Ending) (w' : World) : Prop :=
  (numsD l = none ∧ e = .returned (.tuple #[.slice none 0 0, .bool false]) ∧ Below w.heap.size w w') ∨ (∃ vs v, numsD l = some vs ∧ e = .returned (.tuple #[v, .bool true]) ∧ IntsAt w w' v vs)

set_option maxHeartbeats 2000000 in
theorem numbers_any (l : List ByteArray) (a : Option Addr) (c : Nat) (w : World) (hK : StrsAt w a l.length l) (hn : l.length ≤ 1000) :
    Calls Tryd.prog 47 #[.slice a l.length c] w fun e w' => NumsPost l w e w' := by
  obtain ⟨_, hmax, hall, hmem⟩ := hK
  go_enter Tryd.func47, Tryd.ntmps47
  go_wp2_with fail
  go_loopw [4, 6, 7, 8, 11] (fun v _ _ _ i wr => ∃ (k : Nat) (vs : List Int), k ≤ l.length ∧ i = .int .i64 k ∧ Hid (numsD (l.take k) = some vs) ∧ vs.length ≤ k ∧ IntsAt w wr v vs) (fun _ _ _ _ i _ => l.length - (intOf i).toNat)
  case atStart => exact ⟨0, [], Nat.zero_le _, rfl, rfl, Nat.le_refl _, World.ownsRow_nil _ _ _ _, Below.refl _ _⟩
  case round =>
    obtain ⟨k, vs, hk, rfl, D, hvl, hI⟩ := hrel
    by_cases hlt : k < l.length
    · have hltz : (k : Int) < (l.length : Int) := by omega
      rcases hmem with hmem | ⟨b, off, rfl, hlb, hcell⟩
      · omega
      have hc : wr.cell? ⟨b, off + k, none⟩ = some (.string (l.getD k ByteArray.empty)) := by
        rw [hI.2.cell (p := ⟨b, off + k, none⟩) hlb]; exact hcell k hlt
      have hsz := hall _ (mem_getD l k hlt)
      have D2 := numsD_snoc (l.take k) (l.getD k ByteArray.empty)
      rw [← take_snoc l k hlt, D.out] at D2
      have hcall := number_any (l.getD k ByteArray.empty)
      clear hcell hall
      generalize l.getD k ByteArray.empty = y at *
      cases hy : numD y with
      | none =>
        rw [hy] at D2
        have N : Hid (numsD l = none) := by
          have := numsD_prefix (l.take (k + 1)) (l.drop (k + 1)) D2
          rw [List.take_append_drop] at this
          exact this
        have e1 : numV y = 0 := by unfold numV; rw [hy]; rfl
        have e2 : numOk y = false := by unfold numOk; rw [hy]; rfl
        rw [e1, e2] at hcall
        clear e1 e2 hy D2 D
        go_wp2_with (go_at_call 70; refine (hcall _ hsz).mono ?_; rintro e w1 ⟨rfl, hb⟩)
        go_ret2
        exact Or.inl ⟨N.out, rfl, hI.2.trans (hb.mono hI.2.size)⟩
      | some n =>
        rw [hy] at D2
        have D3 : Hid (numsD (l.take (k + 1)) = some (vs ++ [n])) := D2
        have e1 : numV y = n := by unfold numV; rw [hy]; rfl
        have e2 : numOk y = true := by unfold numOk; rw [hy]; rfl
        rw [e1, e2] at hcall
        clear e1 e2 hy D2 D
        have hm : vs.length + 1 ≤ 1000000 := by omega
        go_wp2_with (first | (go_at_call 70; refine (hcall _ hsz).mono ?_; rintro e w1 ⟨rfl, hb⟩) | (at_builtin; refine append_ints _ rfl (.tmp 22) (.tmp 24) rfl w _ vs rfl ((hI.later hb).alloc _) n _ rfl (by simp) hm ?_; intro g2 cap2 w2 hI2))
        go_roundw
        case rel => exact ⟨k + 1, vs ++ [n], by omega, by go_num, D3, by simp; omega, hI2⟩
        case measure => simp [intOf]; omega
    · have hltz : ¬ (k : Int) < (l.length : Int) := by omega
      have N : Hid (numsD l = some vs) := by
        have := D.out
        rw [List.take_of_length_le (by omega)] at this
        exact this
      clear hmem hall D
      go_wp2
      go_ret2
      exact Or.inr ⟨vs, _, N.out, rfl, hI⟩
end Go.Proofs.YtkjfkonekajffaaDoor
