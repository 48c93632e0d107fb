/- dovecoteref.sumOf and dovecoteref.bytesOf. -/
import Derived.Test.YtogpkbhjobhodaaDoorFRec
import Derived.Lib.AppendStr
import Derived.Deep.AppendLies
import Derived.OwnWalk
namespace Go.Proofs.YtogpkbhjobhodaaDoor
open Go.ChangeShapes Go.WideShapes Go.ChangeAt Go.RowKit
set_option linter.unusedVariables false
set_option linter.unusedSimpArgs false

theorem byteAt (s : ByteArray) (k : Nat) (hk : k < s.size) : s[k] = s.data.toList.getD k 0 := by
  have h : k < s.data.toList.length := hk
  rw [List.getD_eq_getElem?_getD, List.getElem?_eq_getElem h]
  rfl

set_option maxHeartbeats 1000000 in
theorem sumOf_any (s : ByteArray) (w : World) (hs : s.size ≤ maxLen) :
    Calls Tryd.prog 60 #[.string s] w fun e w' => e = .returned (.int .i64 (sumF s.data.toList 7)) ∧ w' = w := by
  unfold maxLen at hs
  have hlen : s.data.toList.length = s.size := rfl
  go_enter Tryd.func60, Tryd.ntmps60
  go_wp2_with fail
  go_loopw [3, 4] (fun n i wr => ∃ k : Nat, k ≤ s.size ∧ n = .int .i64 (sumF (s.data.toList.take k) 7) ∧ i = .int .i64 k ∧ wr = w) (fun n i _ => s.size - (intOf i).toNat)
  case atStart => exact ⟨0, Nat.zero_le _, rfl, rfl, rfl⟩
  case round =>
    obtain ⟨k, hk, rfl, rfl, rfl⟩ := hrel
    obtain ⟨s0, s1⟩ := sumF_range (s.data.toList.take k) 7 (by decide) (by decide)
    by_cases hlt : k < s.size
    · have hltz : (k : Int) < (s.size : Int) := by omega
      have hk0 : (0 : Int) ≤ (k : Int) := Int.natCast_nonneg _
      have hT := sumF_take s.data.toList k hlt 7
      have hba := byteAt s k hlt
      rw [← hba] at hT
      have hbd := s[k].toNat_lt
      generalize sumF (s.data.toList.take k) 7 = S at *
      have hrem : (31 * S + (s[k].toNat : Int)).tmod 65521 = (31 * S + (s[k].toNat : Int)) % 65521 := Int.tmod_eq_emod_of_nonneg (by omega)
      have hbd2 : s.data[k].toNat < 256 := hbd
      have hrem2 : (31 * S + (s.data[k].toNat : Int)).tmod 65521 = (31 * S + (s.data[k].toNat : Int)) % 65521 := hrem
      clear hba
      go_wp2
      refine ⟨⟨k + 1, by omega, by rw [hT], by simp, trivial⟩, by simp [intOf]; omega⟩
    · have hltz : ¬ (k : Int) < (s.size : Int) := by omega
      have hkl : k = s.size := by omega
      have E : Hid (sumF (s.data.toList.take s.size) 7 = sumF s.data.toList 7) := by unfold Hid; rw [← hlen, List.take_length]
      subst hkl
      go_wp2
      go_ret
      exact ⟨by first | rfl | exact ret_i64 E.out, rfl⟩

/-- A record. -/
def recOf (l : List UInt8) : List UInt8 := UInt8.ofNat l.length :: UInt8.ofNat (sumF l 7 / 256).toNat :: UInt8.ofNat (sumF l 7 % 256).toNat :: l

theorem infoByte : (Tryd.prog.info? 5).map (fun i => (i.zero, i.size, i.bytes)) = some (some (.int .u8 0), 1, 1) := by kernel_rfl

def BytesPost (l : List UInt8) (w : World) (e : Ending) (w' : World) : Prop :=
  ∃ g cap, e = .returned (.slice (some ⟨g, 0, none⟩) l.length cap) ∧ BytesAt w' (some ⟨g, 0, none⟩) l ∧ w.heap.size ≤ g ∧ Below w.heap.size w w'

/-- Bytes in a row of the call's own. -/
def OwnB (W0 w : World) (v : Value) (l : List UInt8) : Prop :=
  w.ownsRow W0.heap.size 5 1 v l.length (l.map fun b => Value.int .u8 (b.toNat : Int)) ∧ Below W0.heap.size W0 w

theorem OwnB.form {W0 w : World} {v : Value} {l : List UInt8} (h : OwnB W0 w v l) (hp : 0 < l.length) : ∃ g cap, v = .slice (some ⟨g, 0, none⟩) l.length cap ∧ W0.heap.size ≤ g ∧ BytesAt w (some ⟨g, 0, none⟩) l ∧ l.length ≤ cap ∧ cap ≤ maxLen := by
  rcases h.1.2 with ⟨_, h0⟩ | ⟨g, cap, cur, hv, hb, hg, hle, hcm, _⟩
  · omega
  · have hlt : g < w.heap.size := by
      rcases Nat.lt_or_ge g w.heap.size with hlt | hge
      · exact hlt
      · rw [Array.getElem?_eq_none hge] at hg; cases hg
    refine ⟨g, cap, hv, hb, ⟨by omega, Or.inr ⟨g, 0, rfl, hlt, fun j hj => ?_⟩⟩, hle, hcm⟩
    have := h.1.cells (g := g) (by rw [hv]; rfl) j (.int .u8 ((l.getD j 0).toNat : Int)) (by
      rw [List.getElem?_map, List.getElem?_eq_getElem hj, List.getD_eq_getElem?_getD, List.getElem?_eq_getElem hj]; rfl)
    rw [WideShapes.add_plain] at this
    simpa using this

theorem own_new (w : World) (l : List UInt8) (hl : l.length ≤ 1000) : OwnB w (w.alloc (.cells (l.map fun b => Value.int .u8 (b.toNat : Int)).toArray 5)) (.slice (some ⟨w.heap.size, 0, none⟩) l.length l.length) l := by
  refine ⟨⟨by simp, Or.inr ⟨w.heap.size, l.length, (l.map fun b => Value.int .u8 (b.toNat : Int)).toArray, rfl, Nat.le_refl _, ?_, Nat.le_refl _, by unfold maxLen; omega, by simp, ?_⟩⟩, (Below.refl _ _).alloc (Nat.le_refl _) _⟩
  · show (w.heap.push _)[w.heap.size]? = _
    exact Array.getElem?_push_size
  · rw [Nat.mul_one]
    exact List.take_of_length_le (by simp)

/-- 'append(b, s...)' of a text, b of the call's own. -/
theorem append_text {ops : Array Oper} {rest : List Oper} {o : Oper} {a : Act} {Q : Exit → Act → World → Prop} (w : World) (hgd : o.guard = none) (sl x : Operand)
    (ho : o.op = .call { callee := .builtin .append, args := #[sl, x], argTypes := #[22, 9] })
    (W0 : World) (v : Value) (l : List UInt8) (hs : a.eval sl = v) (hW : OwnB W0 w v l) (hp : 0 < l.length) (s : ByteArray) (hx : a.eval x = .string s) (hsz : l.length + s.size ≤ 1000000)
    (h : ∀ g cap w', OwnB W0 w' (.slice (some ⟨g, 0, none⟩) (l ++ s.data.toList).length cap) (l ++ s.data.toList) → wpList Tryd.prog ops Q rest (a.put o.dst (.slice (some ⟨g, 0, none⟩) (l ++ s.data.toList).length cap)) w') : wpList Tryd.prog ops Q (o :: rest) a w := by
  obtain ⟨i0, hi, hz0, hz1, hz2⟩ := info_parts infoByte
  refine Lib.wpList_append_own_string w hgd sl x 22 9 ho W0.heap.size 5 i0 Tryd.underlying22 Tryd.underlying9 hi hz0 hz1 hz2 v l.length _ hs hW.1 s hx (by unfold maxLen; omega) (by omega) hW.2.size ?_
  intro v' w' h2 h3 h4
  have hlen : (l ++ s.data.toList).length = l.length + s.size := by rw [List.length_append]; rfl
  have hmap : (l.map fun b => Value.int .u8 (b.toNat : Int)) ++ Lib.strCells s = (l ++ s.data.toList).map fun b => Value.int .u8 (b.toNat : Int) := by rw [List.map_append]; rfl
  have hO : OwnB W0 w' v' (l ++ s.data.toList) := by
    refine ⟨?_, hW.2.grown h3 hW.2.size (fun k hk => (hW.1.lt k hk).1)⟩
    rw [hlen, ← hmap]
    exact h2
  obtain ⟨g, cap, rfl, _⟩ := hO.form (by omega)
  exact h g cap w' hO

theorem u8_nat (n : Nat) (h : n < 256) : (UInt8.ofNat n).toNat = n := by rw [UInt8.toNat_ofNat']; omega

set_option maxHeartbeats 1000000 in
theorem bytesOf_any (s : ByteArray) (w : World) (hs : s.size ≤ 200) :
    Calls Tryd.prog 54 #[.string s] w fun e w' => BytesPost (recOf s.data.toList) w e w' := by
  have hsm := fun w1 => sumOf_any s w1 (by unfold maxLen; omega)
  obtain ⟨s0, s1⟩ := sumF_range s.data.toList 7 (by decide) (by decide)
  have hR : recOf s.data.toList = [UInt8.ofNat s.size, UInt8.ofNat (sumF s.data.toList 7 / 256).toNat, UInt8.ofNat (sumF s.data.toList 7 % 256).toNat] ++ s.data.toList := rfl
  generalize recOf s.data.toList = R at *
  generalize sumF s.data.toList 7 = S at *
  have hq : S.tdiv 256 = S / 256 := Int.tdiv_eq_ediv_of_nonneg s0
  have hm : S.tmod 256 = S % 256 := Int.tmod_eq_emod_of_nonneg s0
  have hO := fun w1 => own_new w1 [UInt8.ofNat s.size, UInt8.ofNat (S / 256).toNat, UInt8.ofNat (S % 256).toNat] (by show 3 ≤ 1000; omega)
  simp only [List.map_cons, List.map_nil, u8_nat s.size (by omega), u8_nat (S / 256).toNat (by omega), u8_nat (S % 256).toNat (by omega)] at hO
  rw [show (((S / 256).toNat : Nat) : Int) = S / 256 by omega, show (((S % 256).toNat : Nat) : Int) = S % 256 by omega] at hO
  have h3 : [UInt8.ofNat s.size, UInt8.ofNat (S / 256).toNat, UInt8.ofNat (S % 256).toNat].length = 3 := rfl
  have hl3 : ([UInt8.ofNat s.size, UInt8.ofNat (S / 256).toNat, UInt8.ofNat (S % 256).toNat] ++ s.data.toList).length = 3 + s.size := by rw [List.length_append, h3]; rfl
  generalize [UInt8.ofNat s.size, UInt8.ofNat (S / 256).toNat, UInt8.ofNat (S % 256).toNat] = H at *
  rw [h3] at hO
  go_enter Tryd.func54, Tryd.ntmps54
  go_wp2_with (first | (go_at_call 60; refine (hsm _).mono ?_; rintro e w1 ⟨rfl, rfl⟩) | (at_builtin; refine append_text _ rfl (.tmp 16) (.tmp 17) rfl _ _ H rfl (hO _) (by omega) s rfl (by omega) ?_; intro g2 cap2 w2 hW2))
  go_ret
  subst hR
  obtain ⟨g3, cap3, e3, hge, hB3, _⟩ := hW2.form (by omega)
  cases e3
  exact ⟨g2, cap2, by rw [hl3]; rfl, hB3, hge, hW2.2⟩
end Go.Proofs.YtogpkbhjobhodaaDoor
