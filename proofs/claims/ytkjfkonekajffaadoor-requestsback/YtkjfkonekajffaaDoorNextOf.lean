/- The contract of dovecoteref.NextOf, out of the contract of dovecoteref.lineOf: what wire.Next answers. -/
import Derived.Test.YtkjfkonekajffaaDoorParted
import Derived.Test.YtkjfkonekajffaaDoorNumberOf
import Derived.Test.YtkjfkonekajffaaDoorFault
namespace Go.Proofs.YtkjfkonekajffaaDoor
open Go.ChangeShapes Go.WideShapes Go.ChangeAt Go.RowKit
set_option linter.unusedVariables false

def szOf (R : LineR) : Int := if inB R.kind 2 7 = true then R.size else -1

/-- What dovecoteref.lineOf answers. -/
def LOPost (ws : List ByteArray) (w : World) (e : Ending) (w' : World) : Prop :=
  match lineD ws with
  | none => e = .returned (.tuple #[.agg #[.int .i64 13, .string ⟨#[]⟩, .slice none 0 0, .int .i64 0, .int .i64 0, .int .i64 0, .string ⟨#[]⟩, .bool false], .int .i64 (-1)]) ∧ Below w.heap.size w w'
  | some R => if checkN R.kind R.key R.keys R.flags R.exp R.nn ⟨#[]⟩ R.quiet = 0 then
      ∃ a c, e = .returned (.tuple #[.agg #[.int .i64 R.kind, .string R.key, .slice a R.keys.length c, .int .i64 R.flags, .int .i64 R.exp, .int .i64 R.nn, .string ⟨#[]⟩, .bool R.quiet], .int .i64 (szOf R)]) ∧ StrsAt w' a R.keys.length R.keys ∧ (∀ x, a = some x → w.heap.size < x.block) ∧ Below w.heap.size w w'
    else e = .returned (.tuple #[.agg #[.int .i64 13, .string ⟨#[]⟩, .slice none 0 0, .int .i64 0, .int .i64 0, .int .i64 0, .string ⟨#[]⟩, .bool false], .int .i64 (szOf R)]) ∧ Below w.heap.size w w'

def LineOfAny : Prop := ∀ (s : ByteArray) (w : World), s.size ≤ 300 → Calls Tryd.prog 26 #[.string s] w fun e w' => LOPost (lineWs s) w e w'

/-- The first byte 10 from byte p on. -/
def firstNl (s : ByteArray) (p : Nat) (E : Int) : Prop :=
  (E = -1 ∧ ∀ k, p ≤ k → k < s.size → s.data.toList.getD k 0 ≠ 10) ∨ (∃ o : Nat, E = o ∧ p ≤ o ∧ o < s.size ∧ s.data.toList.getD o 0 = 10 ∧ ∀ k, p ≤ k → k < o → s.data.toList.getD k 0 ≠ 10)

theorem firstNl_step (s : ByteArray) (p : Nat) (E : Int) (h : firstNl s (p + 1) E) (hb : s.data.toList.getD p 0 ≠ 10) : firstNl s p E := by
  rcases h with ⟨h1, h2⟩ | ⟨o, h1, h2, h3, h4, h5⟩
  · refine Or.inl ⟨h1, fun k hk hk2 => ?_⟩
    rcases Nat.eq_or_lt_of_le hk with rfl | h
    · exact hb
    · exact h2 k h hk2
  · refine Or.inr ⟨o, h1, by omega, h3, h4, fun k hk hk2 => ?_⟩
    rcases Nat.eq_or_lt_of_le hk with rfl | h
    · exact hb
    · exact h5 k h hk2

theorem firstNl_hit (s : ByteArray) (p : Nat) (hp : p < s.size) (hb : s.data.toList.getD p 0 = 10) : firstNl s p p :=
  Or.inr ⟨p, rfl, Nat.le_refl _, hp, hb, fun k h1 h2 => by omega⟩

theorem getD_some (l : List UInt8) (k : Nat) (h : k < l.length) : l[k]? = some (l.getD k 0) := by
  rw [List.getD_eq_getElem?_getD, List.getElem?_eq_getElem h]; rfl

theorem firstNl_index (s : ByteArray) (E : Int) (h : firstNl s 0 E) : E = Lib.indexByte s.data.toList 10 := by
  have hl : s.data.toList.length = s.size := rfl
  have hg := Lib.indexByte_ge s.data.toList 10
  rcases h with ⟨h1, h2⟩ | ⟨o, h1, _, h3, h4, h5⟩
  · by_cases hx : Lib.indexByte s.data.toList 10 = -1
    · omega
    · have hs := (Lib.indexByte_some (l := s.data.toList) (c := 10) (o := (Lib.indexByte s.data.toList 10).toNat) (by omega)).1
      have hlt := indexByte_lt s 10 (by omega)
      rw [getD_some _ _ (by omega)] at hs
      exact absurd (Option.some.inj hs) (h2 _ (Nat.zero_le _) hlt)
  · by_cases hx : Lib.indexByte s.data.toList 10 = -1
    · have := Lib.indexByte_none hx o
      rw [getD_some _ _ (by omega), h4] at this
      exact absurd rfl this
    · have hlt := indexByte_lt s 10 (by omega)
      obtain ⟨hs, hs2⟩ := Lib.indexByte_some (l := s.data.toList) (c := 10) (o := (Lib.indexByte s.data.toList 10).toNat) (by omega)
      rw [getD_some _ _ (by omega)] at hs
      rcases Nat.lt_trichotomy o (Lib.indexByte s.data.toList 10).toNat with g | g | g
      · have := hs2 o g
        rw [getD_some _ _ (by omega), h4] at this
        exact absurd rfl this
      · omega
      · exact absurd (Option.some.inj hs) (h5 _ (Nat.zero_le _) g)

/-- A value of up to 200 bytes is right where its kind brings one. -/
theorem check_value (kind : Int) (key : ByteArray) (keys : List ByteArray) (flags exp nn : Int) (value : ByteArray) (quiet : Bool) (hk : inB kind 2 7 = true) (hv : value.size ≤ 200) :
    checkN kind key keys flags exp nn value quiet = checkN kind key keys flags exp nn ⟨#[]⟩ quiet := by
  rw [check_eq, check_eq]
  have h1 : fieldsBad kind flags exp value = fieldsBad kind flags exp ⟨#[]⟩ := by unfold fieldsBad; simp [hk]
  rw [h1, if_neg (show ¬ 200 < value.size by omega), if_neg (show ¬ 200 < (⟨#[]⟩ : ByteArray).size from by decide)]

/-- What follows a line's request X with z bytes to come. -/
def outD (X : NextR) (z : Int) (s : ByteArray) (e : Nat) : NextR :=
  if z < 0 then { X with n := (e : Int) + 1 }
  else if 200 < z then badN ((e : Int) + 1)
  else if s.size ≤ e + 1 + z.toNat then zeroN
  else if s.data.toList.getD (e + 1 + z.toNat) 0 = 10 then { X with value := (if X.kind = 13 then ⟨#[]⟩ else s.extract (e + 1) (e + 1 + z.toNat)), n := (e : Int) + z + 2 }
  else badN ((e : Int) + 1)

def UPost (s : ByteArray) (e : Nat) (w : World) (e' : Ending) (w' : World) : Prop :=
  ∃ (X : NextR) (a : Option Addr) (c : Nat) (z : Int), e' = .returned (.tuple #[.agg #[.int .i64 X.kind, .string X.key, .slice a X.keys.length c, .int .i64 X.flags, .int .i64 X.exp, .int .i64 X.nn, .string ⟨#[]⟩, .bool X.quiet], .int .i64 z]) ∧ StrsAt w' a X.keys.length X.keys ∧ (∀ x, a = some x → w.heap.size < x.block) ∧ Below w.heap.size w w' ∧
    X.value = ⟨#[]⟩ ∧ Hid (restD s e = outD X z s e) ∧ -1 ≤ z ∧ z ≤ 1099511627776

theorem lo_uniform (s : ByteArray) (e : Nat) (w : World) (e' : Ending) (w' : World) (he : e ≤ 300) (h : LOPost (lineWs (s.extract 0 e)) w e' w') : UPost s e w e' w' := by
  unfold LOPost at h
  cases hR : lineD (lineWs (s.extract 0 e)) with
  | none =>
    rw [hR] at h
    refine ⟨badN 0, none, 0, -1, h.1, strs_none _, (fun x hx => by cases hx), h.2, rfl, ?_, by omega, by omega⟩
    show restD s e = _
    unfold restD outD
    rw [hR]
    rfl
  | some R =>
    rw [hR] at h
    obtain ⟨f1, f2, f3⟩ := lineD_facts _ R hR (fun x hx => Nat.le_trans ((lineWs_sizes _).2 x hx) (by simp only [ByteArray.size_extract]; omega))
    have hz : -1 ≤ szOf R ∧ szOf R ≤ 1099511627776 := by unfold szOf; split <;> omega
    have key : ∀ X : NextR, X.value = ⟨#[]⟩ → (∀ n v, v.size ≤ 200 → inB R.kind 2 7 = true → chkD R.kind R.key R.keys R.flags R.exp R.nn v R.quiet n = { X with value := (if X.kind = 13 then ⟨#[]⟩ else v), n := n }) → (∀ n, chkD R.kind R.key R.keys R.flags R.exp R.nn ⟨#[]⟩ R.quiet n = { X with n := n }) → restD s e = outD X (szOf R) s e := by
      intro X hX h1 h2
      unfold restD outD
      rw [hR]
      simp only
      cases hk : inB R.kind 2 7
      · have hs : szOf R = -1 := by unfold szOf; rw [hk]; rfl
        rw [hs, if_neg (by decide), if_pos (by decide), h2]
        rfl
      · have hs : szOf R = R.size := by unfold szOf; rw [hk]; rfl
        rw [hs, if_pos rfl, if_neg (by omega)]
        unfold valD
        by_cases g1 : 200 < R.size
        · rw [if_pos g1, if_pos (by omega)]
          rfl
        rw [if_neg g1, if_neg (by omega)]
        by_cases g2 : s.size ≤ e + 1 + R.size.toNat
        · rw [if_pos g2, if_pos g2]
        rw [if_neg g2, if_neg g2]
        by_cases g3 : s.data.toList.getD (e + 1 + R.size.toNat) 0 = 10
        · rw [if_pos g3, if_pos g3, h1 _ _ (by simp only [ByteArray.size_extract]; omega) hk]
          rw [show ((e + 1 + R.size.toNat + 1 : Nat) : Int) = (e : Int) + R.size + 2 by omega]
        · rw [if_neg g3, if_neg g3]
          rfl
    have k13 : inB R.kind 2 7 = true → R.kind ≠ 13 := by
      intro h1 h2
      rw [h2] at h1
      cases h1
    by_cases hc : checkN R.kind R.key R.keys R.flags R.exp R.nn ⟨#[]⟩ R.quiet = 0
    · simp only [if_pos hc] at h
      obtain ⟨a, c, h1, h2, h3, h4⟩ := h
      refine ⟨{ kind := R.kind, key := R.key, keys := R.keys, flags := R.flags, exp := R.exp, nn := R.nn, value := ⟨#[]⟩, quiet := R.quiet, n := 0 }, a, c, szOf R, h1, h2, h3, h4, rfl, key _ rfl ?_ ?_, hz.1, hz.2⟩
      · intro n v hv hk
        unfold chkD
        rw [check_value _ _ _ _ _ _ v _ hk hv, if_pos hc, if_neg (k13 hk)]
      · intro n
        unfold chkD
        rw [if_pos hc]
    · simp only [if_neg hc] at h
      refine ⟨badN 0, none, 0, szOf R, h.1, strs_none _, (fun x hx => by cases hx), h.2, rfl, key (badN 0) rfl ?_ ?_, hz.1, hz.2⟩
      · intro n v hv hk
        unfold chkD
        rw [check_value _ _ _ _ _ _ v _ hk hv, if_neg hc]
        rfl
      · intro n
        unfold chkD
        rw [if_neg hc]
        rfl

set_option maxHeartbeats 2000000 in
set_option maxRecDepth 100000 in
theorem nextOf_any (hLO : LineOfAny) (s : ByteArray) (w : World) (hs : s.size ≤ maxLen) :
    Calls Tryd.prog 9 #[.string s] w fun e w' => NextPost (nextD s) w e w' := by
  have hs' := hs
  unfold maxLen at hs'
  have hB0 : Below w.heap.size w ((w.alloc (.cells #[.int .i64 0, .string ⟨#[]⟩, .slice none 0 0, .int .i64 0, .int .i64 0, .int .i64 0, .string ⟨#[]⟩, .bool false] 24)).alloc (.cells #[.int .i64 13, .string ⟨#[]⟩, .slice none 0 0, .int .i64 0, .int .i64 0, .int .i64 0, .string ⟨#[]⟩, .bool false] 24)) := ((Below.refl _ _).alloc (Nat.le_refl _) _).alloc (by simp) _
  have hBa : ∀ o1 o2, Below w.heap.size w ((w.alloc o1).alloc o2) := fun o1 o2 => ((Below.refl _ _).alloc (Nat.le_refl _) _).alloc (by simp) _
  go_enter Tryd.func9, Tryd.ntmps9
  go_wp2_with fail
  go_loop [5, 6] (fun v i => ∃ (p : Nat) (E : Int), p ≤ s.size ∧ i = .int .i64 ((p : Int) - 1) ∧ v = .int .i64 E ∧ Hid (firstNl s p E)) (fun _ i => (intOf i + 1).toNat)
  case atStart => exact ⟨s.size, -1, Nat.le_refl _, rfl, rfl, Or.inl ⟨rfl, fun k h1 h2 => by omega⟩⟩
  case round =>
    obtain ⟨p, E, hp, rfl, rfl, D⟩ := hrel
    by_cases h0 : p = 0
    · subst h0
      have hE := firstNl_index s E D.out
      clear D
      by_cases h1 : E < 0
      · by_cases h2 : 300 < s.size
        · have EQ : Hid (nextD s = badN s.size) := by unfold Hid nextD; rw [← hE, if_pos h1, if_pos h2]
          have h2' : 300 < (s.size : Int) := by omega
          clear hE
          go_wp2
          exact bodyPost_ret (v := .tuple #[.agg #[.int .i64 13, .string ⟨#[]⟩, .slice none 0 0, .int .i64 0, .int .i64 0, .int .i64 0, .string ⟨#[]⟩, .bool false], .int .i64 s.size]) (by simp [results, Tryd.results9, go_sem]) rfl ⟨none, 0, by rw [EQ.out]; rfl, by rw [EQ.out]; exact strs_none _, hBa _ _⟩
        · have EQ : Hid (nextD s = zeroN) := by unfold Hid nextD; rw [← hE, if_pos h1, if_neg h2]
          have h2' : ¬ 300 < (s.size : Int) := by omega
          clear hE
          go_wp2
          exact bodyPost_ret (v := .tuple #[.agg #[.int .i64 0, .string ⟨#[]⟩, .slice none 0 0, .int .i64 0, .int .i64 0, .int .i64 0, .string ⟨#[]⟩, .bool false], .int .i64 0]) (by simp [results, Tryd.results9, go_sem]) rfl ⟨none, 0, by rw [EQ.out]; rfl, by rw [EQ.out]; exact strs_none _, hBa _ _⟩
      · obtain ⟨e, rfl⟩ : ∃ e : Nat, E = (e : Int) := ⟨E.toNat, by omega⟩
        have hlt := indexByte_lt s 10 (by omega)
        rw [← hE, Int.toNat_natCast] at hlt
        by_cases h2 : 300 < e
        · have EQ : Hid (nextD s = badN ((e : Int) + 1)) := by unfold Hid nextD; rw [← hE, Int.toNat_natCast, if_neg h1, if_pos h2]; rfl
          have h2' : 300 < (e : Int) := by omega
          have h3' : (e : Int) + 1 ≤ 9223372036854775807 := by omega
          clear hE
          go_wp2
          exact bodyPost_ret (v := .tuple #[.agg #[.int .i64 13, .string ⟨#[]⟩, .slice none 0 0, .int .i64 0, .int .i64 0, .int .i64 0, .string ⟨#[]⟩, .bool false], .int .i64 ((e : Int) + 1)]) (by simp [results, Tryd.results9, go_sem]) rfl ⟨none, 0, by rw [EQ.out]; rfl, by rw [EQ.out]; exact strs_none _, hBa _ _⟩
        · have EQ : Hid (nextD s = restD s e) := by unfold Hid nextD; rw [← hE, Int.toNat_natCast, if_neg h1, if_neg h2]
          have h2' : ¬ 300 < (e : Int) := by omega
          have h3' : ¬ (e : Int) < 0 := by omega
          have hlo := fun (w1 : World) => (hLO (s.extract 0 e) w1 (by simp only [ByteArray.size_extract]; omega)).mono (fun e' w' h => lo_uniform s e w1 e' w' (by omega) h)
          have hsl : ∀ wx : World, (Instr.slice 9 (.string s) none (some (.int .i64 (e : Int))) none).run Tryd.prog wx = .ok (.string (s.extract 0 e)) wx := fun wx => by
            simp [Instr.slice, run_underlying Tryd.underlying9, Instr.sliceBounds, run_sliceBound, (by omega : (e : Int) ≤ s.size)]
          clear hE
          go_wp2_with fail
          refine (hlo _).mono ?_
          rintro e' w3 ⟨X, a, c, z, rfl, hS, hfr, hb3, hXv, U, hz0, hz1⟩
          rw [← EQ.out] at U
          obtain ⟨p1, p2⟩ := bcell hb3
          have hz3 : w.heap.size + 1 < w3.heap.size := by have := bsize hb3; simpa using this
          have hz3' : w.heap.size < w3.heap.size := by omega
          have k1 := fun o => p1 w.heap.size o (by simp; omega)
          have k2 := fun o => p2 w.heap.size o (by simp; omega)
          have hBb := hB0.trans (hb3.mono hB0.size)
          have hBc := fun o => hBb.alloc (by omega) o
          have hne : ∀ x, a = some x → x.block ≠ w.heap.size := fun x hx => by have := hfr x hx; simp at this; omega
          obtain ⟨xk, xy, xs, xf, xe, xn, xv, xq, xm⟩ := X
          simp only at *
          subst hXv
          unfold outD at U
          clear hlo hsl
          by_cases g0 : z < 0
          · rw [if_pos g0] at U
            have h4' : (e : Int) + 1 ≤ 9223372036854775807 := by omega
            go_wp2
            exact bodyPost_ret (v := .tuple #[.agg #[.int .i64 xk, .string xy, .slice a xs.length c, .int .i64 xf, .int .i64 xe, .int .i64 xn, .string ⟨#[]⟩, .bool xq], .int .i64 ((e : Int) + 1)]) (by simp [results, Tryd.results9, go_sem, k1, hz3']) rfl ⟨a, c, by rw [U.out], by rw [U.out]; exact strs8 w.heap.size _ _ _ _ _ _ _ _ _ hS hne, ((((((((hBb.setCell (Nat.le_refl _) _).setCell (Nat.le_refl _) _).setCell (Nat.le_refl _) _).setCell (Nat.le_refl _) _).setCell (Nat.le_refl _) _).setCell (Nat.le_refl _) _).setCell (Nat.le_refl _) _).setCell (Nat.le_refl _) _).alloc (by simp [World.setCell]; omega) _⟩
          rw [if_neg g0] at U
          have h4' : (e : Int) + 1 ≤ 9223372036854775807 := by omega
          by_cases g1 : 200 < z
          · rw [if_pos g1] at U
            go_wp2
            exact bodyPost_ret (v := .tuple #[.agg #[.int .i64 13, .string ⟨#[]⟩, .slice none 0 0, .int .i64 0, .int .i64 0, .int .i64 0, .string ⟨#[]⟩, .bool false], .int .i64 ((e : Int) + 1)]) (by simp [results, Tryd.results9, go_sem, k1, hz3']) rfl ⟨none, 0, by rw [U.out]; rfl, by rw [U.out]; exact strs_none _, ((((((((hBb.setCell (Nat.le_refl _) _).setCell (Nat.le_refl _) _).setCell (Nat.le_refl _) _).setCell (Nat.le_refl _) _).setCell (Nat.le_refl _) _).setCell (Nat.le_refl _) _).setCell (Nat.le_refl _) _).setCell (Nat.le_refl _) _).alloc (by simp [World.setCell]; omega) _⟩
          rw [if_neg g1] at U
          obtain ⟨m, rfl⟩ : ∃ m : Nat, z = (m : Int) := ⟨z.toNat, by omega⟩
          rw [Int.toNat_natCast] at U
          by_cases g2 : s.size ≤ e + 1 + m
          · rw [if_pos g2] at U
            have g2' : (s.size : Int) ≤ (e : Int) + 1 + (m : Int) := by omega
            go_wp2
            exact bodyPost_ret (v := .tuple #[.agg #[.int .i64 0, .string ⟨#[]⟩, .slice none 0 0, .int .i64 0, .int .i64 0, .int .i64 0, .string ⟨#[]⟩, .bool false], .int .i64 (0)]) (by simp [results, Tryd.results9, go_sem, k1, hz3']) rfl ⟨none, 0, by rw [U.out]; rfl, by rw [U.out]; exact strs_none _, ((((((((hBb.setCell (Nat.le_refl _) _).setCell (Nat.le_refl _) _).setCell (Nat.le_refl _) _).setCell (Nat.le_refl _) _).setCell (Nat.le_refl _) _).setCell (Nat.le_refl _) _).setCell (Nat.le_refl _) _).setCell (Nat.le_refl _) _).alloc (by simp [World.setCell]; omega) _⟩
          rw [if_neg g2] at U
          obtain ⟨st, hst⟩ : ∃ st : Nat, st = e + 1 := ⟨_, rfl⟩
          rw [← hst] at U
          have he1 : (e : Int) + 1 = (st : Int) := by omega
          rw [he1] at U h4'
          have hst2 : st ≤ 301 := by omega
          have g2' : ¬ (s.size : Int) ≤ (st : Int) + (m : Int) := by omega
          have hl2 : st + m < s.size := by omega
          have hba := byteAt s (st + m) hl2
          clear hst g2
          by_cases g3 : s.data.toList.getD (st + m) 0 = 10
          · rw [if_pos g3] at U
            have hb : ((s[st + m].toNat : Int) != 10) = false := by show ((s[st + m].toNat : Int) != 10) = false; rw [hba, g3]; rfl
            clear hba g3
            by_cases g4 : xk = 13
            · rw [if_pos g4] at U
              subst g4
              go_wp2
              exact bodyPost_ret (v := .tuple #[.agg #[.int .i64 13, .string xy, .slice a xs.length c, .int .i64 xf, .int .i64 xe, .int .i64 xn, .string ⟨#[]⟩, .bool xq], .int .i64 ((e : Int) + (m : Int) + 2)]) (by simp [results, Tryd.results9, go_sem, k1, hz3']) rfl ⟨a, c, by rw [U.out], by rw [U.out]; exact strs8 w.heap.size _ _ _ _ _ _ _ _ _ hS hne, ((((((((hBb.setCell (Nat.le_refl _) _).setCell (Nat.le_refl _) _).setCell (Nat.le_refl _) _).setCell (Nat.le_refl _) _).setCell (Nat.le_refl _) _).setCell (Nat.le_refl _) _).setCell (Nat.le_refl _) _).setCell (Nat.le_refl _) _).alloc (by simp [World.setCell]; omega) _⟩
            · rw [if_neg g4] at U
              have g4' : (xk != 13) = true := by simp [g4]
              have hsl : ∀ wx : World, (Instr.slice 9 (.string s) (some (.int .i64 (st : Int))) (some (.int .i64 ((st : Int) + (m : Int)))) none).run Tryd.prog wx = .ok (.string (s.extract st (st + m))) wx := fun wx => by
                have := run_slice_string (P := Tryd.prog) wx 9 s .i64 .i64 (st : Int) ((st : Int) + (m : Int)) Tryd.underlying9 (by omega) (by omega) (by omega)
                rw [show ((st : Int) + (m : Int)).toNat = st + m by omega] at this
                exact this
              generalize s.extract st (st + m) = value at *
              go_wp2
              exact bodyPost_ret (v := .tuple #[.agg #[.int .i64 xk, .string xy, .slice a xs.length c, .int .i64 xf, .int .i64 xe, .int .i64 xn, .string value, .bool xq], .int .i64 ((e : Int) + (m : Int) + 2)]) (by simp [results, Tryd.results9, go_sem, k1, hz3']) rfl ⟨a, c, by rw [U.out], by rw [U.out]; exact strs8 w.heap.size _ _ _ _ _ _ _ _ _ hS hne, ((((((((hBb.setCell (Nat.le_refl _) _).setCell (Nat.le_refl _) _).setCell (Nat.le_refl _) _).setCell (Nat.le_refl _) _).setCell (Nat.le_refl _) _).setCell (Nat.le_refl _) _).setCell (Nat.le_refl _) _).setCell (Nat.le_refl _) _).alloc (by simp [World.setCell]; omega) _⟩
          · rw [if_neg g3] at U
            have hb : ((s[st + m].toNat : Int) != 10) = true := by
              show ((s[st + m].toNat : Int) != 10) = true
              rw [hba, bne_iff_ne]
              intro h
              apply g3
              apply UInt8.toNat_inj.1
              have : (10 : UInt8).toNat = 10 := rfl
              omega
            clear hba g3
            go_wp2
            exact bodyPost_ret (v := .tuple #[.agg #[.int .i64 13, .string ⟨#[]⟩, .slice none 0 0, .int .i64 0, .int .i64 0, .int .i64 0, .string ⟨#[]⟩, .bool false], .int .i64 (st : Int)]) (by simp [results, Tryd.results9, go_sem, k1, hz3']) rfl ⟨none, 0, by rw [U.out]; rfl, by rw [U.out]; exact strs_none _, ((((((((hBb.setCell (Nat.le_refl _) _).setCell (Nat.le_refl _) _).setCell (Nat.le_refl _) _).setCell (Nat.le_refl _) _).setCell (Nat.le_refl _) _).setCell (Nat.le_refl _) _).setCell (Nat.le_refl _) _).setCell (Nat.le_refl _) _).alloc (by simp [World.setCell]; omega) _⟩
    · obtain ⟨q, rfl⟩ : ∃ q, p = q + 1 := ⟨p - 1, by omega⟩
      have hlt : q < s.size := by omega
      have hltz : (q : Int) < (s.size : Int) := by omega
      have hq0 : (0 : Int) ≤ (q : Int) := Int.natCast_nonneg _
      have hba := byteAt s q hlt
      have hsub : ((q + 1 : Nat) : Int) - 1 = (q : Int) := by omega
      rw [hsub]
      by_cases hb : s.data.toList.getD q 0 = 10
      · have D2 : Hid (firstNl s q q) := firstNl_hit s q hlt hb
        have hbz : ((s[q].toNat : Int) == 10) = true := by rw [hba, hb]; rfl
        clear D hba hb
        go_wp2
        go_round
        case rel => exact ⟨q, q, by omega, rfl, rfl, D2⟩
        case measure => simp [intOf]
      · have D2 : Hid (firstNl s q E) := firstNl_step s q E D.out hb
        have hbz : ((s[q].toNat : Int) == 10) = false := by
          rw [hba, beq_eq_false_iff_ne]
          intro g3
          apply hb
          apply UInt8.toNat_inj.1
          have : (10 : UInt8).toNat = 10 := rfl
          omega
        clear D hba hb
        go_wp2
        go_round
        case rel => exact ⟨q, E, by omega, rfl, rfl, D2⟩
        case measure => simp [intOf]
end Go.Proofs.YtkjfkonekajffaaDoor
