/- The contract of wire.Next. -/
import Derived.Test.YtkjfkonekajffaaDoorNext2
import Derived.Lib.IndexLaws
namespace Go.Proofs.YtkjfkonekajffaaDoor
open Go.ChangeShapes Go.WideShapes Go.ChangeAt Go.RowKit
set_option linter.unusedVariables false

theorem digitsV_range : ∀ (l : List UInt8) (acc v : Int), 0 ≤ acc → acc ≤ 1099511627776 → digitsV l acc = some v → 0 ≤ v ∧ v ≤ 1099511627776
  | [], acc, v, h1, h2, h => by
    simp only [digitsV, Option.some.injEq] at h
    omega
  | b :: r, acc, v, h1, h2, h => by
    unfold digitsV at h
    split at h
    · cases h
    · split at h
      · cases h
      · exact digitsV_range r _ v (by omega) (by omega) h

theorem numD_range (s : ByteArray) (v : Int) (h : numD s = some v) : 0 ≤ v ∧ v ≤ 1099511627776 := by
  unfold numD at h
  split at h
  · cases h
  · split at h
    · cases h
    · exact digitsV_range _ 0 v (by omega) (by omega) h

theorem numsD_range : ∀ (l : List ByteArray) (vs : List Int), numsD l = some vs → ∀ v ∈ vs, 0 ≤ v ∧ v ≤ 1099511627776
  | [], vs, h, v, hv => by
    simp only [numsD, Option.some.injEq] at h
    subst h
    cases hv
  | x :: r, vs, h, v, hv => by
    unfold numsD at h
    cases hx : numD x with
    | none => rw [hx] at h; cases h
    | some n =>
      rw [hx] at h
      cases hr : numsD r with
      | none => rw [hr] at h; cases h
      | some l =>
        rw [hr] at h
        simp only [Option.some.injEq] at h
        subst h
        simp at hv
        rcases hv with rfl | hv
        · exact numD_range x v hx
        · exact numsD_range r l hr v hv

theorem getD_range (vs : List Int) (h : ∀ v ∈ vs, 0 ≤ v ∧ v ≤ 1099511627776) (j : Nat) : 0 ≤ vs.getD j 0 ∧ vs.getD j 0 ≤ 1099511627776 := by
  rw [List.getD_eq_getElem?_getD]
  cases hj : vs[j]? with
  | none => exact ⟨Int.le_refl 0, by decide⟩
  | some v => exact h v (List.mem_of_getElem? hj)

theorem getD_size (ws : List ByteArray) (h : ∀ x ∈ ws, x.size ≤ 300) (j : Nat) : (ws.getD j ByteArray.empty).size ≤ 300 := by
  rw [List.getD_eq_getElem?_getD]
  cases hj : ws[j]? with
  | none => exact Nat.zero_le _
  | some v => exact h v (List.mem_of_getElem? hj)

theorem lineU_mem (k : Nat) (t : List ByteArray) (x : ByteArray) (h : x ∈ lineU k t) : x ∈ t := by
  unfold lineU at h
  split at h
  · exact List.mem_of_mem_take h
  · exact h

theorem lineD_facts (ws : List ByteArray) (R : LineR) (h : lineD ws = some R) (hw : ∀ x ∈ ws, x.size ≤ 300) : 0 ≤ R.size ∧ R.size ≤ 1099511627776 ∧ R.key.size ≤ 300 := by
  unfold lineD at h
  split at h
  · cases h
  split at h
  · simp only [Option.some.injEq] at h
    subst h
    exact ⟨Int.le_refl 0, (by decide : (0 : Int) ≤ 1099511627776), Nat.zero_le _⟩
  · unfold lineRest at h
    split at h
    · split at h
      · cases h
      · rename_i vs hn
        simp only [Option.some.injEq] at h
        subst h
        have hv := numsD_range _ vs hn
        have hkey : (if inB (kindD (ws.getD 0 ByteArray.empty)) 2 11 = true then (lineU (kindD (ws.getD 0 ByteArray.empty)) ws.tail).getD 0 ByteArray.empty else ByteArray.empty).size ≤ 300 := by
          split
          · exact getD_size _ (fun x hx => hw x (List.mem_of_mem_tail (lineU_mem _ _ x hx))) 0
          · exact Nat.zero_le _
        refine ⟨?_, ?_, ?_⟩
        · unfold fillD
          split
          · exact (getD_range vs hv 2).1
          · split <;> exact Int.le_refl 0
        · unfold fillD
          split
          · exact (getD_range vs hv 2).2
          · split <;> exact (by decide : (0 : Int) ≤ 1099511627776)
        · rw [(fillD_kind _ _ _ vs).2.2.1]
          exact hkey
    · cases h

def restD (s : ByteArray) (e : Nat) : NextR :=
  match lineD (lineWs (s.extract 0 e)) with
  | none => badN ((e + 1 : Nat) : Int)
  | some R => if inB R.kind 2 7 = true then valD R s (e + 1) R.size.toNat else chkD R.kind R.key R.keys R.flags R.exp R.nn ⟨#[]⟩ R.quiet ((e + 1 : Nat) : Int)

def nextD (s : ByteArray) : NextR :=
  if Lib.indexByte s.data.toList 10 < 0 then (if 300 < s.size then badN (s.size : Int) else zeroN)
  else if 300 < (Lib.indexByte s.data.toList 10).toNat then badN (((Lib.indexByte s.data.toList 10).toNat + 1 : Nat) : Int)
  else restD s (Lib.indexByte s.data.toList 10).toNat

theorem indexByte_lt (s : ByteArray) (c : UInt8) (h : ¬ Lib.indexByte s.data.toList c < 0) : (Lib.indexByte s.data.toList c).toNat < s.size := by
  have := (Lib.indexByte_some (l := s.data.toList) (c := c) (o := (Lib.indexByte s.data.toList c).toNat) (by omega)).1
  rcases Nat.lt_or_ge (Lib.indexByte s.data.toList c).toNat s.size with h1 | h1
  · exact h1
  · rw [List.getElem?_eq_none (show s.data.toList.length ≤ _ from h1)] at this
    cases this

set_option maxHeartbeats 400000 in
set_option maxRecDepth 100000 in
theorem next_none (s : ByteArray) (w : World) (hs : s.size ≤ maxLen) (h0 : Lib.indexByte s.data.toList 10 < 0) :
    Calls Tryd.prog 8 #[.string s] w fun e w' => NextPost (nextD s) w e w' := by
  have hs' := hs
  unfold maxLen at hs'
  have hix := fun w1 => Tryd.strings_IndexByte s 10 w1
  rw [show (Int.toNat 10).toUInt8 = 10 from rfl] at hix
  have hB0 : Below w.heap.size w (w.alloc (.cells #[.int .i64 0, .string ⟨#[]⟩, .slice none 0 0, .int .i64 0, .int .i64 0, .int .i64 0, .string ⟨#[]⟩, .bool false] 24)) := (Below.refl _ _).alloc (Nat.le_refl _) _
  by_cases h1 : 300 < s.size
  · have E : Hid (nextD s = badN s.size) := by unfold Hid nextD; rw [if_pos h0, if_pos h1]
    have h1' : 300 < (s.size : Int) := by omega
    have hbo := badOf_any (s.size : Int)
    generalize Lib.indexByte s.data.toList 10 = ix at *
    go_enter Tryd.func8, Tryd.ntmps8
    go_wp2_with fail
    refine (hix _).mono ?_
    rintro e w1 ⟨rfl, rfl⟩
    go_wp2_with fail
    refine (hbo _).mono ?_
    rintro e w2 ⟨rfl, hb2⟩
    obtain ⟨p1, p2⟩ := bcell hb2
    have hz : w.heap.size < w2.heap.size := bsize hb2
    have hBb := hB0.trans (hb2.mono hB0.size)
    go_wp2
    exact bodyPost_ret (v := .tuple #[.agg #[.int .i64 13, .string ⟨#[]⟩, .slice none 0 0, .int .i64 0, .int .i64 0, .int .i64 0, .string ⟨#[]⟩, .bool false], .int .i64 s.size]) (by simp [results, Tryd.results8, go_sem, p1]) rfl ⟨none, 0, by rw [E.out]; rfl, by rw [E.out]; exact strs_none _, ((((((((hBb.setCell (Nat.le_refl _) _).setCell (Nat.le_refl _) _).setCell (Nat.le_refl _) _).setCell (Nat.le_refl _) _).setCell (Nat.le_refl _) _).setCell (Nat.le_refl _) _).setCell (Nat.le_refl _) _).setCell (Nat.le_refl _) _)⟩
  · have E : Hid (nextD s = zeroN) := by unfold Hid nextD; rw [if_pos h0, if_neg h1]
    have h1' : ¬ 300 < (s.size : Int) := by omega
    generalize Lib.indexByte s.data.toList 10 = ix at *
    go_enter Tryd.func8, Tryd.ntmps8
    go_wp2_with fail
    refine (hix _).mono ?_
    rintro e w1 ⟨rfl, rfl⟩
    go_wp2
    exact bodyPost_ret (v := .tuple #[.agg #[.int .i64 0, .string ⟨#[]⟩, .slice none 0 0, .int .i64 0, .int .i64 0, .int .i64 0, .string ⟨#[]⟩, .bool false], .int .i64 0]) (by simp [results, Tryd.results8, go_sem]) rfl ⟨none, 0, by rw [E.out]; rfl, by rw [E.out]; exact strs_none _, hB0⟩

set_option maxHeartbeats 400000 in
set_option maxRecDepth 100000 in
theorem next_long (s : ByteArray) (w : World) (hs : s.size ≤ maxLen) (h0 : ¬ Lib.indexByte s.data.toList 10 < 0) (h1 : 300 < (Lib.indexByte s.data.toList 10).toNat) :
    Calls Tryd.prog 8 #[.string s] w fun e w' => NextPost (nextD s) w e w' := by
  have hs' := hs
  unfold maxLen at hs'
  have hix := fun w1 => Tryd.strings_IndexByte s 10 w1
  rw [show (Int.toNat 10).toUInt8 = 10 from rfl] at hix
  have hB0 : Below w.heap.size w (w.alloc (.cells #[.int .i64 0, .string ⟨#[]⟩, .slice none 0 0, .int .i64 0, .int .i64 0, .int .i64 0, .string ⟨#[]⟩, .bool false] 24)) := (Below.refl _ _).alloc (Nat.le_refl _) _
  have hlt := indexByte_lt s 10 h0
  have E : Hid (nextD s = badN (((Lib.indexByte s.data.toList 10).toNat + 1 : Nat) : Int)) := by unfold Hid nextD; rw [if_neg h0, if_pos h1]
  rw [show (((Lib.indexByte s.data.toList 10).toNat + 1 : Nat) : Int) = Lib.indexByte s.data.toList 10 + 1 by omega] at E
  generalize Lib.indexByte s.data.toList 10 = ix at *
  have h1' : 300 < ix := by omega
  have hbo := badOf_any (ix + 1)
  have h2' : ix + 1 ≤ 9223372036854775807 := by omega
  go_enter Tryd.func8, Tryd.ntmps8
  go_wp2_with fail
  refine (hix _).mono ?_
  rintro e w1 ⟨rfl, rfl⟩
  go_wp2_with fail
  refine (hbo _).mono ?_
  rintro e w2 ⟨rfl, hb2⟩
  obtain ⟨p1, p2⟩ := bcell hb2
  have hz : w.heap.size < w2.heap.size := bsize hb2
  have hBb := hB0.trans (hb2.mono hB0.size)
  go_wp2
  exact bodyPost_ret (v := .tuple #[.agg #[.int .i64 13, .string ⟨#[]⟩, .slice none 0 0, .int .i64 0, .int .i64 0, .int .i64 0, .string ⟨#[]⟩, .bool false], .int .i64 (ix + 1)]) (by simp [results, Tryd.results8, go_sem, p1]) rfl ⟨none, 0, by rw [E.out]; rfl, by rw [E.out]; exact strs_none _, ((((((((hBb.setCell (Nat.le_refl _) _).setCell (Nat.le_refl _) _).setCell (Nat.le_refl _) _).setCell (Nat.le_refl _) _).setCell (Nat.le_refl _) _).setCell (Nat.le_refl _) _).setCell (Nat.le_refl _) _).setCell (Nat.le_refl _) _)⟩

theorem strsSet8 {w : World} {a : Option Addr} {n : Nat} {l : List ByteArray} (R : Nat) (v0 v1 v2 v3 v4 v5 v6 v7 : Value) (h : StrsAt w a n l) (hR : ∀ x, a = some x → x.block ≠ R) : StrsAt ((((((((w.setCell ⟨R, 0, none⟩ v0).setCell ⟨R, 1, none⟩ v1).setCell ⟨R, 2, none⟩ v2).setCell ⟨R, 3, none⟩ v3).setCell ⟨R, 4, none⟩ v4).setCell ⟨R, 5, none⟩ v5).setCell ⟨R, 6, none⟩ v6).setCell ⟨R, 7, none⟩ v7) a n l := by
  obtain ⟨h1, h2, h3, h4⟩ := h
  refine ⟨h1, h2, h3, ?_⟩
  rcases h4 with h4 | ⟨b, off, ha, hlt, hc⟩
  · exact Or.inl h4
  · have hb : R ≠ b := fun h => (hR _ ha) h.symm
    refine Or.inr ⟨b, off, ha, by simp [World.setCell]; omega, fun j hj => ?_⟩
    rw [World.cell?_setCell_far _ _ _ _ hb, World.cell?_setCell_far _ _ _ _ hb, World.cell?_setCell_far _ _ _ _ hb, World.cell?_setCell_far _ _ _ _ hb, World.cell?_setCell_far _ _ _ _ hb, World.cell?_setCell_far _ _ _ _ hb, World.cell?_setCell_far _ _ _ _ hb, World.cell?_setCell_far _ _ _ _ hb]
    exact hc j hj

set_option maxHeartbeats 1000000 in
set_option maxRecDepth 100000 in
theorem next_line (s : ByteArray) (e : Nat) (w : World) (hL : LaidN w) (hs : s.size ≤ maxLen) (h0 : Lib.indexByte s.data.toList 10 = e) (h1 : e ≤ 300) (hlt : e < s.size) :
    Calls Tryd.prog 8 #[.string s] w fun e' w' => NextPost (restD s e) w e' w' := by
  have hs' := hs
  unfold maxLen at hs'
  have hix := fun w1 => Tryd.strings_IndexByte s 10 w1
  rw [show (Int.toNat 10).toUInt8 = 10 from rfl, h0] at hix
  have hB0 : Below w.heap.size w (w.alloc (.cells #[.int .i64 0, .string ⟨#[]⟩, .slice none 0 0, .int .i64 0, .int .i64 0, .int .i64 0, .string ⟨#[]⟩, .bool false] 24)) := (Below.refl _ _).alloc (Nat.le_refl _) _
  have h1' : ¬ 300 < (e : Int) := by omega
  have h2' : ¬ (e : Int) < 0 := by omega
  have hsl : ∀ wx : World, (Instr.slice 9 (.string s) none (some (.int .i64 (e : Int))) none).run Tryd.prog wx = .ok (.string (s.extract 0 e)) wx := fun wx => by
    simp [Instr.slice, run_underlying Tryd.underlying9, Instr.sliceBounds, run_sliceBound, (by omega : (e : Int) ≤ s.size)]
  have hcl := fun w1 => clone_any (s.extract 0 e) w1 (by simp only [ByteArray.size_extract]; omega)
  have hrl := fun (w1 : World) (hb1 : Below w.heap.size w w1) => readLine_any (s.extract 0 e) w1 (hL.later hb1) (by simp only [ByteArray.size_extract]; omega)
  cases hR : lineD (lineWs (s.extract 0 e)) with
  | none =>
    have E : Hid (restD s e = badN ((e + 1 : Nat) : Int)) := by unfold Hid restD; rw [hR]
    have hrl2 := fun (w1 : World) (hb1 : Below w.heap.size w w1) => (hrl w1 hb1).mono (fun e' w' h => (by unfold LinePost at h; rw [hR] at h; exact h : e' = .returned (.tuple #[.agg #[.int .i64 0, .string ⟨#[]⟩, .slice none 0 0, .int .i64 0, .int .i64 0, .int .i64 0, .string ⟨#[]⟩, .bool false], .int .i64 0, .bool false]) ∧ Below w1.heap.size w1 w'))
    clear hrl
    generalize s.extract 0 e = ln at *
    have hbo := badOf_any ((e : Int) + 1)
    rw [show ((e + 1 : Nat) : Int) = (e : Int) + 1 by omega] at E
    go_enter Tryd.func8, Tryd.ntmps8
    go_wp2_with fail
    refine (hix _).mono ?_
    rintro e' w1 ⟨rfl, rfl⟩
    go_wp2_with fail
    refine (hcl _).mono ?_
    rintro e' w2 ⟨rfl, hb2⟩
    have hBc := hB0.trans (hb2.mono hB0.size)
    have hz2 : w.heap.size < w2.heap.size := bsize hb2
    go_wp2_with fail
    refine (hrl2 _ hBc).mono ?_
    rintro e' w3 ⟨rfl, hb3⟩
    have hb23 := hb2.trans (hb3.mono hb2.size)
    have hz3 : w.heap.size < w3.heap.size := bsize hb23
    have hb4 := hb23.alloc (by simp; omega) (.cells #[.int .i64 0, .string ⟨#[]⟩, .slice none 0 0, .int .i64 0, .int .i64 0, .int .i64 0, .string ⟨#[]⟩, .bool false] 24)
    go_wp2_with fail
    refine (hbo _).mono ?_
    rintro e' w5 ⟨rfl, hb5⟩
    have hb25 := hb4.trans (hb5.mono hb4.size)
    obtain ⟨p1, p2⟩ := bcell hb25
    have hz5 : w.heap.size < w5.heap.size := bsize hb25
    have hBb := hB0.trans (hb25.mono hB0.size)
    clear hrl2 hix hcl
    go_wp2
    exact bodyPost_ret (v := .tuple #[.agg #[.int .i64 13, .string ⟨#[]⟩, .slice none 0 0, .int .i64 0, .int .i64 0, .int .i64 0, .string ⟨#[]⟩, .bool false], .int .i64 ((e : Int) + 1)]) (by simp [results, Tryd.results8, go_sem, p1]) rfl ⟨none, 0, by rw [E.out]; rfl, by rw [E.out]; exact strs_none _, ((((((((hBb.setCell (Nat.le_refl _) _).setCell (Nat.le_refl _) _).setCell (Nat.le_refl _) _).setCell (Nat.le_refl _) _).setCell (Nat.le_refl _) _).setCell (Nat.le_refl _) _).setCell (Nat.le_refl _) _).setCell (Nat.le_refl _) _)⟩
  | some R =>
    obtain ⟨f1, f2, f3⟩ := lineD_facts _ R hR (fun x hx => Nat.le_trans ((lineWs_sizes _).2 x hx) (by simp only [ByteArray.size_extract]; omega))
    have hrl2 := fun (w1 : World) (hb1 : Below w.heap.size w w1) => (hrl w1 hb1).mono (fun e' w' h => (by unfold LinePost at h; rw [hR] at h; exact h : ∃ a c, e' = .returned (.tuple #[.agg #[.int .i64 R.kind, .string R.key, .slice a R.keys.length c, .int .i64 R.flags, .int .i64 R.exp, .int .i64 R.nn, .string ⟨#[]⟩, .bool R.quiet], .int .i64 R.size, .bool true]) ∧ StrsAt w' a R.keys.length R.keys ∧ (∀ x, a = some x → w1.heap.size < x.block) ∧ Below w1.heap.size w1 w'))
    clear hrl
    have hbr := fun w1 => bringsV_any R.kind w1
    have hks : R.key.size ≤ maxLen := by unfold maxLen; omega
    obtain ⟨sz, hsz⟩ : ∃ sz : Nat, R.size = (sz : Int) := ⟨R.size.toNat, by omega⟩
    cases hk : inB R.kind 2 7
    · have E : Hid (restD s e = chkD R.kind R.key R.keys R.flags R.exp R.nn ⟨#[]⟩ R.quiet ((e + 1 : Nat) : Int)) := by unfold Hid restD; rw [hR]; simp only [hk]; rfl
      rw [show ((e + 1 : Nat) : Int) = (e : Int) + 1 by omega] at E
      rw [hk] at hbr
      have hch := fun ka kc (w1 : World) hS => checked_any R.kind R.key ka R.keys.length kc R.keys R.flags R.exp R.nn ⟨#[]⟩ R.quiet ((e : Int) + 1) w1 hS hks (Nat.zero_le _)
      generalize chkD R.kind R.key R.keys R.flags R.exp R.nn ⟨#[]⟩ R.quiet ((e : Int) + 1) = X at *
      generalize s.extract 0 e = ln at *
      obtain ⟨kind, key, keys, flags, exp, nn, quiet, size⟩ := R
      simp only at *
      obtain ⟨xk, xy, xs, xf, xe, xn, xv, xq, xm⟩ := X
      clear hk hR h0
      go_enter Tryd.func8, Tryd.ntmps8
      go_wp2_with fail
      refine (hix _).mono ?_
      rintro e' w1 ⟨rfl, rfl⟩
      go_wp2_with fail
      refine (hcl _).mono ?_
      rintro e' w2 ⟨rfl, hb2⟩
      have hBc := hB0.trans (hb2.mono hB0.size)
      have hz2 : w.heap.size < w2.heap.size := bsize hb2
      go_wp2_with fail
      refine (hrl2 _ hBc).mono ?_
      rintro e' w3 ⟨a, c, rfl, hS, hfr, hb3⟩
      have hb23 := hb2.trans (hb3.mono hb2.size)
      have hz3 : w.heap.size < w3.heap.size := bsize hb23
      have hb4 := hb23.alloc (by simp; omega) (.cells #[.int .i64 kind, .string key, .slice a keys.length c, .int .i64 flags, .int .i64 exp, .int .i64 nn, .string ⟨#[]⟩, .bool quiet] 24)
      have hb34 : Below w3.heap.size w3 (w3.alloc (.cells #[.int .i64 kind, .string key, .slice a keys.length c, .int .i64 flags, .int .i64 exp, .int .i64 nn, .string ⟨#[]⟩, .bool quiet] 24)) := (Below.refl _ _).alloc (Nat.le_refl _) _
      go_wp2_with (go_at_call 23; refine (hbr _).mono ?_; rintro e' w' ⟨rfl, rfl⟩)
      refine (hch a c _ (hS.later hb34)).mono ?_
      rintro e' w5 ⟨a', c', rfl, ha, hb5⟩
      have hb25 := hb4.trans (hb5.mono hb4.size)
      obtain ⟨p1, p2⟩ := bcell hb25
      have hz5 : w.heap.size < w5.heap.size := bsize hb25
      have hBb := hB0.trans (hb25.mono hB0.size)
      have hS5 := hS.later (hb34.trans (hb5.mono hb34.size))
      have hSX : StrsAt w5 a' xs.length xs := by
        rcases ha with ⟨rfl, rfl⟩ | ⟨rfl, rfl⟩
        · exact hS5
        · exact strs_none _
      have hne : ∀ x, a' = some x → x.block ≠ w.heap.size := fun x hx => by
        rcases ha with ⟨rfl, _⟩ | ⟨rfl, _⟩
        · have := hfr x hx; omega
        · cases hx
      clear hrl2 hix hcl hch hbr ha hS5 hS
      go_wp2
      exact bodyPost_ret (v := .tuple #[.agg #[.int .i64 xk, .string xy, .slice a' xs.length c', .int .i64 xf, .int .i64 xe, .int .i64 xn, .string xv, .bool xq], .int .i64 xm]) (by simp [results, Tryd.results8, go_sem, p1]) rfl ⟨a', c', by rw [E.out], by rw [E.out]; exact strsSet8 w.heap.size _ _ _ _ _ _ _ _ hSX hne, ((((((((hBb.setCell (Nat.le_refl _) _).setCell (Nat.le_refl _) _).setCell (Nat.le_refl _) _).setCell (Nat.le_refl _) _).setCell (Nat.le_refl _) _).setCell (Nat.le_refl _) _).setCell (Nat.le_refl _) _).setCell (Nat.le_refl _) _)⟩
    · have E : Hid (restD s e = valD R s (e + 1) R.size.toNat) := by unfold Hid restD; rw [hR]; simp only [hk]; rfl
      rw [hsz, Int.toNat_natCast] at E
      rw [hk] at hbr
      have hch := fun ka kc (w1 : World) hS => withValue_any R ka kc s (e + 1) sz w1 hS hks hs (by omega) (by omega) (by omega)
      rw [show ((e + 1 : Nat) : Int) = (e : Int) + 1 by omega] at hch
      generalize valD R s (e + 1) sz = X at *
      generalize s.extract 0 e = ln at *
      obtain ⟨kind, key, keys, flags, exp, nn, quiet, size⟩ := R
      simp only at *
      subst hsz
      obtain ⟨xk, xy, xs, xf, xe, xn, xv, xq, xm⟩ := X
      clear hk hR h0
      go_enter Tryd.func8, Tryd.ntmps8
      go_wp2_with fail
      refine (hix _).mono ?_
      rintro e' w1 ⟨rfl, rfl⟩
      go_wp2_with fail
      refine (hcl _).mono ?_
      rintro e' w2 ⟨rfl, hb2⟩
      have hBc := hB0.trans (hb2.mono hB0.size)
      have hz2 : w.heap.size < w2.heap.size := bsize hb2
      go_wp2_with fail
      refine (hrl2 _ hBc).mono ?_
      rintro e' w3 ⟨a, c, rfl, hS, hfr, hb3⟩
      have hb23 := hb2.trans (hb3.mono hb2.size)
      have hz3 : w.heap.size < w3.heap.size := bsize hb23
      have hb4 := hb23.alloc (by simp; omega) (.cells #[.int .i64 kind, .string key, .slice a keys.length c, .int .i64 flags, .int .i64 exp, .int .i64 nn, .string ⟨#[]⟩, .bool quiet] 24)
      have hb34 : Below w3.heap.size w3 (w3.alloc (.cells #[.int .i64 kind, .string key, .slice a keys.length c, .int .i64 flags, .int .i64 exp, .int .i64 nn, .string ⟨#[]⟩, .bool quiet] 24)) := (Below.refl _ _).alloc (Nat.le_refl _) _
      go_wp2_with (go_at_call 23; refine (hbr _).mono ?_; rintro e' w' ⟨rfl, rfl⟩)
      refine (hch a c _ (hS.later hb34)).mono ?_
      rintro e' w5 ⟨a', c', rfl, ha, hb5⟩
      have hb25 := hb4.trans (hb5.mono hb4.size)
      obtain ⟨p1, p2⟩ := bcell hb25
      have hz5 : w.heap.size < w5.heap.size := bsize hb25
      have hBb := hB0.trans (hb25.mono hB0.size)
      have hS5 := hS.later (hb34.trans (hb5.mono hb34.size))
      have hSX : StrsAt w5 a' xs.length xs := by
        rcases ha with ⟨rfl, rfl⟩ | ⟨rfl, rfl⟩
        · exact hS5
        · exact strs_none _
      have hne : ∀ x, a' = some x → x.block ≠ w.heap.size := fun x hx => by
        rcases ha with ⟨rfl, _⟩ | ⟨rfl, _⟩
        · have := hfr x hx; omega
        · cases hx
      clear hrl2 hix hcl hch hbr ha hS5 hS
      go_wp2
      exact bodyPost_ret (v := .tuple #[.agg #[.int .i64 xk, .string xy, .slice a' xs.length c', .int .i64 xf, .int .i64 xe, .int .i64 xn, .string xv, .bool xq], .int .i64 xm]) (by simp [results, Tryd.results8, go_sem, p1]) rfl ⟨a', c', by rw [E.out], by rw [E.out]; exact strsSet8 w.heap.size _ _ _ _ _ _ _ _ hSX hne, ((((((((hBb.setCell (Nat.le_refl _) _).setCell (Nat.le_refl _) _).setCell (Nat.le_refl _) _).setCell (Nat.le_refl _) _).setCell (Nat.le_refl _) _).setCell (Nat.le_refl _) _).setCell (Nat.le_refl _) _).setCell (Nat.le_refl _) _)⟩

theorem next_any (s : ByteArray) (w : World) (hL : LaidN w) (hs : s.size ≤ maxLen) :
    Calls Tryd.prog 8 #[.string s] w fun e w' => NextPost (nextD s) w e w' := by
  by_cases h0 : Lib.indexByte s.data.toList 10 < 0
  · exact next_none s w hs h0
  by_cases h1 : 300 < (Lib.indexByte s.data.toList 10).toNat
  · exact next_long s w hs h0 h1
  · have E : nextD s = restD s (Lib.indexByte s.data.toList 10).toNat := by unfold nextD; rw [if_neg h0, if_neg h1]
    rw [E]
    exact next_line s _ w hL hs (by omega) (by omega) (indexByte_lt s 10 h0)
end Go.Proofs.YtkjfkonekajffaaDoor
