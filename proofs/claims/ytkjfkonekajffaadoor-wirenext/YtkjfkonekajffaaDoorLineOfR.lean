/- The contract of dovecoteref.lineOf: what a line says. -/
import Derived.Test.YtkjfkonekajffaaDoorLineOfG
namespace Go.Proofs.YtkjfkonekajffaaDoor
open Go.ChangeShapes Go.WideShapes Go.ChangeAt Go.RowKit
set_option linter.unusedVariables false

/-- Numbers in a block of four. -/
def NI (w : World) (b : Nat) (vs : List Int) : Prop := ∃ arr, w.heap[b]? = some (.cells arr 3 (0, 0)) ∧ arr.size = 4 ∧ ∀ j, j < 4 → arr[j]? = some (.int .i64 (vs.getD j 0))

theorem NI.lt {w : World} {b : Nat} {vs : List Int} (h : NI w b vs) : b < w.heap.size := by
  obtain ⟨arr, h1, _⟩ := h
  rcases Nat.lt_or_ge b w.heap.size with h' | h'
  · exact h'
  · rw [Array.getElem?_eq_none h'] at h1; cases h1
theorem NI.cell {w : World} {b : Nat} {vs : List Int} (h : NI w b vs) (j : Nat) (hj : j < 4) : w.cell? ⟨b, j, none⟩ = some (.int .i64 (vs.getD j 0)) := by
  obtain ⟨arr, h1, h2, h3⟩ := h
  have : w.cell? ⟨b, j, none⟩ = arr[j]? := by simp [World.cell?, h1]
  rw [this]
  exact h3 j hj
theorem NI.frozen {w : World} {b : Nat} {vs : List Int} (h : NI w b vs) (j : Nat) : w.frozen? ⟨b, j, none⟩ = false := by
  obtain ⟨arr, h1, _⟩ := h
  exact frozen_of_row w b j arr 3 h1
theorem NI.push {w : World} {b : Nat} {vs : List Int} (h : NI w b vs) (x : Int) (hv : vs.length < 4) : NI (w.setCell ⟨b, vs.length, none⟩ (.int .i64 x)) b (vs ++ [x]) := by
  obtain ⟨arr, h1, h2, h3⟩ := h
  refine ⟨_, heap_setCell_same w b vs.length arr 3 (.int .i64 x) h1, by simp [h2], fun j hj => ?_⟩
  rw [Array.getElem?_setIfInBounds]
  split
  · rename_i he
    subst he
    rw [if_pos (by omega)]
    simp [List.getD_eq_getElem?_getD]
  · rename_i he
    rw [h3 j hj]
    rcases Nat.lt_or_ge j vs.length with h | h
    · simp [List.getD_eq_getElem?_getD, List.getElem?_append_left h]
    · rw [List.getD_eq_getElem?_getD, List.getD_eq_getElem?_getD, List.getElem?_eq_none h, List.getElem?_eq_none (by simp; omega)]
theorem NI.new (w : World) : NI (w.alloc (.cells #[.int .i64 0, .int .i64 0, .int .i64 0, .int .i64 0] 3)) w.heap.size [] := by
  refine ⟨_, (show (w.heap.push _)[w.heap.size]? = _ from Array.getElem?_push_size), rfl, fun j hj => ?_⟩
  have : j = 0 ∨ j = 1 ∨ j = 2 ∨ j = 3 := by omega
  rcases this with rfl | rfl | rfl | rfl <;> rfl

theorem must_nums (k : Nat) (h1 : 2 ≤ k) (h2 : k ≤ 11) : nnumsN (k : Int) + 1 = mustN k := by
  have : ∀ k : Fin 12, 2 ≤ k.val → nnumsN (k.val : Int) + 1 = mustN k.val := by decide
  exact this ⟨k, by omega⟩ h1
theorem must_flush : mustN 12 = 0 := by decide

theorem lineD_rest (ws : List ByteArray) (k : Nat) (h0 : kindD (ws.getD 0 ByteArray.empty) = k) (h1 : 2 ≤ k) : lineD ws = lineRest k ws.tail := by
  unfold lineD
  rw [h0, if_neg (by omega), if_neg (by omega)]

theorem lineRest_short (k : Nat) (t : List ByteArray) (h : ¬ (lineU k t).length = mustN k) : lineRest k t = none := by
  unfold lineRest
  rw [if_neg h]

theorem lineRest_nums (k : Nat) (t : List ByteArray) (h : (lineU k t).length = mustN k) (hk : inB k 2 11 = true) : lineRest k t = match numsD (lineU k t).tail with
    | none => none
    | some vs => some (fillD k ((lineU k t).getD 0 ByteArray.empty) (lineQ k t) vs) := by
  unfold lineRest
  rw [if_pos h, if_pos hk, if_pos hk]
  cases numsD (lineU k t).tail <;> rfl

theorem lineRest_flush (t : List ByteArray) (h : (lineU 12 t).length = 0) : lineRest 12 t = some { kind := 12, key := ByteArray.empty, keys := [], flags := 0, exp := 0, nn := 0, quiet := lineQ 12 t, size := 0 } := by
  unfold lineRest
  rw [must_flush, if_pos h, if_neg (by decide), if_neg (by decide)]
  rw [List.length_eq_zero_iff.1 h]
  rfl

theorem fill_brings (k : Nat) (key : ByteArray) (q : Bool) (vs : List Int) (h : inB k 2 7 = true) (hl : vs.length + 1 = mustN k) : fillD k key q vs = { kind := k, key := key, keys := [], flags := vs.getD 0 0, exp := vs.getD 1 0, nn := vs.getD 3 0, quiet := q, size := vs.getD 2 0 } := by
  unfold fillD
  rw [if_pos h]
  have hk : 2 ≤ k ∧ k ≤ 7 := by unfold inB at h; simp at h; omega
  by_cases h7 : (k : Int) = 7
  · rw [if_pos h7]
  · rw [if_neg h7]
    have : ∀ k : Fin 7, 2 ≤ k.val → mustN k.val = 4 := by decide
    have h4 := this ⟨k, by omega⟩ hk.1
    have : vs.getD 3 0 = 0 := by rw [List.getD_eq_getElem?_getD, List.getElem?_eq_none (by have : mustN k = 4 := h4; omega)]; rfl
    rw [this]
theorem fill_touch (key : ByteArray) (q : Bool) (vs : List Int) : fillD (11 : Nat) key q vs = { kind := (11 : Nat), key := key, keys := [], flags := 0, exp := vs.getD 0 0, nn := 0, quiet := q, size := 0 } := rfl
theorem fill_else (k : Nat) (key : ByteArray) (q : Bool) (vs : List Int) (h1 : 2 ≤ k) (h : inB k 2 7 = false) (h11 : k < 11) (hl : vs.length + 1 = mustN k) : fillD k key q vs = { kind := k, key := key, keys := [], flags := 0, exp := 0, nn := vs.getD 0 0, quiet := q, size := 0 } := by
  unfold fillD
  rw [if_neg (by simp [h]), if_neg (by omega)]
  have hk : 8 ≤ k := by
    unfold inB at h
    simp at h
    omega
  by_cases h8 : k = 8
  · subst h8
    have : mustN 8 = 1 := by decide
    have hv : vs = [] := List.length_eq_zero_iff.1 (by omega)
    subst hv
    rfl
  · have : hasNB (k : Int) = true := by unfold hasNB; simp; omega
    rw [if_pos this]

theorem fillD_eta (k : Nat) (key : ByteArray) (q : Bool) (vs : List Int) : fillD k key q vs = ⟨k, key, [], (fillD k key q vs).flags, (fillD k key q vs).exp, (fillD k key q vs).nn, q, (fillD k key q vs).size⟩ := by
  obtain ⟨h1, h2, h3, h4⟩ := fillD_kind (k : Int) key q vs
  generalize fillD (k : Int) key q vs = R at *
  obtain ⟨a, b, c, d, e, f, g, h⟩ := R
  simp only at *
  rw [h1, h2, h3, h4]

theorem tail_getD (u : List ByteArray) (j : Nat) : u.tail.getD j ByteArray.empty = u.getD (j + 1) ByteArray.empty := by
  cases u with
  | nil => simp
  | cons a r => rfl

theorem flush_ok (q : Bool) : checkN 12 ⟨#[]⟩ [] 0 0 0 ⟨#[]⟩ q = 0 := by
  have e : (⟨#[]⟩ : ByteArray).toList.isEmpty = true := by rw [isEmpty_of]; rfl
  rw [check_eq]
  unfold keyBad fieldsBad
  rw [e]
  cases q <;> rfl

set_option maxHeartbeats 4000000 in
set_option maxRecDepth 100000 in
theorem lineOf_rest (s : ByteArray) (w : World) (hs : s.size ≤ 300) (k0 : Nat) (h0 : kindD ((lineWs s).getD 0 ByteArray.empty) = k0) (k1 : 2 ≤ k0) (k2 : k0 ≤ 12) :
    Calls Tryd.prog 26 #[.string s] w fun e w' => LOPost (lineWs s) w e w' := by
  have hB0 : Below w.heap.size w ((w.alloc (.cells #[.int .i64 0, .string ⟨#[]⟩, .slice none 0 0, .int .i64 0, .int .i64 0, .int .i64 0, .string ⟨#[]⟩, .bool false] 24)).alloc (.cells #[.int .i64 13, .string ⟨#[]⟩, .slice none 0 0, .int .i64 0, .int .i64 0, .int .i64 0, .string ⟨#[]⟩, .bool false] 24)) := ((Below.refl _ _).alloc (Nat.le_refl _) _).alloc (by simp) _
  have hR0 : RB ((w.alloc (.cells #[.int .i64 0, .string ⟨#[]⟩, .slice none 0 0, .int .i64 0, .int .i64 0, .int .i64 0, .string ⟨#[]⟩, .bool false] 24)).alloc (.cells #[.int .i64 13, .string ⟨#[]⟩, .slice none 0 0, .int .i64 0, .int .i64 0, .int .i64 0, .string ⟨#[]⟩, .bool false] 24)) w.heap.size #[.int .i64 0, .string ⟨#[]⟩, .slice none 0 0, .int .i64 0, .int .i64 0, .int .i64 0, .string ⟨#[]⟩, .bool false] := (RB.new w #[.int .i64 0, .string ⟨#[]⟩, .slice none 0 0, .int .i64 0, .int .i64 0, .int .i64 0, .string ⟨#[]⟩, .bool false]).later ((Below.refl _ _).alloc (Nat.le_refl _) _)
  have hR1 : RB ((w.alloc (.cells #[.int .i64 0, .string ⟨#[]⟩, .slice none 0 0, .int .i64 0, .int .i64 0, .int .i64 0, .string ⟨#[]⟩, .bool false] 24)).alloc (.cells #[.int .i64 13, .string ⟨#[]⟩, .slice none 0 0, .int .i64 0, .int .i64 0, .int .i64 0, .string ⟨#[]⟩, .bool false] 24)) (w.heap.size + 1) #[.int .i64 13, .string ⟨#[]⟩, .slice none 0 0, .int .i64 0, .int .i64 0, .int .i64 0, .string ⟨#[]⟩, .bool false] := by have := RB.new (w.alloc (.cells #[.int .i64 0, .string ⟨#[]⟩, .slice none 0 0, .int .i64 0, .int .i64 0, .int .i64 0, .string ⟨#[]⟩, .bool false] 24)) #[.int .i64 13, .string ⟨#[]⟩, .slice none 0 0, .int .i64 0, .int .i64 0, .int .i64 0, .string ⟨#[]⟩, .bool false]; simpa using this
  have hpt := fun w1 => parted_any s w1 hs
  have hln := lineWs_length s
  obtain ⟨hz1, hz2⟩ := lineWs_sizes s
  generalize lineWs s = ws at *
  have hpos : 0 < ws.length := by omega
  clear hln
  go_enter Tryd.func26, Tryd.ntmps26
  go_wp2_with fail
  refine (hpt _).mono ?_
  rintro e w1 ⟨v, rfl, hW⟩
  obtain ⟨g, cap, rfl, hg0, hg1, hcap, hcw⟩ := words_form hW hpos
  have hw0 := hcw 0 hpos
  have hposz : (0 : Int) < (ws.length : Int) := by omega
  have hBw1 := hB0.trans (hW.2.mono hB0.size)
  have hR0w := hR0.later hW.2
  have hR1w := hR1.later hW.2
  have hz3 : w.heap.size + 1 < w1.heap.size := hR1w.lt
  have hg0' : w.heap.size + 2 ≤ g := by simpa using hg0
  clear hpt hR0 hR1
  obtain ⟨w0, hw0e⟩ : ∃ y, Hid (y = ws.getD 0 ByteArray.empty) := ⟨_, rfl⟩
  rw [← hw0e.out] at hw0
  go_wp2_with fail
  go_loopw [7] (fun i wr => ∃ (k n m : Nat), k + n = 13 ∧ 1 ≤ k ∧ i = .int .i64 k ∧ Hid (seenK w0 m k n) ∧ Below w1.heap.size w1 wr ∧ RB wr w1.heap.size #[.int .i64 (m : Nat), .string ⟨#[]⟩, .slice none 0 0, .int .i64 0, .int .i64 0, .int .i64 0, .string ⟨#[]⟩, .bool false]) (fun i _ => 13 - (intOf i).toNat)
  case atStart => exact ⟨1, 12, 0, rfl, Nat.le_refl _, rfl, Or.inl ⟨rfl, rfl⟩, (Below.refl _ _).alloc (Nat.le_refl _) _, RB.new _ _⟩
  case round =>
    obtain ⟨k, n, m, hkn, hk1, rfl, D, hbr, hRB⟩ := hrel
    by_cases hlt : k < 13
    · obtain ⟨n, rfl⟩ : ∃ n', n = n' + 1 := ⟨n - 1, by omega⟩
      have b1 : (k : Int) ≤ 12 := by omega
      have b0 : (0 : Int) ≤ (k : Int) := Int.natCast_nonneg _
      have hnm := fun w2 => nameOf_any (k : Int) w2 b0 b1
      rw [Int.toNat_natCast] at hnm
      have hS : wr.cell? ⟨g, 0, none⟩ = some (.string w0) := by rw [hbr.cell (p := ⟨g, 0, none⟩) hg1]; exact hw0
      have hgr : g < wr.heap.size := Nat.lt_of_lt_of_le hg1 hbr.size
      have hkn2 : Hid (k + 1 + n = 13) := by show _ = _; omega
      have hbq := beq_texts (nameS k) w0
      by_cases hq : nameS k = w0
      · have D2 : Hid (seenK w0 k (k + 1) n) := seenK_hit w0 m k n hlt (by omega) hk1 D.out hq
        rw [decide_eq_true hq] at hbq
        generalize nameS k = nk at *
        clear hq D hkn
        go_wp2_with fail
        go_region_held3 (fun w' => w'.cell? ⟨g, 0, none⟩ = some (.string w0)) (first | go_keep | exact hSa) ((go_at_call 51; refine (hnm _).mono ?_; rintro e wa ⟨rfl, hba⟩; have hSa : wa.cell? ⟨g, 0, none⟩ = some (.string w0) := (hba.cell (p := ⟨g, 0, none⟩) hgr).trans hS))
        have hRBa : RB wa w1.heap.size #[.int .i64 (m : Nat), .string ⟨#[]⟩, .slice none 0 0, .int .i64 0, .int .i64 0, .int .i64 0, .string ⟨#[]⟩, .bool false] := RB.later (w := wr.drew) hRB hba
        have c0 : wa.cell? ⟨w1.heap.size, 0, none⟩ = some (.int .i64 (m : Nat)) := hRBa.cell 0
        have f0 := hRBa.frozen 0
        have hbra : Below w1.heap.size w1 wa := hbr.drew.trans (hba.mono hbr.drew.size)
        clear hnm
        go_wp2
        go_roundw
        case rel => exact ⟨k + 1, n, k, hkn2.out, by omega, by go_num, D2, hbra.setCell (Nat.le_refl _) _, hRBa.set 0 _⟩
        case measure => simp [intOf]; omega
      · have D2 : Hid (seenK w0 m (k + 1) n) := seenK_miss w0 m k n D.out hq
        rw [decide_eq_false hq] at hbq
        generalize nameS k = nk at *
        clear hq D hkn
        go_wp2_with fail
        go_region_held3 (fun w' => w'.cell? ⟨g, 0, none⟩ = some (.string w0)) (first | go_keep | exact hSa) ((go_at_call 51; refine (hnm _).mono ?_; rintro e wa ⟨rfl, hba⟩; have hSa : wa.cell? ⟨g, 0, none⟩ = some (.string w0) := (hba.cell (p := ⟨g, 0, none⟩) hgr).trans hS))
        have hRBa : RB wa w1.heap.size #[.int .i64 (m : Nat), .string ⟨#[]⟩, .slice none 0 0, .int .i64 0, .int .i64 0, .int .i64 0, .string ⟨#[]⟩, .bool false] := RB.later (w := wr.drew) hRB hba
        have c0 : wa.cell? ⟨w1.heap.size, 0, none⟩ = some (.int .i64 (m : Nat)) := hRBa.cell 0
        have f0 := hRBa.frozen 0
        have hbra : Below w1.heap.size w1 wa := hbr.drew.trans (hba.mono hbr.drew.size)
        clear hnm
        go_wp2
        go_roundw
        case rel => exact ⟨k + 1, n, m, hkn2.out, by omega, by go_num, D2, hbra, hRBa⟩
        case measure => simp [intOf]; omega
    · obtain rfl : n = 0 := by omega
      have b1 : ¬ (k : Int) ≤ 12 := by omega
      have hm : m = kindD w0 := seenK_end w0 m k D.out
      clear D
      rw [hw0e.out, h0] at hm
      subst hm
      have hR0r := hR0w.later hbr
      have hR1r := hR1w.later hbr
      have hBr := hBw1.trans (hbr.mono hBw1.size)
      have hgr : g < wr.heap.size := Nat.lt_of_lt_of_le hg1 hbr.size
      have k3 := fun j => hRB.cell j
      have k4 := fun j => hRB.frozen j
      clear hW hw0
      obtain ⟨t, ET⟩ : ∃ t, Hid (t = ws.tail) := ⟨_, rfl⟩
      have htl : t.length + 1 = ws.length := by rw [ET.out]; simp; omega
      have htc : Hid (∀ j, j < t.length → w1.cell? ⟨g, 1 + j, none⟩ = some (.string (t.getD j ByteArray.empty))) := fun j hj => by
        rw [hcw (1 + j) (by omega), ET.out]
        simp [List.getD_eq_getElem?_getD, Nat.add_comm]
      have hts : ∀ x ∈ t, x.size ≤ maxLen := fun x hx => by
        rw [ET.out] at hx
        have := hz2 x (List.mem_of_mem_tail hx)
        unfold maxLen
        omega
      have hts3 : ∀ x ∈ t, x.size ≤ 300 := fun x hx => by
        rw [ET.out] at hx
        have := hz2 x (List.mem_of_mem_tail hx)
        omega
      have htn : (t.length : Int) = (ws.length : Int) - 1 := by omega
      clear hz2 hcw
      have kz0 : ((m : Int) == 0) = false := by rw [beq_eq_false_iff_ne]; omega
      have kz1 : ((m : Int) == 1) = false := by rw [beq_eq_false_iff_ne]; omega
      go_upto_region 11 with fail
      go_cut [5] (fun v wx => wx = wr ∧ ∃ o c, v = .slice (some ⟨g, o, none⟩) t.length c ∧ t.length ≤ c ∧ ∀ j, j < t.length → w1.cell? ⟨g, o + j, none⟩ = some (.string (t.getD j ByteArray.empty)))
      case first =>
        by_cases hc : cap = 1
        · subst hc
          have hl : ws.length = 1 := by omega
          have ht0 : Hid (t.length = 0) := by show _ = _; omega
          go_wp2
          go_meet
          exact ⟨rfl, 0, 0, by rw [ht0.out], by rw [ht0.out]; exact Nat.zero_le _, fun j hj => by rw [ht0.out] at hj; omega⟩
        · have hc1 : (1 : Int) < (cap : Int) := by omega
          have hl1 : (1 : Int) ≤ (ws.length : Int) := by omega
          have ht0 : Hid (t.length = ws.length - 1) := by show _ = _; omega
          go_wp2
          go_meet
          exact ⟨rfl, 1, cap - 1, by rw [ht0.out], by omega, htc.out⟩
      case rest =>
      obtain ⟨rfl, o, c, rfl, htc2, hct⟩ := hcut
      have hSt : StrsAt wc (some ⟨g, o, none⟩) t.length t := ⟨rfl, by unfold maxLen; omega, hts, Or.inr ⟨g, o, rfl, hgr, fun j hj => by rw [hbr.cell (p := ⟨g, o + j, none⟩) hg1]; exact hct j hj⟩⟩
      have LR := lineD_rest ws m h0 k1
      rw [← ET.out] at LR
      have hno := fun w2 => numbersOf_any (m : Int) w2
      have mle := must_le m
      clear htc hSt htn
      go_upto_region 17 with fail
      go_cut [8] (fun v wx => v = .int .i64 ((nnumsN (m : Int) : Nat) + 1) ∧ wx = wc)
      case first =>
        have hnb : (nnumsN (m : Int) : Int) ≤ 4 := by unfold nnumsN; split <;> (try split) <;> omega
        have hnb0 : (0 : Int) ≤ (nnumsN (m : Int) : Int) := Int.natCast_nonneg _
        go_wp2_with (go_at_call 53; refine (hno _).mono ?_; rintro e w' ⟨rfl, rfl⟩)
        go_meet
        exact ⟨rfl, rfl⟩
      case rest =>
      obtain ⟨rfl, rfl⟩ := hcut
      go_upto_if 50 with fail
      go_cut [8] (fun v wx => v = .int .i64 (mustN m : Nat) ∧ wx = wc)
      case first =>
        by_cases h12 : m = 12
        · have hz12 : ((m : Int) == 12) = true := by rw [beq_iff_eq]; omega
          have E : Hid ((0 : Int) = (mustN m : Nat)) := by show _ = _; rw [h12, must_flush]; rfl
          clear h12
          go_wp2
          go_meet
          exact ⟨by rw [← E.out], rfl⟩
        · have hz12 : ((m : Int) == 12) = false := by rw [beq_eq_false_iff_ne]; omega
          have E : Hid (((nnumsN (m : Int) : Nat) : Int) + 1 = (mustN m : Nat)) := by show _ = _; rw [← must_nums m k1 (by omega)]; rfl
          clear h12
          go_wp2
          go_meet
          exact ⟨by rw [← E.out], rfl⟩
      case rest =>
      obtain ⟨rfl, rfl⟩ := hcut
      have mle1 : (mustN m : Int) ≤ 5 := by omega
      have mle0 : (0 : Int) ≤ (mustN m : Int) := Int.natCast_nonneg _
      obtain ⟨q, EQ⟩ : ∃ q, Hid (q = lineQ m t) := ⟨_, rfl⟩
      go_upto_region 20 with fail
      go_cut [62] (fun v wx => v = .bool q ∧ wx = wc)
      case first =>
        by_cases h1 : t.length = mustN m + 1
        · have he : ((t.length : Int) == (mustN m : Int) + 1) = true := by rw [beq_iff_eq]; omega
          have hc := hct (mustN m) (by omega)
          rw [← hbr.cell (p := ⟨g, o + mustN m, none⟩) hg1] at hc
          have E : Hid (q = decide (t.getD (mustN m) ByteArray.empty = quietS)) := by
            have := EQ.out
            unfold lineQ at this
            rw [decide_eq_true h1, Bool.true_and] at this
            exact this
          have hlt : (mustN m : Int) < (t.length : Int) := by omega
          generalize t.getD (mustN m) ByteArray.empty = y at *
          have hq := quiet_beq y
          cases hd : decide (y = quietS)
          · rw [hd] at hq
            have E2 : Hid (false = q) := by show _ = _; rw [E.out, hd]
            clear hd h1
            go_wp2
            go_meet
            exact ⟨by rw [← E2.out], rfl⟩
          · rw [hd] at hq
            have E2 : Hid (true = q) := by show _ = _; rw [E.out, hd]
            clear hd h1
            go_wp2
            go_meet
            exact ⟨by rw [← E2.out], rfl⟩
        · have he : ((t.length : Int) == (mustN m : Int) + 1) = false := by rw [beq_eq_false_iff_ne]; omega
          have E2 : Hid (false = q) := by
            have := EQ.out
            unfold lineQ at this
            rw [decide_eq_false h1, Bool.false_and] at this
            exact this.symm
          clear h1
          go_wp2
          go_meet
          exact ⟨by rw [← E2.out], rfl⟩
      case rest =>
      obtain ⟨rfl, rfl⟩ := hcut
      obtain ⟨u, EU⟩ : ∃ u, Hid (u = lineU m t) := ⟨_, rfl⟩
      have hcu : ∀ j, j < u.length → w1.cell? ⟨g, o + j, none⟩ = some (.string (u.getD j ByteArray.empty)) := by
        intro j hj
        have hu : u.length ≤ t.length ∧ u.getD j ByteArray.empty = t.getD j ByteArray.empty := by
          rw [EU.out] at hj ⊢
          unfold lineU at hj ⊢
          split at hj
          · rename_i hq
            rw [if_pos hq]
            simp at hj
            refine ⟨by simp; omega, ?_⟩
            simp [List.getD_eq_getElem?_getD, show j < mustN m by omega]
          · rename_i hq
            rw [if_neg hq]
            exact ⟨Nat.le_refl _, rfl⟩
        rw [hu.2]
        exact hct j (by omega)
      have hus : ∀ x ∈ u, x.size ≤ 300 := fun x hx => by
        rw [EU.out] at hx
        exact hts3 x (lineU_mem _ _ x hx)
      go_upto_if 62 with fail
      go_cut [5] (fun v wx => (∃ c, v = .slice (some ⟨g, o, none⟩) u.length c ∧ u.length ≤ c) ∧ Below w1.heap.size w1 wx ∧ RB wx w1.heap.size #[.int .i64 m, .string ⟨#[]⟩, .slice none 0 0, .int .i64 0, .int .i64 0, .int .i64 0, .string ⟨#[]⟩, .bool q])
      case first =>
        cases q
        · have E : Hid (u = t) := by show _ = _; rw [EU.out]; unfold lineU; rw [← EQ.out]; rfl
          go_wp2
          go_meet
          exact ⟨⟨c, by rw [E.out], by rw [E.out]; exact htc2⟩, hbr, hRB⟩
        · have h1 : t.length = mustN m + 1 := by
            have := EQ.out
            unfold lineQ at this
            simp at this
            exact this.1
          have E : Hid (u.length = mustN m) := by show _ = _; rw [EU.out]; unfold lineU; rw [← EQ.out]; simp; omega
          have hlt : (mustN m : Int) ≤ (t.length : Int) := by omega
          have hltc : (mustN m : Int) ≤ (c : Int) := by omega
          have E3 : Hid (u.length ≤ c) := by show u.length ≤ c; rw [E.out]; omega
          clear h1
          go_wp2
          go_meet
          exact ⟨⟨c, by rw [E.out], E3.out⟩, hbr.setCell (Nat.le_refl _) _, hRB.set 7 _⟩
      case rest =>
      clear hRB hbr k3 k4 hR0r hR1r hBr hgr
      obtain ⟨⟨c, rfl, hc1⟩, hbr, hRB⟩ := hcut
      have hR0r := hR0w.later hbr
      have hR1r := hR1w.later hbr
      have hBr := hBw1.trans (hbr.mono hBw1.size)
      have k3 := fun j => hRB.cell j
      have k4 := fun j => hRB.frozen j
      have k5 := fun j => hR0r.cell j
      have k6 := fun j => hR0r.frozen j
      have k7 := fun j => hR1r.cell j
      go_upto_if 70 with fail
      by_cases hu : u.length = mustN m
      case neg =>
        have hu' : ((u.length : Int) != (mustN m : Int)) = true := by rw [bne_iff_ne]; omega
        have N : Hid (lineD ws = none) := by
          show _ = _
          rw [LR]
          exact lineRest_short m t (by rw [← EU.out]; exact hu)
        clear hu
        go_wp2
        exact bodyPost_ret (v := .tuple #[.agg #[.int .i64 13, .string ⟨#[]⟩, .slice none 0 0, .int .i64 0, .int .i64 0, .int .i64 0, .string ⟨#[]⟩, .bool false], .int .i64 (-1)]) (by simp [results, Tryd.results26, go_sem, k5]) rfl (LOPost.none N.out rfl ((((((((hBr.setCell (Nat.le_refl _) _).setCell (Nat.le_refl _) _).setCell (Nat.le_refl _) _).setCell (Nat.le_refl _) _).setCell (Nat.le_refl _) _).setCell (Nat.le_refl _) _).setCell (Nat.le_refl _) _).setCell (Nat.le_refl _) _))
      case pos =>
      have hu' : ((u.length : Int) != (mustN m : Int)) = false := by rw [bne_eq_false_iff_eq]; omega
      by_cases h12 : m = 12
      · have hmz : ((mustN m : Int) == 0) = true := by rw [h12, must_flush]; rfl
        have LD : Hid (lineD ws = some { kind := 12, key := ByteArray.empty, keys := [], flags := 0, exp := 0, nn := 0, quiet := q, size := 0 }) := by
          show _ = _
          rw [LR, EQ.out]
          have := lineRest_flush t (by rw [← h12, ← EU.out, hu, h12, must_flush])
          rw [h12]
          exact this
        subst h12
        go_wp2
        exact bodyPost_ret (v := .tuple #[.agg #[.int .i64 12, .string ⟨#[]⟩, .slice none 0 0, .int .i64 0, .int .i64 0, .int .i64 0, .string ⟨#[]⟩, .bool q], .int .i64 (-1)]) (by simp [results, Tryd.results26, go_sem, k5]) rfl (LOPost.ok _ none 0 LD.out (flush_ok q) rfl (strs_none _) (fun x hx => by cases hx) ((((((((hBr.setCell (Nat.le_refl _) _).setCell (Nat.le_refl _) _).setCell (Nat.le_refl _) _).setCell (Nat.le_refl _) _).setCell (Nat.le_refl _) _).setCell (Nat.le_refl _) _).setCell (Nat.le_refl _) _).setCell (Nat.le_refl _) _))
      have hmz : ((mustN m : Int) == 0) = false := by have := must_nums m k1 (by omega); rw [beq_eq_false_iff_ne]; omega
      have hup : 0 < u.length := by have := must_nums m k1 (by omega); omega
      have hupz : (0 : Int) < (u.length : Int) := by omega
      have hky := hcu 0 hup
      rw [Nat.add_zero, ← hbr.cell (p := ⟨g, o, none⟩) hg1] at hky
      have hm11 : m ≤ 11 := by omega
      obtain ⟨ky, EK⟩ : ∃ y, Hid (y = u.getD 0 ByteArray.empty) := ⟨_, rfl⟩
      rw [← EK.out] at hky
      have hkys : ky.size ≤ 300 := by rw [EK.out]; exact getD_size u hus 0
      have hin : inB (m : Int) 2 11 = true := by unfold inB; simp; omega
      have LN : Hid (lineD ws = match numsD u.tail with | none => none | some vs => some (fillD m ky q vs)) := by
        show _ = _
        rw [LR, EK.out, EQ.out, EU.out]
        exact lineRest_nums m t (by rw [← EU.out]; exact hu) hin
      have HU : Hid (u.length = mustN m) := hu
      have hRBk := hRB.set 1 (.string ky)
      have hbrk := hbr.setCell (p := ⟨w1.heap.size, 1, none⟩) (Nat.le_refl _) (.string ky)
      have hlen5 : u.length ≤ 5 := by omega
      clear h12 hu LR ET hts hts3 hct EU EQ h0 hno
      have hszk : (wc.setCell ⟨w1.heap.size, 1, none⟩ (.string ky)).heap.size = wc.heap.size := by simp [World.setCell]
      have hNI := NI.new (wc.setCell ⟨w1.heap.size, 1, none⟩ (.string ky))
      rw [hszk] at hNI
      have hbrn := hbrk.alloc (by rw [hszk]; exact hbr.size) (.cells #[.int .i64 0, .int .i64 0, .int .i64 0, .int .i64 0] 3)
      have hRBn := hRBk.later ((Below.refl _ _).alloc (Nat.le_refl _) (.cells #[.int .i64 0, .int .i64 0, .int .i64 0, .int .i64 0] 3))
      have hNB : w1.heap.size < wc.heap.size := hRB.lt
      go_wp2_with fail
      clear hRB hbr k3 k4 k5 k6 k7 hR0r hR1r hBr hky hRBk hbrk
      go_loopw [10] (fun i wx => ∃ (vs : List Int), vs.length + 1 ≤ u.length ∧ i = .int .i64 ((vs.length + 1 : Nat) : Int) ∧ Hid (numsD (u.tail.take vs.length) = some vs) ∧ Below w1.heap.size w1 wx ∧ RB wx w1.heap.size #[.int .i64 m, .string ky, .slice none 0 0, .int .i64 0, .int .i64 0, .int .i64 0, .string ⟨#[]⟩, .bool q] ∧ NI wx wc.heap.size vs) (fun i _ => u.length - (intOf i).toNat)
      case atStart => exact ⟨[], hup, rfl, rfl, hbrn, hRBn, hNI⟩
      case round =>
        obtain ⟨vs, hvl, rfl, D, hbx, hRx, hNx⟩ := hrel
        clear hbrn hRBn hNI
        have hR0x := hR0w.later hbx
        have hR1x := hR1w.later hbx
        have hBx := hBw1.trans (hbx.mono hBw1.size)
        have hvn : ((vs.length + 1 : Nat) : Int) = (vs.length : Int) + 1 := by omega
        rw [hvn]
        have hv0 : (0 : Int) ≤ (vs.length : Int) := Int.natCast_nonneg _
        have hne1 : wc.heap.size ≠ w.heap.size := by omega
        by_cases hlt : vs.length + 1 < u.length
        · have hltz : (vs.length : Int) + 1 < (mustN m : Int) := by have := HU.out; omega
          have hltu : (vs.length : Int) + 1 < (u.length : Int) := by omega
          have hv4 : vs.length < 4 := by omega
          have hv4z : (vs.length : Int) < 4 := by omega
          have hcy := hcu (vs.length + 1) hlt
          rw [← hbx.cell (p := ⟨g, o + (vs.length + 1), none⟩) hg1] at hcy
          have hcd := hNx.cell vs.length hv4
          have hfd := hNx.frozen vs.length
          have hys := getD_size u hus (vs.length + 1)
          have hnum := fun w2 => numberOf_any (u.getD (vs.length + 1) ByteArray.empty) w2 (by unfold maxLen; omega)
          have D2 := numsD_snoc (u.tail.take vs.length) (u.tail.getD vs.length ByteArray.empty)
          rw [← take_snoc u.tail vs.length (by simp; omega), D.out, tail_getD] at D2
          generalize u.getD (vs.length + 1) ByteArray.empty = y at *
          cases hy : numD y with
          | none =>
            have hn1 : numberN y = -1 := by unfold numberN; rw [hy]
            rw [hn1] at hnum
            rw [hy] at D2
            have N : Hid (lineD ws = none) := by
              have h1 := numsD_prefix (u.tail.take (vs.length + 1)) (u.tail.drop (vs.length + 1)) D2
              rw [List.take_append_drop] at h1
              show _ = _
              rw [LN.out, h1]
            have k5 := fun j => hR0x.cell j
            have k6 := fun j => hR0x.frozen j
            have k7 := fun j => hR1x.cell j
            clear D2 D hy hn1 hcu
            go_wp2_with (go_at_call 54; refine (hnum _).mono ?_; rintro e w' ⟨rfl, rfl⟩)
            have hBx2 := hBx.setCell (p := ⟨wc.heap.size, vs.length, none⟩) (by simp; omega) (.int .i64 (-1))
            exact bodyPost_ret (v := .tuple #[.agg #[.int .i64 13, .string ⟨#[]⟩, .slice none 0 0, .int .i64 0, .int .i64 0, .int .i64 0, .string ⟨#[]⟩, .bool false], .int .i64 (-1)]) (by simp [results, Tryd.results26, go_sem, k5]) rfl (LOPost.none N.out rfl ((((((((hBx2.setCell (Nat.le_refl _) _).setCell (Nat.le_refl _) _).setCell (Nat.le_refl _) _).setCell (Nat.le_refl _) _).setCell (Nat.le_refl _) _).setCell (Nat.le_refl _) _).setCell (Nat.le_refl _) _).setCell (Nat.le_refl _) _))
          | some v =>
            have hn1 : numberN y = v := by unfold numberN; rw [hy]
            obtain ⟨hvr0, hvr1⟩ := numD_range y v hy
            rw [hn1] at hnum
            rw [hy] at D2
            have D3 : Hid (numsD (u.tail.take (vs ++ [v]).length) = some (vs ++ [v])) := by
              show _ = _
              rw [List.length_append]
              exact D2
            clear D2 D hy hn1 hcu
            go_wp2_with (go_at_call 54; refine (hnum _).mono ?_; rintro e w' ⟨rfl, rfl⟩)
            go_roundw
            case rel => exact ⟨vs ++ [v], by simp; omega, by simp, D3, hbx.setCell (p := ⟨wc.heap.size, vs.length, none⟩) (Nat.le_of_lt hNB) _, hRx.far ⟨wc.heap.size, vs.length, none⟩ _ (by simp; omega), hNx.push v hv4⟩
            case measure => simp [intOf]; omega
        · have hltz : ¬ (vs.length : Int) + 1 < (mustN m : Int) := by have := HU.out; omega
          have hlen : vs.length + 1 = u.length := by omega
          have hlm : vs.length + 1 = mustN m := by have := HU.out; omega
          obtain ⟨F, HF⟩ : ∃ F, Hid (F = (fillD m ky q vs).flags) := ⟨_, rfl⟩
          obtain ⟨E, HE⟩ : ∃ E, Hid (E = (fillD m ky q vs).exp) := ⟨_, rfl⟩
          obtain ⟨N, HN⟩ : ∃ N, Hid (N = (fillD m ky q vs).nn) := ⟨_, rfl⟩
          obtain ⟨Z, HZ⟩ : ∃ Z, Hid (Z = (fillD m ky q vs).size) := ⟨_, rfl⟩
          have LD : Hid (lineD ws = some ⟨m, ky, [], F, E, N, q, Z⟩) := by
            have h1 := D.out
            rw [List.take_of_length_le (by simp; omega)] at h1
            show _ = _
            rw [LN.out, h1, HF.out, HE.out, HN.out, HZ.out]
            exact congrArg some (fillD_eta m ky q vs)
          have hcell : ∀ j, j < 4 → wr.cell? ⟨wc.heap.size, j, none⟩ = some (.int .i64 (vs.getD j 0)) := fun j hj => hNx.cell j hj
          have n0 := hcell 0 (by omega)
          have n1 := hcell 1 (by omega)
          have n2 := hcell 2 (by omega)
          have n3 := hcell 3 (by omega)
          have k3 := fun j => hRx.cell j
          have k4 := fun j => hRx.frozen j
          have hbg := fun w2 => brings_any (m : Int) w2
          clear hcell D hcu hus hlt LN
          go_upto_if 103 with (go_at_call 55; refine (hbg _).mono ?_; rintro e w' ⟨rfl, rfl⟩)
          go_cut [11] (fun v wz => v = .int .i64 (szOf ⟨m, ky, [], F, E, N, q, Z⟩) ∧ Below w1.heap.size w1 wz ∧ RB wz w1.heap.size #[.int .i64 m, .string ky, .slice none 0 0, .int .i64 F, .int .i64 E, .int .i64 N, .string ⟨#[]⟩, .bool q])
          case first =>
            cases h7 : inB (m : Int) 2 7
            · have hZ : Hid (szOf ⟨m, ky, [], F, E, N, q, Z⟩ = -1) := by unfold Hid szOf; rw [h7]; rfl
              by_cases h11 : m = 11
              · have hz11 : ((m : Int) == 11) = true := by rw [beq_iff_eq]; omega
                have EF : Hid (F = 0 ∧ E = vs.getD 0 0 ∧ N = 0) := by
                  refine ⟨?_, ?_, ?_⟩
                  · rw [HF.out, h11, fill_touch]
                  · rw [HE.out, h11, fill_touch]
                  · rw [HN.out, h11, fill_touch]
                clear h11 HF HE HN HZ
                generalize vs.getD 0 0 = a0 at *
                go_wp2
                go_meet
                exact ⟨by rw [hZ.out], hbx.setCell (Nat.le_refl _) _, by rw [EF.out.1, EF.out.2.1, EF.out.2.2]; exact hRx.set 4 _⟩
              · have hz11 : ((m : Int) == 11) = false := by rw [beq_eq_false_iff_ne]; omega
                have EF : Hid (F = 0 ∧ E = 0 ∧ N = vs.getD 0 0) := by
                  have := fill_else m ky q vs k1 h7 (by omega) hlm
                  refine ⟨?_, ?_, ?_⟩
                  · rw [HF.out, this]
                  · rw [HE.out, this]
                  · rw [HN.out, this]
                clear h11 HF HE HN HZ
                generalize vs.getD 0 0 = a0 at *
                go_wp2
                go_meet
                exact ⟨by rw [hZ.out], hbx.setCell (Nat.le_refl _) _, by rw [EF.out.1, EF.out.2.1, EF.out.2.2]; exact hRx.set 5 _⟩
            · have EF : Hid (F = vs.getD 0 0 ∧ E = vs.getD 1 0 ∧ N = vs.getD 3 0 ∧ Z = vs.getD 2 0) := by
                have := fill_brings m ky q vs h7 hlm
                refine ⟨?_, ?_, ?_, ?_⟩
                · rw [HF.out, this]
                · rw [HE.out, this]
                · rw [HN.out, this]
                · rw [HZ.out, this]
              have hZ : Hid (szOf ⟨m, ky, [], F, E, N, q, Z⟩ = vs.getD 2 0) := by unfold Hid szOf; rw [if_pos h7]; exact EF.out.2.2.2
              clear HF HE HN HZ
              generalize vs.getD 0 0 = a0 at *
              generalize vs.getD 1 0 = a1 at *
              generalize vs.getD 2 0 = a2 at *
              generalize vs.getD 3 0 = a3 at *
              go_wp2
              go_meet
              exact ⟨by rw [hZ.out], ((hbx.setCell (Nat.le_refl _) _).setCell (Nat.le_refl _) _).setCell (Nat.le_refl _) _, by rw [EF.out.1, EF.out.2.1, EF.out.2.2.1]; exact ((hRx.set 3 _).set 4 _).set 5 _⟩
          case rest =>
          clear hbx hRx hNx k3 k4 n0 n1 n2 n3 hR0x hR1x hBx
          obtain ⟨rfl, hbx, hRx⟩ := hcut
          have hR0x := hR0w.later hbx
          have hR1x := hR1w.later hbx
          have hBx := hBw1.trans (hbx.mono hBw1.size)
          have k3 := fun j => hRx.cell j
          have hfl := fault_any m ky none 0 0 [] F E N ⟨#[]⟩ q wc (strs_none _) (by unfold maxLen; omega) (Nat.zero_le _)
          obtain ⟨z, hz⟩ : ∃ z, Hid (szOf ⟨m, ky, [], F, E, N, q, Z⟩ = z) := ⟨_, rfl⟩
          rw [hz.out]
          by_cases hC : checkN m ky [] F E N ⟨#[]⟩ q = 0
          · rw [hC] at hfl
            have LQ : Hid (checkN m ky [] F E N ⟨#[]⟩ q = 0) := hC
            clear hC
            go_wp2_with fail
            refine hfl.mono ?_
            rintro e w5 ⟨rfl, hb5⟩
            have hRB5 := hRx.later hb5
            have hR05 := hR0x.later hb5
            have k5 := fun j => hRB5.cell j
            have k6 := fun j => hR05.cell j
            have k7 := fun j => hR05.frozen j
            have hB5 := hBx.trans (hb5.mono hBx.size)
            clear hfl k3
            go_wp2
            exact bodyPost_ret (v := .tuple #[.agg #[.int .i64 m, .string ky, .slice none 0 0, .int .i64 F, .int .i64 E, .int .i64 N, .string ⟨#[]⟩, .bool q], .int .i64 z]) (by simp [results, Tryd.results26, go_sem, k6]) rfl (LOPost.ok _ none 0 LD.out LQ.out (by rw [hz.out]; rfl) (strs_none _) (fun x hx => by cases hx) ((((((((hB5.setCell (Nat.le_refl _) _).setCell (Nat.le_refl _) _).setCell (Nat.le_refl _) _).setCell (Nat.le_refl _) _).setCell (Nat.le_refl _) _).setCell (Nat.le_refl _) _).setCell (Nat.le_refl _) _).setCell (Nat.le_refl _) _))
          · have LQ : Hid (¬ checkN m ky [] F E N ⟨#[]⟩ q = 0) := hC
            have hn : (checkN m ky [] F E N ⟨#[]⟩ q != 0) = true := by simp [hC]
            generalize checkN m ky [] F E N ⟨#[]⟩ q = C at hn hfl
            clear hC
            go_wp2_with fail
            refine hfl.mono ?_
            rintro e w5 ⟨rfl, hb5⟩
            have hR15 := hR1x.later hb5
            have hR05 := hR0x.later hb5
            have k5 := fun j => hR15.cell j
            have k6 := fun j => hR05.cell j
            have k7 := fun j => hR05.frozen j
            have hB5 := hBx.trans (hb5.mono hBx.size)
            clear hfl k3
            go_wp2
            exact bodyPost_ret (v := .tuple #[.agg #[.int .i64 13, .string ⟨#[]⟩, .slice none 0 0, .int .i64 0, .int .i64 0, .int .i64 0, .string ⟨#[]⟩, .bool false], .int .i64 z]) (by simp [results, Tryd.results26, go_sem, k6]) rfl (LOPost.bad _ LD.out LQ.out (by rw [hz.out]) ((((((((hB5.setCell (Nat.le_refl _) _).setCell (Nat.le_refl _) _).setCell (Nat.le_refl _) _).setCell (Nat.le_refl _) _).setCell (Nat.le_refl _) _).setCell (Nat.le_refl _) _).setCell (Nat.le_refl _) _).setCell (Nat.le_refl _) _))

theorem lineOf_any : LineOfAny := by
  intro s w hs
  have hk := kindD_le ((lineWs s).getD 0 ByteArray.empty)
  by_cases h0 : kindD ((lineWs s).getD 0 ByteArray.empty) = 0
  · refine (lineOf_zero s w hs h0).mono fun e w' h => LOPost.none ?_ h.1 h.2
    unfold lineD
    rw [if_pos h0]
  by_cases h1 : kindD ((lineWs s).getD 0 ByteArray.empty) = 1
  · exact lineOf_get s w hs h1
  · exact lineOf_rest s w hs _ rfl (by omega) hk
end Go.Proofs.YtkjfkonekajffaaDoor
