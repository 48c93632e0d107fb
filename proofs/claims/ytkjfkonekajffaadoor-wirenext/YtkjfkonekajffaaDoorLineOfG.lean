/- The contract of dovecoteref.lineOf: what a line says. -/
import Derived.Test.YtkjfkonekajffaaDoorLineOf
namespace Go.Proofs.YtkjfkonekajffaaDoor
open Go.ChangeShapes Go.WideShapes Go.ChangeAt Go.RowKit
set_option linter.unusedVariables false

set_option maxHeartbeats 4000000 in
set_option maxRecDepth 100000 in
theorem lineOf_get (s : ByteArray) (w : World) (hs : s.size ≤ 300) (h0 : kindD ((lineWs s).getD 0 ByteArray.empty) = 1) :
    Calls Tryd.prog 26 #[.string s] w fun e w' => LOPost (lineWs s) w e w' := by
  have hB0 : Below w.heap.size w ((w.alloc (.cells #[.int .i64 0, .string ⟨#[]⟩, .slice none 0 0, .int .i64 0, .int .i64 0, .int .i64 0, .string ⟨#[]⟩, .bool false] 24)).alloc (.cells #[.int .i64 13, .string ⟨#[]⟩, .slice none 0 0, .int .i64 0, .int .i64 0, .int .i64 0, .string ⟨#[]⟩, .bool false] 24)) := ((Below.refl _ _).alloc (Nat.le_refl _) _).alloc (by simp) _
  have hR0 : RB ((w.alloc (.cells #[.int .i64 0, .string ⟨#[]⟩, .slice none 0 0, .int .i64 0, .int .i64 0, .int .i64 0, .string ⟨#[]⟩, .bool false] 24)).alloc (.cells #[.int .i64 13, .string ⟨#[]⟩, .slice none 0 0, .int .i64 0, .int .i64 0, .int .i64 0, .string ⟨#[]⟩, .bool false] 24)) w.heap.size #[.int .i64 0, .string ⟨#[]⟩, .slice none 0 0, .int .i64 0, .int .i64 0, .int .i64 0, .string ⟨#[]⟩, .bool false] := (RB.new w #[.int .i64 0, .string ⟨#[]⟩, .slice none 0 0, .int .i64 0, .int .i64 0, .int .i64 0, .string ⟨#[]⟩, .bool false]).later ((Below.refl _ _).alloc (Nat.le_refl _) _)
  have hR1 : RB ((w.alloc (.cells #[.int .i64 0, .string ⟨#[]⟩, .slice none 0 0, .int .i64 0, .int .i64 0, .int .i64 0, .string ⟨#[]⟩, .bool false] 24)).alloc (.cells #[.int .i64 13, .string ⟨#[]⟩, .slice none 0 0, .int .i64 0, .int .i64 0, .int .i64 0, .string ⟨#[]⟩, .bool false] 24)) (w.heap.size + 1) #[.int .i64 13, .string ⟨#[]⟩, .slice none 0 0, .int .i64 0, .int .i64 0, .int .i64 0, .string ⟨#[]⟩, .bool false] := by have := RB.new (w.alloc (.cells #[.int .i64 0, .string ⟨#[]⟩, .slice none 0 0, .int .i64 0, .int .i64 0, .int .i64 0, .string ⟨#[]⟩, .bool false] 24)) #[.int .i64 13, .string ⟨#[]⟩, .slice none 0 0, .int .i64 0, .int .i64 0, .int .i64 0, .string ⟨#[]⟩, .bool false]; simpa using this
  have hpt := fun w1 => parted_any s w1 hs
  have hln := lineWs_length s
  obtain ⟨hz1, hz2⟩ := lineWs_sizes s
  generalize lineWs s = ws at *
  have hpos : 0 < ws.length := by omega
  clear hln
  go_enter Tryd.func26, Tryd.ntmps26
  go_wp2_with fail
  refine (hpt _).mono ?_
  rintro e w1 ⟨v, rfl, hW⟩
  obtain ⟨g, cap, rfl, hg0, hg1, hcap, hcw⟩ := words_form hW hpos
  have hw0 := hcw 0 hpos
  have hposz : (0 : Int) < (ws.length : Int) := by omega
  have hBw1 := hB0.trans (hW.2.mono hB0.size)
  have hR0w := hR0.later hW.2
  have hR1w := hR1.later hW.2
  have hz3 : w.heap.size + 1 < w1.heap.size := hR1w.lt
  have hg0' : w.heap.size + 2 ≤ g := by simpa using hg0
  clear hpt hR0 hR1
  obtain ⟨w0, hw0e⟩ : ∃ y, Hid (y = ws.getD 0 ByteArray.empty) := ⟨_, rfl⟩
  rw [← hw0e.out] at hw0
  go_wp2_with fail
  go_loopw [7] (fun i wr => ∃ (k n m : Nat), k + n = 13 ∧ 1 ≤ k ∧ i = .int .i64 k ∧ Hid (seenK w0 m k n) ∧ Below w1.heap.size w1 wr ∧ RB wr w1.heap.size #[.int .i64 (m : Nat), .string ⟨#[]⟩, .slice none 0 0, .int .i64 0, .int .i64 0, .int .i64 0, .string ⟨#[]⟩, .bool false]) (fun i _ => 13 - (intOf i).toNat)
  case atStart => exact ⟨1, 12, 0, rfl, Nat.le_refl _, rfl, Or.inl ⟨rfl, rfl⟩, (Below.refl _ _).alloc (Nat.le_refl _) _, RB.new _ _⟩
  case round =>
    obtain ⟨k, n, m, hkn, hk1, rfl, D, hbr, hRB⟩ := hrel
    by_cases hlt : k < 13
    · obtain ⟨n, rfl⟩ : ∃ n', n = n' + 1 := ⟨n - 1, by omega⟩
      have b1 : (k : Int) ≤ 12 := by omega
      have b0 : (0 : Int) ≤ (k : Int) := Int.natCast_nonneg _
      have hnm := fun w2 => nameOf_any (k : Int) w2 b0 b1
      rw [Int.toNat_natCast] at hnm
      have hS : wr.cell? ⟨g, 0, none⟩ = some (.string w0) := by rw [hbr.cell (p := ⟨g, 0, none⟩) hg1]; exact hw0
      have hgr : g < wr.heap.size := Nat.lt_of_lt_of_le hg1 hbr.size
      have hkn2 : Hid (k + 1 + n = 13) := by show _ = _; omega
      have hbq := beq_texts (nameS k) w0
      by_cases hq : nameS k = w0
      · have D2 : Hid (seenK w0 k (k + 1) n) := seenK_hit w0 m k n hlt (by omega) hk1 D.out hq
        rw [decide_eq_true hq] at hbq
        generalize nameS k = nk at *
        clear hq D hkn
        go_wp2_with fail
        go_region_held3 (fun w' => w'.cell? ⟨g, 0, none⟩ = some (.string w0)) (first | go_keep | exact hSa) ((go_at_call 51; refine (hnm _).mono ?_; rintro e wa ⟨rfl, hba⟩; have hSa : wa.cell? ⟨g, 0, none⟩ = some (.string w0) := (hba.cell (p := ⟨g, 0, none⟩) hgr).trans hS))
        have hRBa : RB wa w1.heap.size #[.int .i64 (m : Nat), .string ⟨#[]⟩, .slice none 0 0, .int .i64 0, .int .i64 0, .int .i64 0, .string ⟨#[]⟩, .bool false] := RB.later (w := wr.drew) hRB hba
        have c0 : wa.cell? ⟨w1.heap.size, 0, none⟩ = some (.int .i64 (m : Nat)) := hRBa.cell 0
        have f0 := hRBa.frozen 0
        have hbra : Below w1.heap.size w1 wa := hbr.drew.trans (hba.mono hbr.drew.size)
        clear hnm
        go_wp2
        go_roundw
        case rel => exact ⟨k + 1, n, k, hkn2.out, by omega, by go_num, D2, hbra.setCell (Nat.le_refl _) _, hRBa.set 0 _⟩
        case measure => simp [intOf]; omega
      · have D2 : Hid (seenK w0 m (k + 1) n) := seenK_miss w0 m k n D.out hq
        rw [decide_eq_false hq] at hbq
        generalize nameS k = nk at *
        clear hq D hkn
        go_wp2_with fail
        go_region_held3 (fun w' => w'.cell? ⟨g, 0, none⟩ = some (.string w0)) (first | go_keep | exact hSa) ((go_at_call 51; refine (hnm _).mono ?_; rintro e wa ⟨rfl, hba⟩; have hSa : wa.cell? ⟨g, 0, none⟩ = some (.string w0) := (hba.cell (p := ⟨g, 0, none⟩) hgr).trans hS))
        have hRBa : RB wa w1.heap.size #[.int .i64 (m : Nat), .string ⟨#[]⟩, .slice none 0 0, .int .i64 0, .int .i64 0, .int .i64 0, .string ⟨#[]⟩, .bool false] := RB.later (w := wr.drew) hRB hba
        have c0 : wa.cell? ⟨w1.heap.size, 0, none⟩ = some (.int .i64 (m : Nat)) := hRBa.cell 0
        have f0 := hRBa.frozen 0
        have hbra : Below w1.heap.size w1 wa := hbr.drew.trans (hba.mono hbr.drew.size)
        clear hnm
        go_wp2
        go_roundw
        case rel => exact ⟨k + 1, n, m, hkn2.out, by omega, by go_num, D2, hbra, hRBa⟩
        case measure => simp [intOf]; omega
    · obtain rfl : n = 0 := by omega
      have b1 : ¬ (k : Int) ≤ 12 := by omega
      have hm : m = kindD w0 := seenK_end w0 m k D.out
      clear D
      rw [hw0e.out, h0] at hm
      subst hm
      have hR0r := hR0w.later hbr
      have hR1r := hR1w.later hbr
      have hBr := hBw1.trans (hbr.mono hBw1.size)
      have hgr : g < wr.heap.size := Nat.lt_of_lt_of_le hg1 hbr.size
      have k3 := fun j => hRB.cell j
      have k4 := fun j => hRB.frozen j
      clear hW hw0
      obtain ⟨t, ET⟩ : ∃ t, Hid (t = ws.tail) := ⟨_, rfl⟩
      have htl : t.length + 1 = ws.length := by rw [ET.out]; simp; omega
      have htc : Hid (∀ j, j < t.length → w1.cell? ⟨g, 1 + j, none⟩ = some (.string (t.getD j ByteArray.empty))) := fun j hj => by
        rw [hcw (1 + j) (by omega), ET.out]
        simp [List.getD_eq_getElem?_getD, Nat.add_comm]
      have hts : ∀ x ∈ t, x.size ≤ maxLen := fun x hx => by
        rw [ET.out] at hx
        have := hz2 x (List.mem_of_mem_tail hx)
        unfold maxLen
        omega
      have hts3 : ∀ x ∈ t, x.size ≤ 300 := fun x hx => by
        rw [ET.out] at hx
        have := hz2 x (List.mem_of_mem_tail hx)
        omega
      have htn : (t.length : Int) = (ws.length : Int) - 1 := by omega
      clear hz2 hcw
      go_upto_region 11 with fail
      go_cut [5] (fun v wx => wx = wr ∧ ∃ o c, v = .slice (some ⟨g, o, none⟩) t.length c ∧ t.length ≤ c ∧ ∀ j, j < t.length → w1.cell? ⟨g, o + j, none⟩ = some (.string (t.getD j ByteArray.empty)))
      case first =>
        by_cases hc : cap = 1
        · subst hc
          have hl : ws.length = 1 := by omega
          have ht0 : Hid (t.length = 0) := by show _ = _; omega
          go_wp2
          go_meet
          exact ⟨rfl, 0, 0, by rw [ht0.out], by rw [ht0.out]; exact Nat.zero_le _, fun j hj => by rw [ht0.out] at hj; omega⟩
        · have hc1 : (1 : Int) < (cap : Int) := by omega
          have hl1 : (1 : Int) ≤ (ws.length : Int) := by omega
          have ht0 : Hid (t.length = ws.length - 1) := by show _ = _; omega
          go_wp2
          go_meet
          exact ⟨rfl, 1, cap - 1, by rw [ht0.out], by omega, htc.out⟩
      case rest =>
      obtain ⟨rfl, o, c, rfl, htc2, hct⟩ := hcut
      have hSt : StrsAt wc (some ⟨g, o, none⟩) t.length t := ⟨rfl, by unfold maxLen; omega, hts, Or.inr ⟨g, o, rfl, hgr, fun j hj => by rw [hbr.cell (p := ⟨g, o + j, none⟩) hg1]; exact hct j hj⟩⟩
      have hgB : g < w1.heap.size := hg1
      have hS2 : StrsAt (wc.setCell ⟨w1.heap.size, 2, none⟩ (.slice (some ⟨g, o, none⟩) t.length c)) (some ⟨g, o, none⟩) t.length t := hSt.far _ _ (fun x hx => by cases hx; simp; omega)
      have hfl := fault_any 1 ⟨#[]⟩ (some ⟨g, o, none⟩) t.length c t 0 0 0 ⟨#[]⟩ false _ hS2 (Nat.zero_le _) (Nat.zero_le _)
      have hRB2 := hRB.set 2 (.slice (some ⟨g, o, none⟩) t.length c)
      have hR02 := hR0r.far ⟨w1.heap.size, 2, none⟩ (.slice (some ⟨g, o, none⟩) t.length c) (by simp; omega)
      have hR12 := hR1r.far ⟨w1.heap.size, 2, none⟩ (.slice (some ⟨g, o, none⟩) t.length c) (by simp; omega)
      have hBr2 := hBr.setCell (p := ⟨w1.heap.size, 2, none⟩) (by simp; omega) (.slice (some ⟨g, o, none⟩) t.length c)
      have LD : Hid (lineD ws = some { kind := 1, key := ByteArray.empty, keys := t, flags := 0, exp := 0, nn := 0, quiet := false, size := 0 }) := by
        unfold Hid lineD
        rw [h0, if_neg (by decide), if_pos rfl, ET.out]
      have hd : (Value.slice (some ⟨g, o, none⟩) t.length c) = .slice (some ⟨g, o, none⟩) t.length c := rfl
      have c2 : (wc.setCell ⟨w1.heap.size, 2, none⟩ (.slice (some ⟨g, o, none⟩) t.length c)).cell? ⟨w1.heap.size, 2, none⟩ = some (.slice (some ⟨g, o, none⟩) t.length c) := hRB2.cell 2
      clear htc hct h0 hts
      by_cases hC : checkN 1 ⟨#[]⟩ t 0 0 0 ⟨#[]⟩ false = 0
      · rw [hC] at hfl
        have LQ : Hid (checkN 1 ByteArray.empty t 0 0 0 ⟨#[]⟩ false = 0) := hC
        go_wp2_with fail
        refine hfl.mono ?_
        rintro e w5 ⟨rfl, hb5⟩
        have hRB5 := hRB2.later hb5
        have hR05 := hR02.later hb5
        have k5 := fun j => hRB5.cell j
        have k6 := fun j => hR05.cell j
        have k7 := fun j => hR05.frozen j
        have hS5 := hS2.later hb5
        have hB5 := hBr2.trans (hb5.mono hBr2.size)
        clear hfl c2
        go_wp2
        exact bodyPost_ret (v := .tuple #[.agg #[.int .i64 1, .string ⟨#[]⟩, .slice (some ⟨g, o, none⟩) t.length c, .int .i64 0, .int .i64 0, .int .i64 0, .string ⟨#[]⟩, .bool false], .int .i64 (-1)]) (by simp [results, Tryd.results26, go_sem, k6]) rfl (LOPost.ok _ (some ⟨g, o, none⟩) c LD.out LQ.out rfl (strsSet8 w.heap.size _ _ _ _ _ _ _ _ hS5 (fun x hx => by cases hx; simp; omega)) (fun x hx => by cases hx; simp; omega) ((((((((hB5.setCell (Nat.le_refl _) _).setCell (Nat.le_refl _) _).setCell (Nat.le_refl _) _).setCell (Nat.le_refl _) _).setCell (Nat.le_refl _) _).setCell (Nat.le_refl _) _).setCell (Nat.le_refl _) _).setCell (Nat.le_refl _) _))
      · have LQ : Hid (¬ checkN 1 ByteArray.empty t 0 0 0 ⟨#[]⟩ false = 0) := hC
        have hn : (checkN 1 ⟨#[]⟩ t 0 0 0 ⟨#[]⟩ false != 0) = true := by simp [hC]
        generalize checkN 1 ⟨#[]⟩ t 0 0 0 ⟨#[]⟩ false = C at hn hfl
        clear hC
        go_wp2_with fail
        refine hfl.mono ?_
        rintro e w5 ⟨rfl, hb5⟩
        have hR15 := hR12.later hb5
        have hR05 := hR02.later hb5
        have k5 := fun j => hR15.cell j
        have k6 := fun j => hR05.cell j
        have k7 := fun j => hR05.frozen j
        have hB5 := hBr2.trans (hb5.mono hBr2.size)
        clear hfl c2
        go_wp2
        exact bodyPost_ret (v := .tuple #[.agg #[.int .i64 13, .string ⟨#[]⟩, .slice none 0 0, .int .i64 0, .int .i64 0, .int .i64 0, .string ⟨#[]⟩, .bool false], .int .i64 (-1)]) (by simp [results, Tryd.results26, go_sem, k6]) rfl (LOPost.bad _ LD.out LQ.out rfl ((((((((hB5.setCell (Nat.le_refl _) _).setCell (Nat.le_refl _) _).setCell (Nat.le_refl _) _).setCell (Nat.le_refl _) _).setCell (Nat.le_refl _) _).setCell (Nat.le_refl _) _).setCell (Nat.le_refl _) _).setCell (Nat.le_refl _) _))
end Go.Proofs.YtkjfkonekajffaaDoor
