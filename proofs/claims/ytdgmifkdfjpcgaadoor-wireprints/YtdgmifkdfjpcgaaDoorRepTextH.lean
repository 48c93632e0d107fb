/- The contract of dovecoteref.ReplyText at hits. -/
import Derived.Test.YtdgmifkdfjpcgaaDoorRepText
import Derived.Deep.RegionHeld3
namespace Go.Proofs.YtdgmifkdfjpcgaaDoor
open Go.ChangeShapes Go.WideShapes Go.ChangeAt Go.RowKit
set_option linter.unusedVariables false

set_option maxHeartbeats 4000000 in
set_option maxRecDepth 100000 in
theorem repText_hits (l : List HitR) (a : Option Addr) (c : Nat) (w : World) (hH : HitsAt w a l) (h10 : l.length ≤ 10) : Calls Tryd.prog 13 #[.agg #[.int .i64 1, .int .i64 0, .slice a l.length c]] w (REPS 1 0 l w) := by
  have hB0 : Below w.heap.size w (w.alloc (.cells #[.int .i64 1, .int .i64 0, .slice a l.length c] 35)) := (Below.refl _ _).alloc (Nat.le_refl _) _
  have hc := in_any 1 1 12
  rw [show inB 1 1 12 = true from rfl] at hc
  have h10' : ¬ (10 : Int) < (l.length : Int) := by omega
  have hfit : fitsB 1 0 l = !(anyHitBad l) := by
    unfold fitsB
    rw [if_neg (by simp), if_neg (by simp), if_neg (by omega)]
  have PN : Hid (anyHitBad l = true → printN 1 0 l = 4 ∧ printS 1 0 l = ⟨#[]⟩) := fun h => print_no 1 0 l rfl (by rw [hfit, h]; rfl)
  have PY : Hid (anyHitBad l = false → printN 1 0 l = 0 ∧ printS 1 0 l = accS l ++ ⟨#[69, 78, 68, 10]⟩) := fun h => by
    obtain ⟨e1, e2⟩ := print_yes 1 0 l rfl (by rw [hfit, h]; rfl)
    refine ⟨e1, e2.trans ?_⟩
    rw [if_neg (by decide), ByteArray.append_assoc]
    rfl
  unfold REPS
  generalize printN 1 0 l = N at *
  generalize printS 1 0 l = S at *
  clear hfit
  have hH1 := hH.later hB0
  obtain ⟨hln, hok, _⟩ := hH
  unfold maxLen at hln
  go_enter Tryd.func13, Tryd.ntmps13
  go_upto_region 3 with (go_at_call 37; refine (hc _).mono ?_; rintro e w' ⟨rfl, rfl⟩)
  go_cut [35] (fun v wx => v = .bool false ∧ wx = w.alloc (.cells #[.int .i64 1, .int .i64 0, .slice a l.length c] 35))
  case first =>
    by_cases hl : 0 < l.length
    · have hl' : (0 : Int) < (l.length : Int) := by omega
      clear hl
      go_wp2
      go_meet
      exact ⟨by simp [h10'], rfl⟩
    · have hl' : ¬ (0 : Int) < (l.length : Int) := by omega
      clear hl
      go_wp2
      go_meet
      exact ⟨by simp [h10'], rfl⟩
  case rest =>
    obtain ⟨rfl, rfl⟩ := hcut
    generalize hW : w.alloc (.cells #[.int .i64 1, .int .i64 0, .slice a l.length c] 35) = W1 at *
    have hk0 : W1.cell? ⟨w.heap.size, 0, none⟩ = some (.int .i64 1) := by rw [← hW]; simp
    have hk2 : W1.cell? ⟨w.heap.size, 2, none⟩ = some (.slice a l.length c) := by rw [← hW]; simp
    have hz1 : w.heap.size < W1.heap.size := by rw [← hW]; simp
    clear hW hc
    go_wp2_with fail
    go_loopw [4, 5] (fun s i wr => ∃ k : Nat, k ≤ l.length ∧ i = .int .i64 k ∧ s = .string (accS (l.take k)) ∧ Hid (∀ j, j < k → hitBadB (l.getD j default) = false) ∧ (accS (l.take k)).size ≤ k * 291 ∧ Below W1.heap.size W1 wr) (fun _ i _ => l.length - (intOf i).toNat)
    case atStart => exact ⟨0, Nat.zero_le _, rfl, rfl, fun j hj => absurd hj (Nat.not_lt_zero _), Nat.le_refl 0, Below.refl _ _⟩
    case round =>
      obtain ⟨k, hk, rfl, rfl, hbf, hzk, hb⟩ := hrel
      have e2 : wr.cell? ⟨w.heap.size, 2, none⟩ = some (.slice a l.length c) := by rw [hb.cell (p := ⟨w.heap.size, 2, none⟩) hz1]; exact hk2
      by_cases hlt : k < l.length
      · have hltz : (k : Int) < (l.length : Int) := by omega
        have hk0' : (0 : Int) ≤ (k : Int) := Int.natCast_nonneg _
        rcases hH1.2.2 with hm | ⟨b, o, rfl, hbl, hc⟩
        · omega
        obtain ⟨c0, c1, c2, c3⟩ := (hc k hlt).later hbl hb
        have okk := hok k hlt
        have hmem := mem_getDH l k hlt
        have hAS : Hid (accS (l.take (k + 1)) = accS (l.take k) ++ hitS (l.getD k default)) := accS_succ l k hlt
        clear hc hok
        generalize hy : l.getD k default = y at *
        have HY : Hid (l.getD k default = y) := hy
        clear hy
        have hA1 : Below wr.heap.size wr (wr.alloc (.cells #[.string y.key, .int .i64 y.flags, .int .i64 y.cas, .string y.value] 58)) := (Below.refl _ _).alloc (Nat.le_refl _) _
        have hkm := fun w1 => keyMay_any y.key w1 okk.1
        have hvz := okk.2.1
        unfold maxLen at hvz
        have BD : Hid (hitBadB y = (!(keyB y.key) || decide (200 < y.value.size))) := rfl
        generalize hAK : accS (l.take k) = AK at *
        cases hq : keyB y.key
        · rw [hq] at hkm BD
          have C : Hid (anyHitBad l = true) := List.any_eq_true.2 ⟨y, hmem, by rw [BD.out]; rfl⟩
          obtain ⟨r1, r2⟩ := PN.out C.out
          have R1 : Hid (N = 4) := r1
          have R2 : Hid (S = ⟨#[]⟩) := r2
          clear hq hmem r1 r2
          go_wp2_with (go_at_call 38; refine (hkm _).mono ?_; rintro e w' ⟨rfl, rfl⟩)
          go_ret2
          exact ⟨ret_tuple R2.out.symm R1.out.symm, hB0.trans ((hb.trans (hA1.mono hb.size)).mono hB0.size)⟩
        · rw [hq] at hkm BD
          by_cases hv : 200 < y.value.size
          · have hv' : (200 : Int) < (y.value.size : Int) := by omega
            have C : Hid (anyHitBad l = true) := List.any_eq_true.2 ⟨y, hmem, by rw [BD.out]; simp [hv]⟩
            obtain ⟨r1, r2⟩ := PN.out C.out
            have R1 : Hid (N = 4) := r1
            have R2 : Hid (S = ⟨#[]⟩) := r2
            clear hq hmem r1 r2 hv
            go_wp2_with (go_at_call 38; refine (hkm _).mono ?_; rintro e w' ⟨rfl, rfl⟩)
            go_ret2
            exact ⟨ret_tuple R2.out.symm R1.out.symm, hB0.trans ((hb.trans (hA1.mono hb.size)).mono hB0.size)⟩
          · have hv' : ¬ (200 : Int) < (y.value.size : Int) := by omega
            have C : Hid (hitBadB y = false) := by unfold Hid; rw [BD.out]; simp; omega
            have hfk := hitFit_of y okk C.out
            have hzh := hitS_size y hfk
            have hT := hit_text AK y.key (decS y.flags) (decS y.value.size) (decS y.cas) y.value
            have HT : Hid (AK ++ ⟨#[86, 65, 76, 85, 69, 32]⟩ ++ y.key ++ ⟨#[32]⟩ ++ decS y.flags ++ ⟨#[32]⟩ ++ decS y.value.size ++ ⟨#[32]⟩ ++ decS y.cas ++ ⟨#[10]⟩ ++ y.value ++ ⟨#[10]⟩ = AK ++ hitS y) := hT
            obtain ⟨_, _, ⟨g0, g1⟩, g2, g3⟩ := okk
            have kz := (keyB_size _ hq).1
            have d1 := decS_size y.flags g0 g1
            have d2 := decS_size (y.value.size : Int) (by omega) (by omega)
            have d3 := decS_size y.cas g2 g3
            have s0 : ¬ 9223372036854775807 < AK.size + 6 := by omega
            have s1 : ¬ 9223372036854775807 < AK.size + 6 + y.key.size := by omega
            have s2 : ¬ 9223372036854775807 < AK.size + 6 + y.key.size + 1 := by omega
            have s3 : ¬ 9223372036854775807 < AK.size + 6 + y.key.size + 1 + (decS y.flags).size := by omega
            have s4 : ¬ 9223372036854775807 < AK.size + 6 + y.key.size + 1 + (decS y.flags).size + 1 := by omega
            have s5 : ¬ 9223372036854775807 < AK.size + 6 + y.key.size + 1 + (decS y.flags).size + 1 + (decS (y.value.size : Int)).size := by omega
            have s6 : ¬ 9223372036854775807 < AK.size + 6 + y.key.size + 1 + (decS y.flags).size + 1 + (decS (y.value.size : Int)).size + 1 := by omega
            have s7 : ¬ 9223372036854775807 < AK.size + 6 + y.key.size + 1 + (decS y.flags).size + 1 + (decS (y.value.size : Int)).size + 1 + (decS y.cas).size := by omega
            have s8 : ¬ 9223372036854775807 < AK.size + 6 + y.key.size + 1 + (decS y.flags).size + 1 + (decS (y.value.size : Int)).size + 1 + (decS y.cas).size + 1 := by omega
            have s9 : ¬ 9223372036854775807 < AK.size + 6 + y.key.size + 1 + (decS y.flags).size + 1 + (decS (y.value.size : Int)).size + 1 + (decS y.cas).size + 1 + y.value.size := by omega
            have s10 : ¬ 9223372036854775807 < AK.size + 6 + y.key.size + 1 + (decS y.flags).size + 1 + (decS (y.value.size : Int)).size + 1 + (decS y.cas).size + 1 + y.value.size + 1 := by omega
            have hI1 := fun w1 hB => decP y.flags g0 g1 (wr.alloc (.cells #[.string y.key, .int .i64 y.flags, .int .i64 y.cas, .string y.value] 58)) w1 hB
            have hI2 := fun w1 hB => decP (y.value.size : Int) (by omega) (by omega) (wr.alloc (.cells #[.string y.key, .int .i64 y.flags, .int .i64 y.cas, .string y.value] 58)) w1 hB
            have hI3 := fun w1 hB => decP y.cas g2 g3 (wr.alloc (.cells #[.string y.key, .int .i64 y.flags, .int .i64 y.cas, .string y.value] 58)) w1 hB
            have hWd := (Below.refl (wr.alloc (.cells #[.string y.key, .int .i64 y.flags, .int .i64 y.cas, .string y.value] 58)).heap.size (wr.alloc (.cells #[.string y.key, .int .i64 y.flags, .int .i64 y.cas, .string y.value] 58))).drew
            have bx := fun wx => boxHit y (w := wr) (wx := wx)
            clear hq hmem hv hT PN PY
            go_upto_region 16 with (go_at_call 38; refine (hkm _).mono ?_; rintro e w' ⟨rfl, rfl⟩)
            go_region_held3 (fun w' => w'.cell? ⟨wr.heap.size, 0, none⟩ = some (.string y.key) ∧ w'.cell? ⟨wr.heap.size, 1, none⟩ = some (.int .i64 y.flags) ∧ w'.cell? ⟨wr.heap.size, 2, none⟩ = some (.int .i64 y.cas) ∧ w'.cell? ⟨wr.heap.size, 3, none⟩ = some (.string y.value))
              (first | exact bx _ hWd | exact bx _ hWa | exact bx _ hWb | exact bx _ hWc)
              (first
                | (go_at_call_of 25 (Value.int .i64 y.flags); refine (hI1 _ hWd).mono ?_; rintro e wa ⟨rfl, hWa⟩)
                | (go_at_call_of 25 (Value.int .i64 (y.value.size : Int)); refine (hI2 _ hWa).mono ?_; rintro e wb ⟨rfl, hWb⟩)
                | (go_at_call_of 25 (Value.int .i64 y.cas); refine (hI3 _ hWb).mono ?_; rintro e wcc ⟨rfl, hWc⟩))
            go_wp2
            go_roundw
            case rel =>
              refine ⟨k + 1, hlt, by go_num, by rw [hAS.out, ← HT.out], (show Hid _ from fun j hj => ?_), by rw [hAS.out, ByteArray.size_append]; omega, hb.trans ((hA1.trans (hWc.mono hA1.size)).mono hb.size)⟩
              by_cases e : j = k
              · subst e
                rw [HY.out]
                exact C.out
              · exact hbf.out j (by omega)
            case measure => simp [intOf]; omega
      · have hltz : ¬ (k : Int) < (l.length : Int) := by omega
        have hkk : k = l.length := by omega
        have C : Hid (anyHitBad l = false) := by
          refine List.any_eq_false.2 fun x hx => ?_
          obtain ⟨j, hj, rfl⟩ := List.mem_iff_getElem.1 hx
          have := hbf.out j (by omega)
          rw [List.getD_eq_getElem?_getD, List.getElem?_eq_getElem hj] at this
          simpa using this
        obtain ⟨r1, r2⟩ := PY.out C.out
        have R1 : Hid (N = 0) := r1
        have R2 : Hid (S = accS (l.take k) ++ ⟨#[69, 78, 68, 10]⟩) := by unfold Hid; rw [hkk, List.take_length]; exact r2
        generalize accS (l.take k) = AK at *
        clear r1 r2 hkk PN PY
        go_wp2
        go_ret2
        exact ⟨ret_tuple R2.out.symm R1.out.symm, hB0.trans (hb.mono hB0.size)⟩
end Go.Proofs.YtdgmifkdfjpcgaaDoor
