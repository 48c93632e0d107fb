/- The contract of dovecoteref.StoreMay: it answers what store.Check answers. -/
import Derived.Test.YtogpkbhjobhodaaDoorSMay1
import Derived.Test.YtogpkbhjobhodaaDoorSChk6
import Derived.Test.YtogpkbhjobhodaaDoorFReadL
import Derived.Test.YtogpkbhjobhodaaDoorKeyMay
namespace Go.Proofs.YtogpkbhjobhodaaDoor
open Go.ChangeShapes Go.WideShapes Go.ChangeAt Go.RowKit
set_option linter.unusedVariables false
set_option linter.unusedSimpArgs false

theorem toList_len (s : ByteArray) : s.toList.length = s.size := by rw [ByteArray.toList_eq]; rfl
theorem store_counts_no {s : StoreR} (h : countsB s = false) : storeB s = false := by unfold storeB; rw [h]; rfl
theorem store_long {s : StoreR} (h : 1000 < s.items.length) : storeB s = false := by
  have : itemsB s = false := by unfold itemsB; rw [decide_eq_false (by omega)]; rfl
  unfold storeB; rw [this]; simp
theorem store_may_no {s : StoreR} (h : mayB s.fm s.fx s.pages = false) : storeB s = false := by unfold storeB; rw [h]; simp
theorem store_item_no {s : StoreR} (k : Nat) (hk : k < s.items.length) (h : okAt s k = false) : storeB s = false := by unfold storeB; rw [items_no s k hk h]; simp
theorem held_all {s : StoreR} (h : heldB s = true) : ∀ n, n < 4 → inB (heldN s n) 0 s.most = true := by
  unfold heldB at h
  simp only [Bool.and_eq_true] at h
  obtain ⟨q0, q1, q2, q3, _⟩ := h
  intro n hn
  have hn : n = 0 ∨ n = 1 ∨ n = 2 ∨ n = 3 := by omega
  rcases hn with rfl | rfl | rfl | rfl
  · exact q0
  · exact q1
  · exact q2
  · exact q3
theorem store_held_no {s : StoreR} (n : Nat) (hn : n < 4) (h : inB (heldN s n) 0 s.most = false) : storeB s = false := by
  have : heldB s = false := by
    cases hh : heldB s
    · rfl
    · rw [held_all hh n hn] at h; cases h
  unfold storeB; rw [this]; simp
theorem store_room_no {s : StoreR} (n : Nat) (hn : n < 4) (h : ¬ (cntC s.items n s.items.length : Int) ≤ roomN s n) : storeB s = false := by unfold storeB; rw [chunks_no s n hn h]; simp
theorem store_end {s : StoreR} (hc : countsB s = true) (hm : mayB s.fm s.fx s.pages = true) (hl : s.items.length ≤ 1000) (hi : ∀ j, j < s.items.length → okAt s j = true)
    (q0 : inB s.h0 0 s.most = true) (q1 : inB s.h1 0 s.most = true) (q2 : inB s.h2 0 s.most = true) (q3 : inB s.h3 0 s.most = true) (hr : ∀ n : Nat, n < 4 → (cntC s.items n s.items.length : Int) ≤ roomN s n) :
    storeB s = decide (s.h0 + s.h1 + s.h2 + s.h3 ≤ s.most) := by
  unfold storeB heldB
  rw [hc, hm, items_yes s hl hi, chunks_yes s hr, q0, q1, q2, q3]
  simp

set_option maxHeartbeats 8000000 in
set_option maxRecDepth 100000 in
theorem storeMay_any (s : StoreR) (ia : Option Addr) (ic : Nat) (pa : Option Addr) (pc : Nat) (w : World) (hS : StoreIn w s ia pa) (hok : ItemsOk s.items) (hvi : VIn) :
    Calls Tryd.prog 14 #[storeV s ia ic pa pc] w fun e w' => e = .returned (.bool (storeB s)) ∧ Below w.heap.size w w' := by
  have cm := fun w1 hb => may_any s.fm s.fx s.pages pa pc w1 (hS.2.later hb) (fun l a c w h1 h2 h3 h4 => (hvi l a c w h1 h2 h3 h4).mono fun e w' ⟨u, v, g1, g2, _⟩ => ⟨u, v, g1, g2⟩)
  have cf := fun (n p : Int) w1 hb => flashRead_any s.fm s.fx s.pages pa pc n p w1 (hS.2.later hb) hvi
  have RS : Hid (mayB s.fm s.fx s.pages = true → ∀ n p, readS s.fm s.fx s.pages n p = findS s.pages n p ∧ readN s.fm s.fx s.pages n p = findN s.pages n p) := fun h n p => by unfold readS readN; rw [if_pos h, if_pos h]; exact ⟨rfl, rfl⟩
  have cc := fun (c : Int) (hl : s.items.length ≤ 1000) w1 hb => inClass_any s c ia ic pa pc w1 (hS.1.later hb) hok hl
  have EC : Hid (countsB s = false → storeB s = false) := store_counts_no
  have EQ : Hid (countsB s = (inB s.clock 0 1099511627776 && (inB s.cas 0 1099511627776 && (inB s.uses 0 1099511627776 && inB s.most 0 40)))) := rfl
  have EL : Hid (1000 < s.items.length → storeB s = false) := store_long
  have EM : Hid (mayB s.fm s.fx s.pages = false → storeB s = false) := store_may_no
  have EI : Hid (∀ k, k < s.items.length → okAt s k = false → storeB s = false) := store_item_no
  have EH : Hid (∀ n, n < 4 → inB (heldN s n) 0 s.most = false → storeB s = false) := store_held_no
  have ER : Hid (∀ n : Nat, n < 4 → ¬ (cntC s.items n s.items.length : Int) ≤ roomN s n → storeB s = false) := store_room_no
  have EE : Hid (countsB s = true → mayB s.fm s.fx s.pages = true → s.items.length ≤ 1000 → (∀ j, j < s.items.length → okAt s j = true) → inB s.h0 0 s.most = true → inB s.h1 0 s.most = true → inB s.h2 0 s.most = true → inB s.h3 0 s.most = true →
    (∀ n : Nat, n < 4 → (cntC s.items n s.items.length : Int) ≤ roomN s n) → storeB s = decide (s.h0 + s.h1 + s.h2 + s.h3 ≤ s.most)) := store_end
  have EO : Hid (∀ k, okAt s k = (orderB s.items k && (fieldsB s (s.items.getD k default) && valueB s.pages (s.items.getD k default)))) := fun _ => rfl
  have EF : Hid (∀ it, fieldsB s it = (keyB it.key && (inB it.flags 0 65535 && (inB it.until_ 0 1099511627776 && (inB it.cas 1 s.cas && inB it.used 1 s.uses))))) := fun _ => rfl
  have RM : Hid (∀ n, roomN s n = heldN s n * perN n) := fun _ => rfl
  generalize storeB s = R at *
  generalize okAt s = OK at *
  generalize fieldsB s = FB at *
  have d1 := fun w1 => big_any s.clock w1
  have d2 := fun w1 => big_any s.cas w1
  have d3 := fun w1 => big_any s.uses w1
  have d4 := fun w1 => in_any s.most 0 40 w1
  have e0 := fun w1 => in_any s.h0 0 s.most w1
  have e1 := fun w1 => in_any s.h1 0 s.most w1
  have e2 := fun w1 => in_any s.h2 0 s.most w1
  have e3 := fun w1 => in_any s.h3 0 s.most w1
  have HM0 : Hid (inB s.most 0 40 = true → s.most ≤ 40) := fun h => ((inB_iff _ _ _).1 h).2
  have HH : Hid (heldN s 0 = s.h0 ∧ heldN s 1 = s.h1 ∧ heldN s 2 = s.h2 ∧ heldN s 3 = s.h3) := ⟨rfl, rfl, rfl, rfl⟩
  generalize heldN s = HD at *
  generalize roomN s = RO at *
  generalize mayB s.fm s.fx s.pages = b6 at *
  obtain ⟨⟨hmax, hmm⟩, _⟩ := hS
  unfold maxLen at hmax
  generalize countsB s = CB at *
  obtain ⟨clock, scas, uses, most, h0, h1, h2, h3, items, fm, fx, pages⟩ := s
  unfold storeV at *
  simp only at *
  generalize inB clock 0 1099511627776 = b1 at *
  generalize inB scas 0 1099511627776 = b2 at *
  generalize inB uses 0 1099511627776 = b3 at *
  generalize inB most 0 40 = b4 at *
  have hB0 : ∀ o, Below w.heap.size w (w.alloc o) := fun o => (Below.refl _ _).alloc (Nat.le_refl _) _
  have BS : Hid (∀ w1, Below (w.alloc (.cells #[.int .i64 clock, .int .i64 scas, .int .i64 uses, .int .i64 most, .int .i64 h0, .int .i64 h1, .int .i64 h2, .int .i64 h3, .slice ia items.length ic, .int .i64 fm, .int .i64 fx, .slice pa pages.length pc] 29)).heap.size (w.alloc (.cells #[.int .i64 clock, .int .i64 scas, .int .i64 uses, .int .i64 most, .int .i64 h0, .int .i64 h1, .int .i64 h2, .int .i64 h3, .slice ia items.length ic, .int .i64 fm, .int .i64 fx, .slice pa pages.length pc] 29)) w1 → ∀ j, w1.cell? ⟨w.heap.size, j, none⟩ = (#[.int .i64 clock, .int .i64 scas, .int .i64 uses, .int .i64 most, .int .i64 h0, .int .i64 h1, .int .i64 h2, .int .i64 h3, .slice ia items.length ic, .int .i64 fm, .int .i64 fx, .slice pa pages.length pc] : Array Value)[j]?) := fun w1 hb j => by rw [hb.cell (p := ⟨w.heap.size, j, none⟩) (by simp)]; simp [go_sem]
  go_enter Tryd.func14, Tryd.ntmps14
  go_wp2_with fail
  refine (d1 _).mono ?_
  rintro e w' ⟨rfl, hw⟩
  obtain rfl := hw.symm
  clear hw
  cases b1
  · have E2 : Hid (R = false) := EC.out (by rw [EQ.out]; simp)
    clear cm cf cc d1 d2 d3 d4 e0 e1 e2 e3 EC EL EM EI EH ER EE EO EF
    go_wp2
    go_ret
    exact ⟨ret_bool E2.out.symm, hB0 _⟩
  go_wp2_with fail
  refine (d2 _).mono ?_
  rintro e w' ⟨rfl, hw⟩
  obtain rfl := hw.symm
  clear hw
  cases b2
  · have E2 : Hid (R = false) := EC.out (by rw [EQ.out]; simp)
    clear cm cf cc d1 d2 d3 d4 e0 e1 e2 e3 EC EL EM EI EH ER EE EO EF
    go_wp2
    go_ret
    exact ⟨ret_bool E2.out.symm, hB0 _⟩
  go_wp2_with fail
  refine (d3 _).mono ?_
  rintro e w' ⟨rfl, hw⟩
  obtain rfl := hw.symm
  clear hw
  cases b3
  · have E2 : Hid (R = false) := EC.out (by rw [EQ.out]; simp)
    clear cm cf cc d1 d2 d3 d4 e0 e1 e2 e3 EC EL EM EI EH ER EE EO EF
    go_wp2
    go_ret
    exact ⟨ret_bool E2.out.symm, hB0 _⟩
  go_wp2_with fail
  refine (d4 _).mono ?_
  rintro e w' ⟨rfl, hw⟩
  obtain rfl := hw.symm
  clear hw
  cases b4
  · have E2 : Hid (R = false) := EC.out (by rw [EQ.out]; simp)
    clear cm cf cc d1 d2 d3 d4 e0 e1 e2 e3 EC EL EM EI EH ER EE EO EF
    go_wp2
    go_ret
    exact ⟨ret_bool E2.out.symm, hB0 _⟩
  by_cases hlong : 1000 < items.length
  · have hlongz : (1000 : Int) < (items.length : Int) := by omega
    have E2 : Hid (R = false) := EL.out hlong
    clear cm cf cc d1 d2 d3 d4 e0 e1 e2 e3 EC EL EM EI EH ER EE EO EF
    go_wp2
    go_ret
    exact ⟨ret_bool E2.out.symm, hB0 _⟩
  have hlongz : ¬ (1000 : Int) < (items.length : Int) := by omega
  have hlong2 : items.length ≤ 1000 := by omega
  have cc2 := fun c w1 hb => cc c hlong2 w1 hb
  clear cc d1 d2 d3 d4 EL
  go_wp2_with fail
  refine (cm _ (hB0 _)).mono ?_
  rintro e w1 ⟨rfl, hb1⟩
  have hz1 := bsize hb1
  have hB1 : Below w.heap.size w w1 := (hB0 _).trans (hb1.mono (by simp))
  have bs1 := BS.out w1 hb1
  clear cm
  cases b6
  · have E2 : Hid (R = false) := EM.out (by trivial)
    clear cf cc2 e0 e1 e2 e3 EC EM EI EH ER EE EO EF
    go_wp2
    go_ret
    exact ⟨ret_bool E2.out.symm, hB1⟩
  have hRS := RS.out (by trivial)
  have cf2 : ∀ (n p : Int) w1, Below w.heap.size w w1 → Calls Tryd.prog 30 #[.agg #[.int .i64 fm, .int .i64 fx, .slice pa pages.length pc], .agg #[.int .i64 n, .int .i64 p]] w1 fun e w' => e = .returned (.tuple #[.string (findS pages n p), .int .i64 (findN pages n p)]) ∧ Below w1.heap.size w1 w' := fun n p w1 hb => by
    have h := cf n p w1 hb
    rw [(hRS n p).1, (hRS n p).2] at h
    exact h
  have EE2 : Hid ((∀ j, j < items.length → OK j = true) → inB h0 0 most = true → inB h1 0 most = true → inB h2 0 most = true → inB h3 0 most = true → (∀ n : Nat, n < 4 → (cntC items n items.length : Int) ≤ RO n) → R = decide (h0 + h1 + h2 + h3 ≤ most)) := EE.out (by rw [EQ.out]; rfl) (by trivial) hlong2
  clear cf hRS RS EE EC EM EQ
  have HM : Hid (most ≤ 40) := HM0.out (by trivial)
  go_wp2_with fail
  go_loopw [3] (fun i wr => ∃ k : Nat, k ≤ items.length ∧ i = .int .i64 k ∧ Hid (∀ j, j < k → OK j = true) ∧ Below w1.heap.size w1 wr) (fun i _ => items.length - (intOf i).toNat)
  case atStart => exact ⟨0, Nat.zero_le _, rfl, fun j hj => absurd hj (Nat.not_lt_zero _), Below.refl _ _⟩
  case round =>
    obtain ⟨k, hk, rfl, A, hb⟩ := hrel
    have hbw : Below w.heap.size w wr := hB1.trans (hb.mono hB1.size)
    have bs : ∀ j, wr.cell? ⟨w.heap.size, j, none⟩ = (#[.int .i64 clock, .int .i64 scas, .int .i64 uses, .int .i64 most, .int .i64 h0, .int .i64 h1, .int .i64 h2, .int .i64 h3, .slice ia items.length ic, .int .i64 fm, .int .i64 fx, .slice pa pages.length pc] : Array Value)[j]? := BS.out wr (hb1.trans (hb.mono hb1.size))
    have hz : w.heap.size < wr.heap.size := Nat.lt_of_lt_of_le hz1 hb.size
    clear bs1
    by_cases hlt : k < items.length
    · skip
      have hltz : (k : Int) < (items.length : Int) := by omega
      have hk0 : (0 : Int) ≤ (k : Int) := Int.natCast_nonneg _
      have hno : Hid (OK k = false → R = false) := fun h => EI.out k hlt h
      have hOkA : Hid (OK k = (orderB items k && (FB (items.getD k default) && valueB pages (items.getD k default)))) := EO.out k
      have hFB := EF.out (items.getD k default)
      rcases hmm with hmm | ⟨b, o, rfl, hbl, hc⟩
      · omega
      obtain ⟨n0, n1, n2, n3, n4, n5, n6, n7, n8⟩ := (hc k hlt).later hbl hbw
      have hlb : b < wr.heap.size := Nat.lt_of_lt_of_le hbl hbw.size
      obtain ⟨z1, z2, z3, z4⟩ := hok k hlt
      unfold maxLen at z1 z2
      have ck := fun w1 => keyMay_any (items.getD k default).key w1 z1
      have c1 := fun w1 => in_any (items.getD k default).flags 0 65535 w1
      have c2 := fun w1 => big_any (items.getD k default).until_ w1
      have c3 := fun w1 => in_any (items.getD k default).cas 1 scas w1
      have c4 := fun w1 => in_any (items.getD k default).used 1 uses w1
      have OR : Hid (orderB items k = !(decide (0 < k) && leB (items.getD k default).key (items.getD (k - 1) default).key)) := rfl
      have VB : Hid (valueB pages (items.getD k default) = if (items.getD k default).far = true then (items.getD k default).value.toList.isEmpty && (decide (findN pages (items.getD k default).page (items.getD k default).at_ = 0) && decide (24 ≤ (findS pages (items.getD k default).page (items.getD k default).at_).size)) else decide ((items.getD k default).value.size ≤ 200) && (decide ((items.getD k default).page = 0) && decide ((items.getD k default).at_ = 0))) := rfl
      have hpk : Hid (∀ q, k = q + 1 → wr.cell? ⟨b, o + q * 9, none⟩ = some (.string (items.getD q default).key)) := fun q hq => ((hc q (by omega)).later hbl hbw).1
      have hcf := fun w1 hb => cf2 (items.getD k default).page (items.getD k default).at_ w1 hb
      have hOk0 : Hid (OK k = (orderB items k && ((keyB (items.getD k default).key && (inB (items.getD k default).flags 0 65535 && (inB (items.getD k default).until_ 0 1099511627776 && (inB (items.getD k default).cas 1 scas && inB (items.getD k default).used 1 uses)))) && valueB pages (items.getD k default)))) := by unfold Hid; rw [hOkA.out, hFB]
      have hPK : Hid (∀ q, k = q + 1 → orderB items k = !(leB (items.getD k default).key (items.getD q default).key)) := fun q hq => by rw [OR.out]; subst hq; rw [decide_eq_true (by omega : 0 < q + 1)]; rfl
      clear hc hok EI EO EF hOkA hFB cf2 e0 e1 e2 e3 cc2 EH ER EE2 RM HH
      generalize valueB pages (items.getD k default) = bV at *
      generalize orderB items k = bO at *
      generalize keyB (items.getD k default).key = f0 at *
      generalize inB (items.getD k default).flags 0 65535 = f1 at *
      generalize inB (items.getD k default).until_ 0 1099511627776 = f2 at *
      generalize inB (items.getD k default).cas 1 scas = f3 at *
      generalize inB (items.getD k default).used 1 uses = f4 at *
      generalize items.getD k default = it at *
      obtain ⟨key, flags, until_, cas, used, value, far, page, at_⟩ := it
      simp only at *
      have hA1 : Below wr.heap.size wr (wr.alloc (.cells #[.string key, .int .i64 flags, .int .i64 until_, .int .i64 cas, .int .i64 used, .string value, .bool far, .int .i64 page, .int .i64 at_] 49)) := (Below.refl _ _).alloc (Nat.le_refl _) _
      have hbw2 : Below w.heap.size w (wr.alloc (.cells #[.string key, .int .i64 flags, .int .i64 until_, .int .i64 cas, .int .i64 used, .string value, .bool far, .int .i64 page, .int .i64 at_] 49)) := hbw.trans (hA1.mono hbw.size)
      go_wp2_with fail
      refine (ck _).mono ?_
      rintro e w' ⟨rfl, hw⟩
      obtain rfl := hw.symm
      clear hw
      cases f0
      · have E2 : Hid (R = false) := hno.out (by rw [hOk0.out]; simp)
        go_wp2
        go_ret
        exact ⟨ret_bool E2.out.symm, hbw2⟩
      go_wp2_with fail
      refine (c1 _).mono ?_
      rintro e w' ⟨rfl, hw⟩
      obtain rfl := hw.symm
      clear hw
      cases f1
      · have E2 : Hid (R = false) := hno.out (by rw [hOk0.out]; simp)
        go_wp2
        go_ret
        exact ⟨ret_bool E2.out.symm, hbw2⟩
      go_wp2_with fail
      refine (c2 _).mono ?_
      rintro e w' ⟨rfl, hw⟩
      obtain rfl := hw.symm
      clear hw
      cases f2
      · have E2 : Hid (R = false) := hno.out (by rw [hOk0.out]; simp)
        go_wp2
        go_ret
        exact ⟨ret_bool E2.out.symm, hbw2⟩
      go_wp2_with fail
      refine (c3 _).mono ?_
      rintro e w' ⟨rfl, hw⟩
      obtain rfl := hw.symm
      clear hw
      cases f3
      · have E2 : Hid (R = false) := hno.out (by rw [hOk0.out]; simp)
        go_wp2
        go_ret
        exact ⟨ret_bool E2.out.symm, hbw2⟩
      go_wp2_with fail
      refine (c4 _).mono ?_
      rintro e w' ⟨rfl, hw⟩
      obtain rfl := hw.symm
      clear hw
      cases f4
      · have E2 : Hid (R = false) := hno.out (by rw [hOk0.out]; simp)
        go_wp2
        go_ret
        exact ⟨ret_bool E2.out.symm, hbw2⟩
      by_cases hv : value.size ≤ 200
      rotate_left
      · have hvz : (200 : Int) < (value.size : Int) := by omega
        have hVn : bV = false := by
          rw [VB.out]
          cases far
          · rw [if_neg (by decide), decide_eq_false hv]; rfl
          · have he : value.toList.isEmpty = false := by
              cases hq : value.toList.isEmpty
              · rfl
              · have hl := List.isEmpty_iff.1 hq
                have hs : value.toList.length = value.size := toList_len value
                rw [hl] at hs
                simp at hs
                omega
            rw [if_pos rfl, he]; rfl
        subst hVn
        have E2 : Hid (R = false) := hno.out (by rw [hOk0.out]; simp)
        go_wp2
        go_ret
        exact ⟨ret_bool E2.out.symm, hbw2⟩
      have hvz : ¬ (200 : Int) < (value.size : Int) := by omega
      by_cases hkz : k = 0
      · subst hkz
        have hbO : bO = true := by rw [OR.out]; rfl
        rw [Nat.zero_mul, Nat.add_zero] at n0 n1 n2 n3 n4 n5 n6 n7 n8
        clear OR hpk hPK ck c1 c2 c3 c4
        go_wp2_with fail
        go_quiet (fail)
        have hbd : Below wr.heap.size wr ((wr.alloc (.cells #[.string key, .int .i64 flags, .int .i64 until_, .int .i64 cas, .int .i64 used, .string value, .bool far, .int .i64 page, .int .i64 at_] 49)).drewN nq) := hA1.trans ((drewN_below _ nq).mono (by simp))
        have hbw3 : Below w.heap.size w ((wr.alloc (.cells #[.string key, .int .i64 flags, .int .i64 until_, .int .i64 cas, .int .i64 used, .string value, .bool far, .int .i64 page, .int .i64 at_] 49)).drewN nq) := hbw.trans (hbd.mono hbw.size)
        have hr3 : Below w1.heap.size w1 ((wr.alloc (.cells #[.string key, .int .i64 flags, .int .i64 until_, .int .i64 cas, .int .i64 used, .string value, .bool far, .int .i64 page, .int .i64 at_] 49)).drewN nq) := hb.trans (hbd.mono hb.size)
        cases far
        · have hVn : bV = (decide (page = 0) && decide (at_ = 0)) := by rw [VB.out, if_neg (by decide), decide_eq_true hv]; rfl
          clear hcf VB
          by_cases hp : page = 0
          · subst hp
            by_cases ha : at_ = 0
            · subst ha
              have hT : OK 0 = true := by rw [hOk0.out, hVn, hbO]; rfl
              go_wp2
              go_roundw
              case rel => exact ⟨0 + 1, by omega, by go_num, (show Hid _ from fun j hj => by
                by_cases e : j = 0
                · subst e; exact hT
                · exact A.out j (by omega)), hr3⟩
              case measure => simp [intOf]; omega
            · have E2 : Hid (R = false) := hno.out (by rw [hOk0.out, hVn, decide_eq_false ha]; simp)
              have hab : (at_ != 0) = true := by simpa using ha
              go_wp2
              go_ret
              exact ⟨ret_bool E2.out.symm, hbw3⟩
          · have E2 : Hid (R = false) := hno.out (by rw [hOk0.out, hVn, decide_eq_false hp]; simp)
            have hpb : (page != 0) = true := by simpa using hp
            go_wp2
            go_ret
            exact ⟨ret_bool E2.out.symm, hbw3⟩
        · have hVn : bV = (value.toList.isEmpty && (decide (findN pages page at_ = 0) && decide (24 ≤ (findS pages page at_).size))) := by rw [VB.out, if_pos rfl]
          clear VB
          have bs3 : ∀ j, ((wr.alloc (.cells #[.string key, .int .i64 flags, .int .i64 until_, .int .i64 cas, .int .i64 used, .string value, .bool true, .int .i64 page, .int .i64 at_] 49)).drewN nq).cell? ⟨w.heap.size, j, none⟩ = (#[.int .i64 clock, .int .i64 scas, .int .i64 uses, .int .i64 most, .int .i64 h0, .int .i64 h1, .int .i64 h2, .int .i64 h3, .slice (some ⟨b, o, none⟩) items.length ic, .int .i64 fm, .int .i64 fx, .slice pa pages.length pc] : Array Value)[j]? := fun j => by rw [hbd.cell (p := ⟨w.heap.size, j, none⟩) hz]; exact bs j
          generalize findN pages page at_ = fN at *
          generalize findS pages page at_ = fS at *
          go_wp2_with fail
          refine (hcf _ hbw3).mono ?_
          rintro e w4 ⟨rfl, hb4⟩
          have hr4 := hr3.trans (hb4.mono hr3.size)
          have hbw4 := hbw3.trans (hb4.mono hbw3.size)
          have bi : ∀ j, w4.cell? ⟨wr.heap.size, j, none⟩ = (#[.string key, .int .i64 flags, .int .i64 until_, .int .i64 cas, .int .i64 used, .string value, .bool true, .int .i64 page, .int .i64 at_] : Array Value)[j]? := fun j => by
            rw [hb4.cell (p := ⟨wr.heap.size, j, none⟩) (by simp)]
            rw [(drewN_below (wr.alloc (.cells #[.string key, .int .i64 flags, .int .i64 until_, .int .i64 cas, .int .i64 used, .string value, .bool true, .int .i64 page, .int .i64 at_] 49)) nq).cell (p := ⟨wr.heap.size, j, none⟩) (by simp)]
            simp [go_sem]
          clear hcf
          by_cases hN : fN = 0
          · subst hN
            cases he : value.toList.isEmpty
            · have E2 : Hid (R = false) := hno.out (by rw [hOk0.out, hVn, he]; simp)
              go_wp2
              go_ret
              exact ⟨ret_bool E2.out.symm, hbw4⟩
            · by_cases h24 : 24 ≤ fS.size
              · have hT : OK 0 = true := by rw [hOk0.out, hVn, he, hbO, decide_eq_true h24]; rfl
                have h24z : ¬ (fS.size : Int) < 24 := by omega
                go_wp2
                go_roundw
                case rel => exact ⟨0 + 1, by omega, by go_num, (show Hid _ from fun j hj => by
                  by_cases e : j = 0
                  · subst e; exact hT
                  · exact A.out j (by omega)), hr4⟩
                case measure => simp [intOf]; omega
              · have E2 : Hid (R = false) := hno.out (by rw [hOk0.out, hVn, decide_eq_false h24]; simp)
                have h24z : (fS.size : Int) < 24 := by omega
                go_wp2
                go_ret
                exact ⟨ret_bool E2.out.symm, hbw4⟩
          · have E2 : Hid (R = false) := hno.out (by rw [hOk0.out, hVn, decide_eq_false hN]; simp)
            have hNb : (fN != 0) = true := by simpa using hN
            go_wp2
            go_ret
            exact ⟨ret_bool E2.out.symm, hbw4⟩
      · obtain ⟨q, rfl⟩ : ∃ q, k = q + 1 := ⟨k - 1, by omega⟩
        have m0 := hpk.out q rfl
        have hbO' := hPK.out q rfl
        have hk1 : (0 : Int) ≤ (q : Int) := by omega
        have hk2 : (q : Int) < (items.length : Int) := by omega
        have hk5 : IntKind.i64.wrap (((q + 1 : Nat) : Int) - 1) = (q : Int) := by simp only [IntKind.wrap_i64]; omega
        have hk6 : IntKind.i64.wrap ((q : Int) + 1 - 1) = (q : Int) := by simp only [IntKind.wrap_i64]; omega
        have hk7 : IntKind.i64.wrap (q : Int) = (q : Int) := by simp only [IntKind.wrap_i64]; omega
        clear OR hpk hPK hkz ck c1 c2 c3 c4
        generalize items.getD q default = pr at *
        obtain ⟨pkey, _, _, _, _, _, _, _, _⟩ := pr
        simp only at *
        have LE : (Op.bytesLess key.toList pkey.toList || key.toList == pkey.toList) = leB key pkey := rfl
        generalize leB key pkey = bL at *
        go_wp2_with fail
        go_quiet (fail)
        have hbd : Below wr.heap.size wr ((wr.alloc (.cells #[.string key, .int .i64 flags, .int .i64 until_, .int .i64 cas, .int .i64 used, .string value, .bool far, .int .i64 page, .int .i64 at_] 49)).drewN nq) := hA1.trans ((drewN_below _ nq).mono (by simp))
        have hbw3 : Below w.heap.size w ((wr.alloc (.cells #[.string key, .int .i64 flags, .int .i64 until_, .int .i64 cas, .int .i64 used, .string value, .bool far, .int .i64 page, .int .i64 at_] 49)).drewN nq) := hbw.trans (hbd.mono hbw.size)
        have hr3 : Below w1.heap.size w1 ((wr.alloc (.cells #[.string key, .int .i64 flags, .int .i64 until_, .int .i64 cas, .int .i64 used, .string value, .bool far, .int .i64 page, .int .i64 at_] 49)).drewN nq) := hb.trans (hbd.mono hb.size)
        cases bL
        rotate_left
        · have E2 : Hid (R = false) := hno.out (by rw [hOk0.out, hbO']; simp)
          go_wp2
          go_ret
          exact ⟨ret_bool E2.out.symm, hbw3⟩
        have hbO : bO = true := by rw [hbO']; rfl
        cases far
        · have hVn : bV = (decide (page = 0) && decide (at_ = 0)) := by rw [VB.out, if_neg (by decide), decide_eq_true hv]; rfl
          clear hcf VB
          by_cases hp : page = 0
          · subst hp
            by_cases ha : at_ = 0
            · subst ha
              have hT : OK (q + 1) = true := by rw [hOk0.out, hVn, hbO]; rfl
              go_wp2
              go_roundw
              case rel => exact ⟨(q + 1) + 1, by omega, by go_num, (show Hid _ from fun j hj => by
                by_cases e : j = (q + 1)
                · subst e; exact hT
                · exact A.out j (by omega)), hr3⟩
              case measure => simp [intOf]; omega
            · have E2 : Hid (R = false) := hno.out (by rw [hOk0.out, hVn, decide_eq_false ha]; simp)
              have hab : (at_ != 0) = true := by simpa using ha
              go_wp2
              go_ret
              exact ⟨ret_bool E2.out.symm, hbw3⟩
          · have E2 : Hid (R = false) := hno.out (by rw [hOk0.out, hVn, decide_eq_false hp]; simp)
            have hpb : (page != 0) = true := by simpa using hp
            go_wp2
            go_ret
            exact ⟨ret_bool E2.out.symm, hbw3⟩
        · have hVn : bV = (value.toList.isEmpty && (decide (findN pages page at_ = 0) && decide (24 ≤ (findS pages page at_).size))) := by rw [VB.out, if_pos rfl]
          clear VB
          have bs3 : ∀ j, ((wr.alloc (.cells #[.string key, .int .i64 flags, .int .i64 until_, .int .i64 cas, .int .i64 used, .string value, .bool true, .int .i64 page, .int .i64 at_] 49)).drewN nq).cell? ⟨w.heap.size, j, none⟩ = (#[.int .i64 clock, .int .i64 scas, .int .i64 uses, .int .i64 most, .int .i64 h0, .int .i64 h1, .int .i64 h2, .int .i64 h3, .slice (some ⟨b, o, none⟩) items.length ic, .int .i64 fm, .int .i64 fx, .slice pa pages.length pc] : Array Value)[j]? := fun j => by rw [hbd.cell (p := ⟨w.heap.size, j, none⟩) hz]; exact bs j
          generalize findN pages page at_ = fN at *
          generalize findS pages page at_ = fS at *
          go_wp2_with fail
          refine (hcf _ hbw3).mono ?_
          rintro e w4 ⟨rfl, hb4⟩
          have hr4 := hr3.trans (hb4.mono hr3.size)
          have hbw4 := hbw3.trans (hb4.mono hbw3.size)
          have bi : ∀ j, w4.cell? ⟨wr.heap.size, j, none⟩ = (#[.string key, .int .i64 flags, .int .i64 until_, .int .i64 cas, .int .i64 used, .string value, .bool true, .int .i64 page, .int .i64 at_] : Array Value)[j]? := fun j => by
            rw [hb4.cell (p := ⟨wr.heap.size, j, none⟩) (by simp)]
            rw [(drewN_below (wr.alloc (.cells #[.string key, .int .i64 flags, .int .i64 until_, .int .i64 cas, .int .i64 used, .string value, .bool true, .int .i64 page, .int .i64 at_] 49)) nq).cell (p := ⟨wr.heap.size, j, none⟩) (by simp)]
            simp [go_sem]
          clear hcf
          by_cases hN : fN = 0
          · subst hN
            cases he : value.toList.isEmpty
            · have E2 : Hid (R = false) := hno.out (by rw [hOk0.out, hVn, he]; simp)
              go_wp2
              go_ret
              exact ⟨ret_bool E2.out.symm, hbw4⟩
            · by_cases h24 : 24 ≤ fS.size
              · have hT : OK (q + 1) = true := by rw [hOk0.out, hVn, he, hbO, decide_eq_true h24]; rfl
                have h24z : ¬ (fS.size : Int) < 24 := by omega
                go_wp2
                go_roundw
                case rel => exact ⟨(q + 1) + 1, by omega, by go_num, (show Hid _ from fun j hj => by
                  by_cases e : j = (q + 1)
                  · subst e; exact hT
                  · exact A.out j (by omega)), hr4⟩
                case measure => simp [intOf]; omega
              · have E2 : Hid (R = false) := hno.out (by rw [hOk0.out, hVn, decide_eq_false h24]; simp)
                have h24z : (fS.size : Int) < 24 := by omega
                go_wp2
                go_ret
                exact ⟨ret_bool E2.out.symm, hbw4⟩
          · have E2 : Hid (R = false) := hno.out (by rw [hOk0.out, hVn, decide_eq_false hN]; simp)
            have hNb : (fN != 0) = true := by simpa using hN
            go_wp2
            go_ret
            exact ⟨ret_bool E2.out.symm, hbw4⟩
    · have hltz : ¬ (k : Int) < (items.length : Int) := by omega
      have EE3 := EE2.out (fun j hj => A.out j (by omega))
      have CN : ∀ c, -1000000 ≤ (cntC items c items.length : Int) ∧ (cntC items c items.length : Int) ≤ 1000 := fun c => ⟨by omega, by have := cntC_le items c items.length; omega⟩
      clear hmm EI EO EF cf2 EE2 A hok
      obtain ⟨HH0, HH1, HH2, HH3⟩ := HH.out
      have ro0 : RO 0 = h0 * 8 := by rw [RM.out, HH0]; rfl
      have ro1 : RO 1 = h1 * 4 := by rw [RM.out, HH1]; rfl
      have ro2 : RO 2 = h2 * 2 := by rw [RM.out, HH2]; rfl
      have ro3 : RO 3 = h3 * 1 := by rw [RM.out, HH3]; rfl
      have g0 : Hid (inB h0 0 most = false → R = false) := fun h => EH.out 0 (by omega) (by rw [HH0]; exact h)
      have g1 : Hid (inB h1 0 most = false → R = false) := fun h => EH.out 1 (by omega) (by rw [HH1]; exact h)
      have g2 : Hid (inB h2 0 most = false → R = false) := fun h => EH.out 2 (by omega) (by rw [HH2]; exact h)
      have g3 : Hid (inB h3 0 most = false → R = false) := fun h => EH.out 3 (by omega) (by rw [HH3]; exact h)
      have m0 : Hid (¬ (cntC items 0 items.length : Int) ≤ h0 * 8 → R = false) := fun h => ER.out 0 (by omega) (by rw [ro0]; exact Int.not_le.1 h)
      have m1 : Hid (¬ (cntC items 1 items.length : Int) ≤ h1 * 4 → R = false) := fun h => ER.out 1 (by omega) (by rw [ro1]; exact Int.not_le.1 h)
      have m2 : Hid (¬ (cntC items 2 items.length : Int) ≤ h2 * 2 → R = false) := fun h => ER.out 2 (by omega) (by rw [ro2]; exact Int.not_le.1 h)
      have m3 : Hid (¬ (cntC items 3 items.length : Int) ≤ h3 * 1 → R = false) := fun h => ER.out 3 (by omega) (by rw [ro3]; exact Int.not_le.1 h)
      have EE4 : Hid (inB h0 0 most = true → inB h1 0 most = true → inB h2 0 most = true → inB h3 0 most = true → (cntC items 0 items.length : Int) ≤ h0 * 8 → (cntC items 1 items.length : Int) ≤ h1 * 4 → (cntC items 2 items.length : Int) ≤ h2 * 2 → (cntC items 3 items.length : Int) ≤ h3 * 1 → R = decide (h0 + h1 + h2 + h3 ≤ most)) := fun a0 a1 a2 a3 k0 k1 k2 k3 => EE3 a0 a1 a2 a3 fun n hn => by
        have hn : n = 0 ∨ n = 1 ∨ n = 2 ∨ n = 3 := by omega
        rcases hn with rfl | rfl | rfl | rfl
        · rw [ro0]; exact k0
        · rw [ro1]; exact k1
        · rw [ro2]; exact k2
        · rw [ro3]; exact k3
      have x0 := fun w1 hb => cc2 0 w1 hb
      have x1 := fun w1 hb => cc2 1 w1 hb
      have x2 := fun w1 hb => cc2 2 w1 hb
      have x3 := fun w1 hb => cc2 3 w1 hb
      have s0 : ∀ w1, Calls Tryd.prog 32 #[.int .i64 0] w1 fun e w' => e = .returned (.int .i64 32) ∧ Below w1.heap.size w1 w' := fun w1 => sizeOf_any 0 (by omega) w1
      have s1 : ∀ w1, Calls Tryd.prog 32 #[.int .i64 1] w1 fun e w' => e = .returned (.int .i64 64) ∧ Below w1.heap.size w1 w' := fun w1 => sizeOf_any 1 (by omega) w1
      have s2 : ∀ w1, Calls Tryd.prog 32 #[.int .i64 2] w1 fun e w' => e = .returned (.int .i64 128) ∧ Below w1.heap.size w1 w' := fun w1 => sizeOf_any 2 (by omega) w1
      have s3 : ∀ w1, Calls Tryd.prog 32 #[.int .i64 3] w1 fun e w' => e = .returned (.int .i64 256) ∧ Below w1.heap.size w1 w' := fun w1 => sizeOf_any 3 (by omega) w1
      have IR0 : Hid (inB h0 0 most = true → 0 ≤ h0 ∧ h0 ≤ most) := (inB_iff _ _ _).1
      have IR1 : Hid (inB h1 0 most = true → 0 ≤ h1 ∧ h1 ≤ most) := (inB_iff _ _ _).1
      have IR2 : Hid (inB h2 0 most = true → 0 ≤ h2 ∧ h2 ≤ most) := (inB_iff _ _ _).1
      have IR3 : Hid (inB h3 0 most = true → 0 ≤ h3 ∧ h3 ≤ most) := (inB_iff _ _ _).1
      clear cc2 EE3 EH ER RM HH HH0 HH1 HH2 HH3 ro0 ro1 ro2 ro3
      generalize lastN items 0 items.length = t0 at *
      generalize lastN items 1 items.length = t1 at *
      generalize lastN items 2 items.length = t2 at *
      generalize lastN items 3 items.length = t3 at *
      have CN0 := CN 0
      have CN1 := CN 1
      have CN2 := CN 2
      have CN3 := CN 3
      clear CN
      generalize cntC items 0 items.length = k0 at *
      generalize cntC items 1 items.length = k1 at *
      generalize cntC items 2 items.length = k2 at *
      generalize cntC items 3 items.length = k3 at *
      generalize inB h0 0 most = a0 at *
      generalize inB h1 0 most = a1 at *
      generalize inB h2 0 most = a2 at *
      generalize inB h3 0 most = a3 at *
      have hwo : ∃ x, x = wr := ⟨_, rfl⟩
      obtain ⟨wo, hwo⟩ := hwo
      subst hwo
      go_wp2_with fail
      go_loopw [7, 8] (fun t i wq => ((i = .int .i64 0 ∧ t = .int .i64 0) ∨ (i = .int .i64 1 ∧ t = .int .i64 h0 ∧ a0 = true ∧ (k0 : Int) ≤ h0 * 8) ∨ (i = .int .i64 2 ∧ t = .int .i64 (h0 + h1) ∧ a0 = true ∧ (k0 : Int) ≤ h0 * 8 ∧ a1 = true ∧ (k1 : Int) ≤ h1 * 4) ∨
        (i = .int .i64 3 ∧ t = .int .i64 (h0 + h1 + h2) ∧ a0 = true ∧ (k0 : Int) ≤ h0 * 8 ∧ a1 = true ∧ (k1 : Int) ≤ h1 * 4 ∧ a2 = true ∧ (k2 : Int) ≤ h2 * 2) ∨
        (i = .int .i64 4 ∧ t = .int .i64 (h0 + h1 + h2 + h3) ∧ a0 = true ∧ (k0 : Int) ≤ h0 * 8 ∧ a1 = true ∧ (k1 : Int) ≤ h1 * 4 ∧ a2 = true ∧ (k2 : Int) ≤ h2 * 2 ∧ a3 = true ∧ (k3 : Int) ≤ h3 * 1)) ∧ Below wo.heap.size wo wq) (fun _ i _ => 4 - (intOf i).toNat)
      case atStart => exact ⟨Or.inl ⟨rfl, rfl⟩, Below.refl _ _⟩
      case round =>
        obtain ⟨hor, hq⟩ := hrel
        have hbq : Below w.heap.size w wr := hbw.trans (hq.mono hbw.size)
        rcases hor with ⟨rfl, rfl⟩ | ⟨rfl, rfl, rfl, y0⟩ | ⟨rfl, rfl, rfl, y0, rfl, y1⟩ | ⟨rfl, rfl, rfl, y0, rfl, y1, rfl, y2⟩ | ⟨rfl, rfl, rfl, y0, rfl, y1, rfl, y2, rfl, y3⟩
        · clear x1 e1 s1 x2 e2 s2 x3 e3 s3 EE4
          have bq : ∀ j, wr.cell? ⟨w.heap.size, j, none⟩ = (#[.int .i64 clock, .int .i64 scas, .int .i64 uses, .int .i64 most, .int .i64 h0, .int .i64 h1, .int .i64 h2, .int .i64 h3, .slice ia items.length ic, .int .i64 fm, .int .i64 fx, .slice pa pages.length pc] : Array Value)[j]? := fun j => by rw [hq.cell (p := ⟨w.heap.size, j, none⟩) hz]; exact bs j
          go_wp2_with fail
          refine (x0 _ hbq).mono ?_
          rintro e w2 ⟨rfl, hb2⟩
          have hr2 : Below wo.heap.size wo w2 := hq.trans (hb2.mono hq.size)
          have hb2w : Below w.heap.size w w2 := hbq.trans (hb2.mono hbq.size)
          have hzz : w.heap.size < w2.heap.size := Nat.lt_of_lt_of_le hz hr2.size
          have b2 : ∀ j, w2.cell? ⟨w.heap.size, j, none⟩ = (#[.int .i64 clock, .int .i64 scas, .int .i64 uses, .int .i64 most, .int .i64 h0, .int .i64 h1, .int .i64 h2, .int .i64 h3, .slice ia items.length ic, .int .i64 fm, .int .i64 fx, .slice pa pages.length pc] : Array Value)[j]? := fun j => by rw [hr2.cell (p := ⟨w.heap.size, j, none⟩) hz]; exact bs j
          clear x0 bs bq hb2
          cases a0
          · have E2 : Hid (R = false) := g0.out (by trivial)
            clear g0 g1 g2 g3 m0 m1 m2 m3 s0
            go_wp2_with fail
            go_quiet ((go_at_call 27; exact Calls.quiet_of_same (e0 _)))
            go_wp2
            go_ret
            exact ⟨ret_bool E2.out.symm, hb2w.trans ((drewN_below w2 nq).mono hb2w.size)⟩
          · obtain ⟨i1, i2⟩ := IR0.out (by trivial)
            have bx : ∀ wx, Below w2.heap.size w2 wx → ∀ j, wx.cell? ⟨w.heap.size, j, none⟩ = (#[.int .i64 clock, .int .i64 scas, .int .i64 uses, .int .i64 most, .int .i64 h0, .int .i64 h1, .int .i64 h2, .int .i64 h3, .slice ia items.length ic, .int .i64 fm, .int .i64 fx, .slice pa pages.length pc] : Array Value)[j]? := fun wx hx j => by rw [hx.cell (p := ⟨w.heap.size, j, none⟩) hzz]; exact b2 j
            have hWd : Below w2.heap.size w2 w2.drew := (Below.refl _ _).drew
            have hm40 : most ≤ 40 := HM.out
            have wz : IntKind.i64.wrap (h0 * IntKind.i64.wrap 8) = h0 * 8 := by simp only [IntKind.wrap_i64]; omega
            have wx : IntKind.i64.wrap (h0 * 8) = h0 * 8 := by simp only [IntKind.wrap_i64]; omega
            by_cases hle : (k0 : Int) ≤ h0 * 8
            · clear g0 g1 g2 g3 m0 m1 m2 m3
              have hlz : ¬ (h0 * 8 < (k0 : Int)) := by omega
              have hlb : decide (h0 * 8 < (k0 : Int)) = false := decide_eq_false hlz
              go_wp2_with fail
              go_region_held3 (fun w' => ∀ j, w'.cell? ⟨w.heap.size, j, none⟩ = (#[.int .i64 clock, .int .i64 scas, .int .i64 uses, .int .i64 most, .int .i64 h0, .int .i64 h1, .int .i64 h2, .int .i64 h3, .slice ia items.length ic, .int .i64 fm, .int .i64 fx, .slice pa pages.length pc] : Array Value)[j]?) (first | exact bx _ hWd | exact bx _ (hWd.trans (hb3.mono hWd.size))) (first | (go_at_call 27; refine (e0 _).mono ?_; rintro e w' ⟨rfl, hw⟩; obtain rfl := hw.symm) | (go_at_call 32; refine (s0 _).mono ?_; rintro e w3 ⟨rfl, hb3⟩))
              go_wp2
              go_roundw
              case rel => exact ⟨Or.inr (Or.inl ⟨by go_num, (by first | rfl | (simp; done) | (simp; unfold wrap64; omega)), by trivial, hle⟩), hr2.trans ((hWd.trans (hb3.mono hWd.size)).mono hr2.size)⟩
              case measure => simp [intOf]
            · have hlz : h0 * 8 < (k0 : Int) := by omega
              have E2 : Hid (R = false) := m0.out hlz
              clear g0 g1 g2 g3 m0 m1 m2 m3
              go_wp2_with fail
              go_region_held3 (fun w' => ∀ j, w'.cell? ⟨w.heap.size, j, none⟩ = (#[.int .i64 clock, .int .i64 scas, .int .i64 uses, .int .i64 most, .int .i64 h0, .int .i64 h1, .int .i64 h2, .int .i64 h3, .slice ia items.length ic, .int .i64 fm, .int .i64 fx, .slice pa pages.length pc] : Array Value)[j]?) (first | exact bx _ hWd | exact bx _ (hWd.trans (hb3.mono hWd.size))) (first | (go_at_call 27; refine (e0 _).mono ?_; rintro e w' ⟨rfl, hw⟩; obtain rfl := hw.symm) | (go_at_call 32; refine (s0 _).mono ?_; rintro e w3 ⟨rfl, hb3⟩))
              go_wp2
              go_ret
              exact ⟨ret_bool E2.out.symm, hb2w.trans ((hWd.trans (hb3.mono hWd.size)).mono hb2w.size)⟩
        · clear x0 e0 s0 x2 e2 s2 x3 e3 s3 EE4
          have bq : ∀ j, wr.cell? ⟨w.heap.size, j, none⟩ = (#[.int .i64 clock, .int .i64 scas, .int .i64 uses, .int .i64 most, .int .i64 h0, .int .i64 h1, .int .i64 h2, .int .i64 h3, .slice ia items.length ic, .int .i64 fm, .int .i64 fx, .slice pa pages.length pc] : Array Value)[j]? := fun j => by rw [hq.cell (p := ⟨w.heap.size, j, none⟩) hz]; exact bs j
          go_wp2_with fail
          refine (x1 _ hbq).mono ?_
          rintro e w2 ⟨rfl, hb2⟩
          have hr2 : Below wo.heap.size wo w2 := hq.trans (hb2.mono hq.size)
          have hb2w : Below w.heap.size w w2 := hbq.trans (hb2.mono hbq.size)
          have hzz : w.heap.size < w2.heap.size := Nat.lt_of_lt_of_le hz hr2.size
          have b2 : ∀ j, w2.cell? ⟨w.heap.size, j, none⟩ = (#[.int .i64 clock, .int .i64 scas, .int .i64 uses, .int .i64 most, .int .i64 h0, .int .i64 h1, .int .i64 h2, .int .i64 h3, .slice ia items.length ic, .int .i64 fm, .int .i64 fx, .slice pa pages.length pc] : Array Value)[j]? := fun j => by rw [hr2.cell (p := ⟨w.heap.size, j, none⟩) hz]; exact bs j
          clear x1 bs bq hb2
          cases a1
          · have E2 : Hid (R = false) := g1.out (by trivial)
            clear g0 g1 g2 g3 m0 m1 m2 m3 s1
            go_wp2_with fail
            go_quiet ((go_at_call 27; exact Calls.quiet_of_same (e1 _)))
            go_wp2
            go_ret
            exact ⟨ret_bool E2.out.symm, hb2w.trans ((drewN_below w2 nq).mono hb2w.size)⟩
          · obtain ⟨i1, i2⟩ := IR1.out (by trivial)
            have bx : ∀ wx, Below w2.heap.size w2 wx → ∀ j, wx.cell? ⟨w.heap.size, j, none⟩ = (#[.int .i64 clock, .int .i64 scas, .int .i64 uses, .int .i64 most, .int .i64 h0, .int .i64 h1, .int .i64 h2, .int .i64 h3, .slice ia items.length ic, .int .i64 fm, .int .i64 fx, .slice pa pages.length pc] : Array Value)[j]? := fun wx hx j => by rw [hx.cell (p := ⟨w.heap.size, j, none⟩) hzz]; exact b2 j
            have hWd : Below w2.heap.size w2 w2.drew := (Below.refl _ _).drew
            have hm40 : most ≤ 40 := HM.out
            have wz : IntKind.i64.wrap (h1 * IntKind.i64.wrap 4) = h1 * 4 := by simp only [IntKind.wrap_i64]; omega
            have wx : IntKind.i64.wrap (h1 * 4) = h1 * 4 := by simp only [IntKind.wrap_i64]; omega
            obtain ⟨_, _⟩ := IR0.out (by trivial)
            by_cases hle : (k1 : Int) ≤ h1 * 4
            · clear g0 g1 g2 g3 m0 m1 m2 m3
              have hlz : ¬ (h1 * 4 < (k1 : Int)) := by omega
              have hlb : decide (h1 * 4 < (k1 : Int)) = false := decide_eq_false hlz
              go_wp2_with fail
              go_region_held3 (fun w' => ∀ j, w'.cell? ⟨w.heap.size, j, none⟩ = (#[.int .i64 clock, .int .i64 scas, .int .i64 uses, .int .i64 most, .int .i64 h0, .int .i64 h1, .int .i64 h2, .int .i64 h3, .slice ia items.length ic, .int .i64 fm, .int .i64 fx, .slice pa pages.length pc] : Array Value)[j]?) (first | exact bx _ hWd | exact bx _ (hWd.trans (hb3.mono hWd.size))) (first | (go_at_call 27; refine (e1 _).mono ?_; rintro e w' ⟨rfl, hw⟩; obtain rfl := hw.symm) | (go_at_call 32; refine (s1 _).mono ?_; rintro e w3 ⟨rfl, hb3⟩))
              go_wp2
              go_roundw
              case rel => exact ⟨Or.inr (Or.inr (Or.inl ⟨by go_num, (by first | rfl | (simp; done) | (simp; unfold wrap64; omega)), by trivial, y0, by trivial, hle⟩)), hr2.trans ((hWd.trans (hb3.mono hWd.size)).mono hr2.size)⟩
              case measure => simp [intOf]
            · have hlz : h1 * 4 < (k1 : Int) := by omega
              have E2 : Hid (R = false) := m1.out hlz
              clear g0 g1 g2 g3 m0 m1 m2 m3
              go_wp2_with fail
              go_region_held3 (fun w' => ∀ j, w'.cell? ⟨w.heap.size, j, none⟩ = (#[.int .i64 clock, .int .i64 scas, .int .i64 uses, .int .i64 most, .int .i64 h0, .int .i64 h1, .int .i64 h2, .int .i64 h3, .slice ia items.length ic, .int .i64 fm, .int .i64 fx, .slice pa pages.length pc] : Array Value)[j]?) (first | exact bx _ hWd | exact bx _ (hWd.trans (hb3.mono hWd.size))) (first | (go_at_call 27; refine (e1 _).mono ?_; rintro e w' ⟨rfl, hw⟩; obtain rfl := hw.symm) | (go_at_call 32; refine (s1 _).mono ?_; rintro e w3 ⟨rfl, hb3⟩))
              go_wp2
              go_ret
              exact ⟨ret_bool E2.out.symm, hb2w.trans ((hWd.trans (hb3.mono hWd.size)).mono hb2w.size)⟩
        · clear x0 e0 s0 x1 e1 s1 x3 e3 s3 EE4
          have bq : ∀ j, wr.cell? ⟨w.heap.size, j, none⟩ = (#[.int .i64 clock, .int .i64 scas, .int .i64 uses, .int .i64 most, .int .i64 h0, .int .i64 h1, .int .i64 h2, .int .i64 h3, .slice ia items.length ic, .int .i64 fm, .int .i64 fx, .slice pa pages.length pc] : Array Value)[j]? := fun j => by rw [hq.cell (p := ⟨w.heap.size, j, none⟩) hz]; exact bs j
          go_wp2_with fail
          refine (x2 _ hbq).mono ?_
          rintro e w2 ⟨rfl, hb2⟩
          have hr2 : Below wo.heap.size wo w2 := hq.trans (hb2.mono hq.size)
          have hb2w : Below w.heap.size w w2 := hbq.trans (hb2.mono hbq.size)
          have hzz : w.heap.size < w2.heap.size := Nat.lt_of_lt_of_le hz hr2.size
          have b2 : ∀ j, w2.cell? ⟨w.heap.size, j, none⟩ = (#[.int .i64 clock, .int .i64 scas, .int .i64 uses, .int .i64 most, .int .i64 h0, .int .i64 h1, .int .i64 h2, .int .i64 h3, .slice ia items.length ic, .int .i64 fm, .int .i64 fx, .slice pa pages.length pc] : Array Value)[j]? := fun j => by rw [hr2.cell (p := ⟨w.heap.size, j, none⟩) hz]; exact bs j
          clear x2 bs bq hb2
          cases a2
          · have E2 : Hid (R = false) := g2.out (by trivial)
            clear g0 g1 g2 g3 m0 m1 m2 m3 s2
            go_wp2_with fail
            go_quiet ((go_at_call 27; exact Calls.quiet_of_same (e2 _)))
            go_wp2
            go_ret
            exact ⟨ret_bool E2.out.symm, hb2w.trans ((drewN_below w2 nq).mono hb2w.size)⟩
          · obtain ⟨i1, i2⟩ := IR2.out (by trivial)
            have bx : ∀ wx, Below w2.heap.size w2 wx → ∀ j, wx.cell? ⟨w.heap.size, j, none⟩ = (#[.int .i64 clock, .int .i64 scas, .int .i64 uses, .int .i64 most, .int .i64 h0, .int .i64 h1, .int .i64 h2, .int .i64 h3, .slice ia items.length ic, .int .i64 fm, .int .i64 fx, .slice pa pages.length pc] : Array Value)[j]? := fun wx hx j => by rw [hx.cell (p := ⟨w.heap.size, j, none⟩) hzz]; exact b2 j
            have hWd : Below w2.heap.size w2 w2.drew := (Below.refl _ _).drew
            have hm40 : most ≤ 40 := HM.out
            have wz : IntKind.i64.wrap (h2 * IntKind.i64.wrap 2) = h2 * 2 := by simp only [IntKind.wrap_i64]; omega
            have wx : IntKind.i64.wrap (h2 * 2) = h2 * 2 := by simp only [IntKind.wrap_i64]; omega
            obtain ⟨_, _⟩ := IR0.out (by trivial)
            obtain ⟨_, _⟩ := IR1.out (by trivial)
            by_cases hle : (k2 : Int) ≤ h2 * 2
            · clear g0 g1 g2 g3 m0 m1 m2 m3
              have hlz : ¬ (h2 * 2 < (k2 : Int)) := by omega
              have hlb : decide (h2 * 2 < (k2 : Int)) = false := decide_eq_false hlz
              go_wp2_with fail
              go_region_held3 (fun w' => ∀ j, w'.cell? ⟨w.heap.size, j, none⟩ = (#[.int .i64 clock, .int .i64 scas, .int .i64 uses, .int .i64 most, .int .i64 h0, .int .i64 h1, .int .i64 h2, .int .i64 h3, .slice ia items.length ic, .int .i64 fm, .int .i64 fx, .slice pa pages.length pc] : Array Value)[j]?) (first | exact bx _ hWd | exact bx _ (hWd.trans (hb3.mono hWd.size))) (first | (go_at_call 27; refine (e2 _).mono ?_; rintro e w' ⟨rfl, hw⟩; obtain rfl := hw.symm) | (go_at_call 32; refine (s2 _).mono ?_; rintro e w3 ⟨rfl, hb3⟩))
              go_wp2
              go_roundw
              case rel => exact ⟨Or.inr (Or.inr (Or.inr (Or.inl ⟨by go_num, (by first | rfl | (simp; done) | (simp; unfold wrap64; omega)), by trivial, y0, by trivial, y1, by trivial, hle⟩))), hr2.trans ((hWd.trans (hb3.mono hWd.size)).mono hr2.size)⟩
              case measure => simp [intOf]
            · have hlz : h2 * 2 < (k2 : Int) := by omega
              have E2 : Hid (R = false) := m2.out hlz
              clear g0 g1 g2 g3 m0 m1 m2 m3
              go_wp2_with fail
              go_region_held3 (fun w' => ∀ j, w'.cell? ⟨w.heap.size, j, none⟩ = (#[.int .i64 clock, .int .i64 scas, .int .i64 uses, .int .i64 most, .int .i64 h0, .int .i64 h1, .int .i64 h2, .int .i64 h3, .slice ia items.length ic, .int .i64 fm, .int .i64 fx, .slice pa pages.length pc] : Array Value)[j]?) (first | exact bx _ hWd | exact bx _ (hWd.trans (hb3.mono hWd.size))) (first | (go_at_call 27; refine (e2 _).mono ?_; rintro e w' ⟨rfl, hw⟩; obtain rfl := hw.symm) | (go_at_call 32; refine (s2 _).mono ?_; rintro e w3 ⟨rfl, hb3⟩))
              go_wp2
              go_ret
              exact ⟨ret_bool E2.out.symm, hb2w.trans ((hWd.trans (hb3.mono hWd.size)).mono hb2w.size)⟩
        · clear x0 e0 s0 x1 e1 s1 x2 e2 s2 EE4
          have bq : ∀ j, wr.cell? ⟨w.heap.size, j, none⟩ = (#[.int .i64 clock, .int .i64 scas, .int .i64 uses, .int .i64 most, .int .i64 h0, .int .i64 h1, .int .i64 h2, .int .i64 h3, .slice ia items.length ic, .int .i64 fm, .int .i64 fx, .slice pa pages.length pc] : Array Value)[j]? := fun j => by rw [hq.cell (p := ⟨w.heap.size, j, none⟩) hz]; exact bs j
          go_wp2_with fail
          refine (x3 _ hbq).mono ?_
          rintro e w2 ⟨rfl, hb2⟩
          have hr2 : Below wo.heap.size wo w2 := hq.trans (hb2.mono hq.size)
          have hb2w : Below w.heap.size w w2 := hbq.trans (hb2.mono hbq.size)
          have hzz : w.heap.size < w2.heap.size := Nat.lt_of_lt_of_le hz hr2.size
          have b2 : ∀ j, w2.cell? ⟨w.heap.size, j, none⟩ = (#[.int .i64 clock, .int .i64 scas, .int .i64 uses, .int .i64 most, .int .i64 h0, .int .i64 h1, .int .i64 h2, .int .i64 h3, .slice ia items.length ic, .int .i64 fm, .int .i64 fx, .slice pa pages.length pc] : Array Value)[j]? := fun j => by rw [hr2.cell (p := ⟨w.heap.size, j, none⟩) hz]; exact bs j
          clear x3 bs bq hb2
          cases a3
          · have E2 : Hid (R = false) := g3.out (by trivial)
            clear g0 g1 g2 g3 m0 m1 m2 m3 s3
            go_wp2_with fail
            go_quiet ((go_at_call 27; exact Calls.quiet_of_same (e3 _)))
            go_wp2
            go_ret
            exact ⟨ret_bool E2.out.symm, hb2w.trans ((drewN_below w2 nq).mono hb2w.size)⟩
          · obtain ⟨i1, i2⟩ := IR3.out (by trivial)
            have bx : ∀ wx, Below w2.heap.size w2 wx → ∀ j, wx.cell? ⟨w.heap.size, j, none⟩ = (#[.int .i64 clock, .int .i64 scas, .int .i64 uses, .int .i64 most, .int .i64 h0, .int .i64 h1, .int .i64 h2, .int .i64 h3, .slice ia items.length ic, .int .i64 fm, .int .i64 fx, .slice pa pages.length pc] : Array Value)[j]? := fun wx hx j => by rw [hx.cell (p := ⟨w.heap.size, j, none⟩) hzz]; exact b2 j
            have hWd : Below w2.heap.size w2 w2.drew := (Below.refl _ _).drew
            have hm40 : most ≤ 40 := HM.out
            have wz : IntKind.i64.wrap (h3 * IntKind.i64.wrap 1) = h3 * 1 := by simp only [IntKind.wrap_i64]; omega
            have wx : IntKind.i64.wrap (h3 * 1) = h3 * 1 := by simp only [IntKind.wrap_i64]; omega
            obtain ⟨_, _⟩ := IR0.out (by trivial)
            obtain ⟨_, _⟩ := IR1.out (by trivial)
            obtain ⟨_, _⟩ := IR2.out (by trivial)
            by_cases hle : (k3 : Int) ≤ h3 * 1
            · clear g0 g1 g2 g3 m0 m1 m2 m3
              have hlz : ¬ (h3 * 1 < (k3 : Int)) := by omega
              have hlb : decide (h3 * 1 < (k3 : Int)) = false := decide_eq_false hlz
              go_wp2_with fail
              go_region_held3 (fun w' => ∀ j, w'.cell? ⟨w.heap.size, j, none⟩ = (#[.int .i64 clock, .int .i64 scas, .int .i64 uses, .int .i64 most, .int .i64 h0, .int .i64 h1, .int .i64 h2, .int .i64 h3, .slice ia items.length ic, .int .i64 fm, .int .i64 fx, .slice pa pages.length pc] : Array Value)[j]?) (first | exact bx _ hWd | exact bx _ (hWd.trans (hb3.mono hWd.size))) (first | (go_at_call 27; refine (e3 _).mono ?_; rintro e w' ⟨rfl, hw⟩; obtain rfl := hw.symm) | (go_at_call 32; refine (s3 _).mono ?_; rintro e w3 ⟨rfl, hb3⟩))
              go_wp2
              go_roundw
              case rel => exact ⟨Or.inr (Or.inr (Or.inr (Or.inr (⟨by go_num, (by first | rfl | (simp; done) | (simp; unfold wrap64; omega)), by trivial, y0, by trivial, y1, by trivial, y2, by trivial, hle⟩)))), hr2.trans ((hWd.trans (hb3.mono hWd.size)).mono hr2.size)⟩
              case measure => simp [intOf]
            · have hlz : h3 * 1 < (k3 : Int) := by omega
              have E2 : Hid (R = false) := m3.out hlz
              clear g0 g1 g2 g3 m0 m1 m2 m3
              go_wp2_with fail
              go_region_held3 (fun w' => ∀ j, w'.cell? ⟨w.heap.size, j, none⟩ = (#[.int .i64 clock, .int .i64 scas, .int .i64 uses, .int .i64 most, .int .i64 h0, .int .i64 h1, .int .i64 h2, .int .i64 h3, .slice ia items.length ic, .int .i64 fm, .int .i64 fx, .slice pa pages.length pc] : Array Value)[j]?) (first | exact bx _ hWd | exact bx _ (hWd.trans (hb3.mono hWd.size))) (first | (go_at_call 27; refine (e3 _).mono ?_; rintro e w' ⟨rfl, hw⟩; obtain rfl := hw.symm) | (go_at_call 32; refine (s3 _).mono ?_; rintro e w3 ⟨rfl, hb3⟩))
              go_wp2
              go_ret
              exact ⟨ret_bool E2.out.symm, hb2w.trans ((hWd.trans (hb3.mono hWd.size)).mono hb2w.size)⟩
        · have E2 : Hid (R = decide (h0 + h1 + h2 + h3 ≤ most)) := EE4.out (by trivial) (by trivial) (by trivial) (by trivial) y0 y1 y2 y3
          have bq : ∀ j, wr.cell? ⟨w.heap.size, j, none⟩ = (#[.int .i64 clock, .int .i64 scas, .int .i64 uses, .int .i64 most, .int .i64 h0, .int .i64 h1, .int .i64 h2, .int .i64 h3, .slice ia items.length ic, .int .i64 fm, .int .i64 fx, .slice pa pages.length pc] : Array Value)[j]? := fun j => by rw [hq.cell (p := ⟨w.heap.size, j, none⟩) hz]; exact bs j
          generalize h0 + h1 + h2 + h3 = SUM at *
          clear x0 x1 x2 x3 e0 e1 e2 e3 s0 s1 s2 s3 EE4 g0 g1 g2 g3 m0 m1 m2 m3 bs
          go_wp2
          go_ret
          exact ⟨ret_bool E2.out.symm, hbq⟩
end Go.Proofs.YtogpkbhjobhodaaDoor
