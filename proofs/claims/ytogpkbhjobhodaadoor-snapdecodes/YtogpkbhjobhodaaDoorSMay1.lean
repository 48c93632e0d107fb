/- The contracts of dovecoteref.big and dovecoteref.inClass. -/
import Derived.Test.YtogpkbhjobhodaaDoorSChk5
namespace Go.Proofs.YtogpkbhjobhodaaDoor
open Go.ChangeShapes Go.WideShapes Go.ChangeAt Go.RowKit
set_option linter.unusedVariables false
set_option linter.unusedSimpArgs false

theorem big_any (n : Int) (w : World) :
    Calls Tryd.prog 26 #[.int .i64 n] w fun e w' => e = .returned (.bool (inB n 0 1099511627776)) ∧ w' = w := by
  have h := in_any n 0 1099511627776
  generalize inB n 0 1099511627776 = b at *
  go_enter Tryd.func26, Tryd.ntmps26
  go_wp2_with (go_at_call 27; refine (h _).mono ?_; rintro e w' ⟨rfl, hw⟩; obtain rfl := hw.symm)
  go_ret
  exact ⟨rfl, rfl⟩

/-- Of the first ones of a class that are in memory, the one that was asked longest ago. -/
def lastN (l : List ItemR) (c : Int) : Nat → Int
  | 0 => -1
  | k + 1 => if hitC l c k = true then (if lastN l c k < 0 then (k : Int) else if (l.getD k default).used < (l.getD (lastN l c k).toNat default).used then (k : Int) else lastN l c k) else lastN l c k

theorem lastN_lo (l : List ItemR) (c : Int) : ∀ k, -1 ≤ lastN l c k ∧ lastN l c k < k
  | 0 => by simp [lastN]
  | k + 1 => by
    have h := lastN_lo l c k
    unfold lastN
    split
    · split
      · omega
      · split <;> omega
    · omega
theorem lastN_miss {l : List ItemR} {c : Int} {k : Nat} (h : hitC l c k = false) : lastN l c (k + 1) = lastN l c k := by rw [lastN, h]; simp
theorem lastN_new {l : List ItemR} {c : Int} {k : Nat} (h : hitC l c k = true) (h2 : lastN l c k < 0) : lastN l c (k + 1) = k := by rw [lastN, h, if_pos rfl, if_pos h2]
theorem lastN_less {l : List ItemR} {c : Int} {k : Nat} (h : hitC l c k = true) (h2 : ¬ lastN l c k < 0) (h3 : (l.getD k default).used < (l.getD (lastN l c k).toNat default).used) : lastN l c (k + 1) = k := by rw [lastN, h, if_pos rfl, if_neg h2, if_pos h3]
theorem lastN_same {l : List ItemR} {c : Int} {k : Nat} (h : hitC l c k = true) (h2 : ¬ lastN l c k < 0) (h3 : ¬ (l.getD k default).used < (l.getD (lastN l c k).toNat default).used) : lastN l c (k + 1) = lastN l c k := by rw [lastN, h, if_pos rfl, if_neg h2, if_neg h3]

theorem ret_two {a b c d : Int} (h1 : a = b) (h2 : c = d) : Ending.returned (.tuple #[.int .i64 a, .int .i64 c]) = .returned (.tuple #[.int .i64 b, .int .i64 d]) := by rw [h1, h2]

set_option maxHeartbeats 4000000 in
set_option maxRecDepth 100000 in
theorem inClass_any (s : StoreR) (c : Int) (ia : Option Addr) (ic : Nat) (pa : Option Addr) (pc : Nat) (w : World) (hI : ItemsAt w ia s.items) (hok : ItemsOk s.items) (hlen : s.items.length ≤ 1000) :
    Calls Tryd.prog 31 #[storeV s ia ic pa pc, .int .i64 c] w fun e w' => e = .returned (.tuple #[.int .i64 (cntC s.items c s.items.length), .int .i64 (lastN s.items c s.items.length)]) ∧ Below w.heap.size w w' := by
  obtain ⟨hmax, hmm⟩ := hI
  unfold maxLen at hmax
  obtain ⟨clock, scas, uses, most, h0, h1, h2, h3, items, fm, fx, pages⟩ := s
  unfold storeV at *
  simp only at *
  have hB0 : ∀ o, Below w.heap.size w (w.alloc o) := fun o => (Below.refl _ _).alloc (Nat.le_refl _) _
  go_enter Tryd.func31, Tryd.ntmps31
  go_wp2_with fail
  go_loopw [6, 7, 8] (fun n t i wr => ∃ k : Nat, k ≤ items.length ∧ i = .int .i64 k ∧ n = .int .i64 (cntC items c k) ∧ t = .int .i64 (lastN items c k) ∧ Below (w.alloc (.cells #[.int .i64 clock, .int .i64 scas, .int .i64 uses, .int .i64 most, .int .i64 h0, .int .i64 h1, .int .i64 h2, .int .i64 h3, .slice ia items.length ic, .int .i64 fm, .int .i64 fx, .slice pa pages.length pc] 29)).heap.size (w.alloc (.cells #[.int .i64 clock, .int .i64 scas, .int .i64 uses, .int .i64 most, .int .i64 h0, .int .i64 h1, .int .i64 h2, .int .i64 h3, .slice ia items.length ic, .int .i64 fm, .int .i64 fx, .slice pa pages.length pc] 29)) wr) (fun _ _ i _ => items.length - (intOf i).toNat)
  case atStart => exact ⟨0, Nat.zero_le _, rfl, rfl, rfl, Below.refl _ _⟩
  case round =>
    obtain ⟨k, hk, rfl, rfl, rfl, hb⟩ := hrel
    have hbw : Below w.heap.size w wr := (hB0 _).trans (hb.mono (by simp))
    have bs : ∀ j, wr.cell? ⟨w.heap.size, j, none⟩ = (#[.int .i64 clock, .int .i64 scas, .int .i64 uses, .int .i64 most, .int .i64 h0, .int .i64 h1, .int .i64 h2, .int .i64 h3, .slice ia items.length ic, .int .i64 fm, .int .i64 fx, .slice pa pages.length pc] : Array Value)[j]? := fun j => by rw [hb.cell (p := ⟨w.heap.size, j, none⟩) (by simp)]; simp [go_sem]
    have hz : w.heap.size < wr.heap.size := bsize hb
    by_cases hlt : k < items.length
    · have hltz : (k : Int) < (items.length : Int) := by omega
      have hk0 : (0 : Int) ≤ (k : Int) := Int.natCast_nonneg _
      rcases hmm with hmm | ⟨b, o, rfl, hbl, hc⟩
      · omega
      obtain ⟨n0, n1, n2, n3, n4, n5, n6, n7, n8⟩ := (hc k hlt).later hbl hbw
      have hlb : b < wr.heap.size := Nat.lt_of_lt_of_le hbl hbw.size
      obtain ⟨z1, z2, _, _⟩ := hok k hlt
      unfold maxLen at z1 z2
      have hcl := fun w1 => classOf_any ((items.getD k default).key.size : Int) ((items.getD k default).value.size : Int) w1
      have HF : Hid ((items.getD k default).far = true → hitC items c k = false) := fun h => by unfold hitC; rw [h]; rfl
      have HN : Hid ((items.getD k default).far = false → hitC items c k = decide (classN (items.getD k default).key.size (items.getD k default).value.size = c)) := fun h => hitC_near h c
      have CM : Hid (hitC items c k = false → cntC items c (k + 1) = cntC items c k) := cntC_miss
      have CH : Hid (hitC items c k = true → cntC items c (k + 1) = cntC items c k + 1) := cntC_hit
      have LM : Hid (hitC items c k = false → lastN items c (k + 1) = lastN items c k) := lastN_miss
      have LN : Hid (hitC items c k = true → lastN items c k < 0 → lastN items c (k + 1) = k) := lastN_new
      have LL : Hid (hitC items c k = true → ¬ lastN items c k < 0 → (items.getD k default).used < (items.getD (lastN items c k).toNat default).used → lastN items c (k + 1) = k) := lastN_less
      have LS : Hid (hitC items c k = true → ¬ lastN items c k < 0 → ¬ (items.getD k default).used < (items.getD (lastN items c k).toNat default).used → lastN items c (k + 1) = lastN items c k) := lastN_same
      obtain ⟨q0, q1⟩ := lastN_lo items c k
      have hcnt := cntC_le items c k
      have hA1 : ∀ o, Below wr.heap.size wr (wr.alloc o) := fun o => (Below.refl _ _).alloc (Nat.le_refl _) _
      have hitm : ∀ q : Nat, q < items.length → wr.cell? ⟨b, o + q * 9 + 4, none⟩ = some (.int .i64 (items.getD q default).used) := fun q hq => ((hc q hq).later hbl hbw).2.2.2.2.1
      clear hc hok
      generalize hL1 : cntC items c (k + 1) = cn1 at *
      generalize hL2 : lastN items c (k + 1) = ln1 at *
      generalize hL3 : cntC items c k = cn at *
      generalize hL4 : lastN items c k = ln at *
      generalize hitC items c k = H at *
      generalize classN (items.getD k default).key.size (items.getD k default).value.size = C at *
      generalize items.getD k default = it at *
      obtain ⟨key, flags, until_, cas, used, value, far, page, at_⟩ := it
      simp only at *
      cases far
      · have HN' := HN.out rfl
        by_cases hCc : C = c
        · have hH : H = true := by rw [HN', decide_eq_true hCc]
          have CH' := CH.out hH
          have hCb : (C != c) = false := by rw [hCc]; simp
          by_cases hl : ln < 0
          · have LN' := LN.out hH hl
            clear HF HN CM CH LM LN LL LS hitm
            go_wp2_with fail
            refine (hcl _).mono ?_
            rintro e w2 ⟨rfl, hb2⟩
            have hBr : Below wr.heap.size wr w2 := (hA1 _).trans (hb2.mono (by simp))
            have bi : ∀ j, w2.cell? ⟨wr.heap.size, j, none⟩ = (#[.string key, .int .i64 flags, .int .i64 until_, .int .i64 cas, .int .i64 used, .string value, .bool false, .int .i64 page, .int .i64 at_] : Array Value)[j]? := fun j => by rw [hb2.cell (p := ⟨wr.heap.size, j, none⟩) (by simp)]; simp [go_sem]
            have bs2 : ∀ j, w2.cell? ⟨w.heap.size, j, none⟩ = (#[.int .i64 clock, .int .i64 scas, .int .i64 uses, .int .i64 most, .int .i64 h0, .int .i64 h1, .int .i64 h2, .int .i64 h3, .slice (some ⟨b, o, none⟩) items.length ic, .int .i64 fm, .int .i64 fx, .slice pa pages.length pc] : Array Value)[j]? := fun j => by rw [hBr.cell (p := ⟨w.heap.size, j, none⟩) hz]; exact bs j
            have hbr2 := hb.trans (hBr.mono hb.size)
            clear hcl hb2 n0 n1 n2 n3 n4 n5 n6 n7 n8 bs
            go_wp2_with fail
            go_quiet (fail)
            go_wp2
            go_roundw
            case rel => exact ⟨k + 1, by omega, by go_num, by rw [hL1, CH']; simp, by rw [hL2, LN'], hbr2.trans ((drewN_below w2 nq).mono hbr2.size)⟩
            case measure => simp [intOf]; omega
          · obtain ⟨q, hq⟩ : ∃ q : Nat, ln = q := ⟨ln.toNat, by omega⟩
            subst hq
            have hqk : q < items.length := by omega
            have hqz : (q : Int) < (items.length : Int) := by omega
            have hq0 : (0 : Int) ≤ (q : Int) := Int.natCast_nonneg _
            have m4 := hitm q hqk
            have LL' : Hid (used < (items.getD q default).used → ln1 = k) := fun h => LL.out hH hl (by simpa using h)
            have LS' : Hid (¬ used < (items.getD q default).used → ln1 = q) := fun h => LS.out hH hl (by simpa using h)
            clear HF HN CM CH LM LN LL LS hitm
            generalize (items.getD q default).used = uq at *
            go_wp2_with fail
            refine (hcl _).mono ?_
            rintro e w2 ⟨rfl, hb2⟩
            have hBr : Below wr.heap.size wr w2 := (hA1 _).trans (hb2.mono (by simp))
            have bi : ∀ j, w2.cell? ⟨wr.heap.size, j, none⟩ = (#[.string key, .int .i64 flags, .int .i64 until_, .int .i64 cas, .int .i64 used, .string value, .bool false, .int .i64 page, .int .i64 at_] : Array Value)[j]? := fun j => by rw [hb2.cell (p := ⟨wr.heap.size, j, none⟩) (by simp)]; simp [go_sem]
            have bs2 : ∀ j, w2.cell? ⟨w.heap.size, j, none⟩ = (#[.int .i64 clock, .int .i64 scas, .int .i64 uses, .int .i64 most, .int .i64 h0, .int .i64 h1, .int .i64 h2, .int .i64 h3, .slice (some ⟨b, o, none⟩) items.length ic, .int .i64 fm, .int .i64 fx, .slice pa pages.length pc] : Array Value)[j]? := fun j => by rw [hBr.cell (p := ⟨w.heap.size, j, none⟩) hz]; exact bs j
            have hbr2 := hb.trans (hBr.mono hb.size)
            have m5 : w2.cell? ⟨b, o + q * 9 + 4, none⟩ = some (.int .i64 uq) := by rw [hBr.cell (p := ⟨b, o + q * 9 + 4, none⟩) hlb]; exact m4
            have hlb2 : b < w2.heap.size := Nat.lt_of_lt_of_le hlb hBr.size
            clear hcl hb2 n0 n1 n2 n3 n4 n5 n6 n7 n8 bs m4
            by_cases hu : used < uq
            · have L' := LL'.out hu
              go_wp2_with fail
              go_quiet (fail)
              go_wp2
              go_roundw
              case rel => exact ⟨k + 1, by omega, by go_num, by rw [hL1, CH']; simp, by rw [hL2, L'], hbr2.trans ((drewN_below w2 nq).mono hbr2.size)⟩
              case measure => simp [intOf]; omega
            · have L' := LS'.out (by omega)
              go_wp2_with fail
              go_quiet (fail)
              go_wp2
              go_roundw
              case rel => exact ⟨k + 1, by omega, by go_num, by rw [hL1, CH']; simp, by rw [hL2, L'], hbr2.trans ((drewN_below w2 nq).mono hbr2.size)⟩
              case measure => simp [intOf]; omega
        · have hH : H = false := by rw [HN', decide_eq_false hCc]
          have CM' := CM.out hH
          have LM' := LM.out hH
          have hCb : (C != c) = true := by simpa using hCc
          clear HF HN CM CH LM LN LL LS hitm
          go_wp2_with fail
          refine (hcl _).mono ?_
          rintro e w2 ⟨rfl, hb2⟩
          have hBr : Below wr.heap.size wr w2 := (hA1 _).trans (hb2.mono (by simp))
          have bi : ∀ j, w2.cell? ⟨wr.heap.size, j, none⟩ = (#[.string key, .int .i64 flags, .int .i64 until_, .int .i64 cas, .int .i64 used, .string value, .bool false, .int .i64 page, .int .i64 at_] : Array Value)[j]? := fun j => by rw [hb2.cell (p := ⟨wr.heap.size, j, none⟩) (by simp)]; simp [go_sem]
          have bs2 : ∀ j, w2.cell? ⟨w.heap.size, j, none⟩ = (#[.int .i64 clock, .int .i64 scas, .int .i64 uses, .int .i64 most, .int .i64 h0, .int .i64 h1, .int .i64 h2, .int .i64 h3, .slice (some ⟨b, o, none⟩) items.length ic, .int .i64 fm, .int .i64 fx, .slice pa pages.length pc] : Array Value)[j]? := fun j => by rw [hBr.cell (p := ⟨w.heap.size, j, none⟩) hz]; exact bs j
          have hbr2 := hb.trans (hBr.mono hb.size)
          clear hcl hb2 n0 n1 n2 n3 n4 n5 n6 n7 n8 bs
          go_wp2
          go_roundw
          case rel => exact ⟨k + 1, by omega, by go_num, by rw [hL1, CM'], by rw [hL2, LM'], hbr2⟩
          case measure => simp [intOf]; omega
      · have hH := HF.out rfl
        have CM' := CM.out hH
        have LM' := LM.out hH
        clear HF HN CM CH LM LN LL LS hitm hcl
        go_wp2
        go_roundw
        case rel => exact ⟨k + 1, by omega, by go_num, by rw [hL1, CM'], by rw [hL2, LM'], hb.trans ((hA1 _).mono hb.size)⟩
        case measure => simp [intOf]; omega
    · have hltz : ¬ (k : Int) < (items.length : Int) := by omega
      have hke : k = items.length := by omega
      subst hke
      go_wp2
      go_ret2
      exact ⟨rfl, hbw⟩
end Go.Proofs.YtogpkbhjobhodaaDoor
