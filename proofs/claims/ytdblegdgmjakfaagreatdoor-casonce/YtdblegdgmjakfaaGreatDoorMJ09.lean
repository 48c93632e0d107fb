/- Parts of the proof. -/
import Derived.Test.YtdblegdgmjakfaaGreatDoorMJ08
import Derived.Test.YtdblegdgmjakfaaGreatDoorMJ01
import Derived.Test.YtdblegdgmjakfaaGreatDoorMJ07
import Derived.BigQuiet
import Derived.Laws.Cover1
import Derived.Deep.QuietTactic
import Derived.Deep.RegionHeld3
namespace Go.Proofs.YtdblegdgmjakfaaGreatDoor
open Go.ChangeShapes Go.WideShapes Go.ChangeAt Go.RowKit
set_option linter.unusedVariables false
set_option linter.unusedSimpArgs false

/- The contract of store.itemsFit. -/

/-- One text does not stand behind another. -/
def leB (a b : ByteArray) : Bool := Op.bytesLess a.toList b.toList || a.toList == b.toList
def orderB (l : List ItemR) (k : Nat) : Bool := !(decide (0 < k) && leB (l.getD k default).key (l.getD (k - 1) default).key)
def okAt (s : StoreR) (k : Nat) : Bool := orderB s.items k && (fieldsB s (s.items.getD k default) && valueB s.pages (s.items.getD k default))
def itemsB (s : StoreR) : Bool := decide (s.items.length ≤ 1000) && (List.range s.items.length).all (okAt s)

theorem items_no (s : StoreR) (k : Nat) (hk : k < s.items.length) (h : okAt s k = false) : itemsB s = false := by
 unfold itemsB
 have : (List.range s.items.length).all (okAt s) = false := List.all_eq_false.2 ⟨k, List.mem_range.2 hk, by simp [h]⟩
 rw [this]
 simp
theorem items_yes (s : StoreR) (hl : s.items.length ≤ 1000) (h : ∀ j, j < s.items.length → okAt s j = true) : itemsB s = true := by
 unfold itemsB
 rw [decide_eq_true hl]
 exact List.all_eq_true.2 fun j hj => h j (List.mem_range.1 hj)

def ItemsOk (l : List ItemR) : Prop := ∀ j, j < l.length → ItemOk (l.getD j default)

set_option maxHeartbeats 4000000 in
set_option maxRecDepth 100000 in
theorem items_any (s : StoreR) (ia : Option Addr) (ic : Nat) (pa : Option Addr) (pc : Nat) (w : World) (hS : StoreIn w s ia pa) (hok : ItemsOk s.items) (h1p : ∀ j, j < s.pages.length → 1 ≤ (s.pages.getD j default).bs.length) :
 Calls Tryz.prog 31 #[storeV s ia ic pa pc] w fun e w' => e = .returned (.bool (itemsB s)) ∧ Below w.heap.size w w' := by
 have hfi := fun it w1 (ok : ItemOk it) => fields_any s it ia ic pa pc w1 ok
 have hva := fun it w1 hb (ok : ItemOk it) => value_any s.fm s.fx s.pages pa pc it w1 (hS.2.later hb) h1p ok
 have INo : Hid (∀ k, k < s.items.length → okAt s k = false → itemsB s = false) := fun k hk h => items_no s k hk h
 have IYes : Hid (s.items.length ≤ 1000 → (∀ j, j < s.items.length → okAt s j = true) → itemsB s = true) := items_yes s
 have ILong : Hid (1000 < s.items.length → itemsB s = false) := fun h => by unfold itemsB; rw [decide_eq_false (by omega)]; rfl
 have EO : Hid (∀ k, okAt s k = (orderB s.items k && (fieldsB s (s.items.getD k default) && valueB s.pages (s.items.getD k default)))) := fun _ => rfl
 generalize itemsB s = R at *
 generalize okAt s = OK at *
 obtain ⟨⟨hmax, hmm⟩, _⟩ := hS
 unfold maxLen at hmax
 generalize fieldsB s = FB at *
 obtain ⟨clock, scas, uses, most, h0, h1, h2, h3, items, fm, fx, pages⟩ := s
 unfold storeV at *
 simp only at *
 have hB0 : ∀ o, Below w.heap.size w (w.alloc o) := fun o => (Below.refl _ _).alloc (Nat.le_refl _) _
 by_cases hlong : 1000 < items.length
 · have hlongz : (1000 : Int) < (items.length : Int) := by omega
   have E2 : Hid (R = false) := ILong.out hlong
   go_enter Tryz.func31, Tryz.ntmps31
   go_wp2
   go_ret
   exact ⟨ret_bool E2.out.symm, hB0 _⟩
 have hlongz : ¬ (1000 : Int) < (items.length : Int) := by omega
 go_enter Tryz.func31, Tryz.ntmps31
 go_wp2_with fail
 go_loopw [12] (fun i wr => ∃ k : Nat, k ≤ items.length ∧ i = .int .i64 k ∧ Hid (∀ j, j < k → OK j = true) ∧ Below (w.alloc (.cells #[.int .i64 clock, .int .i64 scas, .int .i64 uses, .int .i64 most, .int .i64 h0, .int .i64 h1, .int .i64 h2, .int .i64 h3, .slice ia items.length ic, .int .i64 fm, .int .i64 fx, .slice pa pages.length pc] 29)).heap.size (w.alloc (.cells #[.int .i64 clock, .int .i64 scas, .int .i64 uses, .int .i64 most, .int .i64 h0, .int .i64 h1, .int .i64 h2, .int .i64 h3, .slice ia items.length ic, .int .i64 fm, .int .i64 fx, .slice pa pages.length pc] 29)) wr) (fun i _ => items.length - (intOf i).toNat)
 case atStart => exact ⟨0, Nat.zero_le _, rfl, fun j hj => absurd hj (Nat.not_lt_zero _), Below.refl _ _⟩
 case round =>
  obtain ⟨k, hk, rfl, A, hb⟩ := hrel
  have hbw : Below w.heap.size w wr := (hB0 _).trans (hb.mono (by simp))
  have bs : ∀ j, wr.cell? ⟨w.heap.size, j, none⟩ = (#[.int .i64 clock, .int .i64 scas, .int .i64 uses, .int .i64 most, .int .i64 h0, .int .i64 h1, .int .i64 h2, .int .i64 h3, .slice ia items.length ic, .int .i64 fm, .int .i64 fx, .slice pa pages.length pc] : Array Value)[j]? := fun j => by rw [hb.cell (p := ⟨w.heap.size, j, none⟩) (by simp)]; simp [go_sem]
  have hz : w.heap.size < wr.heap.size := bsize hb
  by_cases hlt : k < items.length
  · have hltz : (k : Int) < (items.length : Int) := by omega
    have hk0 : (0 : Int) ≤ (k : Int) := Int.natCast_nonneg _
    have hno : Hid (OK k = false → R = false) := fun h => INo.out k hlt h
    have hOk0 : Hid (OK k = (orderB items k && (FB (items.getD k default) && valueB pages (items.getD k default)))) := EO.out k
    rcases hmm with hmm | ⟨b, o, rfl, hbl, hc⟩
    · omega
    obtain ⟨n0, n1, n2, n3, n4, n5, n6, n7, n8⟩ := (hc k hlt).later hbl hbw
    have hlb : b < wr.heap.size := Nat.lt_of_lt_of_le hbl hbw.size
    have okk := hok k hlt
    have hfk := fun w1 => hfi (items.getD k default) w1 okk
    have hvk := fun w1 hb => hva (items.getD k default) w1 hb okk
    have OR : Hid (orderB items k = !(decide (0 < k) && leB (items.getD k default).key (items.getD (k - 1) default).key)) := rfl
    clear hfi hva INo IYes ILong EO hok h1p
    by_cases hkz : k = 0
    · subst hkz
      clear hc
      rw [Nat.zero_mul, Nat.add_zero] at n0 n1 n2 n3 n4 n5 n6 n7 n8
      have hOk : Hid (OK 0 = (FB (items.getD 0 default) && valueB pages (items.getD 0 default))) := by unfold Hid; rw [hOk0.out, OR.out]; rfl
      clear OR hOk0
      generalize valueB pages (items.getD 0 default) = bV at *
      generalize FB (items.getD 0 default) = bF at *
      generalize items.getD 0 default = it at *
      obtain ⟨key, flags, until_, cas, used, value, far, page, at_⟩ := it
      simp only at *
      go_wp2_with fail
      go_quiet (fail)
      have hA1 : Below wr.heap.size wr (wr.alloc (.cells #[.string key, .int .i64 flags, .int .i64 until_, .int .i64 cas, .int .i64 used, .string value, .bool far, .int .i64 page, .int .i64 at_] 62)) := (Below.refl _ _).alloc (Nat.le_refl _) _
      go_wp2_with fail
      refine (hfk _).mono ?_
      rintro e w2 ⟨rfl, hb2⟩
      have hB2 : Below (wr.alloc (.cells #[.string key, .int .i64 flags, .int .i64 until_, .int .i64 cas, .int .i64 used, .string value, .bool far, .int .i64 page, .int .i64 at_] 62)).heap.size (wr.alloc (.cells #[.string key, .int .i64 flags, .int .i64 until_, .int .i64 cas, .int .i64 used, .string value, .bool far, .int .i64 page, .int .i64 at_] 62)) w2 := (drewN_below (wr.alloc (.cells #[.string key, .int .i64 flags, .int .i64 until_, .int .i64 cas, .int .i64 used, .string value, .bool far, .int .i64 page, .int .i64 at_] 62)) nq).trans (hb2.mono (Nat.le_refl _))
      have bi : ∀ j, w2.cell? ⟨wr.heap.size, j, none⟩ = (#[.string key, .int .i64 flags, .int .i64 until_, .int .i64 cas, .int .i64 used, .string value, .bool far, .int .i64 page, .int .i64 at_] : Array Value)[j]? := fun j => by rw [hB2.cell (p := ⟨wr.heap.size, j, none⟩) (by simp)]; simp [go_sem]
      have hBr : Below wr.heap.size wr w2 := hA1.trans (hB2.mono (by simp))
      have bs2 : ∀ j, w2.cell? ⟨w.heap.size, j, none⟩ = (#[.int .i64 clock, .int .i64 scas, .int .i64 uses, .int .i64 most, .int .i64 h0, .int .i64 h1, .int .i64 h2, .int .i64 h3, .slice (some ⟨b, o, none⟩) items.length ic, .int .i64 fm, .int .i64 fx, .slice pa pages.length pc] : Array Value)[j]? := fun j => by rw [hBr.cell (p := ⟨w.heap.size, j, none⟩) hz]; exact bs j
      have hbw2 : Below w.heap.size w w2 := hbw.trans (hBr.mono hbw.size)
      clear hb2 hfk
      cases bF
      · have E2 : Hid (R = false) := hno.out (by rw [hOk.out]; rfl)
        go_wp2
        go_ret
        exact ⟨ret_bool E2.out.symm, hbw2⟩
      go_wp2_with fail
      refine (hvk _ hbw2).mono ?_
      rintro e w3 ⟨rfl, hb3⟩
      have hbw3 : Below w.heap.size w w3 := hbw2.trans (hb3.mono hbw2.size)
      have hbr3 : Below (w.alloc (.cells #[.int .i64 clock, .int .i64 scas, .int .i64 uses, .int .i64 most, .int .i64 h0, .int .i64 h1, .int .i64 h2, .int .i64 h3, .slice (some ⟨b, o, none⟩) items.length ic, .int .i64 fm, .int .i64 fx, .slice pa pages.length pc] 29)).heap.size (w.alloc (.cells #[.int .i64 clock, .int .i64 scas, .int .i64 uses, .int .i64 most, .int .i64 h0, .int .i64 h1, .int .i64 h2, .int .i64 h3, .slice (some ⟨b, o, none⟩) items.length ic, .int .i64 fm, .int .i64 fx, .slice pa pages.length pc] 29)) w3 := hb.trans ((hBr.trans (hb3.mono hBr.size)).mono hb.size)
      cases bV
      · have E2 : Hid (R = false) := hno.out (by rw [hOk.out]; rfl)
        go_wp2
        go_ret
        exact ⟨ret_bool E2.out.symm, hbw3⟩
      go_wp2
      go_roundw
      case rel => exact ⟨0 + 1, by omega, by go_num, (show Hid _ from fun j hj => by
       by_cases e : j = 0
       · subst e; rw [hOk.out]; rfl
       · exact A.out j (by omega)), hbr3⟩
      case measure => simp [intOf]; omega
    · obtain ⟨q, rfl⟩ : ∃ q, k = q + 1 := ⟨k - 1, by omega⟩
      have hkp : 0 < q + 1 := by omega
      obtain ⟨m0, _⟩ := (hc q (by omega)).later hbl hbw
      have hk1 : (0 : Int) ≤ (q : Int) := by omega
      have hk2 : (q : Int) < (items.length : Int) := by omega
      have hk4 : IntKind.i64.wrap (q : Int) = (q : Int) := by simp only [IntKind.wrap_i64]; omega
      have hk5 : IntKind.i64.wrap (((q + 1 : Nat) : Int) - 1) = (q : Int) := by simp only [IntKind.wrap_i64]; omega
      have hk6 : IntKind.i64.wrap ((q : Int) + 1 - 1) = (q : Int) := by simp only [IntKind.wrap_i64]; omega
      have OR2 : Hid (orderB items (q + 1) = !(leB (items.getD (q + 1) default).key (items.getD q default).key)) := by unfold Hid; rw [OR.out, decide_eq_true hkp]; rfl
      have LE : (Op.bytesLess (items.getD (q + 1) default).key.toList (items.getD q default).key.toList || (items.getD (q + 1) default).key.toList == (items.getD q default).key.toList) = leB (items.getD (q + 1) default).key (items.getD q default).key := rfl
      clear hc hkz OR
      generalize valueB pages (items.getD (q + 1) default) = bV at *
      generalize FB (items.getD (q + 1) default) = bF at *
      generalize leB (items.getD (q + 1) default).key (items.getD q default).key = bL at *
      generalize orderB items (q + 1) = bO at *
      generalize items.getD (q + 1) default = it at *
      generalize items.getD q default = pr at *
      obtain ⟨key, flags, until_, cas, used, value, far, page, at_⟩ := it
      obtain ⟨pkey, _, _, _, _, _, _, _, _⟩ := pr
      simp only at *
      go_wp2_with fail
      go_quiet (fail)
      cases bL
      rotate_left
      · have E2 : Hid (R = false) := hno.out (by rw [hOk0.out, OR2.out]; rfl)
        go_wp2
        go_ret
        exact ⟨ret_bool E2.out.symm, hbw.trans ((((Below.refl wr.heap.size wr).alloc (Nat.le_refl _) (.cells #[.string key, .int .i64 flags, .int .i64 until_, .int .i64 cas, .int .i64 used, .string value, .bool far, .int .i64 page, .int .i64 at_] 62)).trans ((drewN_below _ nq).mono (by simp))).mono hbw.size)⟩
      have hOk : Hid (OK (q + 1) = (bF && bV)) := by unfold Hid; rw [hOk0.out, OR2.out]; rfl
      clear OR2 hOk0
      have hA1 : Below wr.heap.size wr (wr.alloc (.cells #[.string key, .int .i64 flags, .int .i64 until_, .int .i64 cas, .int .i64 used, .string value, .bool far, .int .i64 page, .int .i64 at_] 62)) := (Below.refl _ _).alloc (Nat.le_refl _) _
      go_wp2_with fail
      refine (hfk _).mono ?_
      rintro e w2 ⟨rfl, hb2⟩
      have hB2 : Below (wr.alloc (.cells #[.string key, .int .i64 flags, .int .i64 until_, .int .i64 cas, .int .i64 used, .string value, .bool far, .int .i64 page, .int .i64 at_] 62)).heap.size (wr.alloc (.cells #[.string key, .int .i64 flags, .int .i64 until_, .int .i64 cas, .int .i64 used, .string value, .bool far, .int .i64 page, .int .i64 at_] 62)) w2 := (drewN_below (wr.alloc (.cells #[.string key, .int .i64 flags, .int .i64 until_, .int .i64 cas, .int .i64 used, .string value, .bool far, .int .i64 page, .int .i64 at_] 62)) nq).trans (hb2.mono (Nat.le_refl _))
      have bi : ∀ j, w2.cell? ⟨wr.heap.size, j, none⟩ = (#[.string key, .int .i64 flags, .int .i64 until_, .int .i64 cas, .int .i64 used, .string value, .bool far, .int .i64 page, .int .i64 at_] : Array Value)[j]? := fun j => by rw [hB2.cell (p := ⟨wr.heap.size, j, none⟩) (by simp)]; simp [go_sem]
      have hBr : Below wr.heap.size wr w2 := hA1.trans (hB2.mono (by simp))
      have bs2 : ∀ j, w2.cell? ⟨w.heap.size, j, none⟩ = (#[.int .i64 clock, .int .i64 scas, .int .i64 uses, .int .i64 most, .int .i64 h0, .int .i64 h1, .int .i64 h2, .int .i64 h3, .slice (some ⟨b, o, none⟩) items.length ic, .int .i64 fm, .int .i64 fx, .slice pa pages.length pc] : Array Value)[j]? := fun j => by rw [hBr.cell (p := ⟨w.heap.size, j, none⟩) hz]; exact bs j
      have hbw2 : Below w.heap.size w w2 := hbw.trans (hBr.mono hbw.size)
      clear hb2 hfk
      cases bF
      · have E2 : Hid (R = false) := hno.out (by rw [hOk.out]; rfl)
        go_wp2
        go_ret
        exact ⟨ret_bool E2.out.symm, hbw2⟩
      go_wp2_with fail
      refine (hvk _ hbw2).mono ?_
      rintro e w3 ⟨rfl, hb3⟩
      have hbw3 : Below w.heap.size w w3 := hbw2.trans (hb3.mono hbw2.size)
      have hbr3 : Below (w.alloc (.cells #[.int .i64 clock, .int .i64 scas, .int .i64 uses, .int .i64 most, .int .i64 h0, .int .i64 h1, .int .i64 h2, .int .i64 h3, .slice (some ⟨b, o, none⟩) items.length ic, .int .i64 fm, .int .i64 fx, .slice pa pages.length pc] 29)).heap.size (w.alloc (.cells #[.int .i64 clock, .int .i64 scas, .int .i64 uses, .int .i64 most, .int .i64 h0, .int .i64 h1, .int .i64 h2, .int .i64 h3, .slice (some ⟨b, o, none⟩) items.length ic, .int .i64 fm, .int .i64 fx, .slice pa pages.length pc] 29)) w3 := hb.trans ((hBr.trans (hb3.mono hBr.size)).mono hb.size)
      cases bV
      · have E2 : Hid (R = false) := hno.out (by rw [hOk.out]; rfl)
        go_wp2
        go_ret
        exact ⟨ret_bool E2.out.symm, hbw3⟩
      go_wp2
      go_roundw
      case rel => exact ⟨(q + 1) + 1, by omega, by go_num, (show Hid _ from fun j hj => by
       by_cases e : j = (q + 1)
       · subst e; rw [hOk.out]; rfl
       · exact A.out j (by omega)), hbr3⟩
      case measure => simp [intOf]; omega
  · have hltz : ¬ (k : Int) < (items.length : Int) := by omega
    have E2 : Hid (R = true) := IYes.out (by omega) (fun j hj => A.out j (by omega))
    clear hmm INo IYes ILong EO
    go_wp2
    go_ret
    exact ⟨ret_bool E2.out.symm, hbw⟩

/- The contracts of store.inMemory and store.chunksHeld: how many items of each class are in memory, how many may be. -/

/-- Is the item at j in memory, and of the class c? -/
def hitC (l : List ItemR) (c : Int) (j : Nat) : Bool := !(l.getD j default).far && decide (classN (l.getD j default).key.size (l.getD j default).value.size = c)
/-- How many of the first ones are so. -/
def cntC (l : List ItemR) (c : Int) : Nat → Nat
 | 0 => 0
 | k + 1 => cntC l c k + (if hitC l c k = true then 1 else 0)

theorem cntC_le (l : List ItemR) (c : Int) : ∀ k, cntC l c k ≤ k
 | 0 => Nat.le_refl _
 | k + 1 => by
  have h := cntC_le l c k
  unfold cntC
  split <;> omega
theorem cntC_miss {l : List ItemR} {c : Int} {k : Nat} (h : hitC l c k = false) : cntC l c (k + 1) = cntC l c k := by rw [cntC, h]; simp
theorem cntC_hit {l : List ItemR} {c : Int} {k : Nat} (h : hitC l c k = true) : cntC l c (k + 1) = cntC l c k + 1 := by rw [cntC, h]; simp

def cntV (l : List ItemR) (k : Nat) : Array Value := #[.int .i64 (cntC l 0 k), .int .i64 (cntC l 1 k), .int .i64 (cntC l 2 k), .int .i64 (cntC l 3 k)]

theorem cntV_far {l : List ItemR} {k : Nat} (h : (l.getD k default).far = true) : cntV l k = cntV l (k + 1) := by
 have e : ∀ c, hitC l c k = false := fun c => by unfold hitC; rw [h]; rfl
 unfold cntV
 rw [cntC_miss (e 0), cntC_miss (e 1), cntC_miss (e 2), cntC_miss (e 3)]

theorem hitC_near {l : List ItemR} {k : Nat} (h : (l.getD k default).far = false) (c : Int) : hitC l c k = decide (classN (l.getD k default).key.size (l.getD k default).value.size = c) := by unfold hitC; rw [h]; rfl

theorem cntV_near {l : List ItemR} {k : Nat} (h : (l.getD k default).far = false) (n : Nat) (hn : n ≤ 3) (hc : classN (l.getD k default).key.size (l.getD k default).value.size = n) :
 (cntV l k).setIfInBounds n (.int .i64 ((cntC l n k : Int) + 1)) = cntV l (k + 1) := by
 have e : ∀ c : Int, c ≠ n → cntC l c (k + 1) = cntC l c k := fun c hcn => cntC_miss (by rw [hitC_near h, hc]; simp; omega)
 have e1 : cntC l n (k + 1) = cntC l n k + 1 := cntC_hit (by rw [hitC_near h, hc]; simp)
 have hn : n = 0 ∨ n = 1 ∨ n = 2 ∨ n = 3 := by omega
 unfold cntV
 rcases hn with rfl | rfl | rfl | rfl
 · rw [e 1 (by decide), e 2 (by decide), e 3 (by decide), show ((0 : Nat) : Int) = 0 from rfl] at *
   rw [e1]; rfl
 · rw [e 0 (by decide), e 2 (by decide), e 3 (by decide), show ((1 : Nat) : Int) = 1 from rfl] at *
   rw [e1]; rfl
 · rw [e 0 (by decide), e 1 (by decide), e 3 (by decide), show ((2 : Nat) : Int) = 2 from rfl] at *
   rw [e1]; rfl
 · rw [e 0 (by decide), e 1 (by decide), e 2 (by decide), show ((3 : Nat) : Int) = 3 from rfl] at *
   rw [e1]; rfl

set_option maxHeartbeats 2000000 in
set_option maxRecDepth 100000 in
theorem inMemory_any (l : List ItemR) (a : Option Addr) (c : Nat) (w : World) (hI : ItemsAt w a l) (hok : ItemsOk l) (hL : LaidC w) (hlen : l.length ≤ 1000)
 (hcl : ∀ j, j < l.length → (l.getD j default).far = false → ∃ n : Nat, n ≤ 3 ∧ classN (l.getD j default).key.size (l.getD j default).value.size = n) :
 Calls Tryz.prog 46 #[.slice a l.length c] w fun e w' => e = .returned (.agg (cntV l l.length)) ∧ Below w.heap.size w w' := by
 obtain ⟨hmax, hmm⟩ := hI
 unfold maxLen at hmax
 have hB0 : ∀ o1 o2, Below w.heap.size w ((w.alloc o1).alloc o2) := fun o1 o2 => ((Below.refl _ _).alloc (Nat.le_refl _) _).alloc (by simp) _
 go_enter Tryz.func46, Tryz.ntmps46
 go_wp2_with fail
 go_loopw [8] (fun i wr => ∃ k : Nat, k ≤ l.length ∧ i = .int .i64 k ∧ Below w.heap.size w wr ∧ TB 23 wr w.heap.size #[.int .i64 0, .int .i64 0, .int .i64 0, .int .i64 0] ∧ TB 23 wr (w.heap.size + 1) (cntV l k)) (fun i _ => l.length - (intOf i).toNat)
 case atStart => exact ⟨0, Nat.zero_le _, rfl, hB0 _ _, (TB.new _ _ _).alloc _, (by simpa [cntV, cntC] using TB.new 23 (w.alloc (.cells #[.int .i64 0, .int .i64 0, .int .i64 0, .int .i64 0] 23)) #[.int .i64 0, .int .i64 0, .int .i64 0, .int .i64 0])⟩
 case round =>
  obtain ⟨k, hk, rfl, hb, t0, t1⟩ := hrel
  have hz0 := t0.lt
  have hz1 := t1.lt
  by_cases hlt : k < l.length
  · have hltz : (k : Int) < (l.length : Int) := by omega
    have hk0 : (0 : Int) ≤ (k : Int) := Int.natCast_nonneg _
    rcases hmm with hmm | ⟨b, o, rfl, hbl, hc⟩
    · omega
    obtain ⟨n0, n1, n2, n3, n4, n5, n6, n7, n8⟩ := (hc k hlt).later hbl hb
    have hlb : b < wr.heap.size := Nat.lt_of_lt_of_le hbl hb.size
    have okk := hok k hlt
    have hclk := hcl k hlt
    have hfarV : Hid ((l.getD k default).far = true → cntV l k = cntV l (k + 1)) := cntV_far
    have hnearV : Hid ((l.getD k default).far = false → ∀ n : Nat, n ≤ 3 → classN (l.getD k default).key.size (l.getD k default).value.size = n → (cntV l k).setIfInBounds n (.int .i64 ((cntC l n k : Int) + 1)) = cntV l (k + 1)) := fun h n hn hc => cntV_near h n hn hc
    have hsc := fun w1 hb => sclassOf_any (l.getD k default) w1 (hL.later hb) okk
    have hA1 : ∀ o, Below wr.heap.size wr (wr.alloc o) := fun o => (Below.refl _ _).alloc (Nat.le_refl _) _
    clear hc hcl hok
    generalize l.getD k default = it at *
    generalize hCN : classN it.key.size it.value.size = C at *
    clear hCN
    obtain ⟨key, flags, until_, cas, used, value, far, page, at_⟩ := it
    simp only at *
    cases far
    · obtain ⟨n, hn, rfl⟩ := hclk rfl
      have hV := hnearV.out rfl n hn rfl
      have hcnt := cntC_le l n k
      have hn0 : (0 : Int) ≤ (n : Int) := Int.natCast_nonneg _
      have hn4 : (n : Int) < 4 := by omega
      have hcell : (cntV l k)[n]? = some (.int .i64 (cntC l n k)) := by
       have hn : n = 0 ∨ n = 1 ∨ n = 2 ∨ n = 3 := by omega
       rcases hn with rfl | rfl | rfl | rfl <;> rfl
      generalize hK : cntC l n k = K at *
      go_wp2_with fail
      refine (hsc _ (hb.trans ((hA1 _).mono hb.size))).mono ?_
      rintro e w2 ⟨rfl, hb2⟩
      have hBr : Below wr.heap.size wr w2 := (hA1 _).trans (hb2.mono (by simp))
      have t0' := t0.later hBr
      have t1' := t1.later hBr
      have f1 := t1'.frozen n
      have g1 : w2.cell? ⟨w.heap.size + 1, n, none⟩ = some (.int .i64 K) := by rw [t1'.cell n]; exact hcell
      have hz2 := t1'.lt
      clear hsc hb2 n0 n1 n2 n3 n4 n5 n6 n7 n8
      go_wp2_with fail
      go_roundw
      case rel => exact ⟨k + 1, by omega, by go_num, (hb.trans (hBr.mono hb.size)).setCell (by show _ ≤ w.heap.size + 1; omega) _, t0'.far _ _ (by show w.heap.size ≠ w.heap.size + 1; omega), (by have h := t1'.set n (.int .i64 ((K : Int) + 1)); rw [hV] at h; exact h)⟩
      case measure => simp [intOf]; omega
    · have hV := hfarV.out rfl
      clear hsc
      go_wp2
      go_roundw
      case rel => exact ⟨k + 1, by omega, by go_num, hb.trans ((hA1 _).mono hb.size), t0.alloc _, by rw [← hV]; exact t1.alloc _⟩
      case measure => simp [intOf]; omega
  · have hltz : ¬ (k : Int) < (l.length : Int) := by omega
    have hke : k = l.length := by omega
    subst hke
    have q0 := fun j => t0.cell j
    have q1 := fun j => t1.cell j
    have f0 := fun j => t0.frozen j
    unfold cntV at *
    have e0 : wr.cell? ⟨w.heap.size, 0, none⟩ = some (.int .i64 0) := q0 0
    have e1 : wr.cell? ⟨w.heap.size, 1, none⟩ = some (.int .i64 0) := q0 1
    have e2 : wr.cell? ⟨w.heap.size, 2, none⟩ = some (.int .i64 0) := q0 2
    have e3 : wr.cell? ⟨w.heap.size, 3, none⟩ = some (.int .i64 0) := q0 3
    go_wp2_with fail
    refine bodyPost_ret (v := .agg #[.int .i64 (cntC l 0 l.length), .int .i64 (cntC l 1 l.length), .int .i64 (cntC l 2 l.length), .int .i64 (cntC l 3 l.length)]) (by simp [results, Tryz.results46, go_sem, e0, e1, e2, e3, hz0]) rfl ⟨rfl, ?_⟩
    exact (((hb.setCell (Nat.le_refl _) _).setCell (Nat.le_refl _) _).setCell (Nat.le_refl _) _).setCell (Nat.le_refl _) _

theorem idx4_at (a b c d : Int) (n : Nat) (v : Int) (hn : n ≤ 3) (hv : (#[Value.int .i64 a, .int .i64 b, .int .i64 c, .int .i64 d] : Array Value)[n]? = some (.int .i64 v)) (w : World) : (Instr.index 23 (.agg #[.int .i64 a, .int .i64 b, .int .i64 c, .int .i64 d]) (.int .i64 n)).run Tryz.prog w = .ok (.int .i64 v) w := by
 obtain ⟨i0, i1, i2, i3⟩ := idx4 a b c d w
 have hn : n = 0 ∨ n = 1 ∨ n = 2 ∨ n = 3 := by omega
 rcases hn with rfl | rfl | rfl | rfl
 · cases hv; exact i0
 · cases hv; exact i1
 · cases hv; exact i2
 · cases hv; exact i3

def heldN (s : StoreR) (n : Nat) : Int := [s.h0, s.h1, s.h2, s.h3].getD n 0
def perN (n : Nat) : Int := [8, 4, 2, 1].getD n 0
def roomN (s : StoreR) (n : Nat) : Int := heldN s n * perN n

set_option maxHeartbeats 1000000 in
set_option maxRecDepth 100000 in
theorem chunksHeld_any (s : StoreR) (ia : Option Addr) (ic : Nat) (pa : Option Addr) (pc : Nat) (n : Nat) (hn : n ≤ 3) (w : World) (hL : LaidC w) (hr : ∀ m, m ≤ 3 → 0 ≤ heldN s m ∧ heldN s m ≤ 40) :
 Calls Tryz.prog 47 #[storeV s ia ic pa pc, .int .i64 n] w fun e w' => e = .returned (.int .i64 (roomN s n)) ∧ Below w.heap.size w w' := by
 have E : Hid (roomN s n = heldN s n * perN n) := rfl
 have r := hr n hn
 have hB0 : ∀ o, Below w.heap.size w (w.alloc o) := fun o => (Below.refl _ _).alloc (Nat.le_refl _) _
 have hL2 := fun o => hL.later (hB0 o)
 obtain ⟨hC, c0, c1, c2, c3⟩ := hL
 generalize roomN s n = R at *
 obtain ⟨clock, scas, uses, most, h0, h1, h2, h3, items, fm, fx, pages⟩ := s
 unfold storeV heldN at *
 simp only at *
 clear hr hL2
 have hn : n = 0 ∨ n = 1 ∨ n = 2 ∨ n = 3 := by omega
 rcases hn with rfl | rfl | rfl | rfl
 · obtain ⟨r1, r2⟩ : 0 ≤ h0 ∧ h0 ≤ 40 := r
   have E2 : Hid (R = h0 * 8) := E.out
   clear E
   go_enter Tryz.func47, Tryz.ntmps47
   go_wp2_with fail
   go_quiet (fail)
   go_wp2
   go_ret
   exact ⟨ret_i64 (by rw [E2.out]), (hB0 _).trans ((drewN_below _ nq).mono (hB0 _).size)⟩
 · obtain ⟨r1, r2⟩ : 0 ≤ h1 ∧ h1 ≤ 40 := r
   have E2 : Hid (R = h1 * 4) := E.out
   clear E
   go_enter Tryz.func47, Tryz.ntmps47
   go_wp2_with fail
   go_quiet (fail)
   go_wp2
   go_ret
   exact ⟨ret_i64 (by rw [E2.out]), (hB0 _).trans ((drewN_below _ nq).mono (hB0 _).size)⟩
 · obtain ⟨r1, r2⟩ : 0 ≤ h2 ∧ h2 ≤ 40 := r
   have E2 : Hid (R = h2 * 2) := E.out
   clear E
   go_enter Tryz.func47, Tryz.ntmps47
   go_wp2_with fail
   go_quiet (fail)
   go_wp2
   go_ret
   exact ⟨ret_i64 (by rw [E2.out]), (hB0 _).trans ((drewN_below _ nq).mono (hB0 _).size)⟩
 · obtain ⟨r1, r2⟩ : 0 ≤ h3 ∧ h3 ≤ 40 := r
   have E2 : Hid (R = h3 * 1) := E.out
   clear E
   go_enter Tryz.func47, Tryz.ntmps47
   go_wp2_with fail
   go_quiet (fail)
   go_wp2
   go_ret
   exact ⟨ret_i64 (by rw [E2.out]; simp), (hB0 _).trans ((drewN_below _ nq).mono (hB0 _).size)⟩

def chunksB (s : StoreR) : Bool := (List.range 4).all fun n => decide ((cntC s.items n s.items.length : Int) ≤ roomN s n)

theorem chunks_no (s : StoreR) (n : Nat) (hn : n < 4) (h : ¬ (cntC s.items n s.items.length : Int) ≤ roomN s n) : chunksB s = false := List.all_eq_false.2 ⟨n, List.mem_range.2 hn, by simp; omega⟩
theorem chunks_yes (s : StoreR) (h : ∀ n : Nat, n < 4 → (cntC s.items n s.items.length : Int) ≤ roomN s n) : chunksB s = true := List.all_eq_true.2 fun n hn => by simpa using h n (List.mem_range.1 hn)

set_option maxHeartbeats 2000000 in
set_option maxRecDepth 100000 in
theorem chunks_any (s : StoreR) (ia : Option Addr) (ic : Nat) (pa : Option Addr) (pc : Nat) (w : World) (hI : ItemsAt w ia s.items) (hok : ItemsOk s.items) (hL : LaidC w) (hlen : s.items.length ≤ 1000)
 (hcl : ∀ j, j < s.items.length → (s.items.getD j default).far = false → ∃ n : Nat, n ≤ 3 ∧ classN (s.items.getD j default).key.size (s.items.getD j default).value.size = n) (hr : ∀ m, m ≤ 3 → 0 ≤ heldN s m ∧ heldN s m ≤ 40) :
 Calls Tryz.prog 32 #[storeV s ia ic pa pc] w fun e w' => e = .returned (.bool (chunksB s)) ∧ Below w.heap.size w w' := by
 have hin := fun w1 hb => inMemory_any s.items ia ic w1 (hI.later hb) hok (hL.later hb) hlen hcl
 have hch := fun n hn w1 hb => chunksHeld_any s ia ic pa pc n hn w1 (hL.later hb) hr
 have CNo : Hid (∀ n : Nat, n < 4 → ¬ (cntC s.items n s.items.length : Int) ≤ roomN s n → chunksB s = false) := fun n hn h => chunks_no s n hn h
 have CYes : Hid ((∀ n : Nat, n < 4 → (cntC s.items n s.items.length : Int) ≤ roomN s n) → chunksB s = true) := chunks_yes s
 generalize chunksB s = R at *
 generalize roomN s = RM at *
 have hcv : ∀ n : Nat, n ≤ 3 → (cntV s.items s.items.length)[n]? = some (.int .i64 (cntC s.items n s.items.length)) := fun n hn => by
  have hn : n = 0 ∨ n = 1 ∨ n = 2 ∨ n = 3 := by omega
  rcases hn with rfl | rfl | rfl | rfl <;> rfl
 clear hr hcl hok hI
 obtain ⟨clock, scas, uses, most, h0, h1, h2, h3, items, fm, fx, pages⟩ := s
 unfold storeV at *
 simp only at *
 have hB0 : ∀ o, Below w.heap.size w (w.alloc o) := fun o => (Below.refl _ _).alloc (Nat.le_refl _) _
 go_enter Tryz.func32, Tryz.ntmps32
 go_wp2_with fail
 refine (hin _ (hB0 _)).mono ?_
 rintro e w1 ⟨rfl, hb1⟩
 have bs : ∀ j, w1.cell? ⟨w.heap.size, j, none⟩ = (#[.int .i64 clock, .int .i64 scas, .int .i64 uses, .int .i64 most, .int .i64 h0, .int .i64 h1, .int .i64 h2, .int .i64 h3, .slice ia items.length ic, .int .i64 fm, .int .i64 fx, .slice pa pages.length pc] : Array Value)[j]? := fun j => by rw [hb1.cell (p := ⟨w.heap.size, j, none⟩) (by simp)]; simp [go_sem]
 have hz := bsize hb1
 have hB1 : Below w.heap.size w w1 := (hB0 _).trans (hb1.mono (by simp))
 clear hb1 hin
 have hix : ∀ n : Nat, n ≤ 3 → ∀ w2, (Instr.index 23 (.agg (cntV items items.length)) (.int .i64 n)).run Tryz.prog w2 = .ok (.int .i64 (cntC items n items.length)) w2 := fun n hn w2 => idx4_at _ _ _ _ n _ hn (hcv n hn) w2
 clear hcv
 generalize cntV items items.length = V at *
 go_wp2_with fail
 go_loopw [8] (fun i wr => ∃ n : Nat, n ≤ 4 ∧ i = .int .i64 n ∧ Hid (∀ m : Nat, m < n → (cntC items m items.length : Int) ≤ RM m) ∧ Below w1.heap.size w1 wr) (fun i _ => 4 - (intOf i).toNat)
 case atStart => exact ⟨0, Nat.zero_le _, rfl, fun j hj => absurd hj (Nat.not_lt_zero _), Below.refl _ _⟩
 case round =>
  obtain ⟨n, hn, rfl, A, hb⟩ := hrel
  have hbw : Below w.heap.size w wr := hB1.trans (hb.mono hB1.size)
  have br : ∀ j, wr.cell? ⟨w.heap.size, j, none⟩ = (#[.int .i64 clock, .int .i64 scas, .int .i64 uses, .int .i64 most, .int .i64 h0, .int .i64 h1, .int .i64 h2, .int .i64 h3, .slice ia items.length ic, .int .i64 fm, .int .i64 fx, .slice pa pages.length pc] : Array Value)[j]? := fun j => by rw [hb.cell (p := ⟨w.heap.size, j, none⟩) hz]; exact bs j
  by_cases hlt : n < 4
  · have hltz : (n : Int) < 4 := by omega
    have hi := hix n (by omega)
    have hc := hch n (by omega) wr hbw
    have hno := CNo.out n hlt
    generalize hQ : cntC items n items.length = Q at *
    generalize hM : RM n = M at *
    clear hix hch CNo
    by_cases hle : (Q : Int) ≤ M
    · go_wp2_with (go_at_call 47; refine hc.mono ?_; rintro e w2 ⟨rfl, hb2⟩)
      go_roundw
      case rel => exact ⟨n + 1, by omega, by go_num, (show Hid _ from fun m hm => by
       by_cases e : m = n
       · subst e; rw [hQ, hM]; exact hle
       · exact A.out m (by omega)), hb.trans (hb2.mono hb.size)⟩
      case measure => simp [intOf]; omega
    · have E2 : Hid (R = false) := hno (by omega)
      have hle2 : ¬ (Q : Int) ≤ M := hle
      go_wp2_with (go_at_call 47; refine hc.mono ?_; rintro e w2 ⟨rfl, hb2⟩)
      go_ret
      exact ⟨ret_bool E2.out.symm, hbw.trans (hb2.mono hbw.size)⟩
  · have hltz : ¬ (n : Int) < 4 := by omega
    have E2 : Hid (R = true) := CYes.out (fun m hm => A.out m (by omega))
    clear hix hch CNo CYes
    go_wp2
    go_ret
    exact ⟨ret_bool E2.out.symm, hbw⟩

/- Whether a class has a free chunk; what keeps a request from being done. -/

/-- Whether there is a free chunk of a class. -/
def freeB (s : StoreR) (n : Nat) : Bool := decide ((cntC s.items n s.items.length : Int) < roomN s n)

set_option maxHeartbeats 2000000 in
set_option maxRecDepth 100000 in
theorem free_any (s : StoreR) (ia : Option Addr) (ic : Nat) (pa : Option Addr) (pc : Nat) (n : Nat) (hn : n ≤ 3) (w : World) (hI : ItemsAt w ia s.items) (hok : ItemsOk s.items) (hL : LaidC w) (hlen : s.items.length ≤ 1000)
 (hcl : ∀ j, j < s.items.length → (s.items.getD j default).far = false → ∃ n : Nat, n ≤ 3 ∧ classN (s.items.getD j default).key.size (s.items.getD j default).value.size = n) (hr : ∀ m, m ≤ 3 → 0 ≤ heldN s m ∧ heldN s m ≤ 40) :
 Calls Tryz.prog 145 #[storeV s ia ic pa pc, .int .i64 n] w fun e w' => e = .returned (.bool (freeB s n)) ∧ Below w.heap.size w w' := by
 have hB0 : ∀ o, Below w.heap.size w (w.alloc o) := fun o => (Below.refl _ _).alloc (Nat.le_refl _) _
 have hin := fun w1 hb => inMemory_any s.items ia ic w1 (hI.later hb) hok (hL.later hb) hlen hcl
 have hch := fun w1 hb => chunksHeld_any s ia ic pa pc n hn w1 (hL.later hb) hr
 have E : Hid (freeB s n = decide ((cntC s.items n s.items.length : Int) < roomN s n)) := rfl
 have hcv : (cntV s.items s.items.length)[n]? = some (.int .i64 (cntC s.items n s.items.length)) := by
  have hn : n = 0 ∨ n = 1 ∨ n = 2 ∨ n = 3 := by omega
  rcases hn with rfl | rfl | rfl | rfl <;> rfl
 have hix : ∀ w2, (Instr.index 23 (.agg (cntV s.items s.items.length)) (.int .i64 n)).run Tryz.prog w2 = .ok (.int .i64 (cntC s.items n s.items.length)) w2 := fun w2 => idx4_at _ _ _ _ n _ hn hcv w2
 clear hcv
 generalize cntV s.items s.items.length = V at *
 generalize cntC s.items n s.items.length = Q at *
 generalize roomN s n = M at *
 generalize freeB s n = R at *
 clear hr hcl hok hI
 obtain ⟨clock, scas, uses, most, h0, h1, h2, h3, items, fm, fx, pages⟩ := s
 unfold storeV at *
 simp only at *
 have hWd := (Below.refl (w.alloc (.cells #[.int .i64 clock, .int .i64 scas, .int .i64 uses, .int .i64 most, .int .i64 h0, .int .i64 h1, .int .i64 h2, .int .i64 h3, .slice ia items.length ic, .int .i64 fm, .int .i64 fx, .slice pa pages.length pc] 29)).heap.size (w.alloc (.cells #[.int .i64 clock, .int .i64 scas, .int .i64 uses, .int .i64 most, .int .i64 h0, .int .i64 h1, .int .i64 h2, .int .i64 h3, .slice ia items.length ic, .int .i64 fm, .int .i64 fx, .slice pa pages.length pc] 29))).drew
 have bs : ∀ wx, Below (w.alloc (.cells #[.int .i64 clock, .int .i64 scas, .int .i64 uses, .int .i64 most, .int .i64 h0, .int .i64 h1, .int .i64 h2, .int .i64 h3, .slice ia items.length ic, .int .i64 fm, .int .i64 fx, .slice pa pages.length pc] 29)).heap.size (w.alloc (.cells #[.int .i64 clock, .int .i64 scas, .int .i64 uses, .int .i64 most, .int .i64 h0, .int .i64 h1, .int .i64 h2, .int .i64 h3, .slice ia items.length ic, .int .i64 fm, .int .i64 fx, .slice pa pages.length pc] 29)) wx → ∀ j, wx.cell? ⟨w.heap.size, j, none⟩ = (#[.int .i64 clock, .int .i64 scas, .int .i64 uses, .int .i64 most, .int .i64 h0, .int .i64 h1, .int .i64 h2, .int .i64 h3, .slice ia items.length ic, .int .i64 fm, .int .i64 fx, .slice pa pages.length pc] : Array Value)[j]? := fun wx hx j => by rw [hx.cell (p := ⟨w.heap.size, j, none⟩) (by simp)]; simp [go_sem]
 have hin2 := fun w1 (hb : Below (w.alloc (.cells #[.int .i64 clock, .int .i64 scas, .int .i64 uses, .int .i64 most, .int .i64 h0, .int .i64 h1, .int .i64 h2, .int .i64 h3, .slice ia items.length ic, .int .i64 fm, .int .i64 fx, .slice pa pages.length pc] 29)).heap.size (w.alloc (.cells #[.int .i64 clock, .int .i64 scas, .int .i64 uses, .int .i64 most, .int .i64 h0, .int .i64 h1, .int .i64 h2, .int .i64 h3, .slice ia items.length ic, .int .i64 fm, .int .i64 fx, .slice pa pages.length pc] 29)) w1) => hin w1 ((hB0 _).trans (hb.mono (hB0 _).size))
 have hch2 := fun w1 (hb : Below (w.alloc (.cells #[.int .i64 clock, .int .i64 scas, .int .i64 uses, .int .i64 most, .int .i64 h0, .int .i64 h1, .int .i64 h2, .int .i64 h3, .slice ia items.length ic, .int .i64 fm, .int .i64 fx, .slice pa pages.length pc] 29)).heap.size (w.alloc (.cells #[.int .i64 clock, .int .i64 scas, .int .i64 uses, .int .i64 most, .int .i64 h0, .int .i64 h1, .int .i64 h2, .int .i64 h3, .slice ia items.length ic, .int .i64 fm, .int .i64 fx, .slice pa pages.length pc] 29)) w1) => hch w1 ((hB0 _).trans (hb.mono (hB0 _).size))
 clear hin hch
 go_enter Tryz.func145, Tryz.ntmps145
 go_wp2_with fail
 go_region_held3 (fun w' => ∀ j, w'.cell? ⟨w.heap.size, j, none⟩ = (#[.int .i64 clock, .int .i64 scas, .int .i64 uses, .int .i64 most, .int .i64 h0, .int .i64 h1, .int .i64 h2, .int .i64 h3, .slice ia items.length ic, .int .i64 fm, .int .i64 fx, .slice pa pages.length pc] : Array Value)[j]?) (first | exact bs _ hWd | exact bs _ hX2 | exact bs _ hX3) (first | (go_at_call 46; refine (hin2 _ (by first | exact hWd | exact hX3)).mono ?_; rintro e w2 ⟨rfl, hb2⟩; have hX2 := (show Below (w.alloc (.cells #[.int .i64 clock, .int .i64 scas, .int .i64 uses, .int .i64 most, .int .i64 h0, .int .i64 h1, .int .i64 h2, .int .i64 h3, .slice ia items.length ic, .int .i64 fm, .int .i64 fx, .slice pa pages.length pc] 29)).heap.size (w.alloc (.cells #[.int .i64 clock, .int .i64 scas, .int .i64 uses, .int .i64 most, .int .i64 h0, .int .i64 h1, .int .i64 h2, .int .i64 h3, .slice ia items.length ic, .int .i64 fm, .int .i64 fx, .slice pa pages.length pc] 29)) w2 from by first | exact hWd.trans (hb2.mono hWd.size) | exact hX3.trans (hb2.mono hX3.size))) | (go_at_call 47; refine (hch2 _ (by first | exact hWd | exact hX2)).mono ?_; rintro e w3 ⟨rfl, hb3⟩; have hX3 := (show Below (w.alloc (.cells #[.int .i64 clock, .int .i64 scas, .int .i64 uses, .int .i64 most, .int .i64 h0, .int .i64 h1, .int .i64 h2, .int .i64 h3, .slice ia items.length ic, .int .i64 fm, .int .i64 fx, .slice pa pages.length pc] 29)).heap.size (w.alloc (.cells #[.int .i64 clock, .int .i64 scas, .int .i64 uses, .int .i64 most, .int .i64 h0, .int .i64 h1, .int .i64 h2, .int .i64 h3, .slice ia items.length ic, .int .i64 fm, .int .i64 fx, .slice pa pages.length pc] 29)) w3 from by first | exact hWd.trans (hb3.mono hWd.size) | exact hX2.trans (hb3.mono hX2.size))))
 all_goals
  go_wp2
  go_ret
  first
  | exact ⟨ret_bool E.out.symm, (hB0 _).trans (hX3.mono (hB0 _).size)⟩
  | exact ⟨ret_bool E.out.symm, (hB0 _).trans (hX2.mono (hB0 _).size)⟩

/-- What keeps a request of a kind from being done. -/
def unmetN (k : Int) (there : Bool) : Int :=
 if k = 2 then 0 else if k = 3 ∧ there = true then 3 else if k = 3 ∨ there = true then 0 else if k = 4 ∨ k = 5 ∨ k = 6 then 3 else 5

set_option maxHeartbeats 1000000 in
theorem unmet_any (k : Int) (there : Bool) (w : World) : Calls Tryz.prog 83 #[.int .i64 k, .bool there] w fun e w' => e = .returned (.int .i64 (unmetN k there)) ∧ w' = w := by
 have E : Hid (unmetN k there = if k = 2 then 0 else if k = 3 ∧ there = true then 3 else if k = 3 ∨ there = true then 0 else if k = 4 ∨ k = 5 ∨ k = 6 then 3 else 5) := rfl
 generalize unmetN k there = R at *
 by_cases h2 : k = 2
 · subst h2
   go_enter Tryz.func83, Tryz.ntmps83
   go_wp2
   go_ret
   exact ⟨ret_i64 (by rw [E.out]; simp), rfl⟩
 · have b2 : (k == 2) = false := by simp [h2]
   by_cases h3 : k = 3
   · subst h3
     cases there
     · go_enter Tryz.func83, Tryz.ntmps83
       go_wp2
       go_ret
       exact ⟨ret_i64 (by rw [E.out]; simp), rfl⟩
     · go_enter Tryz.func83, Tryz.ntmps83
       go_wp2
       go_ret
       exact ⟨ret_i64 (by rw [E.out]; simp), rfl⟩
   · have b3 : (k == 3) = false := by simp [h3]
     cases there
     · by_cases h4 : k = 4
       · subst h4
         go_enter Tryz.func83, Tryz.ntmps83
         go_wp2
         go_ret
         exact ⟨ret_i64 (by rw [E.out]; simp), rfl⟩
       · have b4 : (k == 4) = false := by simp [h4]
         by_cases h5 : k = 5
         · subst h5
           go_enter Tryz.func83, Tryz.ntmps83
           go_wp2
           go_ret
           exact ⟨ret_i64 (by rw [E.out]; simp), rfl⟩
         · have b5 : (k == 5) = false := by simp [h5]
           by_cases h6 : k = 6
           · subst h6
             go_enter Tryz.func83, Tryz.ntmps83
             go_wp2
             go_ret
             exact ⟨ret_i64 (by rw [E.out]; simp), rfl⟩
           · have b6 : (k == 6) = false := by simp [h6]
             go_enter Tryz.func83, Tryz.ntmps83
             go_wp2
             go_ret
             exact ⟨ret_i64 (by rw [E.out]; simp [h2, h3, h4, h5, h6]), rfl⟩
     · go_enter Tryz.func83, Tryz.ntmps83
       go_wp2
       go_ret
       exact ⟨ret_i64 (by rw [E.out]; simp [h2, h3]), rfl⟩

end Go.Proofs.YtdblegdgmjakfaaGreatDoor
