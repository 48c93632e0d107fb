/- The contract of store.itemsFit. -/
import Derived.Test.YtogpkbhjobhodaaDoorSChk3
import Derived.BigQuiet
import Derived.Laws.Cover1
import Derived.Deep.QuietTactic
namespace Go.Proofs.YtogpkbhjobhodaaDoor
open Go.ChangeShapes Go.WideShapes Go.ChangeAt Go.RowKit
set_option linter.unusedVariables false
set_option linter.unusedSimpArgs false

/-- One text does not stand behind another. -/
def leB (a b : ByteArray) : Bool := Op.bytesLess a.toList b.toList || a.toList == b.toList
def orderB (l : List ItemR) (k : Nat) : Bool := !(decide (0 < k) && leB (l.getD k default).key (l.getD (k - 1) default).key)
def okAt (s : StoreR) (k : Nat) : Bool := orderB s.items k && (fieldsB s (s.items.getD k default) && valueB s.pages (s.items.getD k default))
def itemsB (s : StoreR) : Bool := decide (s.items.length ≤ 1000) && (List.range s.items.length).all (okAt s)

theorem items_no (s : StoreR) (k : Nat) (hk : k < s.items.length) (h : okAt s k = false) : itemsB s = false := by
  unfold itemsB
  have : (List.range s.items.length).all (okAt s) = false := List.all_eq_false.2 ⟨k, List.mem_range.2 hk, by simp [h]⟩
  rw [this]
  simp
theorem items_yes (s : StoreR) (hl : s.items.length ≤ 1000) (h : ∀ j, j < s.items.length → okAt s j = true) : itemsB s = true := by
  unfold itemsB
  rw [decide_eq_true hl]
  exact List.all_eq_true.2 fun j hj => h j (List.mem_range.1 hj)

def ItemsOk (l : List ItemR) : Prop := ∀ j, j < l.length → ItemOk (l.getD j default)

set_option maxHeartbeats 4000000 in
set_option maxRecDepth 100000 in
theorem items_any (s : StoreR) (ia : Option Addr) (ic : Nat) (pa : Option Addr) (pc : Nat) (w : World) (hS : StoreIn w s ia pa) (hok : ItemsOk s.items) (h1p : ∀ j, j < s.pages.length → 1 ≤ (s.pages.getD j default).bs.length) :
    Calls Tryd.prog 24 #[storeV s ia ic pa pc] w fun e w' => e = .returned (.bool (itemsB s)) ∧ Below w.heap.size w w' := by
  have hfi := fun it w1 (ok : ItemOk it) => fields_any s it ia ic pa pc w1 ok
  have hva := fun it w1 hb (ok : ItemOk it) => value_any s.fm s.fx s.pages pa pc it w1 (hS.2.later hb) h1p ok
  have INo : Hid (∀ k, k < s.items.length → okAt s k = false → itemsB s = false) := fun k hk h => items_no s k hk h
  have IYes : Hid (s.items.length ≤ 1000 → (∀ j, j < s.items.length → okAt s j = true) → itemsB s = true) := items_yes s
  have ILong : Hid (1000 < s.items.length → itemsB s = false) := fun h => by unfold itemsB; rw [decide_eq_false (by omega)]; rfl
  have EO : Hid (∀ k, okAt s k = (orderB s.items k && (fieldsB s (s.items.getD k default) && valueB s.pages (s.items.getD k default)))) := fun _ => rfl
  generalize itemsB s = R at *
  generalize okAt s = OK at *
  obtain ⟨⟨hmax, hmm⟩, _⟩ := hS
  unfold maxLen at hmax
  generalize fieldsB s = FB at *
  obtain ⟨clock, scas, uses, most, h0, h1, h2, h3, items, fm, fx, pages⟩ := s
  unfold storeV at *
  simp only at *
  have hB0 : ∀ o, Below w.heap.size w (w.alloc o) := fun o => (Below.refl _ _).alloc (Nat.le_refl _) _
  by_cases hlong : 1000 < items.length
  · have hlongz : (1000 : Int) < (items.length : Int) := by omega
    have E2 : Hid (R = false) := ILong.out hlong
    go_enter Tryd.func24, Tryd.ntmps24
    go_wp2
    go_ret
    exact ⟨ret_bool E2.out.symm, hB0 _⟩
  have hlongz : ¬ (1000 : Int) < (items.length : Int) := by omega
  go_enter Tryd.func24, Tryd.ntmps24
  go_wp2_with fail
  go_loopw [12] (fun i wr => ∃ k : Nat, k ≤ items.length ∧ i = .int .i64 k ∧ Hid (∀ j, j < k → OK j = true) ∧ Below (w.alloc (.cells #[.int .i64 clock, .int .i64 scas, .int .i64 uses, .int .i64 most, .int .i64 h0, .int .i64 h1, .int .i64 h2, .int .i64 h3, .slice ia items.length ic, .int .i64 fm, .int .i64 fx, .slice pa pages.length pc] 29)).heap.size (w.alloc (.cells #[.int .i64 clock, .int .i64 scas, .int .i64 uses, .int .i64 most, .int .i64 h0, .int .i64 h1, .int .i64 h2, .int .i64 h3, .slice ia items.length ic, .int .i64 fm, .int .i64 fx, .slice pa pages.length pc] 29)) wr) (fun i _ => items.length - (intOf i).toNat)
  case atStart => exact ⟨0, Nat.zero_le _, rfl, fun j hj => absurd hj (Nat.not_lt_zero _), Below.refl _ _⟩
  case round =>
    obtain ⟨k, hk, rfl, A, hb⟩ := hrel
    have hbw : Below w.heap.size w wr := (hB0 _).trans (hb.mono (by simp))
    have bs : ∀ j, wr.cell? ⟨w.heap.size, j, none⟩ = (#[.int .i64 clock, .int .i64 scas, .int .i64 uses, .int .i64 most, .int .i64 h0, .int .i64 h1, .int .i64 h2, .int .i64 h3, .slice ia items.length ic, .int .i64 fm, .int .i64 fx, .slice pa pages.length pc] : Array Value)[j]? := fun j => by rw [hb.cell (p := ⟨w.heap.size, j, none⟩) (by simp)]; simp [go_sem]
    have hz : w.heap.size < wr.heap.size := bsize hb
    by_cases hlt : k < items.length
    · have hltz : (k : Int) < (items.length : Int) := by omega
      have hk0 : (0 : Int) ≤ (k : Int) := Int.natCast_nonneg _
      have hno : Hid (OK k = false → R = false) := fun h => INo.out k hlt h
      have hOk0 : Hid (OK k = (orderB items k && (FB (items.getD k default) && valueB pages (items.getD k default)))) := EO.out k
      rcases hmm with hmm | ⟨b, o, rfl, hbl, hc⟩
      · omega
      obtain ⟨n0, n1, n2, n3, n4, n5, n6, n7, n8⟩ := (hc k hlt).later hbl hbw
      have hlb : b < wr.heap.size := Nat.lt_of_lt_of_le hbl hbw.size
      have okk := hok k hlt
      have hfk := fun w1 => hfi (items.getD k default) w1 okk
      have hvk := fun w1 hb => hva (items.getD k default) w1 hb okk
      have OR : Hid (orderB items k = !(decide (0 < k) && leB (items.getD k default).key (items.getD (k - 1) default).key)) := rfl
      clear hfi hva INo IYes ILong EO hok h1p
      by_cases hkz : k = 0
      · subst hkz
        clear hc
        rw [Nat.zero_mul, Nat.add_zero] at n0 n1 n2 n3 n4 n5 n6 n7 n8
        have hOk : Hid (OK 0 = (FB (items.getD 0 default) && valueB pages (items.getD 0 default))) := by unfold Hid; rw [hOk0.out, OR.out]; rfl
        clear OR hOk0
        generalize valueB pages (items.getD 0 default) = bV at *
        generalize FB (items.getD 0 default) = bF at *
        generalize items.getD 0 default = it at *
        obtain ⟨key, flags, until_, cas, used, value, far, page, at_⟩ := it
        simp only at *
        go_wp2_with fail
        go_quiet (fail)
        have hA1 : Below wr.heap.size wr (wr.alloc (.cells #[.string key, .int .i64 flags, .int .i64 until_, .int .i64 cas, .int .i64 used, .string value, .bool far, .int .i64 page, .int .i64 at_] 49)) := (Below.refl _ _).alloc (Nat.le_refl _) _
        go_wp2_with fail
        refine (hfk _).mono ?_
        rintro e w2 ⟨rfl, hb2⟩
        have hB2 : Below (wr.alloc (.cells #[.string key, .int .i64 flags, .int .i64 until_, .int .i64 cas, .int .i64 used, .string value, .bool far, .int .i64 page, .int .i64 at_] 49)).heap.size (wr.alloc (.cells #[.string key, .int .i64 flags, .int .i64 until_, .int .i64 cas, .int .i64 used, .string value, .bool far, .int .i64 page, .int .i64 at_] 49)) w2 := (drewN_below (wr.alloc (.cells #[.string key, .int .i64 flags, .int .i64 until_, .int .i64 cas, .int .i64 used, .string value, .bool far, .int .i64 page, .int .i64 at_] 49)) nq).trans (hb2.mono (Nat.le_refl _))
        have bi : ∀ j, w2.cell? ⟨wr.heap.size, j, none⟩ = (#[.string key, .int .i64 flags, .int .i64 until_, .int .i64 cas, .int .i64 used, .string value, .bool far, .int .i64 page, .int .i64 at_] : Array Value)[j]? := fun j => by rw [hB2.cell (p := ⟨wr.heap.size, j, none⟩) (by simp)]; simp [go_sem]
        have hBr : Below wr.heap.size wr w2 := hA1.trans (hB2.mono (by simp))
        have bs2 : ∀ j, w2.cell? ⟨w.heap.size, j, none⟩ = (#[.int .i64 clock, .int .i64 scas, .int .i64 uses, .int .i64 most, .int .i64 h0, .int .i64 h1, .int .i64 h2, .int .i64 h3, .slice (some ⟨b, o, none⟩) items.length ic, .int .i64 fm, .int .i64 fx, .slice pa pages.length pc] : Array Value)[j]? := fun j => by rw [hBr.cell (p := ⟨w.heap.size, j, none⟩) hz]; exact bs j
        have hbw2 : Below w.heap.size w w2 := hbw.trans (hBr.mono hbw.size)
        clear hb2 hfk
        cases bF
        · have E2 : Hid (R = false) := hno.out (by rw [hOk.out]; rfl)
          go_wp2
          go_ret
          exact ⟨ret_bool E2.out.symm, hbw2⟩
        go_wp2_with fail
        refine (hvk _ hbw2).mono ?_
        rintro e w3 ⟨rfl, hb3⟩
        have hbw3 : Below w.heap.size w w3 := hbw2.trans (hb3.mono hbw2.size)
        have hbr3 : Below (w.alloc (.cells #[.int .i64 clock, .int .i64 scas, .int .i64 uses, .int .i64 most, .int .i64 h0, .int .i64 h1, .int .i64 h2, .int .i64 h3, .slice (some ⟨b, o, none⟩) items.length ic, .int .i64 fm, .int .i64 fx, .slice pa pages.length pc] 29)).heap.size (w.alloc (.cells #[.int .i64 clock, .int .i64 scas, .int .i64 uses, .int .i64 most, .int .i64 h0, .int .i64 h1, .int .i64 h2, .int .i64 h3, .slice (some ⟨b, o, none⟩) items.length ic, .int .i64 fm, .int .i64 fx, .slice pa pages.length pc] 29)) w3 := hb.trans ((hBr.trans (hb3.mono hBr.size)).mono hb.size)
        cases bV
        · have E2 : Hid (R = false) := hno.out (by rw [hOk.out]; rfl)
          go_wp2
          go_ret
          exact ⟨ret_bool E2.out.symm, hbw3⟩
        go_wp2
        go_roundw
        case rel => exact ⟨0 + 1, by omega, by go_num, (show Hid _ from fun j hj => by
          by_cases e : j = 0
          · subst e; rw [hOk.out]; rfl
          · exact A.out j (by omega)), hbr3⟩
        case measure => simp [intOf]; omega
      · obtain ⟨q, rfl⟩ : ∃ q, k = q + 1 := ⟨k - 1, by omega⟩
        have hkp : 0 < q + 1 := by omega
        obtain ⟨m0, _⟩ := (hc q (by omega)).later hbl hbw
        have hk1 : (0 : Int) ≤ (q : Int) := by omega
        have hk2 : (q : Int) < (items.length : Int) := by omega
        have hk4 : IntKind.i64.wrap (q : Int) = (q : Int) := by simp only [IntKind.wrap_i64]; omega
        have hk5 : IntKind.i64.wrap (((q + 1 : Nat) : Int) - 1) = (q : Int) := by simp only [IntKind.wrap_i64]; omega
        have hk6 : IntKind.i64.wrap ((q : Int) + 1 - 1) = (q : Int) := by simp only [IntKind.wrap_i64]; omega
        have OR2 : Hid (orderB items (q + 1) = !(leB (items.getD (q + 1) default).key (items.getD q default).key)) := by unfold Hid; rw [OR.out, decide_eq_true hkp]; rfl
        have LE : (Op.bytesLess (items.getD (q + 1) default).key.toList (items.getD q default).key.toList || (items.getD (q + 1) default).key.toList == (items.getD q default).key.toList) = leB (items.getD (q + 1) default).key (items.getD q default).key := rfl
        clear hc hkz OR
        generalize valueB pages (items.getD (q + 1) default) = bV at *
        generalize FB (items.getD (q + 1) default) = bF at *
        generalize leB (items.getD (q + 1) default).key (items.getD q default).key = bL at *
        generalize orderB items (q + 1) = bO at *
        generalize items.getD (q + 1) default = it at *
        generalize items.getD q default = pr at *
        obtain ⟨key, flags, until_, cas, used, value, far, page, at_⟩ := it
        obtain ⟨pkey, _, _, _, _, _, _, _, _⟩ := pr
        simp only at *
        go_wp2_with fail
        go_quiet (fail)
        cases bL
        rotate_left
        · have E2 : Hid (R = false) := hno.out (by rw [hOk0.out, OR2.out]; rfl)
          go_wp2
          go_ret
          exact ⟨ret_bool E2.out.symm, hbw.trans ((((Below.refl wr.heap.size wr).alloc (Nat.le_refl _) (.cells #[.string key, .int .i64 flags, .int .i64 until_, .int .i64 cas, .int .i64 used, .string value, .bool far, .int .i64 page, .int .i64 at_] 49)).trans ((drewN_below _ nq).mono (by simp))).mono hbw.size)⟩
        have hOk : Hid (OK (q + 1) = (bF && bV)) := by unfold Hid; rw [hOk0.out, OR2.out]; rfl
        clear OR2 hOk0
        have hA1 : Below wr.heap.size wr (wr.alloc (.cells #[.string key, .int .i64 flags, .int .i64 until_, .int .i64 cas, .int .i64 used, .string value, .bool far, .int .i64 page, .int .i64 at_] 49)) := (Below.refl _ _).alloc (Nat.le_refl _) _
        go_wp2_with fail
        refine (hfk _).mono ?_
        rintro e w2 ⟨rfl, hb2⟩
        have hB2 : Below (wr.alloc (.cells #[.string key, .int .i64 flags, .int .i64 until_, .int .i64 cas, .int .i64 used, .string value, .bool far, .int .i64 page, .int .i64 at_] 49)).heap.size (wr.alloc (.cells #[.string key, .int .i64 flags, .int .i64 until_, .int .i64 cas, .int .i64 used, .string value, .bool far, .int .i64 page, .int .i64 at_] 49)) w2 := (drewN_below (wr.alloc (.cells #[.string key, .int .i64 flags, .int .i64 until_, .int .i64 cas, .int .i64 used, .string value, .bool far, .int .i64 page, .int .i64 at_] 49)) nq).trans (hb2.mono (Nat.le_refl _))
        have bi : ∀ j, w2.cell? ⟨wr.heap.size, j, none⟩ = (#[.string key, .int .i64 flags, .int .i64 until_, .int .i64 cas, .int .i64 used, .string value, .bool far, .int .i64 page, .int .i64 at_] : Array Value)[j]? := fun j => by rw [hB2.cell (p := ⟨wr.heap.size, j, none⟩) (by simp)]; simp [go_sem]
        have hBr : Below wr.heap.size wr w2 := hA1.trans (hB2.mono (by simp))
        have bs2 : ∀ j, w2.cell? ⟨w.heap.size, j, none⟩ = (#[.int .i64 clock, .int .i64 scas, .int .i64 uses, .int .i64 most, .int .i64 h0, .int .i64 h1, .int .i64 h2, .int .i64 h3, .slice (some ⟨b, o, none⟩) items.length ic, .int .i64 fm, .int .i64 fx, .slice pa pages.length pc] : Array Value)[j]? := fun j => by rw [hBr.cell (p := ⟨w.heap.size, j, none⟩) hz]; exact bs j
        have hbw2 : Below w.heap.size w w2 := hbw.trans (hBr.mono hbw.size)
        clear hb2 hfk
        cases bF
        · have E2 : Hid (R = false) := hno.out (by rw [hOk.out]; rfl)
          go_wp2
          go_ret
          exact ⟨ret_bool E2.out.symm, hbw2⟩
        go_wp2_with fail
        refine (hvk _ hbw2).mono ?_
        rintro e w3 ⟨rfl, hb3⟩
        have hbw3 : Below w.heap.size w w3 := hbw2.trans (hb3.mono hbw2.size)
        have hbr3 : Below (w.alloc (.cells #[.int .i64 clock, .int .i64 scas, .int .i64 uses, .int .i64 most, .int .i64 h0, .int .i64 h1, .int .i64 h2, .int .i64 h3, .slice (some ⟨b, o, none⟩) items.length ic, .int .i64 fm, .int .i64 fx, .slice pa pages.length pc] 29)).heap.size (w.alloc (.cells #[.int .i64 clock, .int .i64 scas, .int .i64 uses, .int .i64 most, .int .i64 h0, .int .i64 h1, .int .i64 h2, .int .i64 h3, .slice (some ⟨b, o, none⟩) items.length ic, .int .i64 fm, .int .i64 fx, .slice pa pages.length pc] 29)) w3 := hb.trans ((hBr.trans (hb3.mono hBr.size)).mono hb.size)
        cases bV
        · have E2 : Hid (R = false) := hno.out (by rw [hOk.out]; rfl)
          go_wp2
          go_ret
          exact ⟨ret_bool E2.out.symm, hbw3⟩
        go_wp2
        go_roundw
        case rel => exact ⟨(q + 1) + 1, by omega, by go_num, (show Hid _ from fun j hj => by
          by_cases e : j = (q + 1)
          · subst e; rw [hOk.out]; rfl
          · exact A.out j (by omega)), hbr3⟩
        case measure => simp [intOf]; omega
    · have hltz : ¬ (k : Int) < (items.length : Int) := by omega
      have E2 : Hid (R = true) := IYes.out (by omega) (fun j hj => A.out j (by omega))
      clear hmm INo IYes ILong EO
      go_wp2
      go_ret
      exact ⟨ret_bool E2.out.symm, hbw⟩
end Go.Proofs.YtogpkbhjobhodaaDoor
