/- Parts of the proof. -/
import Derived.Test.YtdblegdgmjakfaaGreatDoorMJ07
import Derived.Test.YtdblegdgmjakfaaGreatDoorMJ00
import Derived.Test.YtdblegdgmjakfaaGreatDoorMJ05
import Derived.Test.YtdblegdgmjakfaaGreatDoorMJ04
import Derived.Deep.RegionHeld3
import Derived.Lib.ConvBytes
import Derived.Deep.DeepCutAuto
namespace Go.Proofs.YtdblegdgmjakfaaGreatDoor
open Go.ChangeShapes Go.WideShapes Go.ChangeAt Go.RowKit
set_option linter.unusedVariables false

/- The contracts of store.Class and of dovecoteref.ClassOf: the class of an item, by the lengths of its key and value. -/

/-- The table of the chunks' sizes. -/
def LaidC (w : World) : Prop := 0 < w.heap.size ∧ w.cell? ⟨0, 0, none⟩ = some (.int .i64 32) ∧ w.cell? ⟨0, 1, none⟩ = some (.int .i64 64) ∧ w.cell? ⟨0, 2, none⟩ = some (.int .i64 128) ∧ w.cell? ⟨0, 3, none⟩ = some (.int .i64 256)

theorem LaidC.later {w w' : World} (h : LaidC w) (hb : Below w.heap.size w w') : LaidC w' := by
 obtain ⟨h1, c0, c1, c2, c3⟩ := h
 exact ⟨Nat.lt_of_lt_of_le h1 hb.size, by rw [hb.cell (p := ⟨0, 0, none⟩) h1]; exact c0, by rw [hb.cell (p := ⟨0, 1, none⟩) h1]; exact c1, by rw [hb.cell (p := ⟨0, 2, none⟩) h1]; exact c2, by rw [hb.cell (p := ⟨0, 3, none⟩) h1]; exact c3⟩

/-- The class of an item. -/
def classN (k v : Int) : Int :=
 if (inB k 1 20 && inB v 0 200) = true then (if 8 + k + v ≤ 32 then 0 else if 8 + k + v ≤ 64 then 1 else if 8 + k + v ≤ 128 then 2 else 3) else -1

theorem ret_int {a b : Int} (h : a = b) : Ending.returned (.int .i64 a) = .returned (.int .i64 b) := by rw [h]

set_option maxHeartbeats 1000000 in
theorem class_any (k v : Int) (w : World) (hL : LaidC w) :
 Calls Tryz.prog 103 #[.int .i64 k, .int .i64 v] w fun e w' => e = .returned (.int .i64 (classN k v)) ∧ w' = w := by
 have h1 := within_any k 1 20
 have h2 := within_any v 0 200
 have E : Hid (classN k v = if (inB k 1 20 && inB v 0 200) = true then (if 8 + k + v ≤ 32 then 0 else if 8 + k + v ≤ 64 then 1 else if 8 + k + v ≤ 128 then 2 else 3) else -1) := rfl
 generalize classN k v = C at *
 obtain ⟨_, c0, c1, c2, c3⟩ := hL
 cases hq : inB k 1 20
 · rw [hq] at h1 E
   have E' : Hid (C = -1) := E.out
   clear E
   go_enter Tryz.func103, Tryz.ntmps103
   go_wp2_with (go_at_call_of 37 (Value.int .i64 k); refine (h1 _).mono ?_; rintro e w' ⟨rfl, rfl⟩)
   go_ret
   exact ⟨ret_int E'.out.symm, rfl⟩
 cases hq2 : inB v 0 200
 · rw [hq] at h1 E
   rw [hq2] at h2 E
   have E' : Hid (C = -1) := E.out
   clear E
   go_enter Tryz.func103, Tryz.ntmps103
   go_wp2_with (first | (go_at_call_of 37 (Value.int .i64 k); refine (h1 _).mono ?_; rintro e w' ⟨rfl, rfl⟩) | (go_at_call_of 37 (Value.int .i64 v); refine (h2 _).mono ?_; rintro e w' ⟨rfl, rfl⟩))
   go_ret
   exact ⟨ret_int E'.out.symm, rfl⟩
 · have hk : 1 ≤ k ∧ k ≤ 20 := by unfold inB at hq; simpa using hq
   have hv : 0 ≤ v ∧ v ≤ 200 := by unfold inB at hq2; simpa using hq2
   rw [hq] at h1 E
   rw [hq2] at h2 E
   have E' : Hid (C = if 8 + k + v ≤ 32 then 0 else if 8 + k + v ≤ 64 then 1 else if 8 + k + v ≤ 128 then 2 else 3) := E.out
   obtain ⟨k0, k1⟩ := hk
   obtain ⟨v0, v1⟩ := hv
   have ws : IntKind.i64.wrap (8 + k) = 8 + k := by unfold IntKind.wrap; simp [IntKind.bits]; omega
   have i0 : ∀ w, (Instr.index 23 (.agg #[.int .i64 32, .int .i64 64, .int .i64 128, .int .i64 256]) (.int .i64 0)).run Tryz.prog w = .ok (.int .i64 32) w := fun _ => by kernel_rfl
   have i1 : ∀ w, (Instr.index 23 (.agg #[.int .i64 32, .int .i64 64, .int .i64 128, .int .i64 256]) (.int .i64 1)).run Tryz.prog w = .ok (.int .i64 64) w := fun _ => by kernel_rfl
   have i2 : ∀ w, (Instr.index 23 (.agg #[.int .i64 32, .int .i64 64, .int .i64 128, .int .i64 256]) (.int .i64 2)).run Tryz.prog w = .ok (.int .i64 128) w := fun _ => by kernel_rfl
   have i3 : ∀ w, (Instr.index 23 (.agg #[.int .i64 32, .int .i64 64, .int .i64 128, .int .i64 256]) (.int .i64 3)).run Tryz.prog w = .ok (.int .i64 256) w := fun _ => by kernel_rfl
   clear E hq hq2
   go_enter Tryz.func103, Tryz.ntmps103
   go_wp2_with (first | (go_at_call_of 37 (Value.int .i64 k); refine (h1 _).mono ?_; rintro e w' ⟨rfl, rfl⟩) | (go_at_call_of 37 (Value.int .i64 v); refine (h2 _).mono ?_; rintro e w' ⟨rfl, rfl⟩))
   go_loop [16] (fun i => ∃ n : Nat, n ≤ 3 ∧ i = .int .i64 n ∧ (n = 0 ∨ (n = 1 ∧ 32 < 8 + k + v) ∨ (n = 2 ∧ 64 < 8 + k + v) ∨ (n = 3 ∧ 128 < 8 + k + v))) (fun i => 4 - (intOf i).toNat)
   case atStart => exact ⟨0, Nat.zero_le _, rfl, Or.inl rfl⟩
   case round =>
    obtain ⟨n, hn, rfl, hor⟩ := hrel
    rcases hor with rfl | ⟨rfl, hlo⟩ | ⟨rfl, hlo⟩ | ⟨rfl, hlo⟩
    · by_cases hc : 8 + k + v ≤ 32
      · have E2 : Hid (C = 0) := by unfold Hid; rw [E'.out, if_pos hc]
        go_wp2
        go_ret
        exact ⟨ret_int E2.out.symm, rfl⟩
      · go_wp2
        go_round
        case rel => exact ⟨1, by omega, by go_num, Or.inr (Or.inl ⟨rfl, by omega⟩)⟩
        case measure => simp [intOf]
    · by_cases hc : 8 + k + v ≤ 64
      · have E2 : Hid (C = 1) := by unfold Hid; rw [E'.out, if_neg (by omega), if_pos hc]
        go_wp2
        go_ret
        exact ⟨ret_int E2.out.symm, rfl⟩
      · go_wp2
        go_round
        case rel => exact ⟨2, by omega, by go_num, Or.inr (Or.inr (Or.inl ⟨rfl, by omega⟩))⟩
        case measure => simp [intOf]
    · by_cases hc : 8 + k + v ≤ 128
      · have E2 : Hid (C = 2) := by unfold Hid; rw [E'.out, if_neg (by omega), if_neg (by omega), if_pos hc]
        go_wp2
        go_ret
        exact ⟨ret_int E2.out.symm, rfl⟩
      · go_wp2
        go_round
        case rel => exact ⟨3, by omega, by go_num, Or.inr (Or.inr (Or.inr ⟨rfl, by omega⟩))⟩
        case measure => simp [intOf]
    · have hc : 8 + k + v ≤ 256 := by omega
      have E2 : Hid (C = 3) := by unfold Hid; rw [E'.out, if_neg (by omega), if_neg (by omega), if_neg (by omega)]
      go_wp2
      go_ret
      exact ⟨ret_int E2.out.symm, rfl⟩

end Go.Proofs.YtdblegdgmjakfaaGreatDoor

namespace Go.Proofs.YtdblegdgmjakfaaGreatDoor
open Go.ChangeShapes Go.WideShapes Go.ChangeAt Go.RowKit
open Go.ChangeMaps (open_string shut_string)

/- Contracts of wire.Key, of the closure that it hands to slices.ContainsFunc, of dovecoteref.KeyMay and of their callees, over the seat's translation: each returns what the plain function on the list of bytes says, at every text. -/

def badB (x : UInt8) : Bool := decide ((x.toNat : Int) < 33) || decide (126 < (x.toNat : Int))
def anyBad (s : ByteArray) : Bool := s.data.toList.any badB
def keyB (s : ByteArray) : Bool := inB s.size 1 20 && !(anyBad s)

theorem byteBelow (w : World) (e : TypeId) (s : ByteArray) : Below w.heap.size w (Lib.bytesWorld w e s) :=
 ⟨rfl, rfl, rfl, by rw [Lib.bytesWorld_size]; omega, fun k hk => Lib.bytesWorld_at_old w e s k hk⟩

theorem bad_any (x : UInt8) (w : World) :
 Calls Tryz.prog 101 #[.int .u8 x.toNat] w fun e w' => e = .returned (.bool (badB x)) ∧ w' = w := by
 by_cases h1 : (x.toNat : Int) < 33
 · have e : badB x = true := by unfold badB; simp; omega
   rw [e]
   clear e
   go_enter Tryz.func101, Tryz.ntmps101
   go_wp2
   go_ret
   exact ⟨rfl, rfl⟩
 · by_cases h2 : 126 < (x.toNat : Int)
   · have e : badB x = true := by unfold badB; simp; omega
     rw [e]
     clear e
     go_enter Tryz.func101, Tryz.ntmps101
     go_wp2
     go_ret
     exact ⟨rfl, rfl⟩
   · have e : badB x = false := by unfold badB; simp; omega
     rw [e]
     clear e
     go_enter Tryz.func101, Tryz.ntmps101
     go_wp2
     go_ret
     exact ⟨rfl, rfl⟩

/-- The walk's own search: the first byte of which the closure says yes, or -1. -/
theorem idx_any (s : ByteArray) (b c : Nat) (w : World) (hs : s.size ≤ maxLen) (hc : ∀ j, j < s.size → w.cell? ⟨b, j, none⟩ = some (.int .u8 (s.data.toList.getD j 0).toNat)) :
 Calls Tryz.prog 125 #[.slice (some ⟨b, 0, none⟩) s.size c, .func (.func 101) #[] #[]] w fun e w' => (∃ i : Int, e = .returned (.int .i64 i) ∧ decide (0 ≤ i) = anyBad s) ∧ w' = w := by
 unfold maxLen at hs
 go_enter Tryz.func125, Tryz.ntmps125
 go_wp2
 go_loop [5, 8] (fun _ i => ∃ k : Nat, k ≤ s.size ∧ i = .int .i64 k ∧ Hid (∀ j, j < k → badB (s.data.toList.getD j 0) = false)) (fun _ i => s.size - (intOf i).toNat)
 case atStart => exact ⟨0, Nat.zero_le _, rfl, fun j hj => absurd hj (Nat.not_lt_zero _)⟩
 case round =>
  obtain ⟨k, hk, rfl, A⟩ := hrel
  by_cases hlt : k < s.size
  · have hltz : (k : Int) < (s.size : Int) := by omega
    have hcell := hc k hlt
    have hmem : s.data.toList.getD k 0 ∈ s.data.toList := by
     rw [List.getD_eq_getElem?_getD, List.getElem?_eq_getElem (by simpa using hlt)]
     simp
    clear hc
    generalize hy : s.data.toList.getD k 0 = y at hcell hmem
    have B : Hid (s.data.toList.getD k 0 = y) := hy
    clear hy
    have hcall := bad_any y
    cases hq : badB y with
    | true =>
     have C : Hid (anyBad s = true) := List.any_eq_true.2 ⟨y, hmem, hq⟩
     rw [hq] at hcall
     clear hmem hq
     go_wp2_with (go_at_call 101; refine (hcall _).mono ?_; rintro e w' ⟨rfl, rfl⟩)
     go_ret
     exact ⟨⟨_, rfl, by rw [C.out]; simp⟩, rfl⟩
    | false =>
     rw [hq] at hcall
     have D : Hid (badB y = false) := hq
     clear hmem hq
     go_wp2_with (go_at_call 101; refine (hcall _).mono ?_; rintro e w' ⟨rfl, rfl⟩)
     go_round
     case rel =>
      refine ⟨k + 1, by omega, by go_num, (show Hid _ from fun j hj => ?_)⟩
      by_cases e : j = k
      · subst e
        rw [B.out]
        exact D.out
      · exact A.out j (by omega)
     case measure => simp [intOf]; omega
  · have hltz : ¬ (k : Int) < (s.size : Int) := by omega
    have : k = s.size := by omega
    subst this
    clear hc
    have C : Hid (anyBad s = false) := by
     refine List.any_eq_false.2 fun x hx => ?_
     obtain ⟨j, hj, rfl⟩ := List.mem_iff_getElem.1 hx
     have := A.out j (by simpa using hj)
     rw [List.getD_eq_getElem?_getD, List.getElem?_eq_getElem hj] at this
     simpa using this
    go_wp2
    go_ret
    exact ⟨⟨_, rfl, by rw [C.out]; rfl⟩, rfl⟩

theorem contains_any (s : ByteArray) (b c : Nat) (w : World) (hs : s.size ≤ maxLen) (hc : ∀ j, j < s.size → w.cell? ⟨b, j, none⟩ = some (.int .u8 (s.data.toList.getD j 0).toNat)) :
 Calls Tryz.prog 100 #[.slice (some ⟨b, 0, none⟩) s.size c, .func (.func 101) #[] #[]] w fun e w' => e = .returned (.bool (anyBad s)) ∧ w' = w := by
 have h := idx_any s b c w hs hc
 clear hc
 go_enter Tryz.func100, Tryz.ntmps100
 go_wp2_with (go_at_call 125; refine h.mono ?_; rintro e w' ⟨⟨i, rfl, hi⟩, rfl⟩)
 go_ret
 exact ⟨by first | rw [hi] | simp [← hi], rfl⟩

/-- wire.Key: what P1.1 says. -/
theorem key_any (s : ByteArray) (w : World) (hs : s.size ≤ maxLen) :
 Calls Tryz.prog 68 #[.string s] w fun e w' => e = .returned (.bool (keyB s)) ∧ Below w.heap.size w w' := by
 have hs' := hs
 unfold maxLen at hs'
 by_cases h1 : (s.size : Int) < 1
 · have e : keyB s = false := by unfold keyB inB; simp; omega
   rw [e]
   clear e
   go_enter Tryz.func68, Tryz.ntmps68
   go_wp2
   go_ret
   exact ⟨rfl, Below.refl _ _⟩
 · by_cases h2 : 20 < (s.size : Int)
   · have e : keyB s = false := by unfold keyB inB; simp; omega
     rw [e]
     clear e
     go_enter Tryz.func68, Tryz.ntmps68
     go_wp2
     go_ret
     exact ⟨rfl, Below.refl _ _⟩
   · have e : keyB s = !(anyBad s) := by
      have : inB s.size 1 20 = true := by unfold inB; simp; omega
      unfold keyB
      rw [this]
      rfl
     rw [e]
     clear e
     have kc := Lib.run_convert_string_bytes (P := Tryz.prog) w 9 95 5 s Tryz.underlying9 Tryz.underlying95 Tryz.underlying5
     have hcon := contains_any s w.heap.size (grownCap w s.size 0 5) (Lib.bytesWorld w 5 s) hs (fun j hj => Lib.bytesWorld_cell w 5 s j hj)
     go_enter Tryz.func68, Tryz.ntmps68
     go_wp2_with (go_at_call 100; refine hcon.mono ?_; rintro e w' ⟨rfl, rfl⟩)
     go_ret
     exact ⟨rfl, byteBelow w 5 s⟩

end Go.Proofs.YtdblegdgmjakfaaGreatDoor

namespace Go.Proofs.YtdblegdgmjakfaaGreatDoor
open Go.ChangeShapes Go.WideShapes Go.ChangeAt Go.RowKit
set_option linter.unusedVariables false
set_option linter.unusedSimpArgs false

/- The contracts of the small functions that store.Check calls. -/

def countsB (s : StoreR) : Bool := inB s.clock 0 1099511627776 && (inB s.cas 0 1099511627776 && (inB s.uses 0 1099511627776 && inB s.most 0 40))
def heldB (s : StoreR) : Bool := inB s.h0 0 s.most && (inB s.h1 0 s.most && (inB s.h2 0 s.most && (inB s.h3 0 s.most && decide (s.h0 + s.h1 + s.h2 + s.h3 ≤ s.most))))
def fieldsB (s : StoreR) (it : ItemR) : Bool := keyB it.key && (inB it.flags 0 65535 && (inB it.until_ 0 1099511627776 && (inB it.cas 1 s.cas && inB it.used 1 s.uses)))
def valueB (ps : List PageR) (it : ItemR) : Bool :=
 if it.far = true then it.value.toList.isEmpty && (decide (findN ps it.page it.at_ = 0) && decide (24 ≤ (findS ps it.page it.at_).size)) else decide (it.value.size ≤ 200) && (decide (it.page = 0) && decide (it.at_ = 0))
def ItemOk (it : ItemR) : Prop := it.key.size ≤ maxLen ∧ it.value.size ≤ maxLen ∧ -9223372036854775808 ≤ it.at_ ∧ it.at_ ≤ 9223372036854775807

set_option maxHeartbeats 1000000 in
theorem counts_any (s : StoreR) (ia : Option Addr) (ic : Nat) (pa : Option Addr) (pc : Nat) (w : World) :
 Calls Tryz.prog 28 #[storeV s ia ic pa pc] w fun e w' => e = .returned (.bool (countsB s)) ∧ Below w.heap.size w w' := by
 have E : Hid (countsB s = (inB s.clock 0 1099511627776 && (inB s.cas 0 1099511627776 && (inB s.uses 0 1099511627776 && inB s.most 0 40)))) := rfl
 generalize countsB s = R at *
 obtain ⟨clock, scas, uses, most, h0, h1, h2, h3, items, fm, fx, pages⟩ := s
 unfold storeV
 simp only at *
 have hB0 : ∀ o, Below w.heap.size w (w.alloc o) := fun o => (Below.refl _ _).alloc (Nat.le_refl _) _
 have c1 := within_any clock 0 1099511627776
 have c2 := within_any scas 0 1099511627776
 have c3 := within_any uses 0 1099511627776
 have c4 := within_any most 0 40
 generalize inB clock 0 1099511627776 = b1 at *
 generalize inB scas 0 1099511627776 = b2 at *
 generalize inB uses 0 1099511627776 = b3 at *
 generalize inB most 0 40 = b4 at *
 cases b1
 · have E2 : Hid (R = false) := E.out
   go_enter Tryz.func28, Tryz.ntmps28
   go_wp2_with (go_at_call 37; refine (c1 _).mono ?_; rintro e w' ⟨rfl, hw⟩; obtain rfl := hw.symm)
   go_ret
   exact ⟨ret_bool E2.out.symm, hB0 _⟩
 cases b2
 · have E2 : Hid (R = false) := E.out
   go_enter Tryz.func28, Tryz.ntmps28
   go_wp2_with fail
   refine (c1 _).mono ?_
   rintro e w' ⟨rfl, hw⟩
   obtain rfl := hw.symm
   go_wp2_with (go_at_call 37; refine (c2 _).mono ?_; rintro e w' ⟨rfl, hw⟩; obtain rfl := hw.symm)
   go_ret
   exact ⟨ret_bool E2.out.symm, hB0 _⟩
 cases b3
 · have E2 : Hid (R = false) := E.out
   go_enter Tryz.func28, Tryz.ntmps28
   go_wp2_with fail
   refine (c1 _).mono ?_
   rintro e w' ⟨rfl, hw⟩
   obtain rfl := hw.symm
   go_wp2_with fail
   refine (c2 _).mono ?_
   rintro e w' ⟨rfl, hw⟩
   obtain rfl := hw.symm
   go_wp2_with (go_at_call 37; refine (c3 _).mono ?_; rintro e w' ⟨rfl, hw⟩; obtain rfl := hw.symm)
   go_ret
   exact ⟨ret_bool E2.out.symm, hB0 _⟩
 · have E2 : Hid (R = b4) := E.out
   go_enter Tryz.func28, Tryz.ntmps28
   go_wp2_with fail
   refine (c1 _).mono ?_
   rintro e w' ⟨rfl, hw⟩
   obtain rfl := hw.symm
   go_wp2_with fail
   refine (c2 _).mono ?_
   rintro e w' ⟨rfl, hw⟩
   obtain rfl := hw.symm
   go_wp2_with fail
   refine (c3 _).mono ?_
   rintro e w' ⟨rfl, hw⟩
   obtain rfl := hw.symm
   go_wp2_with (go_at_call 37; refine (c4 _).mono ?_; rintro e w' ⟨rfl, hw⟩; obtain rfl := hw.symm)
   go_ret
   exact ⟨ret_bool E2.out.symm, hB0 _⟩

theorem idx4 (a b c d : Int) (w : World) : (Instr.index 23 (.agg #[.int .i64 a, .int .i64 b, .int .i64 c, .int .i64 d]) (.int .i64 0)).run Tryz.prog w = .ok (.int .i64 a) w ∧ (Instr.index 23 (.agg #[.int .i64 a, .int .i64 b, .int .i64 c, .int .i64 d]) (.int .i64 1)).run Tryz.prog w = .ok (.int .i64 b) w ∧
 (Instr.index 23 (.agg #[.int .i64 a, .int .i64 b, .int .i64 c, .int .i64 d]) (.int .i64 2)).run Tryz.prog w = .ok (.int .i64 c) w ∧ (Instr.index 23 (.agg #[.int .i64 a, .int .i64 b, .int .i64 c, .int .i64 d]) (.int .i64 3)).run Tryz.prog w = .ok (.int .i64 d) w := ⟨by kernel_rfl, by kernel_rfl, by kernel_rfl, by kernel_rfl⟩

set_option maxHeartbeats 1000000 in
theorem heldAll_any (s : StoreR) (ia : Option Addr) (ic : Nat) (pa : Option Addr) (pc : Nat) (w : World) (r0 : 0 ≤ s.h0 ∧ s.h0 ≤ 40) (r1 : 0 ≤ s.h1 ∧ s.h1 ≤ 40) (r2 : 0 ≤ s.h2 ∧ s.h2 ≤ 40) (r3 : 0 ≤ s.h3 ∧ s.h3 ≤ 40) :
 Calls Tryz.prog 41 #[storeV s ia ic pa pc] w fun e w' => e = .returned (.int .i64 (s.h0 + s.h1 + s.h2 + s.h3)) ∧ Below w.heap.size w w' := by
 obtain ⟨clock, scas, uses, most, h0, h1, h2, h3, items, fm, fx, pages⟩ := s
 unfold storeV
 simp only at *
 have hB0 : ∀ o, Below w.heap.size w (w.alloc o) := fun o => (Below.refl _ _).alloc (Nat.le_refl _) _
 have i0 := fun w => (idx4 h0 h1 h2 h3 w).1
 have i1 := fun w => (idx4 h0 h1 h2 h3 w).2.1
 have i2 := fun w => (idx4 h0 h1 h2 h3 w).2.2.1
 have i3 := fun w => (idx4 h0 h1 h2 h3 w).2.2.2
 have E : Hid (h0 + h1 + h2 + h3 = h0 + h1 + h2 + h3) := rfl
 obtain ⟨R, hR⟩ : ∃ R, Hid (h0 + h1 + h2 + h3 = R) := ⟨_, rfl⟩
 rw [hR.out]
 go_enter Tryz.func41, Tryz.ntmps41
 go_wp2_with fail
 go_loop [3, 8] (fun x i => (i = .int .i64 0 ∧ x = .int .i64 0) ∨ (i = .int .i64 1 ∧ x = .int .i64 h0) ∨ (i = .int .i64 2 ∧ x = .int .i64 (h0 + h1)) ∨ (i = .int .i64 3 ∧ x = .int .i64 (h0 + h1 + h2)) ∨ (i = .int .i64 4 ∧ x = .int .i64 (h0 + h1 + h2 + h3))) (fun _ i => 4 - (intOf i).toNat)
 case atStart => exact Or.inl ⟨rfl, rfl⟩
 case round =>
  rcases hrel with ⟨rfl, rfl⟩ | ⟨rfl, rfl⟩ | ⟨rfl, rfl⟩ | ⟨rfl, rfl⟩ | ⟨rfl, rfl⟩
  · go_wp2
    go_round
    case rel => exact Or.inr (Or.inl ⟨by go_num, by simp⟩)
    case measure => simp [intOf]
  · go_wp2
    go_round
    case rel => exact Or.inr (Or.inr (Or.inl ⟨by go_num, by simp⟩))
    case measure => simp [intOf]
  · go_wp2
    go_round
    case rel => exact Or.inr (Or.inr (Or.inr (Or.inl ⟨by go_num, by simp⟩)))
    case measure => simp [intOf]
  · go_wp2
    go_round
    case rel => exact Or.inr (Or.inr (Or.inr (Or.inr ⟨by go_num, by simp⟩)))
    case measure => simp [intOf]
  · go_wp2
    go_ret
    exact ⟨ret_i64 hR.out, hB0 _⟩

/- The contracts of the small functions that store.Check calls, the rest. -/

set_option maxHeartbeats 2000000 in
set_option maxRecDepth 100000 in
theorem heldFits_any (s : StoreR) (ia : Option Addr) (ic : Nat) (pa : Option Addr) (pc : Nat) (w : World) (hm : s.most ≤ 40) :
 Calls Tryz.prog 29 #[storeV s ia ic pa pc] w fun e w' => e = .returned (.bool (heldB s)) ∧ Below w.heap.size w w' := by
 have E : Hid (heldB s = (inB s.h0 0 s.most && (inB s.h1 0 s.most && (inB s.h2 0 s.most && (inB s.h3 0 s.most && decide (s.h0 + s.h1 + s.h2 + s.h3 ≤ s.most)))))) := rfl
 generalize heldB s = R at *
 have hall := fun (q0 : inB s.h0 0 s.most = true) (q1 : inB s.h1 0 s.most = true) (q2 : inB s.h2 0 s.most = true) (q3 : inB s.h3 0 s.most = true) (w1 : World) => heldAll_any s ia ic pa pc w1
  (by have := (inB_iff _ _ _).1 q0; omega) (by have := (inB_iff _ _ _).1 q1; omega) (by have := (inB_iff _ _ _).1 q2; omega) (by have := (inB_iff _ _ _).1 q3; omega)
 obtain ⟨clock, scas, uses, most, h0, h1, h2, h3, items, fm, fx, pages⟩ := s
 unfold storeV at *
 simp only at *
 have hB0 : ∀ o, Below w.heap.size w (w.alloc o) := fun o => (Below.refl _ _).alloc (Nat.le_refl _) _
 have i0 := fun w => (idx4 h0 h1 h2 h3 w).1
 have i1 := fun w => (idx4 h0 h1 h2 h3 w).2.1
 have i2 := fun w => (idx4 h0 h1 h2 h3 w).2.2.1
 have i3 := fun w => (idx4 h0 h1 h2 h3 w).2.2.2
 have c0 := within_any h0 0 most
 have c1 := within_any h1 0 most
 have c2 := within_any h2 0 most
 have c3 := within_any h3 0 most
 generalize inB h0 0 most = b0 at *
 generalize inB h1 0 most = b1 at *
 generalize inB h2 0 most = b2 at *
 generalize inB h3 0 most = b3 at *
 go_enter Tryz.func29, Tryz.ntmps29
 go_wp2_with fail
 go_loop [7] (fun i => i = .int .i64 0 ∨ (i = .int .i64 1 ∧ b0 = true) ∨ (i = .int .i64 2 ∧ b0 = true ∧ b1 = true) ∨ (i = .int .i64 3 ∧ b0 = true ∧ b1 = true ∧ b2 = true) ∨ (i = .int .i64 4 ∧ b0 = true ∧ b1 = true ∧ b2 = true ∧ b3 = true)) (fun i => 4 - (intOf i).toNat)
 case atStart => exact Or.inl rfl
 case round =>
  rcases hrel with rfl | ⟨rfl, rfl⟩ | ⟨rfl, rfl, rfl⟩ | ⟨rfl, rfl, rfl, rfl⟩ | ⟨rfl, rfl, rfl, rfl, rfl⟩
  · cases b0
    · have E2 : Hid (R = false) := E.out
      go_wp2_with (go_at_call 37; refine (c0 _).mono ?_; rintro e w' ⟨rfl, hw⟩; obtain rfl := hw.symm)
      go_ret
      exact ⟨ret_bool E2.out.symm, hB0 _⟩
    · go_wp2_with (go_at_call 37; refine (c0 _).mono ?_; rintro e w' ⟨rfl, hw⟩; obtain rfl := hw.symm)
      go_round
      case rel => exact Or.inr (Or.inl ⟨by go_num, by trivial⟩)
      case measure => simp [intOf]
  · cases b1
    · have E2 : Hid (R = false) := E.out
      go_wp2_with (go_at_call 37; refine (c1 _).mono ?_; rintro e w' ⟨rfl, hw⟩; obtain rfl := hw.symm)
      go_ret
      exact ⟨ret_bool E2.out.symm, hB0 _⟩
    · go_wp2_with (go_at_call 37; refine (c1 _).mono ?_; rintro e w' ⟨rfl, hw⟩; obtain rfl := hw.symm)
      go_round
      case rel => exact Or.inr (Or.inr (Or.inl ⟨by go_num, by trivial, by trivial⟩))
      case measure => simp [intOf]
  · cases b2
    · have E2 : Hid (R = false) := E.out
      go_wp2_with (go_at_call 37; refine (c2 _).mono ?_; rintro e w' ⟨rfl, hw⟩; obtain rfl := hw.symm)
      go_ret
      exact ⟨ret_bool E2.out.symm, hB0 _⟩
    · go_wp2_with (go_at_call 37; refine (c2 _).mono ?_; rintro e w' ⟨rfl, hw⟩; obtain rfl := hw.symm)
      go_round
      case rel => exact Or.inr (Or.inr (Or.inr (Or.inl ⟨by go_num, by trivial, by trivial, by trivial⟩)))
      case measure => simp [intOf]
  · cases b3
    · have E2 : Hid (R = false) := E.out
      go_wp2_with (go_at_call 37; refine (c3 _).mono ?_; rintro e w' ⟨rfl, hw⟩; obtain rfl := hw.symm)
      go_ret
      exact ⟨ret_bool E2.out.symm, hB0 _⟩
    · go_wp2_with (go_at_call 37; refine (c3 _).mono ?_; rintro e w' ⟨rfl, hw⟩; obtain rfl := hw.symm)
      go_round
      case rel => exact Or.inr (Or.inr (Or.inr (Or.inr ⟨by go_num, by trivial, by trivial, by trivial, by trivial⟩)))
      case measure => simp [intOf]
  · have E2 : Hid (R = decide (h0 + h1 + h2 + h3 ≤ most)) := E.out
    have ha := hall rfl rfl rfl rfl
    generalize h0 + h1 + h2 + h3 = SUM at *
    have hWd := (Below.refl (w.alloc (.cells #[.int .i64 clock, .int .i64 scas, .int .i64 uses, .int .i64 most, .int .i64 h0, .int .i64 h1, .int .i64 h2, .int .i64 h3, .slice ia items.length ic, .int .i64 fm, .int .i64 fx, .slice pa pages.length pc] 29)).heap.size (w.alloc (.cells #[.int .i64 clock, .int .i64 scas, .int .i64 uses, .int .i64 most, .int .i64 h0, .int .i64 h1, .int .i64 h2, .int .i64 h3, .slice ia items.length ic, .int .i64 fm, .int .i64 fx, .slice pa pages.length pc] 29))).drew
    have bs : ∀ wx, Below (w.alloc (.cells #[.int .i64 clock, .int .i64 scas, .int .i64 uses, .int .i64 most, .int .i64 h0, .int .i64 h1, .int .i64 h2, .int .i64 h3, .slice ia items.length ic, .int .i64 fm, .int .i64 fx, .slice pa pages.length pc] 29)).heap.size (w.alloc (.cells #[.int .i64 clock, .int .i64 scas, .int .i64 uses, .int .i64 most, .int .i64 h0, .int .i64 h1, .int .i64 h2, .int .i64 h3, .slice ia items.length ic, .int .i64 fm, .int .i64 fx, .slice pa pages.length pc] 29)) wx → ∀ j, wx.cell? ⟨w.heap.size, j, none⟩ = (#[.int .i64 clock, .int .i64 scas, .int .i64 uses, .int .i64 most, .int .i64 h0, .int .i64 h1, .int .i64 h2, .int .i64 h3, .slice ia items.length ic, .int .i64 fm, .int .i64 fx, .slice pa pages.length pc] : Array Value)[j]? := fun wx hx j => by rw [hx.cell (p := ⟨w.heap.size, j, none⟩) (by simp)]; simp [go_sem]
    clear hall c0 c1 c2 c3 i0 i1 i2 i3 E
    go_wp2_with fail
    go_region_held3 (fun w' => ∀ j, w'.cell? ⟨w.heap.size, j, none⟩ = (#[.int .i64 clock, .int .i64 scas, .int .i64 uses, .int .i64 most, .int .i64 h0, .int .i64 h1, .int .i64 h2, .int .i64 h3, .slice ia items.length ic, .int .i64 fm, .int .i64 fx, .slice pa pages.length pc] : Array Value)[j]?) (first | exact bs _ hWd | exact bs _ (hWd.trans (hb2.mono hWd.size))) ((go_at_call 41; refine (ha _).mono ?_; rintro e w2 ⟨rfl, hb2⟩))
    go_wp2
    go_ret
    exact ⟨ret_bool E2.out.symm, (hB0 _).trans ((hWd.trans (hb2.mono hWd.size)).mono (hB0 _).size)⟩

theorem sclassOf_any (it : ItemR) (w : World) (hL : LaidC w) (ok : ItemOk it) :
 Calls Tryz.prog 70 #[.agg #[.string it.key, .int .i64 it.flags, .int .i64 it.until_, .int .i64 it.cas, .int .i64 it.used, .string it.value, .bool it.far, .int .i64 it.page, .int .i64 it.at_]] w fun e w' => e = .returned (.int .i64 (classN it.key.size it.value.size)) ∧ Below w.heap.size w w' := by
 obtain ⟨key, flags, until_, cas, used, value, far, page, at_⟩ := it
 obtain ⟨z1, z2, _, _⟩ := ok
 simp only at *
 unfold maxLen at z1 z2
 have hB0 : ∀ o, Below w.heap.size w (w.alloc o) := fun o => (Below.refl _ _).alloc (Nat.le_refl _) _
 have hc := fun w1 hb => class_any (key.size : Int) (value.size : Int) w1 (hL.later hb)
 generalize classN (key.size : Int) (value.size : Int) = C at *
 go_enter Tryz.func70, Tryz.ntmps70
 go_wp2_with (go_at_call 103; refine (hc _ (hB0 _)).mono ?_; rintro e w' ⟨rfl, hw⟩; obtain rfl := hw.symm)
 go_ret
 exact ⟨rfl, hB0 _⟩

theorem farValue_any (fm fx : Int) (ps : List PageR) (pa : Option Addr) (pc : Nat) (n p : Int) (w : World) (hP : PagesAt w pa ps) (h1 : ∀ j, j < ps.length → 1 ≤ (ps.getD j default).bs.length) (hp0 : -9223372036854775808 ≤ p) (hp1 : p ≤ 9223372036854775807) :
 Calls Tryz.prog 69 #[.agg #[.int .i64 fm, .int .i64 fx, .slice pa ps.length pc], .agg #[.int .i64 n, .int .i64 p]] w fun e w' => e = .returned (.tuple #[.string (findS ps n p), .bool (findN ps n p == 0)]) ∧ Below w.heap.size w w' := by
 have hB0 : ∀ o1 o2, Below w.heap.size w ((w.alloc o1).alloc o2) := fun o1 o2 => ((Below.refl _ _).alloc (Nat.le_refl _) _).alloc (by simp) _
 have hf := fun w1 hb => find_any ps pa pc n p w1 (hP.later hb) h1 hp0 hp1
 generalize findS ps n p = S at *
 generalize findN ps n p = N at *
 go_enter Tryz.func69, Tryz.ntmps69
 go_wp2_with (go_at_call 102; refine (hf _ (hB0 _ _)).mono ?_; rintro e w' ⟨rfl, hb⟩)
 go_ret2
 exact ⟨rfl, (hB0 _ _).trans (hb.mono (hB0 _ _).size)⟩

/- The contracts of store.fieldsFit and store.valueFits. -/

set_option maxHeartbeats 2000000 in
set_option maxRecDepth 100000 in
theorem fields_any (s : StoreR) (it : ItemR) (ia : Option Addr) (ic : Nat) (pa : Option Addr) (pc : Nat) (w : World) (ok : ItemOk it) :
 Calls Tryz.prog 44 #[storeV s ia ic pa pc, .agg #[.string it.key, .int .i64 it.flags, .int .i64 it.until_, .int .i64 it.cas, .int .i64 it.used, .string it.value, .bool it.far, .int .i64 it.page, .int .i64 it.at_]] w fun e w' => e = .returned (.bool (fieldsB s it)) ∧ Below w.heap.size w w' := by
 have E : Hid (fieldsB s it = (keyB it.key && (inB it.flags 0 65535 && (inB it.until_ 0 1099511627776 && (inB it.cas 1 s.cas && inB it.used 1 s.uses))))) := rfl
 generalize fieldsB s it = R at *
 obtain ⟨z1, _, _, _⟩ := ok
 obtain ⟨clock, scas, uses, most, h0, h1, h2, h3, items, fm, fx, pages⟩ := s
 obtain ⟨key, flags, until_, cas, used, value, far, page, at_⟩ := it
 unfold storeV at *
 simp only at *
 have hB0 : ∀ o1 o2, Below w.heap.size w ((w.alloc o1).alloc o2) := fun o1 o2 => ((Below.refl _ _).alloc (Nat.le_refl _) _).alloc (by simp) _
 have ck := fun w1 => key_any key w1 z1
 have c1 := within_any flags 0 65535
 have c2 := within_any until_ 0 1099511627776
 have c3 := within_any cas 1 scas
 have c4 := within_any used 1 uses
 generalize keyB key = b0 at *
 generalize inB flags 0 65535 = b1 at *
 generalize inB until_ 0 1099511627776 = b2 at *
 generalize inB cas 1 scas = b3 at *
 generalize inB used 1 uses = b4 at *
 go_enter Tryz.func44, Tryz.ntmps44
 go_wp2_with fail
 refine (ck _).mono ?_
 rintro e w1 ⟨rfl, hb1⟩
 have bs : ∀ j, w1.cell? ⟨w.heap.size, j, none⟩ = (#[.int .i64 clock, .int .i64 scas, .int .i64 uses, .int .i64 most, .int .i64 h0, .int .i64 h1, .int .i64 h2, .int .i64 h3, .slice ia items.length ic, .int .i64 fm, .int .i64 fx, .slice pa pages.length pc] : Array Value)[j]? := fun j => by rw [hb1.cell (p := ⟨w.heap.size, j, none⟩) (by simp; omega)]; simp [go_sem]
 have bi : ∀ j, w1.cell? ⟨w.heap.size + 1, j, none⟩ = (#[.string key, .int .i64 flags, .int .i64 until_, .int .i64 cas, .int .i64 used, .string value, .bool far, .int .i64 page, .int .i64 at_] : Array Value)[j]? := fun j => by rw [hb1.cell (p := ⟨w.heap.size + 1, j, none⟩) (by simp)]; simp [go_sem]
 have hB1 : Below w.heap.size w w1 := (hB0 _ _).trans (hb1.mono (hB0 _ _).size)
 clear hb1 ck
 cases b0
 · have E2 : Hid (R = false) := E.out
   go_wp2
   go_ret
   exact ⟨ret_bool E2.out.symm, hB1⟩
 go_wp2_with fail
 refine (c1 _).mono ?_
 rintro e w' ⟨rfl, hw⟩
 obtain rfl := hw.symm
 cases b1
 · have E2 : Hid (R = false) := E.out
   go_wp2
   go_ret
   exact ⟨ret_bool E2.out.symm, hB1⟩
 go_wp2_with fail
 refine (c2 _).mono ?_
 rintro e w' ⟨rfl, hw⟩
 obtain rfl := hw.symm
 cases b2
 · have E2 : Hid (R = false) := E.out
   go_wp2
   go_ret
   exact ⟨ret_bool E2.out.symm, hB1⟩
 go_wp2_with fail
 refine (c3 _).mono ?_
 rintro e w' ⟨rfl, hw⟩
 obtain rfl := hw.symm
 cases b3
 · have E2 : Hid (R = false) := E.out
   go_wp2
   go_ret
   exact ⟨ret_bool E2.out.symm, hB1⟩
 have E2 : Hid (R = b4) := E.out
 go_wp2_with fail
 refine (c4 _).mono ?_
 rintro e w' ⟨rfl, hw⟩
 obtain rfl := hw.symm
 go_wp2
 go_ret
 exact ⟨ret_bool E2.out.symm, hB1⟩

theorem eqPlace0 (a b : Int) (w : World) : (Op.equalIn 10000 60 (.agg #[.int .i64 a, .int .i64 b]) (.agg #[.int .i64 0, .int .i64 0])).run Tryz.prog w = .ok (decide (a = 0) && decide (b = 0)) w := by
 have u3 := Tryz.underlying3
 have a3 := Tryz.isAgg3
 have z3 := Tryz.sizeOf3
 have hS : Tryz.prog.underlying 60 = some (.struct (Tryz.prog.fieldsOf 60)) := by kernel_rfl
 rw [show (10000 : Nat) = 9999 + 1 from rfl, run_equalIn_agg w 9999 60 _ _ hS (by kernel_rfl)]
 simp only [Program.fieldsOf, Tryz.underlying60]
 go_simp
 by_cases h1 : a = 0 <;> by_cases h2 : b = 0 <;> simp [h1, h2]

set_option maxHeartbeats 2000000 in
set_option maxRecDepth 100000 in
theorem value_any (fm fx : Int) (pages : List PageR) (pa : Option Addr) (pc : Nat) (it : ItemR) (w : World) (hP : PagesAt w pa pages) (h1 : ∀ j, j < pages.length → 1 ≤ (pages.getD j default).bs.length) (ok : ItemOk it) :
 Calls Tryz.prog 45 #[.agg #[.int .i64 fm, .int .i64 fx, .slice pa pages.length pc], .agg #[.string it.key, .int .i64 it.flags, .int .i64 it.until_, .int .i64 it.cas, .int .i64 it.used, .string it.value, .bool it.far, .int .i64 it.page, .int .i64 it.at_]] w fun e w' => e = .returned (.bool (valueB pages it)) ∧ Below w.heap.size w w' := by
 have E : Hid (valueB pages it = if it.far = true then it.value.toList.isEmpty && (decide (findN pages it.page it.at_ = 0) && decide (24 ≤ (findS pages it.page it.at_).size)) else decide (it.value.size ≤ 200) && (decide (it.page = 0) && decide (it.at_ = 0))) := rfl
 generalize valueB pages it = R at *
 obtain ⟨_, z2, z3, z4⟩ := ok
 obtain ⟨key, flags, until_, cas, used, value, far, page, at_⟩ := it
 simp only at *
 unfold maxLen at z2
 have hB0 : ∀ o1 o2, Below w.heap.size w ((w.alloc o1).alloc o2) := fun o1 o2 => ((Below.refl _ _).alloc (Nat.le_refl _) _).alloc (by simp) _
 have hf := fun w1 hb => farValue_any fm fx pages pa pc page at_ w1 (hP.later hb) h1 z3 z4
 have ep := eqPlace0 page at_
 cases far
 · have E2 : Hid (R = (decide (value.size ≤ 200) && (decide (page = 0) && decide (at_ = 0)))) := E.out
   clear E hf
   generalize (decide (page = 0) && decide (at_ = 0)) = P at *
   by_cases hz : value.size ≤ 200
   · have hz' : (value.size : Int) ≤ 200 := by omega
     have E3 : Hid (R = P) := by unfold Hid; rw [E2.out, decide_eq_true hz]; rfl
     clear E2 hz
     go_enter Tryz.func45, Tryz.ntmps45
     go_wp2
     go_ret
     exact ⟨ret_bool E3.out.symm, hB0 _ _⟩
   · have hz' : ¬ (value.size : Int) ≤ 200 := by omega
     have E3 : Hid (R = false) := by unfold Hid; rw [E2.out, decide_eq_false hz]; rfl
     clear E2 hz
     go_enter Tryz.func45, Tryz.ntmps45
     go_wp2
     go_ret
     exact ⟨ret_bool E3.out.symm, hB0 _ _⟩
 · have E2 : Hid (R = (value.toList.isEmpty && (decide (findN pages page at_ = 0) && decide (24 ≤ (findS pages page at_).size)))) := E.out
   clear E ep
   have hN : (findN pages page at_ == 0) = decide (findN pages page at_ = 0) := by rw [Bool.eq_iff_iff, beq_iff_eq, decide_eq_true_iff]
   rw [hN] at hf
   generalize decide (findN pages page at_ = 0) = bN at *
   generalize findS pages page at_ = S at *
   have hS24 : decide ((24 : Int) ≤ (S.size : Int)) = decide (24 ≤ S.size) := by rw [Bool.eq_iff_iff, decide_eq_true_iff, decide_eq_true_iff]; omega
   go_enter Tryz.func45, Tryz.ntmps45
   go_wp2_with fail
   refine (hf _ (hB0 _ _)).mono ?_
   rintro e w1 ⟨rfl, hb1⟩
   have bi : ∀ j, w1.cell? ⟨w.heap.size + 1, j, none⟩ = (#[.string key, .int .i64 flags, .int .i64 until_, .int .i64 cas, .int .i64 used, .string value, .bool true, .int .i64 page, .int .i64 at_] : Array Value)[j]? := fun j => by rw [hb1.cell (p := ⟨w.heap.size + 1, j, none⟩) (by simp)]; simp [go_sem]
   have hB1 : Below w.heap.size w w1 := (hB0 _ _).trans (hb1.mono (hB0 _ _).size)
   clear hb1 hf
   cases he : value.toList.isEmpty
   · have E3 : Hid (R = false) := by unfold Hid; rw [E2.out, he]; rfl
     clear E2
     go_wp2
     go_ret
     exact ⟨ret_bool E3.out.symm, hB1⟩
   · cases bN
     · have E3 : Hid (R = false) := by unfold Hid; rw [E2.out, he]; rfl
       clear E2
       go_wp2
       go_ret
       exact ⟨ret_bool E3.out.symm, hB1⟩
     · have E3 : Hid (R = decide (24 ≤ S.size)) := by unfold Hid; rw [E2.out, he]; rfl
       clear E2
       go_wp2
       go_ret
       exact ⟨ret_bool (by rw [E3.out]), hB1⟩

end Go.Proofs.YtdblegdgmjakfaaGreatDoor
