/- Parts of the proof. -/
import Derived.Test.YtdblegdgmjakfaaGreatDoorMJ09
import Derived.Test.YtdblegdgmjakfaaGreatDoorMJ08
import Derived.Test.YtdblegdgmjakfaaGreatDoorMJ06
import Derived.Test.YtdblegdgmjakfaaGreatDoorMJ05
import Derived.Test.YtdblegdgmjakfaaGreatDoorMJ01
import Derived.Deep.RegionHeld3
import Derived.Deep.RegionLaw
import Derived.OrdersHeld
namespace Go.Proofs.YtdblegdgmjakfaaGreatDoor
open Go.ChangeShapes Go.WideShapes Go.ChangeAt Go.RowKit
set_option linter.unusedVariables false
set_option linter.unusedSimpArgs false

/- store.ask, store.holdPage: what changes one number of the store. -/

/-- One number of the store is another. -/
theorem StAt.scalar {O : Nat → Prop} {w : World} {B : Nat} {s : StoreR} {iv : Value} {pa : Option Addr} {pc : Nat} {Op : Nat → Prop} (h : StAt O w B s iv pa pc Op) (s' : StoreR) (j : Nat) (v : Value) (hc : stCells s' iv pa pc = (stCells s iv pa pc).setIfInBounds j v) (hi : s'.items = s.items) (hp : s'.pages = s.pages) :
 StAt O (w.setCell ⟨B, j, none⟩ v) B s' iv pa pc Op where
 box := by rw [hc]; exact h.box.set j v
 row := by rw [hi]; exact h.row.kept (fun b hb hl => heap_setCell_other _ _ _ _ (show b ≠ B from (h.rowO b hb).2))
 pages := by rw [hp]; exact h.pages.kept (by simp [World.setCell]) (fun b hb hl => heap_setCell_other _ _ _ _ (show b ≠ B from (h.apart b hb).2.1))
 apart := h.apart
 rowO := h.rowO
 boxO := h.boxO
 lt := fun b hb => by simpa [World.setCell] using h.lt b hb

set_option maxHeartbeats 1000000 in
set_option maxRecDepth 100000 in
theorem ask_any (s : StoreR) (iv : Value) (pa : Option Addr) (pc B G o : Nat) (v0 : Value) (w : World) (hT : TB 29 w B (stCells s iv pa pc)) (hG : G < w.heap.size) (hne : G ≠ B) (hx : w.cell? ⟨G, o + 4, none⟩ = some v0) (hf : w.frozen? ⟨G, o + 4, none⟩ = false) (h0 : -1 ≤ s.uses) (h1 : s.uses ≤ 1099511627776) :
 Calls Tryz.prog 81 #[.pointer (some ⟨B, 0, none⟩), .pointer (some ⟨G, o, none⟩)] w fun e w' => e = .returned (.tuple #[]) ∧ w' = (w.setCell ⟨B, 2, none⟩ (.int .i64 (s.uses + 1))).setCell ⟨G, o + 4, none⟩ (.int .i64 (s.uses + 1)) := by
 have x := fun j => hT.cell j
 have f := fun j => hT.frozen j
 have l := hT.lt
 have T2 := hT.set 2 (.int .i64 (s.uses + 1))
 unfold stCells at x
 go_enter Tryz.func81, Tryz.ntmps81
 go_wp2_with fail
 refine bodyPost_end (v := .tuple #[]) ?_ rfl ⟨rfl, rfl⟩
 simp [results, Tryz.results81, go_sem]

/-- One page more is held for a class. -/
def holdS (s : StoreR) (n : Nat) : StoreR := match n with
 | 0 => { s with h0 := s.h0 + 1 }
 | 1 => { s with h1 := s.h1 + 1 }
 | 2 => { s with h2 := s.h2 + 1 }
 | _ => { s with h3 := s.h3 + 1 }
/-- Whether one page more may be held. -/
def holdB (s : StoreR) : Bool := decide (s.h0 + s.h1 + s.h2 + s.h3 < s.most)

set_option maxHeartbeats 2000000 in
set_option maxRecDepth 100000 in
theorem holdPage_any (O : Nat → Prop) (s : StoreR) (B : Nat) (n : Nat) (hn : n ≤ 3) (w : World) (h : StO O w B s) (hl : s.items.length ≤ 1000) (r0 : 0 ≤ s.h0 ∧ s.h0 ≤ 40) (r1 : 0 ≤ s.h1 ∧ s.h1 ≤ 40) (r2 : 0 ≤ s.h2 ∧ s.h2 ≤ 40) (r3 : 0 ≤ s.h3 ∧ s.h3 ≤ 40) :
 Calls Tryz.prog 146 #[.pointer (some ⟨B, 0, none⟩), .int .i64 n] w fun e w' => e = .returned (.bool (holdB s)) ∧ StPost O w B (if holdB s = true then holdS s n else s) w' := by
 have hS := h
 obtain ⟨iv, pa, pc, Op, h⟩ := h
 obtain ⟨a, c, e0, hA⟩ := h.row.items (by unfold maxLen; omega)
 subst e0
 have x := fun j => h.box.cell j
 have hlB := h.box.lt
 have ha := fun (w1 : World) => heldAll_any s a c pa pc w1 r0 r1 r2 r3
 unfold storeV at ha
 have bs : ∀ wx, Below w.heap.size w wx → ∀ j, wx.cell? ⟨B, j, none⟩ = (stCells s (.slice a s.items.length c) pa pc)[j]? := fun wx hx j => by rw [hx.cell (p := ⟨B, j, none⟩) hlB]; exact x j
 have hWd := (Below.refl w.heap.size w).drew
 unfold stCells at x bs
 by_cases hlt : s.h0 + s.h1 + s.h2 + s.h3 < s.most
 · have hB : holdB s = true := by unfold holdB; simp [hlt]
   rw [if_pos hB, hB]
   have hge : ¬ s.most ≤ s.h0 + s.h1 + s.h2 + s.h3 := by omega
   have hgd : decide (s.most ≤ s.h0 + s.h1 + s.h2 + s.h3) = false := decide_eq_false hge
   generalize hSUM : s.h0 + s.h1 + s.h2 + s.h3 = SUM at *
   go_enter Tryz.func146, Tryz.ntmps146
   go_wp2_with fail
   go_region_held3 (fun w' => ∀ j, w'.cell? ⟨B, j, none⟩ = (#[.int .i64 s.clock, .int .i64 s.cas, .int .i64 s.uses, .int .i64 s.most, .int .i64 s.h0, .int .i64 s.h1, .int .i64 s.h2, .int .i64 s.h3, .slice a s.items.length c, .int .i64 s.fm, .int .i64 s.fx, .slice pa s.pages.length pc] : Array Value)[j]?) (first | exact bs _ hWd | exact bs _ (hWd.trans (hb2.mono hWd.size)) | exact x) ((go_at_call 41; refine (ha _).mono ?_; rintro e w2 ⟨rfl, hb2⟩))
   all_goals
    have hb3 := hWd.trans (hb2.mono hWd.size)
    have h2 := h.later hb3
    have y := fun j => h2.box.cell j
    have fy := fun j => h2.box.frozen j
    have ly := h2.box.lt
    unfold stCells at y
    clear x bs ha hSUM hge hlt hgd
    have hn4 : n = 0 ∨ n = 1 ∨ n = 2 ∨ n = 3 := by omega
    rcases hn4 with rfl | rfl | rfl | rfl
    · have q := h2.scalar (holdS s 0) 4 (.int .i64 (s.h0 + 1)) rfl rfl rfl
      have rr := r0
      go_wp2_with fail
      go_region
      go_wp2
      go_ret
      exact ⟨rfl, ⟨O, ⟨_, _, _, _, q.later ((Below.refl _ _).drew)⟩, fun b hb => Or.inl hb⟩, ((Fr.of_below hb3).set 4 _ (Or.inl h.boxO)).drew⟩
    · have q := h2.scalar (holdS s 1) 5 (.int .i64 (s.h1 + 1)) rfl rfl rfl
      have rr := r1
      go_wp2_with fail
      go_region
      go_wp2
      go_ret
      exact ⟨rfl, ⟨O, ⟨_, _, _, _, q.later ((Below.refl _ _).drew)⟩, fun b hb => Or.inl hb⟩, ((Fr.of_below hb3).set 5 _ (Or.inl h.boxO)).drew⟩
    · have q := h2.scalar (holdS s 2) 6 (.int .i64 (s.h2 + 1)) rfl rfl rfl
      have rr := r2
      go_wp2_with fail
      go_region
      go_wp2
      go_ret
      exact ⟨rfl, ⟨O, ⟨_, _, _, _, q.later ((Below.refl _ _).drew)⟩, fun b hb => Or.inl hb⟩, ((Fr.of_below hb3).set 6 _ (Or.inl h.boxO)).drew⟩
    · have q := h2.scalar (holdS s 3) 7 (.int .i64 (s.h3 + 1)) rfl rfl rfl
      have rr := r3
      go_wp2_with fail
      go_region
      go_wp2
      go_ret
      exact ⟨rfl, ⟨O, ⟨_, _, _, _, q.later ((Below.refl _ _).drew)⟩, fun b hb => Or.inl hb⟩, ((Fr.of_below hb3).set 7 _ (Or.inl h.boxO)).drew⟩
 · have hB : holdB s = false := by unfold holdB; simp [hlt]
   rw [if_neg (by rw [hB]; decide), hB]
   have hge : s.most ≤ s.h0 + s.h1 + s.h2 + s.h3 := by omega
   have hgd : decide (s.most ≤ s.h0 + s.h1 + s.h2 + s.h3) = true := decide_eq_true hge
   generalize hSUM : s.h0 + s.h1 + s.h2 + s.h3 = SUM at *
   go_enter Tryz.func146, Tryz.ntmps146
   go_wp2_with fail
   go_region_held3 (fun w' => ∀ j, w'.cell? ⟨B, j, none⟩ = (#[.int .i64 s.clock, .int .i64 s.cas, .int .i64 s.uses, .int .i64 s.most, .int .i64 s.h0, .int .i64 s.h1, .int .i64 s.h2, .int .i64 s.h3, .slice a s.items.length c, .int .i64 s.fm, .int .i64 s.fx, .slice pa s.pages.length pc] : Array Value)[j]?) (first | exact bs _ hWd | exact bs _ (hWd.trans (hb2.mono hWd.size)) | exact x) ((go_at_call 41; refine (ha _).mono ?_; rintro e w2 ⟨rfl, hb2⟩))
   all_goals
    go_wp2
    go_ret
    exact ⟨rfl, StPost.same hS (hWd.trans (hb2.mono hWd.size))⟩

/- store.askedLongestAgo: of the items in memory of a class the one that was asked for longest ago. -/

/-- Of the first k items. -/
def agoN (l : List ItemR) (c : Int) : Nat → Int
 | 0 => -1
 | k + 1 => if hitC l c k = true then (if agoN l c k < 0 then (k : Int) else if (l.getD k default).used < (l.getD (agoN l c k).toNat default).used then (k : Int) else agoN l c k) else agoN l c k

theorem agoN_range (l : List ItemR) (c : Int) : ∀ k, agoN l c k = -1 ∨ ∃ m : Nat, m < k ∧ agoN l c k = m
 | 0 => Or.inl rfl
 | k + 1 => by
  have ih := agoN_range l c k
  unfold agoN
  split
  · split
    · exact Or.inr ⟨k, by omega, rfl⟩
    · split
      · exact Or.inr ⟨k, by omega, rfl⟩
      · rcases ih with h | ⟨m, h1, h2⟩
        · exact Or.inl h
        · exact Or.inr ⟨m, by omega, h2⟩
  · rcases ih with h | ⟨m, h1, h2⟩
    · exact Or.inl h
    · exact Or.inr ⟨m, by omega, h2⟩

set_option maxHeartbeats 2000000 in
set_option maxRecDepth 100000 in
theorem ago_any (l : List ItemR) (a : Option Addr) (c : Nat) (n : Int) (w : World) (hI : ItemsAt w a l) (hok : ItemsOk l) (hL : LaidC w) (hlen : l.length ≤ 1000) :
 Calls Tryz.prog 154 #[.slice a l.length c, .int .i64 n] w fun e w' => e = .returned (.int .i64 (agoN l n l.length)) ∧ Below w.heap.size w w' := by
 obtain ⟨hmax, hmm⟩ := hI
 unfold maxLen at hmax
 go_enter Tryz.func154, Tryz.ntmps154
 go_wp2_with fail
 go_loopw [5, 10] (fun f i wr => ∃ k : Nat, k ≤ l.length ∧ i = .int .i64 k ∧ f = .int .i64 (agoN l n k) ∧ Below w.heap.size w wr) (fun _ i _ => l.length - (intOf i).toNat)
 case atStart => exact ⟨0, Nat.zero_le _, rfl, rfl, Below.refl _ _⟩
 case round =>
  obtain ⟨k, hk, rfl, rfl, hb⟩ := hrel
  by_cases hlt : k < l.length
  · have hltz : (k : Int) < (l.length : Int) := by omega
    have hk0 : (0 : Int) ≤ (k : Int) := Int.natCast_nonneg _
    rcases hmm with hmm | ⟨b, o, rfl, hbl, hc⟩
    · omega
    have hr := agoN_range l n k
    have hlb : b < wr.heap.size := Nat.lt_of_lt_of_le hbl hb.size
    have okk := hok k hlt
    have hsc := fun w1 hb => sclassOf_any (l.getD k default) w1 (hL.later hb) okk
    have hA1 : ∀ o, Below wr.heap.size wr (wr.alloc o) := fun o => (Below.refl _ _).alloc (Nat.le_refl _) _
    have E : Hid (agoN l n (k + 1) = if hitC l n k = true then (if agoN l n k < 0 then (k : Int) else if (l.getD k default).used < (l.getD (agoN l n k).toNat default).used then (k : Int) else agoN l n k) else agoN l n k) := rfl
    have hH : Hid (hitC l n k = (!(l.getD k default).far && decide (classN (l.getD k default).key.size (l.getD k default).value.size = n))) := rfl
    generalize hitC l n k = H at *
    obtain ⟨R, hRR⟩ : ∃ R, Hid (agoN l n (k + 1) = R) := ⟨_, rfl⟩
    rw [hRR.out] at E
    have hcm := fun (m : Nat) (hm : m < l.length) => hc m hm
    obtain ⟨n0, n1, n2, n3, n4, n5, n6, n7, n8⟩ := (hc k hlt).later hbl hb
    generalize agoN l n k = F at *
    generalize l.getD k default = it at *
    generalize hCN : classN it.key.size it.value.size = C at *
    clear hCN hok okk
    obtain ⟨key, flags, until_, cas, used, value, far, page, at_⟩ := it
    simp only at *
    cases far
    · have T := TB.new 62 wr #[.string key, .int .i64 flags, .int .i64 until_, .int .i64 cas, .int .i64 used, .string value, .bool false, .int .i64 page, .int .i64 at_]
      by_cases hC : C = n
      · have hHt : H = true := by rw [hH.out]; simp [hC]
        have E1 := E.out
        rw [hHt, if_pos rfl] at E1
        have hC1 : (C != n) = false := by simp [hC]
        have hC2 : (C == n) = true := by simp [hC]
        clear hC hH hHt E
        by_cases hF : F < 0
        · rw [if_pos hF] at E1
          have E2 : Hid (R = (k : Int)) := E1
          have hFd : decide (F < 0) = true := decide_eq_true hF
          clear E1
          go_wp2_with fail
          refine (hsc _ (hb.trans ((hA1 _).mono hb.size))).mono ?_
          rintro e w2 ⟨rfl, hb2⟩
          have hBr : Below wr.heap.size wr w2 := (hA1 _).trans (hb2.mono (by simp))
          have T2 := T.later hb2
          have x2 := fun j => T2.cell j
          have l2 := T2.lt
          clear hsc n0 n1 n2 n3 n4 n5 n6 n7 n8 hcm hc
          go_wp2_with fail
          go_quiet (fail)
          go_wp2
          go_roundw
          case rel => exact ⟨k + 1, by omega, by go_num, by rw [hRR.out, E2.out], hb.trans ((hBr.trans ((drewN_below _ _).mono hBr.size)).mono hb.size)⟩
          case measure => simp [intOf]; omega
        · obtain ⟨m, hm, rfl⟩ : ∃ m : Nat, m < k ∧ F = m := by
           rcases hr with h | h
           · omega
           · exact h
          rw [if_neg hF, Int.toNat_natCast] at E1
          obtain ⟨_, _, _, _, m4, _⟩ := (hcm m (by omega)).later hbl hb
          have hFd : decide ((m : Int) < 0) = false := decide_eq_false hF
          have hm0 : (0 : Int) ≤ (m : Int) := Int.natCast_nonneg _
          have hml : (m : Int) < (l.length : Int) := by omega
          clear hcm hr hF
          by_cases hU : used < (l.getD m default).used
          · rw [if_pos hU] at E1
            have E2 : Hid (R = (k : Int)) := E1
            clear E1
            have hUd : decide (used < (l.getD m default).used) = true := decide_eq_true hU
            clear hU
            go_wp2_with fail
            refine (hsc _ (hb.trans ((hA1 _).mono hb.size))).mono ?_
            rintro e w2 ⟨rfl, hb2⟩
            have hBr : Below wr.heap.size wr w2 := (hA1 _).trans (hb2.mono (by simp))
            have T2 := T.later hb2
            have x2 := fun j => T2.cell j
            have l2 := T2.lt
            have u2 : w2.cell? ⟨b, o + m * 9 + 4, none⟩ = some (.int .i64 (l.getD m default).used) := by
             rw [hBr.cell (p := ⟨b, o + m * 9 + 4, none⟩) hlb]; exact m4
            have hlb2 : b < w2.heap.size := Nat.lt_of_lt_of_le hlb hBr.size
            clear hsc n0 n1 n2 n3 n4 n5 n6 n7 n8 hc m4
            generalize (l.getD m default).used = um at *
            go_wp2_with fail
            go_quiet (fail)
            go_wp2
            go_roundw
            case rel => exact ⟨k + 1, by omega, by go_num, by rw [hRR.out, E2.out], hb.trans ((hBr.trans ((drewN_below _ _).mono hBr.size)).mono hb.size)⟩
            case measure => simp [intOf]; omega
          · rw [if_neg hU] at E1
            have E2 : Hid (R = (m : Int)) := E1
            clear E1
            have hUd : decide (used < (l.getD m default).used) = false := decide_eq_false hU
            clear hU
            go_wp2_with fail
            refine (hsc _ (hb.trans ((hA1 _).mono hb.size))).mono ?_
            rintro e w2 ⟨rfl, hb2⟩
            have hBr : Below wr.heap.size wr w2 := (hA1 _).trans (hb2.mono (by simp))
            have T2 := T.later hb2
            have x2 := fun j => T2.cell j
            have l2 := T2.lt
            have u2 : w2.cell? ⟨b, o + m * 9 + 4, none⟩ = some (.int .i64 (l.getD m default).used) := by
             rw [hBr.cell (p := ⟨b, o + m * 9 + 4, none⟩) hlb]; exact m4
            have hlb2 : b < w2.heap.size := Nat.lt_of_lt_of_le hlb hBr.size
            clear hsc n0 n1 n2 n3 n4 n5 n6 n7 n8 hc m4
            generalize (l.getD m default).used = um at *
            go_wp2_with fail
            go_quiet (fail)
            go_wp2
            go_roundw
            case rel => exact ⟨k + 1, by omega, by go_num, by rw [hRR.out, E2.out], hb.trans ((hBr.trans ((drewN_below _ _).mono hBr.size)).mono hb.size)⟩
            case measure => simp [intOf]; omega
      · have hHt : H = false := by rw [hH.out]; simp [hC]
        have E1 := E.out
        rw [hHt, if_neg (by decide)] at E1
        have E2 : Hid (R = F) := E1
        have hC1 : (C != n) = true := by simp [hC]
        have hC2 : (C == n) = false := by simp [hC]
        clear hC hH hHt E E1 hcm
        go_wp2_with fail
        refine (hsc _ (hb.trans ((hA1 _).mono hb.size))).mono ?_
        rintro e w2 ⟨rfl, hb2⟩
        have hBr : Below wr.heap.size wr w2 := (hA1 _).trans (hb2.mono (by simp))
        have T2 := T.later hb2
        have x2 := fun j => T2.cell j
        have l2 := T2.lt
        clear hsc n0 n1 n2 n3 n4 n5 n6 n7 n8 hc
        go_wp2
        go_roundw
        case rel => exact ⟨k + 1, by omega, by go_num, by rw [hRR.out, E2.out], hb.trans (hBr.mono hb.size)⟩
        case measure => simp [intOf]; omega
    · have hHt : H = false := by rw [hH.out]; simp
      have E1 := E.out
      rw [hHt, if_neg (by decide)] at E1
      have E2 : Hid (R = F) := E1
      clear hH hHt E E1 hcm hsc
      go_wp2
      go_roundw
      case rel => exact ⟨k + 1, by omega, by go_num, by rw [hRR.out, E2.out], hb.trans ((hA1 _).mono hb.size)⟩
      case measure => simp [intOf]; omega
  · have hltz : ¬ (k : Int) < (l.length : Int) := by omega
    have hke : k = l.length := by omega
    subst hke
    go_wp2
    go_ret
    exact ⟨rfl, hb⟩

/- A row of items, cell by cell; one item of it is another. -/

theorem cells9 (it : ItemR) : (itemCells it).length = 9 := rfl

theorem flat_get : ∀ (l : List ItemR) (q t : Nat), q < l.length → t < 9 → (l.flatMap itemCells)[q * 9 + t]? = (itemCells (l.getD q default))[t]?
 | [], q, t, hq, ht => by simp at hq
 | it :: l, 0, t, hq, ht => by
  rw [List.flatMap_cons, List.getElem?_append_left (by rw [cells9]; omega)]
  simp
 | it :: l, q + 1, t, hq, ht => by
  rw [List.flatMap_cons, List.getElem?_append_right (by rw [cells9]; omega), cells9, show (q + 1) * 9 + t - 9 = q * 9 + t by omega, flat_get l q t (by simpa using hq) ht]
  simp

/-- Of a row, cell by cell. -/
theorem row_cells {cur : Array Value} {l : List ItemR} {cap : Nat} (hs : cur.size = cap * 9) (h1 : l.length ≤ cap) (ht : cur.toList.take (l.length * 9) = l.flatMap itemCells) (q t : Nat) (hq : q < l.length) (h9 : t < 9) : cur[q * 9 + t]? = (itemCells (l.getD q default))[t]? := by
 rw [← flat_get l q t hq h9, ← ht, List.getElem?_take_of_lt (by omega), Array.getElem?_toList]

/-- A row, out of its cells. -/
theorem RowIt.of_cells {w : World} {g cap : Nat} {cur : Array Value} {l : List ItemR} (hc : w.heap[g]? = some (.cells cur 62 (0, 0))) (hs : cur.size = cap * 9) (h1 : l.length ≤ cap) (h2 : cap ≤ maxLen) (hcl : ∀ q t, q < l.length → t < 9 → cur[q * 9 + t]? = (itemCells (l.getD q default))[t]?) : RowIt w (.slice (some ⟨g, 0, none⟩) l.length cap) l := by
 refine ⟨itemCells_len l, Or.inr ⟨g, cap, cur, rfl, Nat.zero_le _, hc, h1, h2, hs, ?_⟩⟩
 apply List.ext_getElem?
 intro j
 by_cases hj : j < l.length * 9
 · have e : j = j / 9 * 9 + j % 9 := by omega
   rw [List.getElem?_take_of_lt hj, Array.getElem?_toList, e, hcl (j / 9) (j % 9) (by omega) (by omega), flat_get l (j / 9) (j % 9) (by omega) (by omega)]
 · rw [List.getElem?_eq_none (by rw [List.length_take]; omega), List.getElem?_eq_none (by rw [itemCells_len]; omega)]

/-- The value of item i is in the flash now: four cells of the row are others. -/
theorem RowIt.far {w w' : World} {g cap i : Nat} {cur : Array Value} {l : List ItemR} (hs : cur.size = cap * 9) (h1 : l.length ≤ cap) (h2 : cap ≤ maxLen) (ht : cur.toList.take (l.length * 9) = l.flatMap itemCells) (hi : i < l.length) (page at_ : Int)
 (hc : w'.heap[g]? = some (.cells ((((cur.setIfInBounds (i * 9 + 5) (.string ByteArray.empty)).setIfInBounds (i * 9 + 6) (.bool true)).setIfInBounds (i * 9 + 7) (.int .i64 page)).setIfInBounds (i * 9 + 8) (.int .i64 at_)) 62 (0, 0))) :
 RowIt w' (.slice (some ⟨g, 0, none⟩) l.length cap) (l.set i { (l.getD i default) with value := ByteArray.empty, far := true, page := page, at_ := at_ }) := by
 have hlen : (l.set i { (l.getD i default) with value := ByteArray.empty, far := true, page := page, at_ := at_ }).length = l.length := List.length_set
 have h := RowIt.of_cells (w := w') (l := l.set i { (l.getD i default) with value := ByteArray.empty, far := true, page := page, at_ := at_ }) hc (by simpa using hs) (by rw [hlen]; exact h1) h2 fun q t hq h9 => by
  rw [hlen] at hq
  have hb := row_cells hs h1 ht q t hq h9
  by_cases hqi : q = i
  · subst hqi
    rw [List.getD_eq_getElem?_getD, List.getElem?_set_self (by omega)]
    have ht9 : t = 0 ∨ t = 1 ∨ t = 2 ∨ t = 3 ∨ t = 4 ∨ t = 5 ∨ t = 6 ∨ t = 7 ∨ t = 8 := by omega
    rcases ht9 with rfl | rfl | rfl | rfl | rfl | rfl | rfl | rfl | rfl <;> (repeat (first | rw [Array.getElem?_setIfInBounds_self_of_lt (by first | omega | (simp; omega))] | rw [Array.getElem?_setIfInBounds_ne (by omega)])) <;> first | exact hb | rfl
  · rw [List.getD_eq_getElem?_getD, List.getElem?_set_ne (by omega), ← List.getD_eq_getElem?_getD]
    iterate 4 rw [Array.getElem?_setIfInBounds_ne (by omega)]
    exact hb
 rwa [hlen] at h

/- store.moveToFlash: an item's value goes to the flash. -/

/-- The items whose page is gone. -/
def goneP (g : Int) (it : ItemR) : Bool := it.far && (it.page == g)

set_option maxHeartbeats 400000 in
theorem move1_any (g : Int) (K : Nat) : ClosM (goneP g) 3 K #[.int .i64 g] := by
 intro it w hK
 have x := hK.cell 0
 have l := hK.lt
 have hB0 : ∀ o, Below w.heap.size w (w.alloc o) := fun o => (Below.refl _ _).alloc (Nat.le_refl _) _
 simp at x
 have E : Hid (goneP g it = (it.far && (it.page == g))) := rfl
 generalize goneP g it = R at *
 obtain ⟨key, flags, until_, cas, used, value, far, page, at_⟩ := it
 simp only at *
 cases far
 · have E2 : Hid (R = false) := (show R = false by have h := E.out; simpa using h)
   clear E
   go_enter Tryz.func159, Tryz.ntmps159
   go_wp2
   go_ret
   exact ⟨ret_bool E2.out.symm, hB0 _⟩
 · have E2 : Hid (R = (page == g)) := (show R = (page == g) by have h := E.out; simpa using h)
   clear E
   go_enter Tryz.func159, Tryz.ntmps159
   go_wp2
   go_ret
   exact ⟨ret_bool E2.out.symm, hB0 _⟩
/-- The value of item i goes to the flash, if it may; the items whose page is gone go. -/
def moveS (s : StoreR) (i : Nat) : StoreR × Bool :=
 if (s.items.getD i default).value.size < 24 then (s, false)
 else if refN s.fm s.fx s.pages (s.items.getD i default).value.size = 0 then
  ({ s with fx := (appF s.fm s.fx s.pages (recOf (s.items.getD i default).value.data.toList)).fx, pages := (appF s.fm s.fx s.pages (recOf (s.items.getD i default).value.data.toList)).pages, items := (s.items.set i { (s.items.getD i default) with value := ByteArray.empty, far := true, page := (appF s.fm s.fx s.pages (recOf (s.items.getD i default).value.data.toList)).page, at_ := (appF s.fm s.fx s.pages (recOf (s.items.getD i default).value.data.toList)).at_ }).filter fun x => !(goneP (appF s.fm s.fx s.pages (recOf (s.items.getD i default).value.data.toList)).gone x) }, true)
 else (s, false)

/- A region's end under a relation: what follows is walked once. -/

def RelPost (R : Act → World → Prop) : Exit → Act → World → Prop
 | .normal, a, w => R a w
 | _, _, _ => False

theorem region_rel {P : Program} {c : Code} {Q : Exit → Act → World → Prop} {a : Act} {w : World} (R : Act → World → Prop) (h1 : c.wp P (RelPost R) a w) (h2 : ∀ a' w', R a' w' → Q Exit.normal a' w') : c.wp P Q a w :=
 Code.wp_mono (fun e a' w' h => by
  cases e <;> first | exact h2 _ _ h | exact (h : False).elim) h1

/- A region that draws its order, whose last operation comes last in every order: what holds of the world need not hold behind it. -/

/-- Every operation but L binds L, and each waits for earlier ones alone. -/
def lastB (md : Region.Mode) (ops : Array Oper) (L : Nat) (oL : Oper) : Bool :=
 ((List.range ops.size).all fun j => j == L || oL.after.any fun e => Region.binds md e && (e.on == j || match ops[e.on]? with
    | none => false
    | some o => o.after.any fun f => Region.binds md f && f.on == j)) &&
   (List.range ops.size).all fun i => match ops[i]? with
     | none => true
     | some o => o.after.all fun e => !(Region.binds md e) || decide (e.on < i)

/-- What has come up has come up behind all that it waits for. -/
def ClosedL (md : Region.Mode) (ops : Array Oper) (listed : Array Bool) : Prop := ∀ i o, ops[i]? = some o → listed.getD i false = true → ∀ e ∈ o.after, Region.binds md e = true → listed.getD e.on false = true
theorem getD_set_true {listed : Array Bool} {i j : Nat} (h : listed.getD j false = true) : (listed.setIfInBounds i true).getD j false = true := by
 by_cases hij : i = j
 · subst hij
   rcases Nat.lt_or_ge i listed.size with hs | hs
   · simp [hs]
   · simp [Nat.not_lt.2 hs] at h
 · rw [getD_set_ne false hij]; exact h
theorem ClosedL.step {md : Region.Mode} {ops : Array Oper} {listed : Array Bool} (h : ClosedL md ops listed) {i : Nat} (hi : i ∈ Region.ready md ops listed) : ClosedL md ops (listed.setIfInBounds i true) := by
 intro j o ho hj e he hb
 by_cases hij : i = j
 · subst hij
   obtain ⟨_, o', ho', hall⟩ := mem_ready.1 hi
   rw [ho] at ho'
   rw [← Option.some.inj ho'] at hall
   exact getD_set_true (hall e he hb)
 · rw [getD_set_ne false hij] at hj
   exact getD_set_true (h j o ho hj e he hb)

/-- The post of the region without its last operation: that operation is still to be run. -/
def LastPost (P : Program) (ops : Array Oper) (L : Nat) (Q : Exit → Act → World → Prop) : Exit → Act → World → Prop
 | .normal, a, w => wpOp P ops Q L (Q .normal) a w
 | e, a, w => Q e a w

theorem LastPost.step {P : Program} {ops : Array Oper} {L : Nat} {Q : Exit → Act → World → Prop} {a : Act} {w : World} {o : Oper} (ho : ops[L]? = some o) (h : ∀ K' : Act → World → Prop, (∀ a w, Q .normal a w → K' a w) → if Region.wanted o (yielded ops a.tmps) = true then Oper.wp P o a w K' Q else K' (a.put o.dst undef) w) : LastPost P ops L Q .normal a w := wpOp_step ho h

theorem ready_some {md : Region.Mode} {ops : Array Oper} {listed : Array Bool} (hb : ∀ i o, ops[i]? = some o → ∀ e ∈ o.after, Region.binds md e = true → e.on < i) : ∀ i, i < ops.size → listed.getD i true = false → Region.ready md ops listed ≠ [] := by
 intro i
 induction i using Nat.strongRecOn with
 | _ i ih =>
  intro hi hl hr
  obtain ⟨o, ho⟩ : ∃ o, ops[i]? = some o := ⟨_, Array.getElem?_eq_getElem hi⟩
  by_cases hall : ∀ e ∈ o.after, Region.binds md e = true → listed.getD e.on false = true
  · have : i ∈ Region.ready md ops listed := mem_ready.2 ⟨hl, o, ho, hall⟩
    rw [hr] at this
    cases this
  · have ⟨e, he, hbe, hne⟩ : ∃ e, e ∈ o.after ∧ Region.binds md e = true ∧ ¬ listed.getD e.on false = true := by
     apply Classical.byContradiction
     intro hn
     exact hall fun e he hbe => Classical.byContradiction fun h => hn ⟨e, he, hbe, h⟩
    have hlt := hb i o ho e he hbe
    have hil : i < listed.size := by
     rcases Nat.lt_or_ge i listed.size with h | h
     · exact h
     · simp [Array.getElem?_eq_none h] at hl
    have hf : listed.getD e.on true = false := by
     have h1 : e.on < listed.size := by omega
     simp [h1] at hne ⊢
     exact hne
    exact ih e.on hlt (by omega) hf hr

theorem wpAny_last {P : Program} {md : Region.Mode} {ops ops' : Array Oper} {Q : Exit → Act → World → Prop} {S : World → Prop} (L : Nat) (oL : Oper) (hL : ops[L]? = some oL) (hL' : ops'[L]? = some { oL with op := .move (.const (.bool true)) }) (hdst : oL.dst = none) (hgd : oL.guard = none) (hlast : lastB md ops L oL = true) (hsz : ops'.size = ops.size) (hoth : ∀ i, i ≠ L → ops'[i]? = ops[i]?) :
 ∀ (fuel : Nat) (listed : Array Bool) (a : Act) (w : World), ClosedL md ops listed → listed.getD L true = false → wpAnyH P md ops' (LastPost P ops L Q) S fuel listed a w → wpAny P md ops Q fuel listed a w := by
 have hLs : L < ops.size := (Array.getElem?_eq_some_iff.1 hL).1
 unfold lastB at hlast
 rw [Bool.and_eq_true, List.all_eq_true, List.all_eq_true] at hlast
 obtain ⟨hl1, hl2⟩ := hlast
 have hb : ∀ i o, ops[i]? = some o → ∀ e ∈ o.after, Region.binds md e = true → e.on < i := fun i o ho e he hbe => by
  have h := hl2 i (List.mem_range.2 (Array.getElem?_eq_some_iff.1 ho).1)
  rw [ho] at h
  have h2 := (Array.all_eq_true.1 h)
  obtain ⟨k, hk, rfl⟩ := Array.getElem_of_mem he
  have h3 := h2 k hk
  rw [hbe] at h3
  simpa using h3
 have hafter : ∀ i, (ops'[i]?).map (fun o : Oper => o.after) = (ops[i]?).map (fun o : Oper => o.after) := fun i => by
  by_cases h : i = L
  · subst h; rw [hL, hL']; rfl
  · rw [hoth i h]
 have hready : ∀ listed, Region.ready md ops' listed = Region.ready md ops listed := fun listed => by
  unfold Region.ready
  rw [hsz]
  congr 1
  funext i
  have h := hafter i
  cases h1 : ops[i]? with
  | none => rw [h1] at h; simp at h; simp [h]
  | some o =>
   cases h2 : ops'[i]? with
   | none => rw [h1, h2] at h; simp at h
   | some o' => rw [h1, h2] at h; simp at h; simp [h]
 have hdone : ∀ listed, ClosedL md ops listed → L ∈ Region.ready md ops listed → Region.ready md ops (listed.setIfInBounds L true) = [] := fun listed hcl hr => by
  obtain ⟨_, o, ho, hall⟩ := mem_ready.1 hr
  rw [hL] at ho
  have e0 := Option.some.inj ho
  rw [← e0] at hall
  unfold Region.ready
  rw [List.filter_eq_nil_iff]
  intro j hj
  have hjl := List.mem_range.1 hj
  have h := hl1 j hj
  rw [Bool.or_eq_true] at h
  have hjt : (listed.setIfInBounds L true).getD j true = true := by
   by_cases hjL : j = L
   · subst hjL
     rcases Nat.lt_or_ge j listed.size with hs | hs
     · simp [hs]
     · simp [Nat.not_lt.2 hs]
   · rw [getD_set_ne true (Ne.symm hjL)]
     rcases h with h | h
     · exact absurd (by simpa using h) hjL
     · obtain ⟨k, hk, hbk⟩ := Array.any_eq_true.1 h
       rw [Bool.and_eq_true] at hbk
       have h3 := hall _ (Array.getElem_mem hk) hbk.1
       have h5 : listed.getD j false = true := by
        rcases Bool.or_eq_true _ _ ▸ hbk.2 with h4 | h4
        · have h4 : (oL.after[k]).on = j := by simpa using h4
          rw [h4] at h3
          exact h3
        · cases hk2 : ops[(oL.after[k]).on]? with
          | none => rw [hk2] at h4; cases h4
          | some o2 =>
           rw [hk2] at h4
           obtain ⟨m, hm, hbm⟩ := Array.any_eq_true.1 h4
           rw [Bool.and_eq_true] at hbm
           have h6 := hcl _ _ hk2 h3 _ (Array.getElem_mem hm) hbm.1
           have h7 : (o2.after[m]).on = j := by simpa using hbm.2
           rw [h7] at h6
           exact h6
       clear h3
       have h3 := h5
       rcases Nat.lt_or_ge j listed.size with hs | hs
       · simp [hs] at h3 ⊢; exact h3
       · simp [Nat.not_lt.2 hs] at h3
  rw [hjt]
  simp
 have hyield : yielded ops' = yielded ops := by
  funext t j
  unfold yielded
  by_cases h : j = L
  · subst h; rw [hL, hL']; rfl
  · rw [hoth j h]
 have hQ : ∀ e a w, e ≠ Exit.normal → (LastPost P ops L Q e a w ↔ Q e a w) := fun e a w he => by
  cases e <;> first | rfl | exact absurd rfl he
 have hlet : LetsOut (LastPost P ops L Q) ↔ LetsOut Q := Iff.rfl
 have hupon : ∀ (o : Oper) (a : Act) (w : World) (K K' : Act → World → Prop), (∀ a w, K a w → K' a w) → o.wp P a w K (LastPost P ops L Q) → o.wp P a w K' Q := by
  intro o a w K K' hK h
  unfold Oper.wp at *
  generalize (execOp a.eval o).run P w = r at *
  cases r with
  | ok n w' =>
   cases n <;> simp only [Oper.upon] at h ⊢ <;>
    first
     | exact hK _ _ h
     | exact Calls.mono h (fun e w'' he => by cases e <;> first | exact hK _ _ he | exact he)
     | exact Rows.mono h (fun _ _ he => hK _ _ he)
  | halt x w' => cases x <;> simp only [Oper.upon] at h ⊢ <;> exact h
 intro fuel
 induction fuel with
 | zero =>
  intro listed a w hcl hl h
  exact absurd (by rw [← hready]; exact h.1) (ready_some hb L hLs hl)
 | succ fuel ih =>
  intro listed a w hcl hl h
  refine ⟨fun h0 => absurd h0 (ready_some hb L hLs hl), fun i hi => ?_⟩
  have h1 := h.2 i (by rw [hready]; exact hi)
  by_cases hiL : i = L
  · subst hiL
    have hd := hdone listed hcl hi
    have h2 : wpAnyH P md ops' (LastPost P ops i Q) S fuel (listed.setIfInBounds i true) a w := by
     unfold wpOp at h1
     rw [hL'] at h1
     simp [Region.wanted, hgd, hdst, Oper.wp, Oper.asks, execOp, Oper.upon, Act.put] at h1
     rcases h1 with h1 | ⟨h1, _⟩
     · exact h1.2
     · exact absurd h1 (by unfold Sem.events; show ¬ noRoomEvent ∈ (#[] : Array Event); simp)
    have h3 : wpOp P ops Q i (Q .normal) a w := by
     cases fuel with
     | zero => exact h2.2
     | succ f => exact h2.1 (by rw [hready]; exact hd)
    refine wpOp_mono (fun a' w' hq => ?_) h3
    cases fuel with
    | zero => exact ⟨hd, hq⟩
    | succ f => exact ⟨fun _ => hq, by rw [hd]; simp⟩
  · have hcl2 := hcl.step hi
    have hl2 : (listed.setIfInBounds i true).getD L true = false := by rw [getD_set_ne true hiL]; exact hl
    unfold wpOp at *
    rw [hoth i hiL, hyield] at h1
    cases ho : ops[i]? with
    | none => rw [ho] at h1; exact ih _ _ _ hcl2 hl2 h1.2
    | some o =>
     rw [ho] at h1
     simp only at h1 ⊢
     split
     · next hw =>
       rw [if_pos hw] at h1
       exact h1.imp (hupon o a w _ _ fun a w h => ih _ _ _ hcl2 hl2 h.2) (fun h => ⟨h.1, h.2⟩)
     · next hw =>
       rw [if_neg hw] at h1
       exact ih _ _ _ hcl2 hl2 h1.2

/-- The beginning: the region without its last operation, S held. -/
theorem wp_region_last {P : Program} {ops : Array Oper} {Q : Exit → Act → World → Prop} {S : World → Prop} (L : Nat) (oL : Oper) (hm : P.follows .mixedOrders = true) (hL : ops[L]? = some oL) (hdst : oL.dst = none) (hgd : oL.guard = none) (hlast : lastB .any ops L oL = true) {id : Nat} {a : Act} {w : World}
 (h : wpAnyH P .any (ops.setIfInBounds L { oL with op := .move (.const (.bool true)) }) (LastPost P ops L Q) S ops.size (Array.replicate ops.size false) a w.drew) : (Code.region id ops true).wp P Q a w := by
 have hLs : L < ops.size := (Array.getElem?_eq_some_iff.1 hL).1
 refine wp_region_any hm (wpAny_last (S := S) L oL hL (by rw [Array.getElem?_setIfInBounds_self_of_lt hLs]) hdst hgd hlast (by simp) (fun i hi => by rw [Array.getElem?_setIfInBounds_ne (Ne.symm hi)]) _ _ _ _ (fun i o _ hi => by rw [Array.getD_eq_getD_getElem?, Array.getElem?_replicate] at hi; split at hi <;> simp at hi) ?_ h)
 simp [hLs]

end Go.Proofs.YtdblegdgmjakfaaGreatDoor
