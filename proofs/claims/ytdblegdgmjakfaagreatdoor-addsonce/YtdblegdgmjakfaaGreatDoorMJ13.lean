/- Parts of the proof. -/
import Derived.Test.YtdblegdgmjakfaaGreatDoorMJ09
import Derived.Test.YtdblegdgmjakfaaGreatDoorMJ04
import Derived.Test.YtdblegdgmjakfaaGreatDoorMJ12
import Derived.Test.YtdblegdgmjakfaaGreatDoorMJ05
import Derived.Deep.RegionHeld3
namespace Go.Proofs.YtdblegdgmjakfaaGreatDoor
open Go.ChangeShapes Go.WideShapes Go.ChangeAt Go.RowKit
set_option linter.unusedVariables false
set_option linter.unusedSimpArgs false

/- The contract of store.Check. -/

/-- What a store that may be is. -/
def storeB (s : StoreR) : Bool := countsB s && (heldB s && (mayB s.fm s.fx s.pages && (itemsB s && chunksB s)))

theorem items_each {s : StoreR} (h : itemsB s = true) : s.items.length ≤ 1000 ∧ ∀ j, j < s.items.length → okAt s j = true := by
 unfold itemsB at h
 rw [Bool.and_eq_true] at h
 exact ⟨of_decide_eq_true h.1, fun j hj => List.all_eq_true.1 h.2 j (List.mem_range.2 hj)⟩

theorem class_some {k v : Int} (hk : 1 ≤ k ∧ k ≤ 20) (hv : 0 ≤ v ∧ v ≤ 200) : ∃ n : Nat, n ≤ 3 ∧ classN k v = n := by
 have e : (inB k 1 20 && inB v 0 200) = true := by unfold inB; simp; omega
 unfold classN
 rw [if_pos e]
 split
 · exact ⟨0, by omega, rfl⟩
 split
 · exact ⟨1, by omega, rfl⟩
 split
 · exact ⟨2, by omega, rfl⟩
 · exact ⟨3, by omega, rfl⟩

theorem key_size {s : ByteArray} (h : keyB s = true) : 1 ≤ (s.size : Int) ∧ (s.size : Int) ≤ 20 := by
 unfold keyB at h
 rw [Bool.and_eq_true] at h
 exact (inB_iff _ _ _).1 h.1

theorem near_class {s : StoreR} (h : itemsB s = true) : ∀ j, j < s.items.length → (s.items.getD j default).far = false → ∃ n : Nat, n ≤ 3 ∧ classN (s.items.getD j default).key.size (s.items.getD j default).value.size = n := fun j hj hf => by
 have h2 := (items_each h).2 j hj
 unfold okAt fieldsB valueB at h2
 rw [hf] at h2
 simp only [Bool.and_eq_true] at h2
 obtain ⟨_, ⟨hk, _⟩, h3⟩ := h2
 have hv : (s.items.getD j default).value.size ≤ 200 := by simp at h3; exact h3.1
 exact class_some (key_size hk) ⟨by omega, by omega⟩

theorem held_range {s : StoreR} (h0 : countsB s = true) (h : heldB s = true) : ∀ m, m ≤ 3 → 0 ≤ heldN s m ∧ heldN s m ≤ 40 := by
 unfold countsB at h0
 unfold heldB at h
 simp only [Bool.and_eq_true] at h h0
 obtain ⟨q0, q1, q2, q3, _⟩ := h
 obtain ⟨_, _, _, hm⟩ := h0
 have a0 := (inB_iff _ _ _).1 q0
 have a1 := (inB_iff _ _ _).1 q1
 have a2 := (inB_iff _ _ _).1 q2
 have a3 := (inB_iff _ _ _).1 q3
 have am := (inB_iff _ _ _).1 hm
 intro m hm
 have hn : m = 0 ∨ m = 1 ∨ m = 2 ∨ m = 3 := by omega
 rcases hn with rfl | rfl | rfl | rfl
 · exact ⟨a0.1, by show s.h0 ≤ 40; omega⟩
 · exact ⟨a1.1, by show s.h1 ≤ 40; omega⟩
 · exact ⟨a2.1, by show s.h2 ≤ 40; omega⟩
 · exact ⟨a3.1, by show s.h3 ≤ 40; omega⟩

def codeN (b : Bool) : Int := if b = true then 0 else 8

set_option maxHeartbeats 2000000 in
set_option maxRecDepth 100000 in
theorem scheck_any (s : StoreR) (ia : Option Addr) (ic : Nat) (pa : Option Addr) (pc : Nat) (w : World) (hS : StoreIn w s ia pa) (hok : ItemsOk s.items) (hL : LaidC w) :
 Calls Tryz.prog 14 #[storeV s ia ic pa pc] w fun e w' => e = .returned (.int .i64 (codeN (storeB s))) ∧ Below w.heap.size w w' := by
 have E : Hid (codeN (storeB s) = codeN (countsB s && (heldB s && (mayB s.fm s.fx s.pages && (itemsB s && chunksB s))))) := rfl
 generalize codeN (storeB s) = R at *
 have c1 := fun w1 => counts_any s ia ic pa pc w1
 have c2 := fun (h : countsB s = true) w1 => heldFits_any s ia ic pa pc w1 (by unfold countsB at h; simp only [Bool.and_eq_true] at h; exact ((inB_iff _ _ _).1 h.2.2.2).2)
 have c3 := fun w1 hb => fcheck_any s.fm s.fx s.pages pa pc w1 (hS.2.later hb)
 have c4 := fun (h : mayB s.fm s.fx s.pages = true) w1 hb => items_any s ia ic pa pc w1 (hS.later hb) hok fun j hj => (may_bytes h j hj).1
 have c5 := fun (h0 : countsB s = true) (h1 : heldB s = true) (h : itemsB s = true) w1 hb => chunks_any s ia ic pa pc w1 (hS.1.later hb) hok (hL.later hb) (items_each h).1 (near_class h) (held_range h0 h1)
 generalize countsB s = b1 at *
 generalize heldB s = b2 at *
 generalize mayB s.fm s.fx s.pages = b3 at *
 generalize itemsB s = b4 at *
 generalize chunksB s = b5 at *
 clear hS hok hL
 obtain ⟨clock, scas, uses, most, h0, h1, h2, h3, items, fm, fx, pages⟩ := s
 unfold storeV at *
 simp only at *
 have hB0 : ∀ o, Below w.heap.size w (w.alloc o) := fun o => (Below.refl _ _).alloc (Nat.le_refl _) _
 have BS : Hid (∀ w1, Below (w.alloc (.cells #[.int .i64 clock, .int .i64 scas, .int .i64 uses, .int .i64 most, .int .i64 h0, .int .i64 h1, .int .i64 h2, .int .i64 h3, .slice ia items.length ic, .int .i64 fm, .int .i64 fx, .slice pa pages.length pc] 29)).heap.size (w.alloc (.cells #[.int .i64 clock, .int .i64 scas, .int .i64 uses, .int .i64 most, .int .i64 h0, .int .i64 h1, .int .i64 h2, .int .i64 h3, .slice ia items.length ic, .int .i64 fm, .int .i64 fx, .slice pa pages.length pc] 29)) w1 → ∀ j, w1.cell? ⟨w.heap.size, j, none⟩ = (#[.int .i64 clock, .int .i64 scas, .int .i64 uses, .int .i64 most, .int .i64 h0, .int .i64 h1, .int .i64 h2, .int .i64 h3, .slice ia items.length ic, .int .i64 fm, .int .i64 fx, .slice pa pages.length pc] : Array Value)[j]?) := fun w1 hb j => by rw [hb.cell (p := ⟨w.heap.size, j, none⟩) (by simp)]; simp [go_sem]
 go_enter Tryz.func14, Tryz.ntmps14
 go_wp2_with fail
 refine (c1 _).mono ?_
 rintro e w1 ⟨rfl, hb1⟩
 have hz1 := bsize hb1
 have hB1 : Below w.heap.size w w1 := (hB0 _).trans (hb1.mono (by simp))
 have bs1 := BS.out w1 hb1
 cases b1
 · have E2 : Hid (R = 8) := E.out
   clear c1 c2 c3 c4 c5 E
   go_wp2
   go_ret
   exact ⟨ret_i64 E2.out.symm, hB1⟩
 go_wp2_with fail
 refine (c2 (by trivial) _).mono ?_
 rintro e w2 ⟨rfl, hb2⟩
 have hz2 := Nat.lt_of_lt_of_le hz1 hb2.size
 have hC2 := hb1.trans (hb2.mono hb1.size)
 have hB2 := hB1.trans (hb2.mono hB1.size)
 have bs2 := BS.out w2 hC2
 clear bs1
 cases b2
 · have E2 : Hid (R = 8) := E.out
   clear c1 c2 c3 c4 c5 E
   go_wp2
   go_ret
   exact ⟨ret_i64 E2.out.symm, hB2⟩
 go_wp2_with fail
 refine (c3 _ hB2).mono ?_
 rintro e w3 ⟨rfl, hb3⟩
 have hz3 := Nat.lt_of_lt_of_le hz2 hb3.size
 have hC3 := hC2.trans (hb3.mono hC2.size)
 have hB3 := hB2.trans (hb3.mono hB2.size)
 have bs3 := BS.out w3 hC3
 clear bs2
 cases b3
 · have E2 : Hid (R = 8) := E.out
   clear c1 c2 c3 c4 c5 E
   go_wp2
   go_ret
   exact ⟨ret_i64 E2.out.symm, hB3⟩
 go_wp2_with fail
 refine (c4 (by trivial) _ hB3).mono ?_
 rintro e w4 ⟨rfl, hb4⟩
 have hz4 := Nat.lt_of_lt_of_le hz3 hb4.size
 have hC4 := hC3.trans (hb4.mono hC3.size)
 have hB4 := hB3.trans (hb4.mono hB3.size)
 have bs4 := BS.out w4 hC4
 clear bs3
 cases b4
 · have E2 : Hid (R = 8) := E.out
   clear c1 c2 c3 c4 c5 E
   go_wp2
   go_ret
   exact ⟨ret_i64 E2.out.symm, hB4⟩
 go_wp2_with fail
 refine (c5 (by trivial) (by trivial) (by trivial) _ hB4).mono ?_
 rintro e w5 ⟨rfl, hb5⟩
 have hB5 := hB4.trans (hb5.mono hB4.size)
 cases b5
 · have E2 : Hid (R = 8) := E.out
   clear c1 c2 c3 c4 c5 E
   go_wp2
   go_ret
   exact ⟨ret_i64 E2.out.symm, hB5⟩
 · have E2 : Hid (R = 0) := E.out
   clear c1 c2 c3 c4 c5 E
   go_wp2
   go_ret
   exact ⟨ret_i64 E2.out.symm, hB5⟩

/- store.pushOut: the item of a class that was asked for longest ago goes. -/

theorem LaidC.fr {O : Nat → Prop} {w w' : World} (h : LaidC w) (hf : Fr O w w') (hO : ¬ O 0) : LaidC w' := by
 obtain ⟨h1, c0, c1, c2, c3⟩ := h
 exact ⟨Nat.lt_of_lt_of_le h1 hf.size, by rw [hf.cell h1 hO]; exact c0, by rw [hf.cell h1 hO]; exact c1, by rw [hf.cell h1 hO]; exact c2, by rw [hf.cell h1 hO]; exact c3⟩
/-- Behind a step: the table, and that the store's blocks are not its. -/
theorem StPost.laid {O : Nat → Prop} {w w' : World} {B : Nat} {s : StoreR} (h : StPost O w B s w') (hL : LaidC w) (hO : ¬ O 0) : LaidC w' := hL.fr h.2 hO

theorem StPost.on {O O2 : Nat → Prop} {w w2 w3 : World} {B : Nat} {s : StoreR} (ho : ∀ b, O2 b → O b ∨ w.heap.size ≤ b) (hF : Fr O w w2) (h : StPost O2 w2 B s w3) : StPost O w B s w3 := by
 obtain ⟨⟨O3, k1, k2⟩, k3⟩ := h
 exact ⟨⟨O3, k1, fun b hb => (k2 b hb).elim (ho b) (fun q => Or.inr (Nat.le_trans hF.size q))⟩, hF.trans k3 ho⟩

/-- A store that may be, its numbers machine numbers. -/
structure Gd (s : StoreR) : Prop where
 b : storeB s = true
 ok : ItemsOk s.items
theorem Gd.parts {s : StoreR} (h : Gd s) : countsB s = true ∧ heldB s = true ∧ mayB s.fm s.fx s.pages = true ∧ itemsB s = true ∧ chunksB s = true := by
 have h := h.b
 unfold storeB at h
 simp only [Bool.and_eq_true] at h
 exact ⟨h.1, h.2.1, h.2.2.1, h.2.2.2.1, h.2.2.2.2⟩
theorem Gd.len {s : StoreR} (h : Gd s) : s.items.length ≤ 1000 := (items_each h.parts.2.2.2.1).1

/-- The one of class c that was asked for longest ago goes, to the flash or for good; false: there is none. -/
def pushS (s : StoreR) (c : Int) : StoreR × Bool :=
 if agoN s.items c s.items.length < 0 then (s, false)
 else if (moveS s (agoN s.items c s.items.length).toNat).2 = true then ((moveS s (agoN s.items c s.items.length).toNat).1, true)
 else (takeN s (s.items.getD (agoN s.items c s.items.length).toNat default).key, true)

theorem moveS_false {s : StoreR} {i : Nat} (h : (moveS s i).2 = false) : (moveS s i).1 = s := by
 unfold moveS at *
 split
 · rfl
 · split
   · next h1 h2 => rw [if_neg h1, if_pos h2] at h; cases h
   · rfl

set_option maxHeartbeats 4000000 in
set_option maxRecDepth 100000 in
theorem pushOut_any (O : Nat → Prop) (s : StoreR) (B : Nat) (c : Nat) (w : World) (h : StO O w B s) (hg : Gd s) (hL : LaidC w) :
 Calls Tryz.prog 147 #[.pointer (some ⟨B, 0, none⟩), .int .i64 c] w fun e w' => e = .returned (.bool (pushS s c).2) ∧ StPost O w B (pushS s c).1 w' := by
 have hS := h
 have hl := hg.len
 obtain ⟨iv, pa, pc, Op, h⟩ := h
 obtain ⟨a, cp, e0, hA⟩ := h.row.items (by unfold maxLen; omega)
 subst e0
 have x := fun j => h.box.cell j
 have hlB := h.box.lt
 have ha := ago_any s.items a cp c w hA hg.ok hL hl
 have hr := agoN_range s.items c s.items.length
 have E : Hid (pushS s c = pushS s c) := rfl
 conv at E => arg 1; rhs; unfold pushS
 generalize pushS s c = R at *
 generalize agoN s.items c s.items.length = G at *
 unfold stCells at x
 rcases hr with rfl | ⟨i, hi, rfl⟩
 · have E2 : Hid (R = (s, false)) := by
    have e := E.out
    rw [if_pos (by omega)] at e
    exact e
   clear E
   go_enter Tryz.func147, Tryz.ntmps147
   go_wp2_with fail
   refine ha.mono ?_
   rintro e w1 ⟨rfl, hb1⟩
   go_wp2_with fail
   go_ret
   rw [E2.out]
   exact ⟨rfl, StPost.same hS hb1⟩
 · have hz0 : ¬ ((i : Int) < 0) := by omega
   have hmv := fun w1 hb => move_any O s B i w1 (hS.later hb) hl hi (hg.ok i hi).2.1
   have hft := @moveS_false s i
   have E1 : Hid (R = if (moveS s i).2 = true then ((moveS s i).1, true) else (takeN s (s.items.getD i default).key, true)) := by
    have e := E.out
    rw [if_neg hz0, Int.toNat_natCast] at e
    exact e
   clear E
   generalize moveS s i = M at *
   obtain ⟨sM, bM⟩ := M
   simp only at *
   cases bM
   · have hsM : sM = s := hft rfl
     subst hsM
     have E2 : Hid (R = (takeN sM (sM.items.getD i default).key, true)) := E1.out
     clear E1 hft
     go_enter Tryz.func147, Tryz.ntmps147
     go_wp2_with fail
     refine ha.mono ?_
     rintro e w1 ⟨rfl, hb1⟩
     go_wp2_with fail
     refine (hmv _ hb1).mono ?_
     rintro e w2 ⟨rfl, hP⟩
     have hP2 := hP
     obtain ⟨⟨O2, hO2, ho2⟩, hF2⟩ := hP
     have hO2' := hO2
     obtain ⟨iv2, pa2, pc2, Op2, h2⟩ := hO2
     obtain ⟨a2, cp2, e2, hA2⟩ := h2.row.items (by unfold maxLen; omega)
     subst e2
     obtain ⟨b2, o2, ha2, hb2, hI2⟩ := hA2.item i hi
     subst ha2
     obtain ⟨i0, _⟩ := hI2
     have y := fun j => h2.box.cell j
     have lB2 := h2.box.lt
     have hi0 : (0 : Int) ≤ (i : Int) := Int.natCast_nonneg _
     have hi1 : (i : Int) < (sM.items.length : Int) := by omega
     unfold stCells at y
     have ht := takeAway_any O2 sM B (sM.items.getD i default).key w2 hO2' hl
     clear x ha hmv
     generalize (sM.items.getD i default).key = K at *
     go_wp2_with fail
     refine ht.mono ?_
     rintro e w3 ⟨rfl, hP3⟩
     go_wp2_with fail
     go_ret
     rw [E2.out]
     exact ⟨rfl, (StPost.on ho2 hF2 hP3).front hb1⟩
   · have E2 : Hid (R = (sM, true)) := E1.out
     clear E1 hft
     go_enter Tryz.func147, Tryz.ntmps147
     go_wp2_with fail
     refine ha.mono ?_
     rintro e w1 ⟨rfl, hb1⟩
     go_wp2_with fail
     refine (hmv _ hb1).mono ?_
     rintro e w2 ⟨rfl, hP⟩
     go_wp2_with fail
     go_ret
     rw [E2.out]
     exact ⟨rfl, hP.front hb1⟩

/- Plain facts of stores: order, counts; what may be with fewer items may be. -/

theorem bl_irrefl : ∀ a : List UInt8, Op.bytesLess a a = false
 | [] => rfl
 | x :: r => by unfold Op.bytesLess; simp [bl_irrefl r]
theorem bl_trans : ∀ a b c : List UInt8, Op.bytesLess a b = true → Op.bytesLess b c = true → Op.bytesLess a c = true
 | _, [], _, h, _ => by simp [Op.bytesLess] at h
 | _, _ :: _, [], _, h => by simp [Op.bytesLess] at h
 | [], _ :: _, _ :: _, _, _ => rfl
 | x :: a, y :: b, z :: c, h, k => by
  unfold Op.bytesLess at *
  simp only [Bool.or_eq_true, Bool.and_eq_true, decide_eq_true_eq, beq_iff_eq] at *
  rcases h with h | ⟨rfl, h⟩
  · rcases k with k | ⟨rfl, k⟩
    · exact Or.inl (UInt8.lt_trans h k)
    · exact Or.inl h
  · rcases k with k | ⟨rfl, k⟩
    · exact Or.inl k
    · exact Or.inr ⟨rfl, bl_trans a b c h k⟩
theorem bl_total : ∀ a b : List UInt8, Op.bytesLess a b = false → a = b ∨ Op.bytesLess b a = true
 | [], [], _ => Or.inl rfl
 | [], _ :: _, h => by simp [Op.bytesLess] at h
 | _ :: _, [], _ => Or.inr rfl
 | x :: a, y :: b, h => by
  unfold Op.bytesLess at *
  simp only [Bool.or_eq_false_iff, Bool.and_eq_false_iff, decide_eq_false_iff_not, beq_eq_false_iff_ne, Bool.or_eq_true, Bool.and_eq_true, decide_eq_true_eq, beq_iff_eq] at *
  by_cases e : x = y
  · subst e
    rcases h.2 with h2 | h2
    · exact absurd rfl h2
    · rcases bl_total a b h2 with rfl | h3
      · exact Or.inl rfl
      · exact Or.inr (Or.inr ⟨rfl, h3⟩)
  · refine Or.inr (Or.inl ?_)
    have h1 := h.1
    rw [UInt8.lt_iff_toNat_lt] at *
    have : x.toNat ≠ y.toNat := fun q => e (UInt8.toNat_inj.1 q)
    omega
theorem toList_inj {a b : ByteArray} (h : a.toList = b.toList) : a = b := by
 rw [ByteArray.toList_eq, ByteArray.toList_eq] at h
 cases a; cases b
 simp at h
 subst h
 rfl
theorem ltK_trans {a b c : ByteArray} (h : ltK a b = true) (k : ltK b c = true) : ltK a c = true := bl_trans _ _ _ h k
theorem ltK_irrefl (a : ByteArray) : ltK a a = false := bl_irrefl _
theorem ltK_total {a b : ByteArray} (h : ltK a b = false) : a = b ∨ ltK b a = true := (bl_total _ _ h).imp toList_inj id

/-- The items stand in the order of their keys. -/
def SortedI (l : List ItemR) : Prop := (l.map (·.key)).Pairwise fun a b => ltK a b = true
theorem leB_not {a b : ByteArray} : leB a b = false ↔ ltK b a = true := by
 unfold leB
 constructor
 · intro h
   rw [Bool.or_eq_false_iff] at h
   rcases bl_total _ _ h.1 with e | e
   · rw [e] at h; simp at h
   · exact e
 · intro h
   rw [Bool.or_eq_false_iff]
   refine ⟨?_, ?_⟩
   · cases hq : Op.bytesLess a.toList b.toList
     · rfl
     · have := bl_trans _ _ _ hq h
       rw [bl_irrefl] at this
       cases this
   · cases hq : (a.toList == b.toList)
     · rfl
     · have e : a.toList = b.toList := by simpa using hq
       have h2 : Op.bytesLess b.toList a.toList = true := h
       rw [e, bl_irrefl] at h2
       cases h2
theorem sorted_of {l : List ItemR} (h : ∀ k, k < l.length → orderB l k = true) : SortedI l := by
 unfold SortedI
 rw [List.pairwise_iff_getElem]
 intro i j hi hj hij
 simp only [List.length_map] at hi hj
 simp only [List.getElem_map]
 have step : ∀ k (hk : k + 1 < l.length), ltK l[k].key l[k + 1].key = true := fun k hk => by
  have := h (k + 1) hk
  unfold orderB at this
  have h0 : decide (0 < k + 1) = true := by simp
  rw [h0, Bool.true_and, Bool.not_eq_true', leB_not, Nat.add_sub_cancel] at this
  rw [List.getD_eq_getElem?_getD, List.getElem?_eq_getElem (by omega), List.getD_eq_getElem?_getD, List.getElem?_eq_getElem hk] at this
  exact this
 obtain ⟨d, rfl⟩ : ∃ d, j = i + 1 + d := ⟨j - (i + 1), by omega⟩
 clear hij
 induction d with
 | zero => exact step i hj
 | succ d ih => exact ltK_trans (by apply ih <;> first | exact step | omega) (step (i + 1 + d) hj)
theorem order_of {l : List ItemR} (h : SortedI l) : ∀ k, k < l.length → orderB l k = true := by
 intro k hk
 unfold orderB
 rcases Nat.eq_zero_or_pos k with rfl | hp
 · simp
 · obtain ⟨q, rfl⟩ : ∃ q, k = q + 1 := ⟨k - 1, by omega⟩
   rw [decide_eq_true hp, Bool.true_and, Bool.not_eq_true', leB_not]
   unfold SortedI at h
   rw [List.pairwise_iff_getElem] at h
   have := h q (q + 1) (by simp; omega) (by simpa using hk) (by omega)
   simp only [List.getElem_map] at this
   rw [Nat.add_sub_cancel, List.getD_eq_getElem?_getD, List.getElem?_eq_getElem (by omega), List.getD_eq_getElem?_getD, List.getElem?_eq_getElem hk]
   exact this
theorem itemsB_iff {s : StoreR} : itemsB s = true ↔ s.items.length ≤ 1000 ∧ SortedI s.items ∧ ∀ it ∈ s.items, fieldsB s it = true ∧ valueB s.pages it = true := by
 constructor
 · intro h
   obtain ⟨h1, h2⟩ := items_each h
   refine ⟨h1, sorted_of fun k hk => ?_, fun it hit => ?_⟩
   · have := h2 k hk
     unfold okAt at this
     rw [Bool.and_eq_true] at this
     exact this.1
   · obtain ⟨k, hk, rfl⟩ := List.getElem_of_mem hit
     have := h2 k hk
     unfold okAt at this
     rw [Bool.and_eq_true, Bool.and_eq_true, List.getD_eq_getElem?_getD, List.getElem?_eq_getElem hk] at this
     exact this.2
 · rintro ⟨h1, h2, h3⟩
   refine items_yes s h1 fun j hj => ?_
   unfold okAt
   have := h3 _ (List.getElem_mem hj)
   rw [order_of h2 j hj, List.getD_eq_getElem?_getD, List.getElem?_eq_getElem hj]
   show (true && (fieldsB s s.items[j] && valueB s.pages s.items[j])) = true
   rw [this.1, this.2]
   rfl

/-- Whether an item is in memory, and of the class c. -/
def hitP (c : Int) (it : ItemR) : Bool := !it.far && decide (classN it.key.size it.value.size = c)
theorem cntC_eq (l : List ItemR) (c : Int) : ∀ k, k ≤ l.length → cntC l c k = (l.take k).countP (hitP c)
 | 0, _ => by simp [cntC]
 | k + 1, hk => by
  have ih := cntC_eq l c k (by omega)
  have hx : l[k]? = some (l[k]'(by omega)) := List.getElem?_eq_getElem (by omega)
  have hh : hitC l c k = hitP c (l[k]'(by omega)) := by
   unfold hitC hitP
   rw [List.getD_eq_getElem?_getD, hx]
   rfl
  rw [cntC, ih, hh, List.take_add_one, hx, List.countP_append]
  simp [List.countP_cons]
theorem cntC_all (l : List ItemR) (c : Int) : cntC l c l.length = l.countP (hitP c) := by
 rw [cntC_eq l c _ (Nat.le_refl _), List.take_length]
theorem chunksB_iff {s : StoreR} : chunksB s = true ↔ ∀ n : Nat, n < 4 → (s.items.countP (hitP n) : Int) ≤ roomN s n := by
 constructor
 · intro h n hn
   unfold chunksB at h
   have := List.all_eq_true.1 h n (List.mem_range.2 hn)
   rw [cntC_all] at this
   simpa using this
 · intro h
   exact chunks_yes s fun n hn => by rw [cntC_all]; exact h n hn
theorem itemsOk_iff {l : List ItemR} : ItemsOk l ↔ ∀ it ∈ l, ItemOk it := by
 constructor
 · intro h it hit
   obtain ⟨k, hk, rfl⟩ := List.getElem_of_mem hit
   have := h k hk
   rw [List.getD_eq_getElem?_getD, List.getElem?_eq_getElem hk] at this
   exact this
 · intro h j hj
   rw [List.getD_eq_getElem?_getD, List.getElem?_eq_getElem hj]
   exact h _ (List.getElem_mem hj)
/-- A store that may be, told anew. -/
theorem gd_iff {s : StoreR} : Gd s ↔ countsB s = true ∧ heldB s = true ∧ mayB s.fm s.fx s.pages = true ∧ s.items.length ≤ 1000 ∧ SortedI s.items ∧ (∀ it ∈ s.items, fieldsB s it = true ∧ valueB s.pages it = true ∧ ItemOk it) ∧ ∀ n : Nat, n < 4 → (s.items.countP (hitP n) : Int) ≤ roomN s n := by
 constructor
 · intro h
   obtain ⟨h1, h2, h3, h4, h5⟩ := h.parts
   obtain ⟨a, b, c⟩ := itemsB_iff.1 h4
   exact ⟨h1, h2, h3, a, b, fun it hit => ⟨(c it hit).1, (c it hit).2, itemsOk_iff.1 h.ok it hit⟩, chunksB_iff.1 h5⟩
 · rintro ⟨h1, h2, h3, a, b, c, d⟩
   refine ⟨?_, itemsOk_iff.2 fun it hit => (c it hit).2.2⟩
   unfold storeB
   rw [h1, h2, h3, itemsB_iff.2 ⟨a, b, fun it hit => ⟨(c it hit).1, (c it hit).2.1⟩⟩, chunksB_iff.2 d]
   rfl
theorem keq_iff {a b : ByteArray} : keq a b = true ↔ a = b := by
 unfold keq
 constructor
 · intro h; exact toList_inj (by simpa using h)
 · rintro rfl; simp
theorem SortedI.sub {l l' : List ItemR} (h : SortedI l) (hs : l'.Sublist l) : SortedI l' := List.Pairwise.sublist (hs.map _) h
theorem SortedI.mono {l : List ItemR} (h : SortedI l) (key : ByteArray) : KeyMono l key := by
 intro i j hij hj hi
 rcases Nat.lt_or_ge i j with hlt | hge
 · unfold SortedI at h
   rw [List.pairwise_iff_getElem] at h
   have := h i j (by simp; omega) (by simpa using hj) hlt
   simp only [List.getElem_map] at this
   unfold geI at *
   rw [List.getD_eq_getElem?_getD, List.getElem?_eq_getElem (by omega)] at hi
   rw [List.getD_eq_getElem?_getD, List.getElem?_eq_getElem hj]
   rw [Bool.not_eq_true'] at *
   cases hq : ltK l[j].key key
   · exact hq
   · have h2 := ltK_trans this hq
     have h3 : ltK l[i].key key = false := hi
     rw [h2] at h3
     cases h3
 · have e : i = j := by omega
   subst e
   exact hi
theorem Gd.mono {s : StoreR} (h : Gd s) (key : ByteArray) : KeyMono s.items key := (gd_iff.1 h).2.2.2.2.1.mono key
/-- With fewer items. -/
theorem Gd.sub {s : StoreR} (h : Gd s) {l : List ItemR} (hs : l.Sublist s.items) : Gd { s with items := l } := by
 obtain ⟨h1, h2, h3, a, b, c, d⟩ := gd_iff.1 h
 refine gd_iff.2 ⟨h1, h2, h3, Nat.le_trans hs.length_le a, b.sub hs, fun it hit => c it (hs.subset hit), fun n hn => ?_⟩
 have h4 : l.countP (hitP n) ≤ s.items.countP (hitP n) := hs.countP_le
 have h5 := d n hn
 show (l.countP (hitP n) : Int) ≤ roomN s n
 omega
theorem Gd.take {s : StoreR} (h : Gd s) (key : ByteArray) : Gd (takeN s key) := h.sub List.filter_sublist

/- store.makeRoom: room for one item more of a class. -/

/-- Room for one item more of class c: the store behind it, and whether there is. -/
def roomS (s : StoreR) (c : Nat) : StoreR × Bool :=
 if freeB s c = true then (s, decide (s.items.length < 1000))
 else if holdB s = true then (holdS s c, decide (s.items.length < 1000))
 else if (pushS s c).2 = true then ((pushS s c).1, decide ((pushS s c).1.items.length < 1000))
 else ((pushS s c).1, false)

theorem holdS_items (s : StoreR) (c : Nat) : (holdS s c).items = s.items := by
 unfold holdS
 split <;> rfl

set_option maxHeartbeats 8000000 in
set_option maxRecDepth 100000 in
theorem makeRoom_any (O : Nat → Prop) (s : StoreR) (B : Nat) (c : Nat) (hc : c ≤ 3) (w : World) (h : StO O w B s) (hg : Gd s) (hL : LaidC w) (hOc : ¬ O 0) (hlp : (pushS s c).1.items.length ≤ 1000) :
 Calls Tryz.prog 139 #[.pointer (some ⟨B, 0, none⟩), .int .i64 c] w fun e w' => e = .returned (.bool (roomS s c).2) ∧ StPost O w B (roomS s c).1 w' := by
 have hS := h
 have hl := hg.len
 obtain ⟨p1, p2, p3, p4, p5⟩ := hg.parts
 obtain ⟨iv, pa, pc, Op, h⟩ := h
 obtain ⟨a, cp, e0, hA⟩ := h.row.items (by unfold maxLen; omega)
 subst e0
 have x := fun j => h.box.cell j
 have hlB := h.box.lt
 have hfr := free_any s a cp pa pc c hc w hA hg.ok hL hl (near_class p4) (held_range p1 p2)
 have hho := fun w1 hb => holdPage_any O s B c hc w1 (hS.later hb) hl (held_range p1 p2 0 (by omega)) (held_range p1 p2 1 (by omega)) (held_range p1 p2 2 (by omega)) (held_range p1 p2 3 (by omega))
 have hpu := fun O1 w1 h1 hL1 => pushOut_any O1 s B c w1 h1 hg hL1
 have hsi := holdS_items s c
 have E : Hid (roomS s c = roomS s c) := rfl
 conv at E => arg 1; rhs; unfold roomS
 generalize roomS s c = R at *
 generalize pushS s c = P at *
 generalize holdS s c = H at *
 generalize freeB s c = fb at *
 generalize holdB s = hb at *
 unfold storeV at hfr
 unfold stCells at x
 have hz : (s.items.length : Int) ≤ 1000 := by omega
 cases fb
 · cases hb
   · obtain ⟨sP, bP⟩ := P
     simp only [if_neg Bool.false_ne_true] at *
     have hlpz : (sP.items.length : Int) ≤ 1000 := by omega
     have hho2 : ∀ w1, Below w.heap.size w w1 → Calls Tryz.prog 146 #[.pointer (some ⟨B, 0, none⟩), .int .i64 c] w1 fun e w' => e = .returned (.bool false) ∧ StPost O w1 B s w' := fun w1 hb => by have h := hho w1 hb; simpa using h
     clear hho
     go_enter Tryz.func139, Tryz.ntmps139
     go_wp2_with fail
     refine hfr.mono ?_
     rintro e w1 ⟨rfl, hb1⟩
     go_wp2_with fail
     refine (hho2 _ hb1).mono ?_
     rintro e w2 ⟨rfl, hP2⟩
     obtain ⟨⟨O2, hS2, ho2⟩, hF2⟩ := hP2
     have hL2 := (hL.later hb1).fr hF2 hOc
     have hpu2 := hpu O2 w2 hS2 hL2
     go_wp2_with fail
     refine hpu2.mono ?_
     rintro e w3 ⟨rfl, hP3⟩
     have hP3' : Hid (StPost O w B sP w3) := (StPost.on ho2 hF2 hP3).front hb1
     cases bP
     · have E2 : Hid (R = (sP, false)) := E.out
       go_wp2_with fail
       go_ret
       rw [E2.out]
       exact ⟨rfl, hP3'.out⟩
     · have E2 : Hid (R = (sP, decide (sP.items.length < 1000))) := E.out
       obtain ⟨⟨O3, hS3, ho3⟩, hF3⟩ := hP3
       obtain ⟨iv3, pa3, pc3, Op3, h3⟩ := hS3
       obtain ⟨a3, cp3, e3, hA3⟩ := h3.row.items (by unfold maxLen; omega)
       subst e3
       have y := fun j => h3.box.cell j
       have ly := h3.box.lt
       unfold stCells at y
       go_wp2_with fail
       go_ret
       rw [E2.out]
       exact ⟨ret_bool (by simp; omega), hP3'.out⟩
   · have E2 : Hid (R = (H, decide (s.items.length < 1000))) := E.out
     have hho2 : ∀ w1, Below w.heap.size w w1 → Calls Tryz.prog 146 #[.pointer (some ⟨B, 0, none⟩), .int .i64 c] w1 fun e w' => e = .returned (.bool true) ∧ StPost O w1 B H w' := fun w1 hb => by have h := hho w1 hb; simpa using h
     clear E hpu hho
     go_enter Tryz.func139, Tryz.ntmps139
     go_wp2_with fail
     refine hfr.mono ?_
     rintro e w1 ⟨rfl, hb1⟩
     go_wp2_with fail
     refine (hho2 _ hb1).mono ?_
     rintro e w2 ⟨rfl, hP2⟩
     have hP2' : Hid (StPost O w B H w2) := hP2.front hb1
     obtain ⟨⟨O3, hS3, ho3⟩, hF3⟩ := hP2
     obtain ⟨iv3, pa3, pc3, Op3, h3⟩ := hS3
     have hR3 := h3.row
     obtain ⟨a3, cp3, e3, hA3⟩ := hR3.items (by rw [hsi]; unfold maxLen; omega)
     subst e3
     rw [hsi] at *
     have y := fun j => h3.box.cell j
     have ly := h3.box.lt
     unfold stCells at y
     go_wp2_with fail
     go_ret
     rw [E2.out]
     exact ⟨ret_bool (by simp; omega), hP2'.out⟩
 · have E2 : Hid (R = (s, decide (s.items.length < 1000))) := by
    have e := E.out
    rw [if_pos rfl] at e
    exact e
   clear E
   go_enter Tryz.func139, Tryz.ntmps139
   go_wp2_with fail
   refine hfr.mono ?_
   rintro e w1 ⟨rfl, hb1⟩
   have h1 := h.later hb1
   have y := fun j => h1.box.cell j
   have ly := h1.box.lt
   unfold stCells at y
   go_wp2_with fail
   go_ret
   rw [E2.out]
   exact ⟨ret_bool (by simp; omega), StPost.same hS hb1⟩

/- Plain facts of stores: what makes room keeps what may be. -/

theorem heldB_iff {s : StoreR} : heldB s = true ↔ (0 ≤ s.h0 ∧ s.h0 ≤ s.most) ∧ (0 ≤ s.h1 ∧ s.h1 ≤ s.most) ∧ (0 ≤ s.h2 ∧ s.h2 ≤ s.most) ∧ (0 ≤ s.h3 ∧ s.h3 ≤ s.most) ∧ s.h0 + s.h1 + s.h2 + s.h3 ≤ s.most := by
 unfold heldB
 simp only [Bool.and_eq_true, inB_iff, decide_eq_true_eq]

/-- What stays of a store when room is made. -/
structure Kept (s s' : StoreR) : Prop where
 clock : s'.clock = s.clock
 cas : s'.cas = s.cas
 uses : s'.uses = s.uses
 most : s'.most = s.most
 fm : s'.fm = s.fm
 keys : ∀ it ∈ s'.items, ∃ jt ∈ s.items, jt.key = it.key
theorem Kept.refl (s : StoreR) : Kept s s := ⟨rfl, rfl, rfl, rfl, rfl, fun it h => ⟨it, h, rfl⟩⟩

theorem Gd.hold {s : StoreR} (h : Gd s) (hb : holdB s = true) (n : Nat) (hn : n ≤ 3) : Gd (holdS s n) ∧ roomN s n + 1 ≤ roomN (holdS s n) n := by
 obtain ⟨h1, h2, h3, a, b, c, d⟩ := gd_iff.1 h
 obtain ⟨⟨a0, b0⟩, ⟨a1, b1⟩, ⟨a2, b2⟩, ⟨a3, b3⟩, hs⟩ := heldB_iff.1 h2
 have hlt : s.h0 + s.h1 + s.h2 + s.h3 < s.most := by unfold holdB at hb; simpa using hb
 have d0 := d 0 (by omega)
 have d1 := d 1 (by omega)
 have d2 := d 2 (by omega)
 have d3 := d 3 (by omega)
 simp only [roomN, heldN, perN, List.getD_cons_zero, List.getD_cons_succ] at d0 d1 d2 d3
 have hn4 : n = 0 ∨ n = 1 ∨ n = 2 ∨ n = 3 := by omega
 rcases hn4 with rfl | rfl | rfl | rfl
 all_goals
  refine ⟨gd_iff.2 ⟨h1, heldB_iff.2 ?_, h3, a, b, c, fun m hm => ?_⟩, ?_⟩
  · simp only [holdS]
    omega
  · have hm4 : m = 0 ∨ m = 1 ∨ m = 2 ∨ m = 3 := by omega
    rcases hm4 with rfl | rfl | rfl | rfl <;> simp only [holdS, roomN, heldN, perN, List.getD_cons_zero, List.getD_cons_succ] <;> omega
  · simp only [holdS, roomN, heldN, perN, List.getD_cons_zero, List.getD_cons_succ]
    omega
theorem holdS_kept (s : StoreR) (n : Nat) : Kept s (holdS s n) := by
 unfold holdS
 split <;> exact ⟨rfl, rfl, rfl, rfl, rfl, fun it h => ⟨it, h, rfl⟩⟩

theorem moveS_true {s : StoreR} {i : Nat} (h : (moveS s i).2 = true) : 24 ≤ (s.items.getD i default).value.size ∧ refN s.fm s.fx s.pages (s.items.getD i default).value.size = 0 := by
 unfold moveS at h
 split at h
 · cases h
 · next h1 =>
   split at h
   · next h2 => exact ⟨by omega, h2⟩
   · cases h

/-- A place that is read. -/
theorem place_range {m x : Int} {ps : List PageR} (hm : mayB m x ps = true) {n p : Int} (h : findN ps n p = 0) : 0 ≤ p ∧ p < 256 := by
 obtain ⟨_, _, _, _, h5⟩ := mayB_facts.1 hm
 have hlt := findN_out h
 have hin := pageI_in h5 n hlt
 generalize pageI ps n = j at *
 have ho := findN_at h5 j hlt p
 rw [← hin] at ho
 have hb := (bytesB_facts.1 (pagesF_get h5 j hlt).2).2.1
 rcases Bool.eq_false_or_eq_true (valO (valsAt 0 ps[j].bs) p).isSome with q | q
 · have := valO_range _ _ q
   omega
 · rw [ho.1, q] at h; simp at h

theorem Gd.move {s : StoreR} (h : Gd s) {i : Nat} (hi : i < s.items.length) (ht : (moveS s i).2 = true) : Gd (moveS s i).1 ∧ Kept s (moveS s i).1 ∧ (moveS s i).1.items.length ≤ s.items.length ∧ (∀ n, roomN (moveS s i).1 n = roomN s n) ∧ ∀ c, hitP c s.items[i] = true → (moveS s i).1.items.countP (hitP c) + 1 ≤ s.items.countP (hitP c) := by
 obtain ⟨h24, href⟩ := moveS_true ht
 have hget : s.items.getD i default = s.items[i] := by rw [List.getD_eq_getElem?_getD, List.getElem?_eq_getElem hi]; rfl
 have hE : (moveS s i).1 = { s with fx := (appF s.fm s.fx s.pages (recOf s.items[i].value.data.toList)).fx, pages := (appF s.fm s.fx s.pages (recOf s.items[i].value.data.toList)).pages, items := (s.items.set i { s.items[i] with value := ByteArray.empty, far := true, page := (appF s.fm s.fx s.pages (recOf s.items[i].value.data.toList)).page, at_ := (appF s.fm s.fx s.pages (recOf s.items[i].value.data.toList)).at_ }).filter fun x => !(goneP (appF s.fm s.fx s.pages (recOf s.items[i].value.data.toList)).gone x) } := by
  unfold moveS
  rw [if_neg (by omega), if_pos href, hget]
 rw [hget] at h24 href
 have hmay := appF_may href
 have hnew := appF_new href
 have hold := fun n p => appF_old href n p
 rw [hE]
 generalize appF s.fm s.fx s.pages (recOf s.items[i].value.data.toList) = r at *
 obtain ⟨h1, h2, h3, a, b, c, d⟩ := gd_iff.1 h
 have hci := c _ (List.getElem_mem hi)
 generalize hJ : ({ s.items[i] with value := ByteArray.empty, far := true, page := r.page, at_ := r.at_ } : ItemR) = J at *
 have hJf : J.far = true := by rw [← hJ]
 have hJk : J.key = s.items[i].key := by rw [← hJ]
 have hmem : ∀ it, it ∈ (s.items.set i J).filter (fun x => !(goneP r.gone x)) → (it = J ∨ it ∈ s.items) ∧ goneP r.gone it = false := fun it hit => by
  rw [List.mem_filter] at hit
  exact ⟨(List.mem_or_eq_of_mem_set hit.1).symm, by simpa using hit.2⟩
 have hcnt : ∀ n : Int, ((s.items.set i J).filter (fun x => !(goneP r.gone x))).countP (hitP n) ≤ (s.items.set i J).countP (hitP n) := fun n => List.Sublist.countP_le List.filter_sublist
 have hJh : ∀ n, hitP n J = false := fun n => by unfold hitP; rw [hJf]; rfl
 have hset : ∀ n : Int, (s.items.set i J).countP (hitP n) = s.items.countP (hitP n) - (if hitP n s.items[i] = true then 1 else 0) := fun n => by
  rw [List.countP_set hi, hJh]
  simp
 have hpos : ∀ n : Int, hitP n s.items[i] = true → 1 ≤ s.items.countP (hitP n) := fun n hh => List.countP_pos_iff.2 ⟨_, List.getElem_mem hi, hh⟩
 have hkeys : (s.items.set i J).map (fun x : ItemR => x.key) = s.items.map (fun x : ItemR => x.key) := by
  rw [List.map_set, hJk]
  apply List.ext_getElem?
  intro q
  by_cases hq : q = i
  · subst hq
    rw [List.getElem?_set_self (by simpa using hi)]
    simp [hi]
  · rw [List.getElem?_set_ne (Ne.symm hq)]
 have hlen : ((s.items.set i J).filter (fun x => !(goneP r.gone x))).length ≤ s.items.length := by
  have := List.length_filter_le (fun x => !(goneP r.gone x)) (s.items.set i J)
  rw [List.length_set] at this
  exact this
 refine ⟨gd_iff.2 ⟨h1, h2, hmay, Nat.le_trans hlen a, ?_, fun it hit => ?_, fun n hn => ?_⟩, ⟨rfl, rfl, rfl, rfl, rfl, fun it hit => ?_⟩, hlen, fun n => rfl, fun n hh => ?_⟩
 · have hsm : SortedI (s.items.set i J) := by unfold SortedI; rw [hkeys]; exact b
   exact hsm.sub List.filter_sublist
 · obtain ⟨h0, hg⟩ := hmem it hit
   rcases h0 with rfl | h0
   · refine ⟨?_, ?_, ?_⟩
     · have := hci.1
       rw [← hJ]
       exact this
     · unfold valueB
       rw [if_pos hJf, ← hJ]
       show (ByteArray.empty.toList.isEmpty && (decide (findN r.pages r.page r.at_ = 0) && decide (24 ≤ (findS r.pages r.page r.at_).size))) = true
       rw [hnew.1, hnew.2]
       simp [h24]
     · have hpr := place_range hmay hnew.1
       have := hci.2.2
       unfold ItemOk at *
       rw [← hJ]
       exact ⟨this.1, Nat.zero_le _, by show _ ≤ r.at_; omega, by show r.at_ ≤ _; omega⟩
   · obtain ⟨q1, q2, q3⟩ := c it h0
     refine ⟨q1, ?_, q3⟩
     show valueB r.pages it = true
     unfold valueB at q2 ⊢
     by_cases hf : it.far = true
     · rw [if_pos hf] at q2 ⊢
       simp only [Bool.and_eq_true, decide_eq_true_eq] at q2 ⊢
       have hne : it.page ≠ r.gone := fun e => by
        unfold goneP at hg
        rw [hf, e] at hg
        simp at hg
       obtain ⟨k1, k2⟩ := hold it.page it.at_ q2.2.1 hne
       exact ⟨q2.1, k1, by rw [k2]; exact q2.2.2⟩
     · rw [if_neg hf] at q2 ⊢
       exact q2
 · have k1 := hcnt n
   have k2 := hset n
   have k3 := d n hn
   show (((s.items.set i J).filter (fun x => !(goneP r.gone x))).countP (hitP n) : Int) ≤ roomN s n
   omega
 · obtain ⟨h0, _⟩ := hmem it hit
   rcases h0 with rfl | h0
   · exact ⟨_, List.getElem_mem hi, hJk.symm⟩
   · exact ⟨it, h0, rfl⟩
 · have k1 := hcnt n
   have k2 := hset n
   have k3 := hpos n hh
   rw [if_pos hh] at k2
   show ((s.items.set i J).filter (fun x => !(goneP r.gone x))).countP (hitP n) + 1 ≤ _
   omega

end Go.Proofs.YtdblegdgmjakfaaGreatDoor
