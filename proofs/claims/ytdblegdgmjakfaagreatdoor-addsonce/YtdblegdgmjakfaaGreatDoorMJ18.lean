/- Parts of the proof. -/
import Derived.Test.YtdblegdgmjakfaaGreatDoorMJ17
import Derived.Test.YtdblegdgmjakfaaGreatDoorMJ15
import Derived.Test.YtdblegdgmjakfaaGreatDoorMJ07
import Derived.Test.YtdblegdgmjakfaaGreatDoorMJ09
import Derived.Test.YtdblegdgmjakfaaGreatDoorMJ08
import Derived.Deep.RegionHeld3
namespace Go.Proofs.YtdblegdgmjakfaaGreatDoor
open Go.ChangeShapes Go.WideShapes Go.ChangeAt Go.RowKit
set_option linter.unusedVariables false
set_option linter.unusedSimpArgs false

/- store.answerOne: a way a theorem; what it calls behind find is a hypothesis. -/

theorem StQ.next {O O1 : Nat → Prop} {w0 W wf wx w2 : World} {B : Nat} {s2 : StoreR} (A : Below w0.heap.size w0 W) (k2 : ∀ x, O1 x → O x ∨ W.heap.size ≤ x) (k3 : Fr O W wf) (hx : Below wf.heap.size wf wx) (h : StPost O1 wx B s2 w2) : StQ O w0 W B s2 w2 := by
 obtain ⟨⟨O2, j1, j2⟩, j3⟩ := h
 have s1 := k3.size
 have s2 := hx.size
 have s3 := A.size
 exact ⟨⟨O2, j1, fun x hx2 => (j2 x hx2).elim (k2 x) (fun q => Or.inr (by omega))⟩, (((Fr.of_below A).trans k3 (fun b hb => Or.inl hb)).trans (Fr.of_below (O := O) hx) (fun b hb => Or.inl hb)).trans j3 (fun b hb => (k2 b hb).imp id (fun q => by omega))⟩
theorem out_of {O O1 : Nat → Prop} {m b : Nat} (k2 : ∀ x, O1 x → O x ∨ m ≤ x) (h1 : ¬ O b) (h2 : b < m) : ¬ O1 b := fun e => (k2 b e).elim h1 fun q => by omega

set_option maxHeartbeats 40000000 in
set_option maxRecDepth 100000 in
theorem one_unmet (O : Nat → Prop) (s F : StoreR) (B n : Nat) (kd fl ex nn : Int) (key vl : ByteArray) (ka : Option Addr) (kn kc : Nat) (qt : Bool) (it : ItemR) (w : World) (h : StO O w B s)
 (hfd : ∀ wx, Below w.heap.size w wx → Calls Tryz.prog 80 #[.pointer (some ⟨B, 0, none⟩), .string key] wx fun e w' => e = .returned (.int .i64 (n : Int)) ∧ StPost O wx B F w')
 (u : Int) (hun : ∀ wx, Calls Tryz.prog 83 #[.int .i64 kd, .bool true] wx fun e w' => e = .returned (.int .i64 u) ∧ w' = wx)
 (hu : u ≠ 0) (hz0 : 0 ≤ (n : Int)) :
 Calls Tryz.prog 59 #[.pointer (some ⟨B, 0, none⟩), .agg #[.int .i64 kd, .string key, .slice ka kn kc, .int .i64 fl, .int .i64 ex, .int .i64 nn, .string vl, .bool qt]] w fun e w' => e = .returned (replyV u 0) ∧ StPost O w B F w' := by
 have htl := told_any
 unfold replyV at *
 have hlt : ∀ x, O x → x < w.heap.size := by
  obtain ⟨iv, pa, pc, Op, h⟩ := h
  exact h.lt
 have T0 := (TB.new 47 w #[.int .i64 kd, .string key, .slice ka kn kc, .int .i64 fl, .int .i64 ex, .int .i64 nn, .string vl, .bool qt]).alloc (.cells #[.int .i64 0, .int .i64 0, .slice none 0 0] 42)
 have T1 : TB 42 _ (w.heap.size + 1) #[.int .i64 0, .int .i64 0, .slice none 0 0] := TB.new2 (w := w.alloc (.cells #[.int .i64 kd, .string key, .slice ka kn kc, .int .i64 fl, .int .i64 ex, .int .i64 nn, .string vl, .bool qt] 47)) (by simp)
 have A2 : Below w.heap.size w ((w.alloc (.cells #[.int .i64 kd, .string key, .slice ka kn kc, .int .i64 fl, .int .i64 ex, .int .i64 nn, .string vl, .bool qt] 47)).alloc (.cells #[.int .i64 0, .int .i64 0, .slice none 0 0] 42)) := below_al (below_al (Below.refl _ _) _) _
 have hno0 : ¬ O w.heap.size := fun e => by have := hlt _ e; omega
 have hno1 : ¬ O (w.heap.size + 1) := fun e => by have := hlt _ e; omega
 have hub : (u == 0) = false := by simp [hu]
 go_enter Tryz.func59, Tryz.ntmps59
 go_wp2_with fail
 generalize hW2 : ((w.alloc (.cells #[.int .i64 kd, .string key, .slice ka kn kc, .int .i64 fl, .int .i64 ex, .int .i64 nn, .string vl, .bool qt] 47)).alloc (.cells #[.int .i64 0, .int .i64 0, .slice none 0 0] 42)) = W2 at *
 clear hW2
 have x0 := fun j => T0.cell j
 have l0 := T0.lt
 have HL1 : Hid (w.heap.size + 1 < W2.heap.size) := T1.lt
 refine (hfd _ A2).mono ?_
 rintro e wf ⟨rfl, ⟨O1, k1, k2⟩, k3⟩
 have hn0 : ¬ O1 w.heap.size := out_of k2 hno0 l0
 have hn1 : ¬ O1 (w.heap.size + 1) := out_of k2 hno1 HL1.out
 have U0 := k3.tb T0 hno0
 have U1 := k3.tb T1 hno1
 have hQ : Hid (StQ O w W2 B F wf) := StQ.of A2 ⟨⟨O1, k1, k2⟩, k3⟩
 have y0 := fun j => U0.cell j
 have m0 := U0.lt
 have HK : Hid (∀ x, O1 x → O x ∨ w.heap.size ≤ x) := fun x hx => (k2 x hx).imp id (fun q => Nat.le_trans A2.size q)
 have HF : Hid (Fr O w wf) := (Fr.of_below A2).trans k3 (fun b hb => Or.inl hb)
 clear x0 l0 T0 T1
 go_wp2_with fail
 refine (hun _).mono ?_
 rintro e wu ⟨rfl, hwu⟩
 obtain rfl := hwu.symm
 go_wp2_with fail
 refine (htl u _).mono ?_
 rintro e wt ⟨rfl, hbt⟩
 have V1 := U1.later hbt
 have x1 := fun j => V1.cell j
 have z1 := fun j => V1.frozen j
 have l1 := V1.lt
 have hQ2 : Hid (StQ O w W2 B _ wt) := StQ.later hQ.out A2.size hbt
 go_wp2_with fail
 refine bodyPost_ret (v := .agg #[.int .i64 u, .int .i64 0, .slice none 0 0]) (by simp [results, Tryz.results59, go_sem, x1, l1]) rfl ⟨rfl, ?_⟩
 exact StQ.post (StQ.set (StQ.set (StQ.set (O := O) (w0 := w) (B := B) hQ2.out (by omega) HL1.out hlt 0 _) (by omega) HL1.out hlt 1 _) (by omega) HL1.out hlt 2 _) A2.size

set_option maxHeartbeats 40000000 in
set_option maxRecDepth 100000 in
theorem one_none (O : Nat → Prop) (s F : StoreR) (B n : Nat) (kd fl ex nn : Int) (key vl : ByteArray) (ka : Option Addr) (kn kc : Nat) (qt : Bool) (it : ItemR) (w : World) (h : StO O w B s)
 (hfd : ∀ wx, Below w.heap.size w wx → Calls Tryz.prog 80 #[.pointer (some ⟨B, 0, none⟩), .string key] wx fun e w' => e = .returned (.int .i64 (-1)) ∧ StPost O wx B F w')
 (u : Int) (hun : ∀ wx, Calls Tryz.prog 83 #[.int .i64 kd, .bool false] wx fun e w' => e = .returned (.int .i64 u) ∧ w' = wx)
 (hu : u ≠ 0) :
 Calls Tryz.prog 59 #[.pointer (some ⟨B, 0, none⟩), .agg #[.int .i64 kd, .string key, .slice ka kn kc, .int .i64 fl, .int .i64 ex, .int .i64 nn, .string vl, .bool qt]] w fun e w' => e = .returned (replyV u 0) ∧ StPost O w B F w' := by
 have htl := told_any
 unfold replyV at *
 have hlt : ∀ x, O x → x < w.heap.size := by
  obtain ⟨iv, pa, pc, Op, h⟩ := h
  exact h.lt
 have T0 := (TB.new 47 w #[.int .i64 kd, .string key, .slice ka kn kc, .int .i64 fl, .int .i64 ex, .int .i64 nn, .string vl, .bool qt]).alloc (.cells #[.int .i64 0, .int .i64 0, .slice none 0 0] 42)
 have T1 : TB 42 _ (w.heap.size + 1) #[.int .i64 0, .int .i64 0, .slice none 0 0] := TB.new2 (w := w.alloc (.cells #[.int .i64 kd, .string key, .slice ka kn kc, .int .i64 fl, .int .i64 ex, .int .i64 nn, .string vl, .bool qt] 47)) (by simp)
 have A2 : Below w.heap.size w ((w.alloc (.cells #[.int .i64 kd, .string key, .slice ka kn kc, .int .i64 fl, .int .i64 ex, .int .i64 nn, .string vl, .bool qt] 47)).alloc (.cells #[.int .i64 0, .int .i64 0, .slice none 0 0] 42)) := below_al (below_al (Below.refl _ _) _) _
 have hno0 : ¬ O w.heap.size := fun e => by have := hlt _ e; omega
 have hno1 : ¬ O (w.heap.size + 1) := fun e => by have := hlt _ e; omega
 have hub : (u == 0) = false := by simp [hu]
 go_enter Tryz.func59, Tryz.ntmps59
 go_wp2_with fail
 generalize hW2 : ((w.alloc (.cells #[.int .i64 kd, .string key, .slice ka kn kc, .int .i64 fl, .int .i64 ex, .int .i64 nn, .string vl, .bool qt] 47)).alloc (.cells #[.int .i64 0, .int .i64 0, .slice none 0 0] 42)) = W2 at *
 clear hW2
 have x0 := fun j => T0.cell j
 have l0 := T0.lt
 have HL1 : Hid (w.heap.size + 1 < W2.heap.size) := T1.lt
 refine (hfd _ A2).mono ?_
 rintro e wf ⟨rfl, ⟨O1, k1, k2⟩, k3⟩
 have hn0 : ¬ O1 w.heap.size := out_of k2 hno0 l0
 have hn1 : ¬ O1 (w.heap.size + 1) := out_of k2 hno1 HL1.out
 have U0 := k3.tb T0 hno0
 have U1 := k3.tb T1 hno1
 have hQ : Hid (StQ O w W2 B F wf) := StQ.of A2 ⟨⟨O1, k1, k2⟩, k3⟩
 have y0 := fun j => U0.cell j
 have m0 := U0.lt
 have HK : Hid (∀ x, O1 x → O x ∨ w.heap.size ≤ x) := fun x hx => (k2 x hx).imp id (fun q => Nat.le_trans A2.size q)
 have HF : Hid (Fr O w wf) := (Fr.of_below A2).trans k3 (fun b hb => Or.inl hb)
 clear x0 l0 T0 T1
 go_wp2_with fail
 refine (hun _).mono ?_
 rintro e wu ⟨rfl, hwu⟩
 obtain rfl := hwu.symm
 go_wp2_with fail
 refine (htl u _).mono ?_
 rintro e wt ⟨rfl, hbt⟩
 have V1 := U1.later hbt
 have x1 := fun j => V1.cell j
 have z1 := fun j => V1.frozen j
 have l1 := V1.lt
 have hQ2 : Hid (StQ O w W2 B _ wt) := StQ.later hQ.out A2.size hbt
 go_wp2_with fail
 refine bodyPost_ret (v := .agg #[.int .i64 u, .int .i64 0, .slice none 0 0]) (by simp [results, Tryz.results59, go_sem, x1, l1]) rfl ⟨rfl, ?_⟩
 exact StQ.post (StQ.set (StQ.set (StQ.set (O := O) (w0 := w) (B := B) hQ2.out (by omega) HL1.out hlt 0 _) (by omega) HL1.out hlt 1 _) (by omega) HL1.out hlt 2 _) A2.size

set_option maxHeartbeats 40000000 in
set_option maxRecDepth 100000 in
theorem one_join5 (O : Nat → Prop) (s F : StoreR) (B n : Nat) (kd fl ex nn : Int) (key vl : ByteArray) (ka : Option Addr) (kn kc : Nat) (qt : Bool) (it : ItemR) (w : World) (h : StO O w B s)
 (hfd : ∀ wx, Below w.heap.size w wx → Calls Tryz.prog 80 #[.pointer (some ⟨B, 0, none⟩), .string key] wx fun e w' => e = .returned (.int .i64 (n : Int)) ∧ StPost O wx B F w')
 (u : Int) (hun : ∀ wx, Calls Tryz.prog 83 #[.int .i64 kd, .bool true] wx fun e w' => e = .returned (.int .i64 u) ∧ w' = wx)
 (hl : F.items.length ≤ 1000) (hn : n < F.items.length) (hit : F.items.getD n default = it) (hu : u = 0) (hkd : kd = 5) (K N : Int) (F2 : StoreR)
 (hj : ∀ O1 wx, StO O1 wx B F → (∀ x, O1 x → O x ∨ w.heap.size ≤ x) → Fr O w wx → Calls Tryz.prog 84 #[.pointer (some ⟨B, 0, none⟩), .agg #[.int .i64 kd, .string key, .slice ka kn kc, .int .i64 fl, .int .i64 ex, .int .i64 nn, .string vl, .bool qt], .agg #[.string it.key, .int .i64 it.flags, .int .i64 it.until_, .int .i64 it.cas, .int .i64 it.used, .string it.value, .bool it.far, .int .i64 it.page, .int .i64 it.at_]] wx fun e w' => e = .returned (replyV K N) ∧ StPost O1 wx B F2 w') :
 Calls Tryz.prog 59 #[.pointer (some ⟨B, 0, none⟩), .agg #[.int .i64 kd, .string key, .slice ka kn kc, .int .i64 fl, .int .i64 ex, .int .i64 nn, .string vl, .bool qt]] w fun e w' => e = .returned (replyV K N) ∧ StPost O w B F2 w' := by
 have htl := told_any
 unfold replyV at *
 have hlt : ∀ x, O x → x < w.heap.size := by
  obtain ⟨iv, pa, pc, Op, h⟩ := h
  exact h.lt
 have T0 := (TB.new 47 w #[.int .i64 kd, .string key, .slice ka kn kc, .int .i64 fl, .int .i64 ex, .int .i64 nn, .string vl, .bool qt]).alloc (.cells #[.int .i64 0, .int .i64 0, .slice none 0 0] 42)
 have T1 : TB 42 _ (w.heap.size + 1) #[.int .i64 0, .int .i64 0, .slice none 0 0] := TB.new2 (w := w.alloc (.cells #[.int .i64 kd, .string key, .slice ka kn kc, .int .i64 fl, .int .i64 ex, .int .i64 nn, .string vl, .bool qt] 47)) (by simp)
 have A2 : Below w.heap.size w ((w.alloc (.cells #[.int .i64 kd, .string key, .slice ka kn kc, .int .i64 fl, .int .i64 ex, .int .i64 nn, .string vl, .bool qt] 47)).alloc (.cells #[.int .i64 0, .int .i64 0, .slice none 0 0] 42)) := below_al (below_al (Below.refl _ _) _) _
 have hno0 : ¬ O w.heap.size := fun e => by have := hlt _ e; omega
 have hno1 : ¬ O (w.heap.size + 1) := fun e => by have := hlt _ e; omega
 have hz0 : (0 : Int) ≤ (n : Int) := Int.natCast_nonneg _
 subst hu
 subst hkd
 go_enter Tryz.func59, Tryz.ntmps59
 go_wp2_with fail
 generalize hW2 : ((w.alloc (.cells #[.int .i64 5, .string key, .slice ka kn kc, .int .i64 fl, .int .i64 ex, .int .i64 nn, .string vl, .bool qt] 47)).alloc (.cells #[.int .i64 0, .int .i64 0, .slice none 0 0] 42)) = W2 at *
 clear hW2
 have x0 := fun j => T0.cell j
 have l0 := T0.lt
 have HL1 : Hid (w.heap.size + 1 < W2.heap.size) := T1.lt
 refine (hfd _ A2).mono ?_
 rintro e wf ⟨rfl, ⟨O1, k1, k2⟩, k3⟩
 have hn0 : ¬ O1 w.heap.size := out_of k2 hno0 l0
 have hn1 : ¬ O1 (w.heap.size + 1) := out_of k2 hno1 HL1.out
 have U0 := k3.tb T0 hno0
 have U1 := k3.tb T1 hno1
 have hQ : Hid (StQ O w W2 B F wf) := StQ.of A2 ⟨⟨O1, k1, k2⟩, k3⟩
 have y0 := fun j => U0.cell j
 have m0 := U0.lt
 have HK : Hid (∀ x, O1 x → O x ∨ w.heap.size ≤ x) := fun x hx => (k2 x hx).imp id (fun q => Nat.le_trans A2.size q)
 have HF : Hid (Fr O w wf) := (Fr.of_below A2).trans k3 (fun b hb => Or.inl hb)
 clear x0 l0 T0 T1
 go_wp2_with fail
 refine (hun _).mono ?_
 rintro e wu ⟨rfl, hwu⟩
 obtain rfl := hwu.symm
 have hS1 := k1
 obtain ⟨iv, pa, pc, Op, k1⟩ := k1
 obtain ⟨g, c, e0, cur, hcur, hcap, hcm, hcs, hct⟩ := k1.row.block (by omega)
 subst e0
 obtain ⟨a', c', e1, hA⟩ := k1.row.items (by unfold maxLen; omega)
 cases e1
 obtain ⟨b, o, ea, hb, hI⟩ := hA.item n hn
 cases ea
 rw [hit, Nat.zero_add] at hI
 have yB := fun j => k1.box.cell j
 have lB := k1.box.lt
 have hz0 : (0 : Int) ≤ (n : Int) := Int.natCast_nonneg _
 have hz1 : (n : Int) < (F.items.length : Int) := by omega
 have hT : TB 62 wf g cur := hcur
 have HT : Hid (TB 62 wf g cur) := hT
 have HC : Hid (cur.toList.take (F.items.length * 9) = F.items.flatMap itemCells) := hct
 obtain ⟨i0, i1, i2, i3, i4, i5, i6, i7, i8⟩ := hI
 have hgB : g ≠ B := (k1.rowO g rfl).2
 unfold stCells at yB
 clear hA hct hcur hT
 go_wp2_with fail
 go_region_with (go_at_call 84; refine (hj O1 _ (hS1.later (by with_reducible (repeat (first | exact Below.refl _ _ | refine Below.drew ?_)))) HK.out (HF.out.trans (Fr.of_below (O := O) (by with_reducible (repeat (first | exact Below.refl _ _ | refine Below.drew ?_)))) (fun b hb => Or.inl hb))).mono ?_; rintro e wj ⟨rfl, hbj⟩; have V1 := hbj.2.tb (U1.later (by with_reducible (repeat (first | exact Below.refl _ _ | refine Below.drew ?_)))) hn1; have x1 := (fun j => V1.cell j); have z1 := (fun j => V1.frozen j); have l1 := V1.lt; have hQ2 : Hid (StQ O w W2 B _ wj) := (StQ.next A2 k2 k3 (by with_reducible (repeat (first | exact Below.refl _ _ | refine Below.drew ?_))) hbj))
 all_goals go_wp2_with fail
 all_goals refine bodyPost_ret (v := .agg #[.int .i64 K, .int .i64 N, .slice none 0 0]) (by simp [results, Tryz.results59, go_sem, x1, l1]) rfl ⟨rfl, ?_⟩
 all_goals exact StQ.post (StQ.set (StQ.set (StQ.set (O := O) (w0 := w) (B := B) hQ2.out (by omega) HL1.out hlt 0 _) (by omega) HL1.out hlt 1 _) (by omega) HL1.out hlt 2 _) A2.size

set_option maxHeartbeats 40000000 in
set_option maxRecDepth 100000 in
theorem one_join6 (O : Nat → Prop) (s F : StoreR) (B n : Nat) (kd fl ex nn : Int) (key vl : ByteArray) (ka : Option Addr) (kn kc : Nat) (qt : Bool) (it : ItemR) (w : World) (h : StO O w B s)
 (hfd : ∀ wx, Below w.heap.size w wx → Calls Tryz.prog 80 #[.pointer (some ⟨B, 0, none⟩), .string key] wx fun e w' => e = .returned (.int .i64 (n : Int)) ∧ StPost O wx B F w')
 (u : Int) (hun : ∀ wx, Calls Tryz.prog 83 #[.int .i64 kd, .bool true] wx fun e w' => e = .returned (.int .i64 u) ∧ w' = wx)
 (hl : F.items.length ≤ 1000) (hn : n < F.items.length) (hit : F.items.getD n default = it) (hu : u = 0) (hkd : kd = 6) (K N : Int) (F2 : StoreR)
 (hj : ∀ O1 wx, StO O1 wx B F → (∀ x, O1 x → O x ∨ w.heap.size ≤ x) → Fr O w wx → Calls Tryz.prog 84 #[.pointer (some ⟨B, 0, none⟩), .agg #[.int .i64 kd, .string key, .slice ka kn kc, .int .i64 fl, .int .i64 ex, .int .i64 nn, .string vl, .bool qt], .agg #[.string it.key, .int .i64 it.flags, .int .i64 it.until_, .int .i64 it.cas, .int .i64 it.used, .string it.value, .bool it.far, .int .i64 it.page, .int .i64 it.at_]] wx fun e w' => e = .returned (replyV K N) ∧ StPost O1 wx B F2 w') :
 Calls Tryz.prog 59 #[.pointer (some ⟨B, 0, none⟩), .agg #[.int .i64 kd, .string key, .slice ka kn kc, .int .i64 fl, .int .i64 ex, .int .i64 nn, .string vl, .bool qt]] w fun e w' => e = .returned (replyV K N) ∧ StPost O w B F2 w' := by
 have htl := told_any
 unfold replyV at *
 have hlt : ∀ x, O x → x < w.heap.size := by
  obtain ⟨iv, pa, pc, Op, h⟩ := h
  exact h.lt
 have T0 := (TB.new 47 w #[.int .i64 kd, .string key, .slice ka kn kc, .int .i64 fl, .int .i64 ex, .int .i64 nn, .string vl, .bool qt]).alloc (.cells #[.int .i64 0, .int .i64 0, .slice none 0 0] 42)
 have T1 : TB 42 _ (w.heap.size + 1) #[.int .i64 0, .int .i64 0, .slice none 0 0] := TB.new2 (w := w.alloc (.cells #[.int .i64 kd, .string key, .slice ka kn kc, .int .i64 fl, .int .i64 ex, .int .i64 nn, .string vl, .bool qt] 47)) (by simp)
 have A2 : Below w.heap.size w ((w.alloc (.cells #[.int .i64 kd, .string key, .slice ka kn kc, .int .i64 fl, .int .i64 ex, .int .i64 nn, .string vl, .bool qt] 47)).alloc (.cells #[.int .i64 0, .int .i64 0, .slice none 0 0] 42)) := below_al (below_al (Below.refl _ _) _) _
 have hno0 : ¬ O w.heap.size := fun e => by have := hlt _ e; omega
 have hno1 : ¬ O (w.heap.size + 1) := fun e => by have := hlt _ e; omega
 have hz0 : (0 : Int) ≤ (n : Int) := Int.natCast_nonneg _
 subst hu
 subst hkd
 go_enter Tryz.func59, Tryz.ntmps59
 go_wp2_with fail
 generalize hW2 : ((w.alloc (.cells #[.int .i64 6, .string key, .slice ka kn kc, .int .i64 fl, .int .i64 ex, .int .i64 nn, .string vl, .bool qt] 47)).alloc (.cells #[.int .i64 0, .int .i64 0, .slice none 0 0] 42)) = W2 at *
 clear hW2
 have x0 := fun j => T0.cell j
 have l0 := T0.lt
 have HL1 : Hid (w.heap.size + 1 < W2.heap.size) := T1.lt
 refine (hfd _ A2).mono ?_
 rintro e wf ⟨rfl, ⟨O1, k1, k2⟩, k3⟩
 have hn0 : ¬ O1 w.heap.size := out_of k2 hno0 l0
 have hn1 : ¬ O1 (w.heap.size + 1) := out_of k2 hno1 HL1.out
 have U0 := k3.tb T0 hno0
 have U1 := k3.tb T1 hno1
 have hQ : Hid (StQ O w W2 B F wf) := StQ.of A2 ⟨⟨O1, k1, k2⟩, k3⟩
 have y0 := fun j => U0.cell j
 have m0 := U0.lt
 have HK : Hid (∀ x, O1 x → O x ∨ w.heap.size ≤ x) := fun x hx => (k2 x hx).imp id (fun q => Nat.le_trans A2.size q)
 have HF : Hid (Fr O w wf) := (Fr.of_below A2).trans k3 (fun b hb => Or.inl hb)
 clear x0 l0 T0 T1
 go_wp2_with fail
 refine (hun _).mono ?_
 rintro e wu ⟨rfl, hwu⟩
 obtain rfl := hwu.symm
 have hS1 := k1
 obtain ⟨iv, pa, pc, Op, k1⟩ := k1
 obtain ⟨g, c, e0, cur, hcur, hcap, hcm, hcs, hct⟩ := k1.row.block (by omega)
 subst e0
 obtain ⟨a', c', e1, hA⟩ := k1.row.items (by unfold maxLen; omega)
 cases e1
 obtain ⟨b, o, ea, hb, hI⟩ := hA.item n hn
 cases ea
 rw [hit, Nat.zero_add] at hI
 have yB := fun j => k1.box.cell j
 have lB := k1.box.lt
 have hz0 : (0 : Int) ≤ (n : Int) := Int.natCast_nonneg _
 have hz1 : (n : Int) < (F.items.length : Int) := by omega
 have hT : TB 62 wf g cur := hcur
 have HT : Hid (TB 62 wf g cur) := hT
 have HC : Hid (cur.toList.take (F.items.length * 9) = F.items.flatMap itemCells) := hct
 obtain ⟨i0, i1, i2, i3, i4, i5, i6, i7, i8⟩ := hI
 have hgB : g ≠ B := (k1.rowO g rfl).2
 unfold stCells at yB
 clear hA hct hcur hT
 go_wp2_with fail
 go_region_with (go_at_call 84; refine (hj O1 _ (hS1.later (by with_reducible (repeat (first | exact Below.refl _ _ | refine Below.drew ?_)))) HK.out (HF.out.trans (Fr.of_below (O := O) (by with_reducible (repeat (first | exact Below.refl _ _ | refine Below.drew ?_)))) (fun b hb => Or.inl hb))).mono ?_; rintro e wj ⟨rfl, hbj⟩; have V1 := hbj.2.tb (U1.later (by with_reducible (repeat (first | exact Below.refl _ _ | refine Below.drew ?_)))) hn1; have x1 := (fun j => V1.cell j); have z1 := (fun j => V1.frozen j); have l1 := V1.lt; have hQ2 : Hid (StQ O w W2 B _ wj) := (StQ.next A2 k2 k3 (by with_reducible (repeat (first | exact Below.refl _ _ | refine Below.drew ?_))) hbj))
 all_goals go_wp2_with fail
 all_goals refine bodyPost_ret (v := .agg #[.int .i64 K, .int .i64 N, .slice none 0 0]) (by simp [results, Tryz.results59, go_sem, x1, l1]) rfl ⟨rfl, ?_⟩
 all_goals exact StQ.post (StQ.set (StQ.set (StQ.set (O := O) (w0 := w) (B := B) hQ2.out (by omega) HL1.out hlt 0 _) (by omega) HL1.out hlt 1 _) (by omega) HL1.out hlt 2 _) A2.size

set_option maxHeartbeats 40000000 in
set_option maxRecDepth 100000 in
theorem one_cnt9 (O : Nat → Prop) (s F : StoreR) (B n : Nat) (kd fl ex nn : Int) (key vl : ByteArray) (ka : Option Addr) (kn kc : Nat) (qt : Bool) (it : ItemR) (w : World) (h : StO O w B s)
 (hfd : ∀ wx, Below w.heap.size w wx → Calls Tryz.prog 80 #[.pointer (some ⟨B, 0, none⟩), .string key] wx fun e w' => e = .returned (.int .i64 (n : Int)) ∧ StPost O wx B F w')
 (u : Int) (hun : ∀ wx, Calls Tryz.prog 83 #[.int .i64 kd, .bool true] wx fun e w' => e = .returned (.int .i64 u) ∧ w' = wx)
 (hl : F.items.length ≤ 1000) (hn : n < F.items.length) (hit : F.items.getD n default = it) (hu : u = 0) (hkd : kd = 9) (K N : Int) (F2 : StoreR)
 (hj : ∀ O1 wx, StO O1 wx B F → (∀ x, O1 x → O x ∨ w.heap.size ≤ x) → Fr O w wx → Calls Tryz.prog 86 #[.pointer (some ⟨B, 0, none⟩), .agg #[.int .i64 kd, .string key, .slice ka kn kc, .int .i64 fl, .int .i64 ex, .int .i64 nn, .string vl, .bool qt], .agg #[.string it.key, .int .i64 it.flags, .int .i64 it.until_, .int .i64 it.cas, .int .i64 it.used, .string it.value, .bool it.far, .int .i64 it.page, .int .i64 it.at_]] wx fun e w' => e = .returned (replyV K N) ∧ StPost O1 wx B F2 w') :
 Calls Tryz.prog 59 #[.pointer (some ⟨B, 0, none⟩), .agg #[.int .i64 kd, .string key, .slice ka kn kc, .int .i64 fl, .int .i64 ex, .int .i64 nn, .string vl, .bool qt]] w fun e w' => e = .returned (replyV K N) ∧ StPost O w B F2 w' := by
 have htl := told_any
 unfold replyV at *
 have hlt : ∀ x, O x → x < w.heap.size := by
  obtain ⟨iv, pa, pc, Op, h⟩ := h
  exact h.lt
 have T0 := (TB.new 47 w #[.int .i64 kd, .string key, .slice ka kn kc, .int .i64 fl, .int .i64 ex, .int .i64 nn, .string vl, .bool qt]).alloc (.cells #[.int .i64 0, .int .i64 0, .slice none 0 0] 42)
 have T1 : TB 42 _ (w.heap.size + 1) #[.int .i64 0, .int .i64 0, .slice none 0 0] := TB.new2 (w := w.alloc (.cells #[.int .i64 kd, .string key, .slice ka kn kc, .int .i64 fl, .int .i64 ex, .int .i64 nn, .string vl, .bool qt] 47)) (by simp)
 have A2 : Below w.heap.size w ((w.alloc (.cells #[.int .i64 kd, .string key, .slice ka kn kc, .int .i64 fl, .int .i64 ex, .int .i64 nn, .string vl, .bool qt] 47)).alloc (.cells #[.int .i64 0, .int .i64 0, .slice none 0 0] 42)) := below_al (below_al (Below.refl _ _) _) _
 have hno0 : ¬ O w.heap.size := fun e => by have := hlt _ e; omega
 have hno1 : ¬ O (w.heap.size + 1) := fun e => by have := hlt _ e; omega
 have hz0 : (0 : Int) ≤ (n : Int) := Int.natCast_nonneg _
 subst hu
 subst hkd
 go_enter Tryz.func59, Tryz.ntmps59
 go_wp2_with fail
 generalize hW2 : ((w.alloc (.cells #[.int .i64 9, .string key, .slice ka kn kc, .int .i64 fl, .int .i64 ex, .int .i64 nn, .string vl, .bool qt] 47)).alloc (.cells #[.int .i64 0, .int .i64 0, .slice none 0 0] 42)) = W2 at *
 clear hW2
 have x0 := fun j => T0.cell j
 have l0 := T0.lt
 have HL1 : Hid (w.heap.size + 1 < W2.heap.size) := T1.lt
 refine (hfd _ A2).mono ?_
 rintro e wf ⟨rfl, ⟨O1, k1, k2⟩, k3⟩
 have hn0 : ¬ O1 w.heap.size := out_of k2 hno0 l0
 have hn1 : ¬ O1 (w.heap.size + 1) := out_of k2 hno1 HL1.out
 have U0 := k3.tb T0 hno0
 have U1 := k3.tb T1 hno1
 have hQ : Hid (StQ O w W2 B F wf) := StQ.of A2 ⟨⟨O1, k1, k2⟩, k3⟩
 have y0 := fun j => U0.cell j
 have m0 := U0.lt
 have HK : Hid (∀ x, O1 x → O x ∨ w.heap.size ≤ x) := fun x hx => (k2 x hx).imp id (fun q => Nat.le_trans A2.size q)
 have HF : Hid (Fr O w wf) := (Fr.of_below A2).trans k3 (fun b hb => Or.inl hb)
 clear x0 l0 T0 T1
 go_wp2_with fail
 refine (hun _).mono ?_
 rintro e wu ⟨rfl, hwu⟩
 obtain rfl := hwu.symm
 have hS1 := k1
 obtain ⟨iv, pa, pc, Op, k1⟩ := k1
 obtain ⟨g, c, e0, cur, hcur, hcap, hcm, hcs, hct⟩ := k1.row.block (by omega)
 subst e0
 obtain ⟨a', c', e1, hA⟩ := k1.row.items (by unfold maxLen; omega)
 cases e1
 obtain ⟨b, o, ea, hb, hI⟩ := hA.item n hn
 cases ea
 rw [hit, Nat.zero_add] at hI
 have yB := fun j => k1.box.cell j
 have lB := k1.box.lt
 have hz0 : (0 : Int) ≤ (n : Int) := Int.natCast_nonneg _
 have hz1 : (n : Int) < (F.items.length : Int) := by omega
 have hT : TB 62 wf g cur := hcur
 have HT : Hid (TB 62 wf g cur) := hT
 have HC : Hid (cur.toList.take (F.items.length * 9) = F.items.flatMap itemCells) := hct
 obtain ⟨i0, i1, i2, i3, i4, i5, i6, i7, i8⟩ := hI
 have hgB : g ≠ B := (k1.rowO g rfl).2
 unfold stCells at yB
 clear hA hct hcur hT
 go_wp2_with fail
 go_region_with (go_at_call 86; refine (hj O1 _ (hS1.later (by with_reducible (repeat (first | exact Below.refl _ _ | refine Below.drew ?_)))) HK.out (HF.out.trans (Fr.of_below (O := O) (by with_reducible (repeat (first | exact Below.refl _ _ | refine Below.drew ?_)))) (fun b hb => Or.inl hb))).mono ?_; rintro e wj ⟨rfl, hbj⟩; have V1 := hbj.2.tb (U1.later (by with_reducible (repeat (first | exact Below.refl _ _ | refine Below.drew ?_)))) hn1; have x1 := (fun j => V1.cell j); have z1 := (fun j => V1.frozen j); have l1 := V1.lt; have hQ2 : Hid (StQ O w W2 B _ wj) := (StQ.next A2 k2 k3 (by with_reducible (repeat (first | exact Below.refl _ _ | refine Below.drew ?_))) hbj))
 all_goals go_wp2_with fail
 all_goals refine bodyPost_ret (v := .agg #[.int .i64 K, .int .i64 N, .slice none 0 0]) (by simp [results, Tryz.results59, go_sem, x1, l1]) rfl ⟨rfl, ?_⟩
 all_goals exact StQ.post (StQ.set (StQ.set (StQ.set (O := O) (w0 := w) (B := B) hQ2.out (by omega) HL1.out hlt 0 _) (by omega) HL1.out hlt 1 _) (by omega) HL1.out hlt 2 _) A2.size

set_option maxHeartbeats 40000000 in
set_option maxRecDepth 100000 in
theorem one_cnt10 (O : Nat → Prop) (s F : StoreR) (B n : Nat) (kd fl ex nn : Int) (key vl : ByteArray) (ka : Option Addr) (kn kc : Nat) (qt : Bool) (it : ItemR) (w : World) (h : StO O w B s)
 (hfd : ∀ wx, Below w.heap.size w wx → Calls Tryz.prog 80 #[.pointer (some ⟨B, 0, none⟩), .string key] wx fun e w' => e = .returned (.int .i64 (n : Int)) ∧ StPost O wx B F w')
 (u : Int) (hun : ∀ wx, Calls Tryz.prog 83 #[.int .i64 kd, .bool true] wx fun e w' => e = .returned (.int .i64 u) ∧ w' = wx)
 (hl : F.items.length ≤ 1000) (hn : n < F.items.length) (hit : F.items.getD n default = it) (hu : u = 0) (hkd : kd = 10) (K N : Int) (F2 : StoreR)
 (hj : ∀ O1 wx, StO O1 wx B F → (∀ x, O1 x → O x ∨ w.heap.size ≤ x) → Fr O w wx → Calls Tryz.prog 86 #[.pointer (some ⟨B, 0, none⟩), .agg #[.int .i64 kd, .string key, .slice ka kn kc, .int .i64 fl, .int .i64 ex, .int .i64 nn, .string vl, .bool qt], .agg #[.string it.key, .int .i64 it.flags, .int .i64 it.until_, .int .i64 it.cas, .int .i64 it.used, .string it.value, .bool it.far, .int .i64 it.page, .int .i64 it.at_]] wx fun e w' => e = .returned (replyV K N) ∧ StPost O1 wx B F2 w') :
 Calls Tryz.prog 59 #[.pointer (some ⟨B, 0, none⟩), .agg #[.int .i64 kd, .string key, .slice ka kn kc, .int .i64 fl, .int .i64 ex, .int .i64 nn, .string vl, .bool qt]] w fun e w' => e = .returned (replyV K N) ∧ StPost O w B F2 w' := by
 have htl := told_any
 unfold replyV at *
 have hlt : ∀ x, O x → x < w.heap.size := by
  obtain ⟨iv, pa, pc, Op, h⟩ := h
  exact h.lt
 have T0 := (TB.new 47 w #[.int .i64 kd, .string key, .slice ka kn kc, .int .i64 fl, .int .i64 ex, .int .i64 nn, .string vl, .bool qt]).alloc (.cells #[.int .i64 0, .int .i64 0, .slice none 0 0] 42)
 have T1 : TB 42 _ (w.heap.size + 1) #[.int .i64 0, .int .i64 0, .slice none 0 0] := TB.new2 (w := w.alloc (.cells #[.int .i64 kd, .string key, .slice ka kn kc, .int .i64 fl, .int .i64 ex, .int .i64 nn, .string vl, .bool qt] 47)) (by simp)
 have A2 : Below w.heap.size w ((w.alloc (.cells #[.int .i64 kd, .string key, .slice ka kn kc, .int .i64 fl, .int .i64 ex, .int .i64 nn, .string vl, .bool qt] 47)).alloc (.cells #[.int .i64 0, .int .i64 0, .slice none 0 0] 42)) := below_al (below_al (Below.refl _ _) _) _
 have hno0 : ¬ O w.heap.size := fun e => by have := hlt _ e; omega
 have hno1 : ¬ O (w.heap.size + 1) := fun e => by have := hlt _ e; omega
 have hz0 : (0 : Int) ≤ (n : Int) := Int.natCast_nonneg _
 subst hu
 subst hkd
 go_enter Tryz.func59, Tryz.ntmps59
 go_wp2_with fail
 generalize hW2 : ((w.alloc (.cells #[.int .i64 10, .string key, .slice ka kn kc, .int .i64 fl, .int .i64 ex, .int .i64 nn, .string vl, .bool qt] 47)).alloc (.cells #[.int .i64 0, .int .i64 0, .slice none 0 0] 42)) = W2 at *
 clear hW2
 have x0 := fun j => T0.cell j
 have l0 := T0.lt
 have HL1 : Hid (w.heap.size + 1 < W2.heap.size) := T1.lt
 refine (hfd _ A2).mono ?_
 rintro e wf ⟨rfl, ⟨O1, k1, k2⟩, k3⟩
 have hn0 : ¬ O1 w.heap.size := out_of k2 hno0 l0
 have hn1 : ¬ O1 (w.heap.size + 1) := out_of k2 hno1 HL1.out
 have U0 := k3.tb T0 hno0
 have U1 := k3.tb T1 hno1
 have hQ : Hid (StQ O w W2 B F wf) := StQ.of A2 ⟨⟨O1, k1, k2⟩, k3⟩
 have y0 := fun j => U0.cell j
 have m0 := U0.lt
 have HK : Hid (∀ x, O1 x → O x ∨ w.heap.size ≤ x) := fun x hx => (k2 x hx).imp id (fun q => Nat.le_trans A2.size q)
 have HF : Hid (Fr O w wf) := (Fr.of_below A2).trans k3 (fun b hb => Or.inl hb)
 clear x0 l0 T0 T1
 go_wp2_with fail
 refine (hun _).mono ?_
 rintro e wu ⟨rfl, hwu⟩
 obtain rfl := hwu.symm
 have hS1 := k1
 obtain ⟨iv, pa, pc, Op, k1⟩ := k1
 obtain ⟨g, c, e0, cur, hcur, hcap, hcm, hcs, hct⟩ := k1.row.block (by omega)
 subst e0
 obtain ⟨a', c', e1, hA⟩ := k1.row.items (by unfold maxLen; omega)
 cases e1
 obtain ⟨b, o, ea, hb, hI⟩ := hA.item n hn
 cases ea
 rw [hit, Nat.zero_add] at hI
 have yB := fun j => k1.box.cell j
 have lB := k1.box.lt
 have hz0 : (0 : Int) ≤ (n : Int) := Int.natCast_nonneg _
 have hz1 : (n : Int) < (F.items.length : Int) := by omega
 have hT : TB 62 wf g cur := hcur
 have HT : Hid (TB 62 wf g cur) := hT
 have HC : Hid (cur.toList.take (F.items.length * 9) = F.items.flatMap itemCells) := hct
 obtain ⟨i0, i1, i2, i3, i4, i5, i6, i7, i8⟩ := hI
 have hgB : g ≠ B := (k1.rowO g rfl).2
 unfold stCells at yB
 clear hA hct hcur hT
 go_wp2_with fail
 go_region_with (go_at_call 86; refine (hj O1 _ (hS1.later (by with_reducible (repeat (first | exact Below.refl _ _ | refine Below.drew ?_)))) HK.out (HF.out.trans (Fr.of_below (O := O) (by with_reducible (repeat (first | exact Below.refl _ _ | refine Below.drew ?_)))) (fun b hb => Or.inl hb))).mono ?_; rintro e wj ⟨rfl, hbj⟩; have V1 := hbj.2.tb (U1.later (by with_reducible (repeat (first | exact Below.refl _ _ | refine Below.drew ?_)))) hn1; have x1 := (fun j => V1.cell j); have z1 := (fun j => V1.frozen j); have l1 := V1.lt; have hQ2 : Hid (StQ O w W2 B _ wj) := (StQ.next A2 k2 k3 (by with_reducible (repeat (first | exact Below.refl _ _ | refine Below.drew ?_))) hbj))
 all_goals go_wp2_with fail
 all_goals refine bodyPost_ret (v := .agg #[.int .i64 K, .int .i64 N, .slice none 0 0]) (by simp [results, Tryz.results59, go_sem, x1, l1]) rfl ⟨rfl, ?_⟩
 all_goals exact StQ.post (StQ.set (StQ.set (StQ.set (O := O) (w0 := w) (B := B) hQ2.out (by omega) HL1.out hlt 0 _) (by omega) HL1.out hlt 1 _) (by omega) HL1.out hlt 2 _) A2.size

set_option maxHeartbeats 40000000 in
set_option maxRecDepth 100000 in
theorem one_set2 (O : Nat → Prop) (s F : StoreR) (B n : Nat) (kd fl ex nn : Int) (key vl : ByteArray) (ka : Option Addr) (kn kc : Nat) (qt : Bool) (it : ItemR) (w : World) (h : StO O w B s)
 (hfd : ∀ wx, Below w.heap.size w wx → Calls Tryz.prog 80 #[.pointer (some ⟨B, 0, none⟩), .string key] wx fun e w' => e = .returned (.int .i64 (n : Int)) ∧ StPost O wx B F w')
 (u : Int) (hun : ∀ wx, Calls Tryz.prog 83 #[.int .i64 kd, .bool true] wx fun e w' => e = .returned (.int .i64 u) ∧ w' = wx)
 (hu : u = 0) (hkd : kd = 2) (K N : Int) (F2 : StoreR)
 (hj : ∀ O1 wx, StO O1 wx B F → (∀ x, O1 x → O x ∨ w.heap.size ≤ x) → Fr O w wx → Calls Tryz.prog 88 #[.pointer (some ⟨B, 0, none⟩), .agg #[.int .i64 kd, .string key, .slice ka kn kc, .int .i64 fl, .int .i64 ex, .int .i64 nn, .string vl, .bool qt]] wx fun e w' => e = .returned (replyV K N) ∧ StPost O1 wx B F2 w') :
 Calls Tryz.prog 59 #[.pointer (some ⟨B, 0, none⟩), .agg #[.int .i64 kd, .string key, .slice ka kn kc, .int .i64 fl, .int .i64 ex, .int .i64 nn, .string vl, .bool qt]] w fun e w' => e = .returned (replyV K N) ∧ StPost O w B F2 w' := by
 have htl := told_any
 unfold replyV at *
 have hlt : ∀ x, O x → x < w.heap.size := by
  obtain ⟨iv, pa, pc, Op, h⟩ := h
  exact h.lt
 have T0 := (TB.new 47 w #[.int .i64 kd, .string key, .slice ka kn kc, .int .i64 fl, .int .i64 ex, .int .i64 nn, .string vl, .bool qt]).alloc (.cells #[.int .i64 0, .int .i64 0, .slice none 0 0] 42)
 have T1 : TB 42 _ (w.heap.size + 1) #[.int .i64 0, .int .i64 0, .slice none 0 0] := TB.new2 (w := w.alloc (.cells #[.int .i64 kd, .string key, .slice ka kn kc, .int .i64 fl, .int .i64 ex, .int .i64 nn, .string vl, .bool qt] 47)) (by simp)
 have A2 : Below w.heap.size w ((w.alloc (.cells #[.int .i64 kd, .string key, .slice ka kn kc, .int .i64 fl, .int .i64 ex, .int .i64 nn, .string vl, .bool qt] 47)).alloc (.cells #[.int .i64 0, .int .i64 0, .slice none 0 0] 42)) := below_al (below_al (Below.refl _ _) _) _
 have hno0 : ¬ O w.heap.size := fun e => by have := hlt _ e; omega
 have hno1 : ¬ O (w.heap.size + 1) := fun e => by have := hlt _ e; omega
 have hz0 : (0 : Int) ≤ (n : Int) := Int.natCast_nonneg _
 subst hu
 subst hkd
 go_enter Tryz.func59, Tryz.ntmps59
 go_wp2_with fail
 generalize hW2 : ((w.alloc (.cells #[.int .i64 2, .string key, .slice ka kn kc, .int .i64 fl, .int .i64 ex, .int .i64 nn, .string vl, .bool qt] 47)).alloc (.cells #[.int .i64 0, .int .i64 0, .slice none 0 0] 42)) = W2 at *
 clear hW2
 have x0 := fun j => T0.cell j
 have l0 := T0.lt
 have HL1 : Hid (w.heap.size + 1 < W2.heap.size) := T1.lt
 refine (hfd _ A2).mono ?_
 rintro e wf ⟨rfl, ⟨O1, k1, k2⟩, k3⟩
 have hn0 : ¬ O1 w.heap.size := out_of k2 hno0 l0
 have hn1 : ¬ O1 (w.heap.size + 1) := out_of k2 hno1 HL1.out
 have U0 := k3.tb T0 hno0
 have U1 := k3.tb T1 hno1
 have hQ : Hid (StQ O w W2 B F wf) := StQ.of A2 ⟨⟨O1, k1, k2⟩, k3⟩
 have y0 := fun j => U0.cell j
 have m0 := U0.lt
 have HK : Hid (∀ x, O1 x → O x ∨ w.heap.size ≤ x) := fun x hx => (k2 x hx).imp id (fun q => Nat.le_trans A2.size q)
 have HF : Hid (Fr O w wf) := (Fr.of_below A2).trans k3 (fun b hb => Or.inl hb)
 clear x0 l0 T0 T1
 go_wp2_with fail
 refine (hun _).mono ?_
 rintro e wu ⟨rfl, hwu⟩
 obtain rfl := hwu.symm
 go_wp2_with fail
 refine (hj O1 _ k1 HK.out HF.out).mono ?_
 rintro e wj ⟨rfl, hbj⟩
 have V1 := hbj.2.tb U1 hn1
 have x1 := (fun j => V1.cell j)
 have z1 := (fun j => V1.frozen j)
 have l1 := V1.lt
 have hQ2 : Hid (StQ O w W2 B _ wj) := StQ.next A2 k2 k3 (Below.refl _ _) hbj
 go_wp2_with fail
 refine bodyPost_ret (v := .agg #[.int .i64 K, .int .i64 N, .slice none 0 0]) (by simp [results, Tryz.results59, go_sem, x1, l1]) rfl ⟨rfl, ?_⟩
 exact StQ.post (StQ.set (StQ.set (StQ.set (O := O) (w0 := w) (B := B) hQ2.out (by omega) HL1.out hlt 0 _) (by omega) HL1.out hlt 1 _) (by omega) HL1.out hlt 2 _) A2.size

set_option maxHeartbeats 40000000 in
set_option maxRecDepth 100000 in
theorem one_set4 (O : Nat → Prop) (s F : StoreR) (B n : Nat) (kd fl ex nn : Int) (key vl : ByteArray) (ka : Option Addr) (kn kc : Nat) (qt : Bool) (it : ItemR) (w : World) (h : StO O w B s)
 (hfd : ∀ wx, Below w.heap.size w wx → Calls Tryz.prog 80 #[.pointer (some ⟨B, 0, none⟩), .string key] wx fun e w' => e = .returned (.int .i64 (n : Int)) ∧ StPost O wx B F w')
 (u : Int) (hun : ∀ wx, Calls Tryz.prog 83 #[.int .i64 kd, .bool true] wx fun e w' => e = .returned (.int .i64 u) ∧ w' = wx)
 (hu : u = 0) (hkd : kd = 4) (K N : Int) (F2 : StoreR)
 (hj : ∀ O1 wx, StO O1 wx B F → (∀ x, O1 x → O x ∨ w.heap.size ≤ x) → Fr O w wx → Calls Tryz.prog 88 #[.pointer (some ⟨B, 0, none⟩), .agg #[.int .i64 kd, .string key, .slice ka kn kc, .int .i64 fl, .int .i64 ex, .int .i64 nn, .string vl, .bool qt]] wx fun e w' => e = .returned (replyV K N) ∧ StPost O1 wx B F2 w') :
 Calls Tryz.prog 59 #[.pointer (some ⟨B, 0, none⟩), .agg #[.int .i64 kd, .string key, .slice ka kn kc, .int .i64 fl, .int .i64 ex, .int .i64 nn, .string vl, .bool qt]] w fun e w' => e = .returned (replyV K N) ∧ StPost O w B F2 w' := by
 have htl := told_any
 unfold replyV at *
 have hlt : ∀ x, O x → x < w.heap.size := by
  obtain ⟨iv, pa, pc, Op, h⟩ := h
  exact h.lt
 have T0 := (TB.new 47 w #[.int .i64 kd, .string key, .slice ka kn kc, .int .i64 fl, .int .i64 ex, .int .i64 nn, .string vl, .bool qt]).alloc (.cells #[.int .i64 0, .int .i64 0, .slice none 0 0] 42)
 have T1 : TB 42 _ (w.heap.size + 1) #[.int .i64 0, .int .i64 0, .slice none 0 0] := TB.new2 (w := w.alloc (.cells #[.int .i64 kd, .string key, .slice ka kn kc, .int .i64 fl, .int .i64 ex, .int .i64 nn, .string vl, .bool qt] 47)) (by simp)
 have A2 : Below w.heap.size w ((w.alloc (.cells #[.int .i64 kd, .string key, .slice ka kn kc, .int .i64 fl, .int .i64 ex, .int .i64 nn, .string vl, .bool qt] 47)).alloc (.cells #[.int .i64 0, .int .i64 0, .slice none 0 0] 42)) := below_al (below_al (Below.refl _ _) _) _
 have hno0 : ¬ O w.heap.size := fun e => by have := hlt _ e; omega
 have hno1 : ¬ O (w.heap.size + 1) := fun e => by have := hlt _ e; omega
 have hz0 : (0 : Int) ≤ (n : Int) := Int.natCast_nonneg _
 subst hu
 subst hkd
 go_enter Tryz.func59, Tryz.ntmps59
 go_wp2_with fail
 generalize hW2 : ((w.alloc (.cells #[.int .i64 4, .string key, .slice ka kn kc, .int .i64 fl, .int .i64 ex, .int .i64 nn, .string vl, .bool qt] 47)).alloc (.cells #[.int .i64 0, .int .i64 0, .slice none 0 0] 42)) = W2 at *
 clear hW2
 have x0 := fun j => T0.cell j
 have l0 := T0.lt
 have HL1 : Hid (w.heap.size + 1 < W2.heap.size) := T1.lt
 refine (hfd _ A2).mono ?_
 rintro e wf ⟨rfl, ⟨O1, k1, k2⟩, k3⟩
 have hn0 : ¬ O1 w.heap.size := out_of k2 hno0 l0
 have hn1 : ¬ O1 (w.heap.size + 1) := out_of k2 hno1 HL1.out
 have U0 := k3.tb T0 hno0
 have U1 := k3.tb T1 hno1
 have hQ : Hid (StQ O w W2 B F wf) := StQ.of A2 ⟨⟨O1, k1, k2⟩, k3⟩
 have y0 := fun j => U0.cell j
 have m0 := U0.lt
 have HK : Hid (∀ x, O1 x → O x ∨ w.heap.size ≤ x) := fun x hx => (k2 x hx).imp id (fun q => Nat.le_trans A2.size q)
 have HF : Hid (Fr O w wf) := (Fr.of_below A2).trans k3 (fun b hb => Or.inl hb)
 clear x0 l0 T0 T1
 go_wp2_with fail
 refine (hun _).mono ?_
 rintro e wu ⟨rfl, hwu⟩
 obtain rfl := hwu.symm
 go_wp2_with fail
 refine (hj O1 _ k1 HK.out HF.out).mono ?_
 rintro e wj ⟨rfl, hbj⟩
 have V1 := hbj.2.tb U1 hn1
 have x1 := (fun j => V1.cell j)
 have z1 := (fun j => V1.frozen j)
 have l1 := V1.lt
 have hQ2 : Hid (StQ O w W2 B _ wj) := StQ.next A2 k2 k3 (Below.refl _ _) hbj
 go_wp2_with fail
 refine bodyPost_ret (v := .agg #[.int .i64 K, .int .i64 N, .slice none 0 0]) (by simp [results, Tryz.results59, go_sem, x1, l1]) rfl ⟨rfl, ?_⟩
 exact StQ.post (StQ.set (StQ.set (StQ.set (O := O) (w0 := w) (B := B) hQ2.out (by omega) HL1.out hlt 0 _) (by omega) HL1.out hlt 1 _) (by omega) HL1.out hlt 2 _) A2.size

set_option maxHeartbeats 40000000 in
set_option maxRecDepth 100000 in
theorem one_new2 (O : Nat → Prop) (s F : StoreR) (B n : Nat) (kd fl ex nn : Int) (key vl : ByteArray) (ka : Option Addr) (kn kc : Nat) (qt : Bool) (it : ItemR) (w : World) (h : StO O w B s)
 (hfd : ∀ wx, Below w.heap.size w wx → Calls Tryz.prog 80 #[.pointer (some ⟨B, 0, none⟩), .string key] wx fun e w' => e = .returned (.int .i64 (-1)) ∧ StPost O wx B F w')
 (u : Int) (hun : ∀ wx, Calls Tryz.prog 83 #[.int .i64 kd, .bool false] wx fun e w' => e = .returned (.int .i64 u) ∧ w' = wx)
 (hu : u = 0) (hkd : kd = 2) (K N : Int) (F2 : StoreR)
 (hj : ∀ O1 wx, StO O1 wx B F → (∀ x, O1 x → O x ∨ w.heap.size ≤ x) → Fr O w wx → Calls Tryz.prog 88 #[.pointer (some ⟨B, 0, none⟩), .agg #[.int .i64 kd, .string key, .slice ka kn kc, .int .i64 fl, .int .i64 ex, .int .i64 nn, .string vl, .bool qt]] wx fun e w' => e = .returned (replyV K N) ∧ StPost O1 wx B F2 w') :
 Calls Tryz.prog 59 #[.pointer (some ⟨B, 0, none⟩), .agg #[.int .i64 kd, .string key, .slice ka kn kc, .int .i64 fl, .int .i64 ex, .int .i64 nn, .string vl, .bool qt]] w fun e w' => e = .returned (replyV K N) ∧ StPost O w B F2 w' := by
 have htl := told_any
 unfold replyV at *
 have hlt : ∀ x, O x → x < w.heap.size := by
  obtain ⟨iv, pa, pc, Op, h⟩ := h
  exact h.lt
 have T0 := (TB.new 47 w #[.int .i64 kd, .string key, .slice ka kn kc, .int .i64 fl, .int .i64 ex, .int .i64 nn, .string vl, .bool qt]).alloc (.cells #[.int .i64 0, .int .i64 0, .slice none 0 0] 42)
 have T1 : TB 42 _ (w.heap.size + 1) #[.int .i64 0, .int .i64 0, .slice none 0 0] := TB.new2 (w := w.alloc (.cells #[.int .i64 kd, .string key, .slice ka kn kc, .int .i64 fl, .int .i64 ex, .int .i64 nn, .string vl, .bool qt] 47)) (by simp)
 have A2 : Below w.heap.size w ((w.alloc (.cells #[.int .i64 kd, .string key, .slice ka kn kc, .int .i64 fl, .int .i64 ex, .int .i64 nn, .string vl, .bool qt] 47)).alloc (.cells #[.int .i64 0, .int .i64 0, .slice none 0 0] 42)) := below_al (below_al (Below.refl _ _) _) _
 have hno0 : ¬ O w.heap.size := fun e => by have := hlt _ e; omega
 have hno1 : ¬ O (w.heap.size + 1) := fun e => by have := hlt _ e; omega
 subst hu
 subst hkd
 go_enter Tryz.func59, Tryz.ntmps59
 go_wp2_with fail
 generalize hW2 : ((w.alloc (.cells #[.int .i64 2, .string key, .slice ka kn kc, .int .i64 fl, .int .i64 ex, .int .i64 nn, .string vl, .bool qt] 47)).alloc (.cells #[.int .i64 0, .int .i64 0, .slice none 0 0] 42)) = W2 at *
 clear hW2
 have x0 := fun j => T0.cell j
 have l0 := T0.lt
 have HL1 : Hid (w.heap.size + 1 < W2.heap.size) := T1.lt
 refine (hfd _ A2).mono ?_
 rintro e wf ⟨rfl, ⟨O1, k1, k2⟩, k3⟩
 have hn0 : ¬ O1 w.heap.size := out_of k2 hno0 l0
 have hn1 : ¬ O1 (w.heap.size + 1) := out_of k2 hno1 HL1.out
 have U0 := k3.tb T0 hno0
 have U1 := k3.tb T1 hno1
 have hQ : Hid (StQ O w W2 B F wf) := StQ.of A2 ⟨⟨O1, k1, k2⟩, k3⟩
 have y0 := fun j => U0.cell j
 have m0 := U0.lt
 have HK : Hid (∀ x, O1 x → O x ∨ w.heap.size ≤ x) := fun x hx => (k2 x hx).imp id (fun q => Nat.le_trans A2.size q)
 have HF : Hid (Fr O w wf) := (Fr.of_below A2).trans k3 (fun b hb => Or.inl hb)
 clear x0 l0 T0 T1
 go_wp2_with fail
 refine (hun _).mono ?_
 rintro e wu ⟨rfl, hwu⟩
 obtain rfl := hwu.symm
 go_wp2_with fail
 refine (hj O1 _ k1 HK.out HF.out).mono ?_
 rintro e wj ⟨rfl, hbj⟩
 have V1 := hbj.2.tb U1 hn1
 have x1 := (fun j => V1.cell j)
 have z1 := (fun j => V1.frozen j)
 have l1 := V1.lt
 have hQ2 : Hid (StQ O w W2 B _ wj) := StQ.next A2 k2 k3 (Below.refl _ _) hbj
 go_wp2_with fail
 refine bodyPost_ret (v := .agg #[.int .i64 K, .int .i64 N, .slice none 0 0]) (by simp [results, Tryz.results59, go_sem, x1, l1]) rfl ⟨rfl, ?_⟩
 exact StQ.post (StQ.set (StQ.set (StQ.set (O := O) (w0 := w) (B := B) hQ2.out (by omega) HL1.out hlt 0 _) (by omega) HL1.out hlt 1 _) (by omega) HL1.out hlt 2 _) A2.size

set_option maxHeartbeats 40000000 in
set_option maxRecDepth 100000 in
theorem one_new3 (O : Nat → Prop) (s F : StoreR) (B n : Nat) (kd fl ex nn : Int) (key vl : ByteArray) (ka : Option Addr) (kn kc : Nat) (qt : Bool) (it : ItemR) (w : World) (h : StO O w B s)
 (hfd : ∀ wx, Below w.heap.size w wx → Calls Tryz.prog 80 #[.pointer (some ⟨B, 0, none⟩), .string key] wx fun e w' => e = .returned (.int .i64 (-1)) ∧ StPost O wx B F w')
 (u : Int) (hun : ∀ wx, Calls Tryz.prog 83 #[.int .i64 kd, .bool false] wx fun e w' => e = .returned (.int .i64 u) ∧ w' = wx)
 (hu : u = 0) (hkd : kd = 3) (K N : Int) (F2 : StoreR)
 (hj : ∀ O1 wx, StO O1 wx B F → (∀ x, O1 x → O x ∨ w.heap.size ≤ x) → Fr O w wx → Calls Tryz.prog 88 #[.pointer (some ⟨B, 0, none⟩), .agg #[.int .i64 kd, .string key, .slice ka kn kc, .int .i64 fl, .int .i64 ex, .int .i64 nn, .string vl, .bool qt]] wx fun e w' => e = .returned (replyV K N) ∧ StPost O1 wx B F2 w') :
 Calls Tryz.prog 59 #[.pointer (some ⟨B, 0, none⟩), .agg #[.int .i64 kd, .string key, .slice ka kn kc, .int .i64 fl, .int .i64 ex, .int .i64 nn, .string vl, .bool qt]] w fun e w' => e = .returned (replyV K N) ∧ StPost O w B F2 w' := by
 have htl := told_any
 unfold replyV at *
 have hlt : ∀ x, O x → x < w.heap.size := by
  obtain ⟨iv, pa, pc, Op, h⟩ := h
  exact h.lt
 have T0 := (TB.new 47 w #[.int .i64 kd, .string key, .slice ka kn kc, .int .i64 fl, .int .i64 ex, .int .i64 nn, .string vl, .bool qt]).alloc (.cells #[.int .i64 0, .int .i64 0, .slice none 0 0] 42)
 have T1 : TB 42 _ (w.heap.size + 1) #[.int .i64 0, .int .i64 0, .slice none 0 0] := TB.new2 (w := w.alloc (.cells #[.int .i64 kd, .string key, .slice ka kn kc, .int .i64 fl, .int .i64 ex, .int .i64 nn, .string vl, .bool qt] 47)) (by simp)
 have A2 : Below w.heap.size w ((w.alloc (.cells #[.int .i64 kd, .string key, .slice ka kn kc, .int .i64 fl, .int .i64 ex, .int .i64 nn, .string vl, .bool qt] 47)).alloc (.cells #[.int .i64 0, .int .i64 0, .slice none 0 0] 42)) := below_al (below_al (Below.refl _ _) _) _
 have hno0 : ¬ O w.heap.size := fun e => by have := hlt _ e; omega
 have hno1 : ¬ O (w.heap.size + 1) := fun e => by have := hlt _ e; omega
 subst hu
 subst hkd
 go_enter Tryz.func59, Tryz.ntmps59
 go_wp2_with fail
 generalize hW2 : ((w.alloc (.cells #[.int .i64 3, .string key, .slice ka kn kc, .int .i64 fl, .int .i64 ex, .int .i64 nn, .string vl, .bool qt] 47)).alloc (.cells #[.int .i64 0, .int .i64 0, .slice none 0 0] 42)) = W2 at *
 clear hW2
 have x0 := fun j => T0.cell j
 have l0 := T0.lt
 have HL1 : Hid (w.heap.size + 1 < W2.heap.size) := T1.lt
 refine (hfd _ A2).mono ?_
 rintro e wf ⟨rfl, ⟨O1, k1, k2⟩, k3⟩
 have hn0 : ¬ O1 w.heap.size := out_of k2 hno0 l0
 have hn1 : ¬ O1 (w.heap.size + 1) := out_of k2 hno1 HL1.out
 have U0 := k3.tb T0 hno0
 have U1 := k3.tb T1 hno1
 have hQ : Hid (StQ O w W2 B F wf) := StQ.of A2 ⟨⟨O1, k1, k2⟩, k3⟩
 have y0 := fun j => U0.cell j
 have m0 := U0.lt
 have HK : Hid (∀ x, O1 x → O x ∨ w.heap.size ≤ x) := fun x hx => (k2 x hx).imp id (fun q => Nat.le_trans A2.size q)
 have HF : Hid (Fr O w wf) := (Fr.of_below A2).trans k3 (fun b hb => Or.inl hb)
 clear x0 l0 T0 T1
 go_wp2_with fail
 refine (hun _).mono ?_
 rintro e wu ⟨rfl, hwu⟩
 obtain rfl := hwu.symm
 go_wp2_with fail
 refine (hj O1 _ k1 HK.out HF.out).mono ?_
 rintro e wj ⟨rfl, hbj⟩
 have V1 := hbj.2.tb U1 hn1
 have x1 := (fun j => V1.cell j)
 have z1 := (fun j => V1.frozen j)
 have l1 := V1.lt
 have hQ2 : Hid (StQ O w W2 B _ wj) := StQ.next A2 k2 k3 (Below.refl _ _) hbj
 go_wp2_with fail
 refine bodyPost_ret (v := .agg #[.int .i64 K, .int .i64 N, .slice none 0 0]) (by simp [results, Tryz.results59, go_sem, x1, l1]) rfl ⟨rfl, ?_⟩
 exact StQ.post (StQ.set (StQ.set (StQ.set (O := O) (w0 := w) (B := B) hQ2.out (by omega) HL1.out hlt 0 _) (by omega) HL1.out hlt 1 _) (by omega) HL1.out hlt 2 _) A2.size

set_option maxHeartbeats 40000000 in
set_option maxRecDepth 100000 in
theorem one_cas_no (O : Nat → Prop) (s F : StoreR) (B n : Nat) (kd fl ex nn : Int) (key vl : ByteArray) (ka : Option Addr) (kn kc : Nat) (qt : Bool) (it : ItemR) (w : World) (h : StO O w B s)
 (hfd : ∀ wx, Below w.heap.size w wx → Calls Tryz.prog 80 #[.pointer (some ⟨B, 0, none⟩), .string key] wx fun e w' => e = .returned (.int .i64 (n : Int)) ∧ StPost O wx B F w')
 (u : Int) (hun : ∀ wx, Calls Tryz.prog 83 #[.int .i64 kd, .bool true] wx fun e w' => e = .returned (.int .i64 u) ∧ w' = wx)
 (hl : F.items.length ≤ 1000) (hn : n < F.items.length) (hit : F.items.getD n default = it) (hu : u = 0) (hkd : kd = 7) (hne : it.cas ≠ nn) :
 Calls Tryz.prog 59 #[.pointer (some ⟨B, 0, none⟩), .agg #[.int .i64 kd, .string key, .slice ka kn kc, .int .i64 fl, .int .i64 ex, .int .i64 nn, .string vl, .bool qt]] w fun e w' => e = .returned (replyV 4 0) ∧ StPost O w B F w' := by
 have htl := told_any
 unfold replyV at *
 have hlt : ∀ x, O x → x < w.heap.size := by
  obtain ⟨iv, pa, pc, Op, h⟩ := h
  exact h.lt
 have T0 := (TB.new 47 w #[.int .i64 kd, .string key, .slice ka kn kc, .int .i64 fl, .int .i64 ex, .int .i64 nn, .string vl, .bool qt]).alloc (.cells #[.int .i64 0, .int .i64 0, .slice none 0 0] 42)
 have T1 : TB 42 _ (w.heap.size + 1) #[.int .i64 0, .int .i64 0, .slice none 0 0] := TB.new2 (w := w.alloc (.cells #[.int .i64 kd, .string key, .slice ka kn kc, .int .i64 fl, .int .i64 ex, .int .i64 nn, .string vl, .bool qt] 47)) (by simp)
 have A2 : Below w.heap.size w ((w.alloc (.cells #[.int .i64 kd, .string key, .slice ka kn kc, .int .i64 fl, .int .i64 ex, .int .i64 nn, .string vl, .bool qt] 47)).alloc (.cells #[.int .i64 0, .int .i64 0, .slice none 0 0] 42)) := below_al (below_al (Below.refl _ _) _) _
 have hno0 : ¬ O w.heap.size := fun e => by have := hlt _ e; omega
 have hno1 : ¬ O (w.heap.size + 1) := fun e => by have := hlt _ e; omega
 have hz0 : (0 : Int) ≤ (n : Int) := Int.natCast_nonneg _
 subst hu
 subst hkd
 have hc1 : (it.cas == nn) = false := by simp [hne]
 go_enter Tryz.func59, Tryz.ntmps59
 go_wp2_with fail
 generalize hW2 : ((w.alloc (.cells #[.int .i64 7, .string key, .slice ka kn kc, .int .i64 fl, .int .i64 ex, .int .i64 nn, .string vl, .bool qt] 47)).alloc (.cells #[.int .i64 0, .int .i64 0, .slice none 0 0] 42)) = W2 at *
 clear hW2
 have x0 := fun j => T0.cell j
 have l0 := T0.lt
 have HL1 : Hid (w.heap.size + 1 < W2.heap.size) := T1.lt
 refine (hfd _ A2).mono ?_
 rintro e wf ⟨rfl, ⟨O1, k1, k2⟩, k3⟩
 have hn0 : ¬ O1 w.heap.size := out_of k2 hno0 l0
 have hn1 : ¬ O1 (w.heap.size + 1) := out_of k2 hno1 HL1.out
 have U0 := k3.tb T0 hno0
 have U1 := k3.tb T1 hno1
 have hQ : Hid (StQ O w W2 B F wf) := StQ.of A2 ⟨⟨O1, k1, k2⟩, k3⟩
 have y0 := fun j => U0.cell j
 have m0 := U0.lt
 have HK : Hid (∀ x, O1 x → O x ∨ w.heap.size ≤ x) := fun x hx => (k2 x hx).imp id (fun q => Nat.le_trans A2.size q)
 have HF : Hid (Fr O w wf) := (Fr.of_below A2).trans k3 (fun b hb => Or.inl hb)
 clear x0 l0 T0 T1
 go_wp2_with fail
 refine (hun _).mono ?_
 rintro e wu ⟨rfl, hwu⟩
 obtain rfl := hwu.symm
 have hS1 := k1
 obtain ⟨iv, pa, pc, Op, k1⟩ := k1
 obtain ⟨g, c, e0, cur, hcur, hcap, hcm, hcs, hct⟩ := k1.row.block (by omega)
 subst e0
 obtain ⟨a', c', e1, hA⟩ := k1.row.items (by unfold maxLen; omega)
 cases e1
 obtain ⟨b, o, ea, hb, hI⟩ := hA.item n hn
 cases ea
 rw [hit, Nat.zero_add] at hI
 have yB := fun j => k1.box.cell j
 have lB := k1.box.lt
 have hz0 : (0 : Int) ≤ (n : Int) := Int.natCast_nonneg _
 have hz1 : (n : Int) < (F.items.length : Int) := by omega
 have hT : TB 62 wf g cur := hcur
 have HT : Hid (TB 62 wf g cur) := hT
 have HC : Hid (cur.toList.take (F.items.length * 9) = F.items.flatMap itemCells) := hct
 obtain ⟨i0, i1, i2, i3, i4, i5, i6, i7, i8⟩ := hI
 have hgB : g ≠ B := (k1.rowO g rfl).2
 unfold stCells at yB
 clear hA hct hcur hT
 go_wp2_with fail
 go_region
 have U1d := U1.later (Below.drew (Below.refl _ _))
 have hQd : Hid (StQ O w W2 B F wf.drew) := StQ.later hQ.out A2.size (Below.drew (Below.refl _ _))
 go_wp2_with fail
 refine (htl 4 _).mono ?_
 rintro e wt ⟨rfl, hbt⟩
 have V1 := U1d.later hbt
 have x1 := fun j => V1.cell j
 have z1 := fun j => V1.frozen j
 have l1 := V1.lt
 have hQ2 : Hid (StQ O w W2 B _ wt) := StQ.later hQd.out A2.size hbt
 go_wp2_with fail
 refine bodyPost_ret (v := .agg #[.int .i64 4, .int .i64 0, .slice none 0 0]) (by simp [results, Tryz.results59, go_sem, x1, l1]) rfl ⟨rfl, ?_⟩
 exact StQ.post (StQ.set (StQ.set (StQ.set (O := O) (w0 := w) (B := B) hQ2.out (by omega) HL1.out hlt 0 _) (by omega) HL1.out hlt 1 _) (by omega) HL1.out hlt 2 _) A2.size

set_option maxHeartbeats 40000000 in
set_option maxRecDepth 100000 in
theorem one_cas (O : Nat → Prop) (s F : StoreR) (B n : Nat) (kd fl ex nn : Int) (key vl : ByteArray) (ka : Option Addr) (kn kc : Nat) (qt : Bool) (it : ItemR) (w : World) (h : StO O w B s)
 (hfd : ∀ wx, Below w.heap.size w wx → Calls Tryz.prog 80 #[.pointer (some ⟨B, 0, none⟩), .string key] wx fun e w' => e = .returned (.int .i64 (n : Int)) ∧ StPost O wx B F w')
 (u : Int) (hun : ∀ wx, Calls Tryz.prog 83 #[.int .i64 kd, .bool true] wx fun e w' => e = .returned (.int .i64 u) ∧ w' = wx)
 (hl : F.items.length ≤ 1000) (hn : n < F.items.length) (hit : F.items.getD n default = it) (hu : u = 0) (hkd : kd = 7) (hne : it.cas = nn) (K N : Int) (F2 : StoreR)
 (hj : ∀ O1 wx, StO O1 wx B F → (∀ x, O1 x → O x ∨ w.heap.size ≤ x) → Fr O w wx → Calls Tryz.prog 88 #[.pointer (some ⟨B, 0, none⟩), .agg #[.int .i64 kd, .string key, .slice ka kn kc, .int .i64 fl, .int .i64 ex, .int .i64 nn, .string vl, .bool qt]] wx fun e w' => e = .returned (replyV K N) ∧ StPost O1 wx B F2 w') :
 Calls Tryz.prog 59 #[.pointer (some ⟨B, 0, none⟩), .agg #[.int .i64 kd, .string key, .slice ka kn kc, .int .i64 fl, .int .i64 ex, .int .i64 nn, .string vl, .bool qt]] w fun e w' => e = .returned (replyV K N) ∧ StPost O w B F2 w' := by
 have htl := told_any
 unfold replyV at *
 have hlt : ∀ x, O x → x < w.heap.size := by
  obtain ⟨iv, pa, pc, Op, h⟩ := h
  exact h.lt
 have T0 := (TB.new 47 w #[.int .i64 kd, .string key, .slice ka kn kc, .int .i64 fl, .int .i64 ex, .int .i64 nn, .string vl, .bool qt]).alloc (.cells #[.int .i64 0, .int .i64 0, .slice none 0 0] 42)
 have T1 : TB 42 _ (w.heap.size + 1) #[.int .i64 0, .int .i64 0, .slice none 0 0] := TB.new2 (w := w.alloc (.cells #[.int .i64 kd, .string key, .slice ka kn kc, .int .i64 fl, .int .i64 ex, .int .i64 nn, .string vl, .bool qt] 47)) (by simp)
 have A2 : Below w.heap.size w ((w.alloc (.cells #[.int .i64 kd, .string key, .slice ka kn kc, .int .i64 fl, .int .i64 ex, .int .i64 nn, .string vl, .bool qt] 47)).alloc (.cells #[.int .i64 0, .int .i64 0, .slice none 0 0] 42)) := below_al (below_al (Below.refl _ _) _) _
 have hno0 : ¬ O w.heap.size := fun e => by have := hlt _ e; omega
 have hno1 : ¬ O (w.heap.size + 1) := fun e => by have := hlt _ e; omega
 have hz0 : (0 : Int) ≤ (n : Int) := Int.natCast_nonneg _
 subst hu
 subst hkd
 have hc1 : (it.cas == nn) = true := by simp [hne]
 clear hne
 go_enter Tryz.func59, Tryz.ntmps59
 go_wp2_with fail
 generalize hW2 : ((w.alloc (.cells #[.int .i64 7, .string key, .slice ka kn kc, .int .i64 fl, .int .i64 ex, .int .i64 nn, .string vl, .bool qt] 47)).alloc (.cells #[.int .i64 0, .int .i64 0, .slice none 0 0] 42)) = W2 at *
 clear hW2
 have x0 := fun j => T0.cell j
 have l0 := T0.lt
 have HL1 : Hid (w.heap.size + 1 < W2.heap.size) := T1.lt
 refine (hfd _ A2).mono ?_
 rintro e wf ⟨rfl, ⟨O1, k1, k2⟩, k3⟩
 have hn0 : ¬ O1 w.heap.size := out_of k2 hno0 l0
 have hn1 : ¬ O1 (w.heap.size + 1) := out_of k2 hno1 HL1.out
 have U0 := k3.tb T0 hno0
 have U1 := k3.tb T1 hno1
 have hQ : Hid (StQ O w W2 B F wf) := StQ.of A2 ⟨⟨O1, k1, k2⟩, k3⟩
 have y0 := fun j => U0.cell j
 have m0 := U0.lt
 have HK : Hid (∀ x, O1 x → O x ∨ w.heap.size ≤ x) := fun x hx => (k2 x hx).imp id (fun q => Nat.le_trans A2.size q)
 have HF : Hid (Fr O w wf) := (Fr.of_below A2).trans k3 (fun b hb => Or.inl hb)
 clear x0 l0 T0 T1
 go_wp2_with fail
 refine (hun _).mono ?_
 rintro e wu ⟨rfl, hwu⟩
 obtain rfl := hwu.symm
 have hS1 := k1
 obtain ⟨iv, pa, pc, Op, k1⟩ := k1
 obtain ⟨g, c, e0, cur, hcur, hcap, hcm, hcs, hct⟩ := k1.row.block (by omega)
 subst e0
 obtain ⟨a', c', e1, hA⟩ := k1.row.items (by unfold maxLen; omega)
 cases e1
 obtain ⟨b, o, ea, hb, hI⟩ := hA.item n hn
 cases ea
 rw [hit, Nat.zero_add] at hI
 have yB := fun j => k1.box.cell j
 have lB := k1.box.lt
 have hz0 : (0 : Int) ≤ (n : Int) := Int.natCast_nonneg _
 have hz1 : (n : Int) < (F.items.length : Int) := by omega
 have hT : TB 62 wf g cur := hcur
 have HT : Hid (TB 62 wf g cur) := hT
 have HC : Hid (cur.toList.take (F.items.length * 9) = F.items.flatMap itemCells) := hct
 obtain ⟨i0, i1, i2, i3, i4, i5, i6, i7, i8⟩ := hI
 have hgB : g ≠ B := (k1.rowO g rfl).2
 unfold stCells at yB
 clear hA hct hcur hT
 go_wp2_with fail
 go_region
 go_wp2_with fail
 refine (hj O1 _ (hS1.later (Below.drew (Below.refl _ _))) HK.out HF.out.drew).mono ?_
 rintro e wj ⟨rfl, hbj⟩
 have V1 := hbj.2.tb (U1.later (Below.drew (Below.refl _ _))) hn1
 have x1 := (fun j => V1.cell j)
 have z1 := (fun j => V1.frozen j)
 have l1 := V1.lt
 have hQ2 : Hid (StQ O w W2 B _ wj) := StQ.next A2 k2 k3 (Below.drew (Below.refl _ _)) hbj
 go_wp2_with fail
 refine bodyPost_ret (v := .agg #[.int .i64 K, .int .i64 N, .slice none 0 0]) (by simp [results, Tryz.results59, go_sem, x1, l1]) rfl ⟨rfl, ?_⟩
 exact StQ.post (StQ.set (StQ.set (StQ.set (O := O) (w0 := w) (B := B) hQ2.out (by omega) HL1.out hlt 0 _) (by omega) HL1.out hlt 1 _) (by omega) HL1.out hlt 2 _) A2.size

set_option maxHeartbeats 40000000 in
set_option maxRecDepth 100000 in
theorem one_del (O : Nat → Prop) (s F : StoreR) (B n : Nat) (kd fl ex nn : Int) (key vl : ByteArray) (ka : Option Addr) (kn kc : Nat) (qt : Bool) (it : ItemR) (w : World) (h : StO O w B s)
 (hfd : ∀ wx, Below w.heap.size w wx → Calls Tryz.prog 80 #[.pointer (some ⟨B, 0, none⟩), .string key] wx fun e w' => e = .returned (.int .i64 (n : Int)) ∧ StPost O wx B F w')
 (u : Int) (hun : ∀ wx, Calls Tryz.prog 83 #[.int .i64 kd, .bool true] wx fun e w' => e = .returned (.int .i64 u) ∧ w' = wx)
 (hl : F.items.length ≤ 1000) (hu : u = 0) (hkd : kd = 8) :
 Calls Tryz.prog 59 #[.pointer (some ⟨B, 0, none⟩), .agg #[.int .i64 kd, .string key, .slice ka kn kc, .int .i64 fl, .int .i64 ex, .int .i64 nn, .string vl, .bool qt]] w fun e w' => e = .returned (replyV 6 0) ∧ StPost O w B (takeN F key) w' := by
 have htl := told_any
 unfold replyV at *
 have hlt : ∀ x, O x → x < w.heap.size := by
  obtain ⟨iv, pa, pc, Op, h⟩ := h
  exact h.lt
 have T0 := (TB.new 47 w #[.int .i64 kd, .string key, .slice ka kn kc, .int .i64 fl, .int .i64 ex, .int .i64 nn, .string vl, .bool qt]).alloc (.cells #[.int .i64 0, .int .i64 0, .slice none 0 0] 42)
 have T1 : TB 42 _ (w.heap.size + 1) #[.int .i64 0, .int .i64 0, .slice none 0 0] := TB.new2 (w := w.alloc (.cells #[.int .i64 kd, .string key, .slice ka kn kc, .int .i64 fl, .int .i64 ex, .int .i64 nn, .string vl, .bool qt] 47)) (by simp)
 have A2 : Below w.heap.size w ((w.alloc (.cells #[.int .i64 kd, .string key, .slice ka kn kc, .int .i64 fl, .int .i64 ex, .int .i64 nn, .string vl, .bool qt] 47)).alloc (.cells #[.int .i64 0, .int .i64 0, .slice none 0 0] 42)) := below_al (below_al (Below.refl _ _) _) _
 have hno0 : ¬ O w.heap.size := fun e => by have := hlt _ e; omega
 have hno1 : ¬ O (w.heap.size + 1) := fun e => by have := hlt _ e; omega
 have hz0 : (0 : Int) ≤ (n : Int) := Int.natCast_nonneg _
 subst hu
 subst hkd
 go_enter Tryz.func59, Tryz.ntmps59
 go_wp2_with fail
 generalize hW2 : ((w.alloc (.cells #[.int .i64 8, .string key, .slice ka kn kc, .int .i64 fl, .int .i64 ex, .int .i64 nn, .string vl, .bool qt] 47)).alloc (.cells #[.int .i64 0, .int .i64 0, .slice none 0 0] 42)) = W2 at *
 clear hW2
 have x0 := fun j => T0.cell j
 have l0 := T0.lt
 have HL1 : Hid (w.heap.size + 1 < W2.heap.size) := T1.lt
 refine (hfd _ A2).mono ?_
 rintro e wf ⟨rfl, ⟨O1, k1, k2⟩, k3⟩
 have hn0 : ¬ O1 w.heap.size := out_of k2 hno0 l0
 have hn1 : ¬ O1 (w.heap.size + 1) := out_of k2 hno1 HL1.out
 have U0 := k3.tb T0 hno0
 have U1 := k3.tb T1 hno1
 have hQ : Hid (StQ O w W2 B F wf) := StQ.of A2 ⟨⟨O1, k1, k2⟩, k3⟩
 have y0 := fun j => U0.cell j
 have m0 := U0.lt
 have HK : Hid (∀ x, O1 x → O x ∨ w.heap.size ≤ x) := fun x hx => (k2 x hx).imp id (fun q => Nat.le_trans A2.size q)
 have HF : Hid (Fr O w wf) := (Fr.of_below A2).trans k3 (fun b hb => Or.inl hb)
 clear x0 l0 T0 T1
 go_wp2_with fail
 refine (hun _).mono ?_
 rintro e wu ⟨rfl, hwu⟩
 obtain rfl := hwu.symm
 have hS1 := k1
 have hta := takeAway_any O1 F B key wf hS1 hl
 go_wp2_with fail
 refine hta.mono ?_
 rintro e wj ⟨rfl, hbj⟩
 have U2 := hbj.2.tb U1 hn1
 have hQj : Hid (StQ O w W2 B (takeN F key) wj) := StQ.next A2 k2 k3 (Below.refl _ _) hbj
 go_wp2_with fail
 refine (htl 6 _).mono ?_
 rintro e wt ⟨rfl, hbt⟩
 have V1 := U2.later hbt
 have x1 := fun j => V1.cell j
 have z1 := fun j => V1.frozen j
 have l1 := V1.lt
 have hQ2 : Hid (StQ O w W2 B _ wt) := StQ.later hQj.out A2.size hbt
 go_wp2_with fail
 refine bodyPost_ret (v := .agg #[.int .i64 6, .int .i64 0, .slice none 0 0]) (by simp [results, Tryz.results59, go_sem, x1, l1]) rfl ⟨rfl, ?_⟩
 exact StQ.post (StQ.set (StQ.set (StQ.set (O := O) (w0 := w) (B := B) hQ2.out (by omega) HL1.out hlt 0 _) (by omega) HL1.out hlt 1 _) (by omega) HL1.out hlt 2 _) A2.size

set_option maxHeartbeats 40000000 in
set_option maxRecDepth 100000 in
theorem one_touch (O : Nat → Prop) (s F : StoreR) (B n : Nat) (kd fl ex nn : Int) (key vl : ByteArray) (ka : Option Addr) (kn kc : Nat) (qt : Bool) (it : ItemR) (w : World) (h : StO O w B s)
 (hfd : ∀ wx, Below w.heap.size w wx → Calls Tryz.prog 80 #[.pointer (some ⟨B, 0, none⟩), .string key] wx fun e w' => e = .returned (.int .i64 (n : Int)) ∧ StPost O wx B F w')
 (u : Int) (hun : ∀ wx, Calls Tryz.prog 83 #[.int .i64 kd, .bool true] wx fun e w' => e = .returned (.int .i64 u) ∧ w' = wx)
 (hl : F.items.length ≤ 1000) (hn : n < F.items.length) (hit : F.items.getD n default = it) (hu : u = 0) (hkd : kd = 11) (hu0 : -1 ≤ F.uses) (hu1 : F.uses ≤ 1099511627776) (hc0 : 0 ≤ F.clock) (hc1 : F.clock ≤ 1099511627776) (he0 : 0 ≤ ex) (he1 : ex ≤ 1099511627776) :
 Calls Tryz.prog 59 #[.pointer (some ⟨B, 0, none⟩), .agg #[.int .i64 kd, .string key, .slice ka kn kc, .int .i64 fl, .int .i64 ex, .int .i64 nn, .string vl, .bool qt]] w fun e w' => e = .returned (replyV 8 0) ∧ StPost O w B (untilS (askS F n) n (untilN F.clock ex)) w' := by
 have htl := told_any
 unfold replyV at *
 have hlt : ∀ x, O x → x < w.heap.size := by
  obtain ⟨iv, pa, pc, Op, h⟩ := h
  exact h.lt
 have T0 := (TB.new 47 w #[.int .i64 kd, .string key, .slice ka kn kc, .int .i64 fl, .int .i64 ex, .int .i64 nn, .string vl, .bool qt]).alloc (.cells #[.int .i64 0, .int .i64 0, .slice none 0 0] 42)
 have T1 : TB 42 _ (w.heap.size + 1) #[.int .i64 0, .int .i64 0, .slice none 0 0] := TB.new2 (w := w.alloc (.cells #[.int .i64 kd, .string key, .slice ka kn kc, .int .i64 fl, .int .i64 ex, .int .i64 nn, .string vl, .bool qt] 47)) (by simp)
 have A2 : Below w.heap.size w ((w.alloc (.cells #[.int .i64 kd, .string key, .slice ka kn kc, .int .i64 fl, .int .i64 ex, .int .i64 nn, .string vl, .bool qt] 47)).alloc (.cells #[.int .i64 0, .int .i64 0, .slice none 0 0] 42)) := below_al (below_al (Below.refl _ _) _) _
 have hno0 : ¬ O w.heap.size := fun e => by have := hlt _ e; omega
 have hno1 : ¬ O (w.heap.size + 1) := fun e => by have := hlt _ e; omega
 have hz0 : (0 : Int) ≤ (n : Int) := Int.natCast_nonneg _
 subst hu
 subst hkd
 go_enter Tryz.func59, Tryz.ntmps59
 go_wp2_with fail
 generalize hW2 : ((w.alloc (.cells #[.int .i64 11, .string key, .slice ka kn kc, .int .i64 fl, .int .i64 ex, .int .i64 nn, .string vl, .bool qt] 47)).alloc (.cells #[.int .i64 0, .int .i64 0, .slice none 0 0] 42)) = W2 at *
 clear hW2
 have x0 := fun j => T0.cell j
 have l0 := T0.lt
 have HL1 : Hid (w.heap.size + 1 < W2.heap.size) := T1.lt
 refine (hfd _ A2).mono ?_
 rintro e wf ⟨rfl, ⟨O1, k1, k2⟩, k3⟩
 have hn0 : ¬ O1 w.heap.size := out_of k2 hno0 l0
 have hn1 : ¬ O1 (w.heap.size + 1) := out_of k2 hno1 HL1.out
 have U0 := k3.tb T0 hno0
 have U1 := k3.tb T1 hno1
 have hQ : Hid (StQ O w W2 B F wf) := StQ.of A2 ⟨⟨O1, k1, k2⟩, k3⟩
 have y0 := fun j => U0.cell j
 have m0 := U0.lt
 have HK : Hid (∀ x, O1 x → O x ∨ w.heap.size ≤ x) := fun x hx => (k2 x hx).imp id (fun q => Nat.le_trans A2.size q)
 have HF : Hid (Fr O w wf) := (Fr.of_below A2).trans k3 (fun b hb => Or.inl hb)
 clear x0 l0 T0 T1
 go_wp2_with fail
 refine (hun _).mono ?_
 rintro e wu ⟨rfl, hwu⟩
 obtain rfl := hwu.symm
 have hS1 := k1
 obtain ⟨iv, pa, pc, Op, k1⟩ := k1
 obtain ⟨g, c, e0, cur, hcur, hcap, hcm, hcs, hct⟩ := k1.row.block (by omega)
 subst e0
 obtain ⟨a', c', e1, hA⟩ := k1.row.items (by unfold maxLen; omega)
 cases e1
 obtain ⟨b, o, ea, hb, hI⟩ := hA.item n hn
 cases ea
 rw [hit, Nat.zero_add] at hI
 have yB := fun j => k1.box.cell j
 have lB := k1.box.lt
 have hz0 : (0 : Int) ≤ (n : Int) := Int.natCast_nonneg _
 have hz1 : (n : Int) < (F.items.length : Int) := by omega
 have hT : TB 62 wf g cur := hcur
 have HT : Hid (TB 62 wf g cur) := hT
 have HC : Hid (cur.toList.take (F.items.length * 9) = F.items.flatMap itemCells) := hct
 obtain ⟨i0, i1, i2, i3, i4, i5, i6, i7, i8⟩ := hI
 have hgB : g ≠ B := (k1.rowO g rfl).2
 unfold stCells at yB
 clear hA hct hcur hT
 have KB : Hid (TB 29 wf B (stCells F (.slice (some ⟨g, 0, none⟩) F.items.length c) pa pc)) := k1.box
 have fx4 := HT.out.frozen (n * 9 + 4)
 have lg := HT.out.lt
 go_wp2_with fail
 refine (ask_any F (.slice (some ⟨g, 0, none⟩) F.items.length c) pa pc B g (n * 9) _ wf KB.out lg hgB i4 fx4 hu0 hu1).mono ?_
 rintro e wt ⟨rfl, hwt⟩
 have KA : Hid (StAt O1 wt B (askS F n) (.slice (some ⟨g, 0, none⟩) F.items.length c) pa pc Op) := by rw [hwt]; exact k1.asked n hn
 have FA : Hid (Fr O1 wf wt) := by rw [hwt]; exact k1.fr_ask (n * 9 + 4) _ _
 have TA : Hid (TB 62 wt g (cur.setIfInBounds (n * 9 + 4) (.int .i64 (F.uses + 1)))) := by rw [hwt]; exact (HT.out.far ⟨B, 2, none⟩ _ hgB).set (n * 9 + 4) _
 clear hwt i0 i1 i2 i3 i4 i5 i6 i7 i8 yB y0 fx4 lg hb
 generalize wt = wa at *
 have yB : ∀ j, wa.cell? ⟨B, j, none⟩ = (#[.int .i64 F.clock, .int .i64 F.cas, .int .i64 (F.uses + 1), .int .i64 F.most, .int .i64 F.h0, .int .i64 F.h1, .int .i64 F.h2, .int .i64 F.h3, .slice (some ⟨g, 0, none⟩) F.items.length c, .int .i64 F.fm, .int .i64 F.fx, .slice pa F.pages.length pc] : Array Value)[j]? := fun j => KA.out.box.cell j
 have lBa := KA.out.box.lt
 have U0a := FA.out.tb U0 hn0
 have y0 := fun j => U0a.cell j
 have m0a := U0a.lt
 have kS : ∀ wx, Below wa.heap.size wa wx → (fun wx : World => (∀ j, wx.cell? ⟨B, j, none⟩ = (#[.int .i64 F.clock, .int .i64 F.cas, .int .i64 (F.uses + 1), .int .i64 F.most, .int .i64 F.h0, .int .i64 F.h1, .int .i64 F.h2, .int .i64 F.h3, .slice (some ⟨g, 0, none⟩) F.items.length c, .int .i64 F.fm, .int .i64 F.fx, .slice pa F.pages.length pc] : Array Value)[j]?) ∧ (∀ j, wx.cell? ⟨w.heap.size, j, none⟩ = (#[.int .i64 11, .string key, .slice ka kn kc, .int .i64 fl, .int .i64 ex, .int .i64 nn, .string vl, .bool qt] : Array Value)[j]?)) wx := fun wx hx => ⟨fun j => by rw [hx.cell (p := ⟨B, j, none⟩) lBa]; exact yB j, fun j => by rw [hx.cell (p := ⟨w.heap.size, j, none⟩) m0a]; exact y0 j⟩
 go_wp2_with fail
 refine wp_region_last (S := (fun wx : World => (∀ j, wx.cell? ⟨B, j, none⟩ = (#[.int .i64 F.clock, .int .i64 F.cas, .int .i64 (F.uses + 1), .int .i64 F.most, .int .i64 F.h0, .int .i64 F.h1, .int .i64 F.h2, .int .i64 F.h3, .slice (some ⟨g, 0, none⟩) F.items.length c, .int .i64 F.fm, .int .i64 F.fx, .slice pa F.pages.length pc] : Array Value)[j]?) ∧ (∀ j, wx.cell? ⟨w.heap.size, j, none⟩ = (#[.int .i64 11, .string key, .slice ka kn kc, .int .i64 fl, .int .i64 ex, .int .i64 nn, .string vl, .bool qt] : Array Value)[j]?))) 14 _ (by kernel_rfl) (by rfl) (by rfl) (by rfl) (by kernel_rfl) ?_
 have hS0 := kS wa.drew (Below.drew (Below.refl wa.heap.size wa))
 simp only [sIB, sZB, sSB]
 refine wpAnyH_take (i := 0) (v := ?tv601) rfl (by kernel_rfl) (by kernel_rfl) (by kernel_rfl) (fun _ _ _ h => h) (Or.inl ⟨by rfl, ?th601⟩) (by assumption) ?tr601
 case th601 => (intro w hSw; (try dsimp only at hSw); go_simp; try with_reducible rfl)
 try simp only [Act.put, sIB, sZB, sSB]
 refine wpAnyH_take (i := 1) (v := ?tv602) rfl (by kernel_rfl) (by kernel_rfl) (by kernel_rfl) (fun _ _ _ h => h) (Or.inl ⟨by rfl, ?th602⟩) (by assumption) ?tr602
 case th602 => (intro w hSw; (try dsimp only at hSw); go_simp; try with_reducible rfl)
 try simp only [Act.put, sIB, sZB, sSB]
 refine wpAnyH_take (i := 2) (v := ?tv603) rfl (by kernel_rfl) (by kernel_rfl) (by kernel_rfl) (fun _ _ _ h => h) (Or.inl ⟨by rfl, ?th603⟩) (by assumption) ?tr603
 case th603 => (intro w hSw; (try dsimp only at hSw); go_simp; try with_reducible rfl)
 try simp only [Act.put, sIB, sZB, sSB]
 refine wpAnyH_take (i := 3) (v := ?tv604) rfl (by kernel_rfl) (by kernel_rfl) (by kernel_rfl) (fun _ _ _ h => h) (Or.inl ⟨by rfl, ?th604⟩) (by assumption) ?tr604
 case th604 => (intro w hSw; (try dsimp only at hSw); go_simp; try with_reducible rfl)
 try simp only [Act.put, sIB, sZB, sSB]
 refine wpAnyH_take (i := 4) (v := ?tv605) rfl (by kernel_rfl) (by kernel_rfl) (by kernel_rfl) (fun _ _ _ h => h) (Or.inl ⟨by rfl, ?th605⟩) (by assumption) ?tr605
 case th605 => (intro w hSw; (try dsimp only at hSw); go_simp; try with_reducible rfl)
 try simp only [Act.put, sIB, sZB, sSB]
 refine wpAnyH_take (i := 5) (v := ?tv606) rfl (by kernel_rfl) (by kernel_rfl) (by kernel_rfl) (fun _ _ _ h => h) (Or.inl ⟨by rfl, ?th606⟩) (by assumption) ?tr606
 case th606 => (intro w hSw; (try dsimp only at hSw); go_simp; try with_reducible rfl)
 try simp only [Act.put, sIB, sZB, sSB]
 refine wpAnyH_take (i := 6) (v := ?tv607) rfl (by kernel_rfl) (by kernel_rfl) (by kernel_rfl) (fun _ _ _ h => h) (Or.inl ⟨by rfl, ?th607⟩) (by assumption) ?tr607
 case th607 => (intro w hSw; (try dsimp only at hSw); go_simp; try with_reducible rfl)
 try simp only [Act.put, sIB, sZB, sSB]
 refine wpAnyH_take (i := 7) (v := ?tv608) rfl (by kernel_rfl) (by kernel_rfl) (by kernel_rfl) (fun _ _ _ h => h) (Or.inl ⟨by rfl, ?th608⟩) (by assumption) ?tr608
 case th608 => (intro w hSw; (try dsimp only at hSw); go_simp; try with_reducible rfl)
 try simp only [Act.put, sIB, sZB, sSB]
 refine wpAnyH_take (i := 8) (v := ?tv609) rfl (by kernel_rfl) (by kernel_rfl) (by kernel_rfl) (fun _ _ _ h => h) (Or.inl ⟨by rfl, ?th609⟩) (by assumption) ?tr609
 case th609 => (intro w hSw; (try dsimp only at hSw); go_simp; try with_reducible rfl)
 try simp only [Act.put, sIB, sZB, sSB]
 refine wpAnyH_take (i := 9) (v := ?tv610) rfl (by kernel_rfl) (by kernel_rfl) (by kernel_rfl) (fun _ _ _ h => h) (Or.inl ⟨by rfl, ?th610⟩) (by assumption) ?tr610
 case th610 => (intro w hSw; (try dsimp only at hSw); go_simp; try with_reducible rfl)
 try simp only [Act.put, sIB, sZB, sSB]
 refine wpAnyH_take (i := 10) (v := ?tv611) rfl (by kernel_rfl) (by kernel_rfl) (by kernel_rfl) (fun _ _ _ h => h) (Or.inl ⟨by rfl, ?th611⟩) (by assumption) ?tr611
 case th611 => (intro w hSw; (try dsimp only at hSw); go_simp; try with_reducible rfl)
 try simp only [Act.put, sIB, sZB, sSB]
 refine wpAnyH_ready (rs := [11]) (by kernel_rfl) (by simp) ?_
 refine AllReadyH.cons rfl (fun K hK => ?_) AllReadyH.nil
 go_simp
 refine (untilB_any F.clock ex _ hc0 hc1 he0 he1).mono ?_
 rintro e wc612 ⟨rfl, hbc612⟩
 have Bc612 : Below wa.heap.size wa wc612 := below_thru (Below.drew (Below.refl wa.heap.size wa)) hbc612
 have hSc612 := kS _ Bc612
 refine hK.out _ _ hSc612 ?_
 intro hSd612
 clear hK K
 try simp only [Act.put, sIB, sZB, sSB]
 refine wpAnyH_take (i := 12) (v := ?tv613) rfl (by kernel_rfl) (by kernel_rfl) (by kernel_rfl) (fun _ _ _ h => h) (Or.inl ⟨by rfl, ?th613⟩) (by assumption) ?tr613
 case th613 => (intro w hSw; (try dsimp only at hSw); go_simp; try with_reducible rfl)
 try simp only [Act.put, sIB, sZB, sSB]
 refine wpAnyH_take (i := 13) (v := ?tv614) rfl (by kernel_rfl) (by kernel_rfl) (by kernel_rfl) (fun _ _ _ h => h) (Or.inl ⟨by rfl, ?th614⟩) (by assumption) ?tr614
 case th614 => (intro w hSw; (try dsimp only at hSw); go_simp; try with_reducible rfl)
 try simp only [Act.put, sIB, sZB, sSB]
 refine wpAnyH_ready (rs := [14]) (by kernel_rfl) (by simp) ?_
 refine AllReadyH.cons rfl (fun K hK => ?_) AllReadyH.nil
 go_simp
 refine hK.out _ _ hSd612 ?_
 intro hSl615
 clear hK K
 try simp only [Act.put, sIB, sZB, sSB]
 refine wpAnyH_done (by kernel_rfl) ?_ _
 refine LastPost.step rfl (fun K hK => ?_)
 have hlen : (askS F n).items.length = F.items.length := List.length_set
 have kc : StAt O1 wc612 B (askS F n) (.slice (some ⟨g, 0, none⟩) (askS F n).items.length c) pa pc Op := by rw [hlen]; exact KA.out.later Bc612
 have kd := kc.untiled n (by rw [hlen]; exact hn) (untilN F.clock ex)
 have hP : StPost O1 wf B (untilS (askS F n) n (untilN F.clock ex)) _ := ⟨⟨O1, ⟨_, pa, pc, Op, kd⟩, fun b hb => Or.inl hb⟩, ((FA.out.trans (Fr.of_below (O := O1) Bc612) (fun b hb => Or.inl hb)).set (n * 9 + 2) (.int .i64 (untilN F.clock ex)) (Or.inl (kc.rowO g rfl).1))⟩
 have U2 := hP.2.tb U1 hn1
 have hQj : Hid (StQ O w W2 B _ _) := StQ.next A2 k2 k3 (Below.refl _ _) hP
 have Tc := TA.out.later Bc612
 have lc := Tc.lt
 have fc := fun j => Tc.frozen j
 obtain ⟨zc, hzc⟩ := Option.isSome_iff_exists.1 (row_there Tc (n * 9 + 2) (by simp; omega)).1
 have HP : Hid _ := hP
 clear hP kd kc
 go_simp
 refine hK _ _ ?_
 go_wp2_with fail
 refine (htl 8 _).mono ?_
 rintro e wt ⟨rfl, hbt⟩
 have V1 := U2.later hbt
 have x1 := fun j => V1.cell j
 have z1 := fun j => V1.frozen j
 have l1 := V1.lt
 have hQ2 : Hid (StQ O w W2 B _ wt) := StQ.later hQj.out A2.size hbt
 go_wp2_with fail
 refine bodyPost_ret (v := .agg #[.int .i64 8, .int .i64 0, .slice none 0 0]) (by simp [results, Tryz.results59, go_sem, x1, l1]) rfl ⟨rfl, ?_⟩
 exact StQ.post (StQ.set (StQ.set (StQ.set (O := O) (w0 := w) (B := B) hQ2.out (by omega) HL1.out hlt 0 _) (by omega) HL1.out hlt 1 _) (by omega) HL1.out hlt 2 _) A2.size

end Go.Proofs.YtdblegdgmjakfaaGreatDoor
