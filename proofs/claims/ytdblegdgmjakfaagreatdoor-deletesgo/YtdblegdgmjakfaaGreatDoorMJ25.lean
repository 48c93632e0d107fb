/- Parts of the proof. -/
import Derived.Test.YtdblegdgmjakfaaGreatDoorMJ23
import Derived.Test.YtdblegdgmjakfaaGreatDoorMJ24
import Derived.Test.YtdblegdgmjakfaaGreatDoorMJ05
import Derived.Test.YtdblegdgmjakfaaGreatDoorMJ06
import Derived.Test.YtdblegdgmjakfaaGreatDoorMJ01
import Derived.Test.YtdblegdgmjakfaaGreatDoorMJ16
import Derived.Test.YtdblegdgmjakfaaGreatDoorMJ15
import Derived.Deep.RegionHeld3
import Derived.Deep.DeepCutAuto
namespace Go.Proofs.YtdblegdgmjakfaaGreatDoor
open Go.ChangeShapes Go.WideShapes Go.ChangeAt Go.RowKit
set_option linter.unusedVariables false
set_option linter.unusedSimpArgs false

/- store.answer. -/

/-- What a call tells: a reply with hits, the store behind it. -/
def AnsPost (O : Nat → Prop) (w : World) (B : Nat) (A : StoreR × Int × Int × List HitR) (e : Ending) (w' : World) : Prop := ∃ hv, e = .returned (.agg #[.int .i64 A.2.1, .int .i64 A.2.2.1, hv]) ∧ OwnH w.heap.size w' hv A.2.2.2 ∧ StPost O w B A.1 w'
theorem StAt.flush {O : Nat → Prop} {w : World} {B : Nat} {s : StoreR} {iv : Value} {pa : Option Addr} {pc : Nat} {Op : Nat → Prop} (h : StAt O w B s iv pa pc Op) : StPost O w B (flushN s) ((w.setCell ⟨B, 8, none⟩ (.slice none 0 0)).setCell ⟨B, 11, none⟩ (.slice none 0 0)) := by
 refine ⟨⟨O, ⟨.slice none 0 0, none, 0, fun _ => False, ?_⟩, fun b hb => Or.inl hb⟩, ((Fr.refl O w).set 8 _ (Or.inl h.boxO)).set 11 _ (Or.inl h.boxO)⟩
 exact { box := (h.box.set 8 _).set 11 _, row := ⟨rfl, Or.inl ⟨rfl, rfl⟩⟩, pages := (fun w2 _ _ => pages_none w2 none), apart := (fun b hb => hb.elim), rowO := (fun g hg => nomatch hg), boxO := h.boxO, lt := (fun b hb => by have := h.lt b hb; simpa [World.setCell] using this) }
theorem OwnH.set {n : Nat} {w : World} {v : Value} {l : List HitR} (h : OwnH n w v l) {b : Nat} (hb : b < n) (j : Nat) (x : Value) : OwnH n (w.setCell ⟨b, j, none⟩ x) v l := h.kept fun g hg => heap_setCell_other _ _ _ _ (show g ≠ b by have := (h.lt hg).1; omega)
theorem OwnH.base {n m : Nat} {w : World} {v : Value} {l : List HitR} (h : OwnH n w v l) (hm : m ≤ n) : OwnH m w v l := World.ownsRow.mono h hm

set_option maxHeartbeats 40000000 in
set_option maxRecDepth 100000 in
theorem ans_get (O : Nat → Prop) (s : StoreR) (B : Nat) (q : RqR) (ka : Option Addr) (kc : Nat) (w : World) (h : StO O w B s) (hk : q.kind = 1) (hG : ∀ k, k ≤ q.keys.length → Gd (getK s q.keys k).1) (hkl : q.keys.length ≤ 10) (hK : ∀ wx, Fr O w wx → StrsAt wx ka q.keys.length q.keys) :
 Calls Tryz.prog 36 #[.pointer (some ⟨B, 0, none⟩), .agg #[.int .i64 1, .string q.key, .slice ka q.keys.length kc, .int .i64 q.flags, .int .i64 q.exp, .int .i64 q.nn, .string q.value, .bool q.quiet]] w (AnsPost O w B ((getK s q.keys q.keys.length).1, 1, 0, (getK s q.keys q.keys.length).2)) := by
 have hk1 : Hid (q.kind = 1) := hk
 clear hk
 have hlt : ∀ x, O x → x < w.heap.size := by
  obtain ⟨iv, pa, pc, Op, h⟩ := h
  exact h.lt
 have T0 := (TB.new 47 w #[.int .i64 1, .string q.key, .slice ka q.keys.length kc, .int .i64 q.flags, .int .i64 q.exp, .int .i64 q.nn, .string q.value, .bool q.quiet]).alloc (.cells #[.int .i64 0, .int .i64 0, .slice none 0 0] 42)
 have T1 : TB 42 _ (w.heap.size + 1) #[.int .i64 0, .int .i64 0, .slice none 0 0] := TB.new2 (w := w.alloc (.cells #[.int .i64 1, .string q.key, .slice ka q.keys.length kc, .int .i64 q.flags, .int .i64 q.exp, .int .i64 q.nn, .string q.value, .bool q.quiet] 47)) (by simp)
 have A2 : Below w.heap.size w ((w.alloc (.cells #[.int .i64 1, .string q.key, .slice ka q.keys.length kc, .int .i64 q.flags, .int .i64 q.exp, .int .i64 q.nn, .string q.value, .bool q.quiet] 47)).alloc (.cells #[.int .i64 0, .int .i64 0, .slice none 0 0] 42)) := below_al (below_al (Below.refl _ _) _) _
 have hno0 : ¬ O w.heap.size := fun e => by have := hlt _ e; omega
 have hno1 : ¬ O (w.heap.size + 1) := fun e => by have := hlt _ e; omega
 go_enter Tryz.func36, Tryz.ntmps36
 go_wp2_with fail
 generalize hW2 : ((w.alloc (.cells #[.int .i64 1, .string q.key, .slice ka q.keys.length kc, .int .i64 q.flags, .int .i64 q.exp, .int .i64 q.nn, .string q.value, .bool q.quiet] 47)).alloc (.cells #[.int .i64 0, .int .i64 0, .slice none 0 0] 42)) = W2 at *
 clear hW2
 have x0 := fun j => T0.cell j
 have l0 := T0.lt
 have HL1 : Hid (w.heap.size + 1 < W2.heap.size) := T1.lt
 refine (get_any O s B ka kc q.keys W2 (h.later A2) hG hkl (fun wx hx => hK wx ((Fr.of_below A2).trans hx (fun b hb => Or.inl hb)))).mono ?_
 rintro e wj ⟨hv, rfl, hO, hbj⟩
 generalize getK s q.keys q.keys.length = A at *
 obtain ⟨ha, hc, rfl⟩ := hO.form
 have hQ : Hid (StQ O w W2 B A.1 wj) := StQ.of A2 hbj
 have HO : Hid (OwnH W2.heap.size wj (.slice ha A.2.length hc) A.2) := hO
 have V1 := hbj.2.tb T1 hno1
 have x1 := fun j => V1.cell j
 have z1 := fun j => V1.frozen j
 have l1 := V1.lt
 go_wp2_with fail
 refine bodyPost_ret (v := .agg #[.int .i64 1, .int .i64 0, .slice ha A.2.length hc]) (by simp [results, Tryz.results36, go_sem, x1, l1]) rfl ⟨_, rfl, OwnH.base (OwnH.set (OwnH.set (OwnH.set HO.out HL1.out 0 _) HL1.out 1 _) HL1.out 2 _) A2.size, ?_⟩
 exact StQ.post (StQ.set (StQ.set (StQ.set (O := O) (w0 := w) (B := B) hQ.out (by omega) HL1.out hlt 0 _) (by omega) HL1.out hlt 1 _) (by omega) HL1.out hlt 2 _) A2.size

set_option maxHeartbeats 40000000 in
set_option maxRecDepth 100000 in
theorem ans_bad (O : Nat → Prop) (s : StoreR) (B : Nat) (q : RqR) (ka : Option Addr) (kc : Nat) (w : World) (h : StO O w B s) (hk : q.kind = 13) :
 Calls Tryz.prog 36 #[.pointer (some ⟨B, 0, none⟩), .agg #[.int .i64 13, .string q.key, .slice ka q.keys.length kc, .int .i64 q.flags, .int .i64 q.exp, .int .i64 q.nn, .string q.value, .bool q.quiet]] w (AnsPost O w B (s, 10, 0, [])) := by
 have hk1 : Hid (q.kind = 13) := hk
 clear hk
 have htl := told_any 10
 unfold replyV at htl
 have hlt : ∀ x, O x → x < w.heap.size := by
  obtain ⟨iv, pa, pc, Op, h⟩ := h
  exact h.lt
 have T0 := (TB.new 47 w #[.int .i64 13, .string q.key, .slice ka q.keys.length kc, .int .i64 q.flags, .int .i64 q.exp, .int .i64 q.nn, .string q.value, .bool q.quiet]).alloc (.cells #[.int .i64 0, .int .i64 0, .slice none 0 0] 42)
 have T1 : TB 42 _ (w.heap.size + 1) #[.int .i64 0, .int .i64 0, .slice none 0 0] := TB.new2 (w := w.alloc (.cells #[.int .i64 13, .string q.key, .slice ka q.keys.length kc, .int .i64 q.flags, .int .i64 q.exp, .int .i64 q.nn, .string q.value, .bool q.quiet] 47)) (by simp)
 have A2 : Below w.heap.size w ((w.alloc (.cells #[.int .i64 13, .string q.key, .slice ka q.keys.length kc, .int .i64 q.flags, .int .i64 q.exp, .int .i64 q.nn, .string q.value, .bool q.quiet] 47)).alloc (.cells #[.int .i64 0, .int .i64 0, .slice none 0 0] 42)) := below_al (below_al (Below.refl _ _) _) _
 have hno0 : ¬ O w.heap.size := fun e => by have := hlt _ e; omega
 have hno1 : ¬ O (w.heap.size + 1) := fun e => by have := hlt _ e; omega
 go_enter Tryz.func36, Tryz.ntmps36
 go_wp2_with fail
 generalize hW2 : ((w.alloc (.cells #[.int .i64 13, .string q.key, .slice ka q.keys.length kc, .int .i64 q.flags, .int .i64 q.exp, .int .i64 q.nn, .string q.value, .bool q.quiet] 47)).alloc (.cells #[.int .i64 0, .int .i64 0, .slice none 0 0] 42)) = W2 at *
 clear hW2
 have x0 := fun j => T0.cell j
 have l0 := T0.lt
 have HL1 : Hid (w.heap.size + 1 < W2.heap.size) := T1.lt
 refine (htl _).mono ?_
 rintro e wj ⟨rfl, hbj⟩
 have hQ : Hid (StQ O w W2 B s wj) := StQ.later (StQ.of A2 (StPost.same (h.later A2) (Below.refl _ _))) A2.size hbj
 have V1 := T1.later hbj
 have x1 := fun j => V1.cell j
 have z1 := fun j => V1.frozen j
 have l1 := V1.lt
 go_wp2_with fail
 refine bodyPost_ret (v := .agg #[.int .i64 10, .int .i64 0, .slice none 0 0]) (by simp [results, Tryz.results36, go_sem, x1, l1]) rfl ⟨_, rfl, OwnH.nil _ _, ?_⟩
 exact StQ.post (StQ.set (StQ.set (StQ.set (O := O) (w0 := w) (B := B) hQ.out (by omega) HL1.out hlt 0 _) (by omega) HL1.out hlt 1 _) (by omega) HL1.out hlt 2 _) A2.size

set_option maxHeartbeats 40000000 in
set_option maxRecDepth 100000 in
theorem ans_flush (O : Nat → Prop) (s : StoreR) (B : Nat) (q : RqR) (ka : Option Addr) (kc : Nat) (w : World) (h : StO O w B s) (hk : q.kind = 12) :
 Calls Tryz.prog 36 #[.pointer (some ⟨B, 0, none⟩), .agg #[.int .i64 12, .string q.key, .slice ka q.keys.length kc, .int .i64 q.flags, .int .i64 q.exp, .int .i64 q.nn, .string q.value, .bool q.quiet]] w (AnsPost O w B (flushN s, 9, 0, [])) := by
 have hk1 : Hid (q.kind = 12) := hk
 clear hk
 have htl := told_any 9
 unfold replyV at htl
 have hlt : ∀ x, O x → x < w.heap.size := by
  obtain ⟨iv, pa, pc, Op, h⟩ := h
  exact h.lt
 have T0 := (TB.new 47 w #[.int .i64 12, .string q.key, .slice ka q.keys.length kc, .int .i64 q.flags, .int .i64 q.exp, .int .i64 q.nn, .string q.value, .bool q.quiet]).alloc (.cells #[.int .i64 0, .int .i64 0, .slice none 0 0] 42)
 have T1 : TB 42 _ (w.heap.size + 1) #[.int .i64 0, .int .i64 0, .slice none 0 0] := TB.new2 (w := w.alloc (.cells #[.int .i64 12, .string q.key, .slice ka q.keys.length kc, .int .i64 q.flags, .int .i64 q.exp, .int .i64 q.nn, .string q.value, .bool q.quiet] 47)) (by simp)
 have A2 : Below w.heap.size w ((w.alloc (.cells #[.int .i64 12, .string q.key, .slice ka q.keys.length kc, .int .i64 q.flags, .int .i64 q.exp, .int .i64 q.nn, .string q.value, .bool q.quiet] 47)).alloc (.cells #[.int .i64 0, .int .i64 0, .slice none 0 0] 42)) := below_al (below_al (Below.refl _ _) _) _
 have hno0 : ¬ O w.heap.size := fun e => by have := hlt _ e; omega
 have hno1 : ¬ O (w.heap.size + 1) := fun e => by have := hlt _ e; omega
 obtain ⟨iv, pa, pc, Op, k1⟩ := h.later A2
 have yB := fun j => k1.box.cell j
 have zB := fun j => k1.box.frozen j
 have lB := k1.box.lt
 have kF := k1.flush
 unfold stCells at yB
 go_enter Tryz.func36, Tryz.ntmps36
 go_wp2_with fail
 generalize hW2 : ((w.alloc (.cells #[.int .i64 12, .string q.key, .slice ka q.keys.length kc, .int .i64 q.flags, .int .i64 q.exp, .int .i64 q.nn, .string q.value, .bool q.quiet] 47)).alloc (.cells #[.int .i64 0, .int .i64 0, .slice none 0 0] 42)) = W2 at *
 clear hW2
 have x0 := fun j => T0.cell j
 have l0 := T0.lt
 have HL1 : Hid (w.heap.size + 1 < W2.heap.size) := T1.lt
 refine (htl _).mono ?_
 rintro e wj ⟨rfl, hbj⟩
 have hQ : Hid (StQ O w W2 B (flushN s) wj) := StQ.later (StQ.of A2 kF) A2.size hbj
 have V1 := ((T1.far ⟨B, 8, none⟩ _ (fun e => hno1 (e ▸ k1.boxO))).far ⟨B, 11, none⟩ _ (fun e => hno1 (e ▸ k1.boxO))).later hbj
 have x1 := fun j => V1.cell j
 have z1 := fun j => V1.frozen j
 have l1 := V1.lt
 go_wp2_with fail
 refine bodyPost_ret (v := .agg #[.int .i64 9, .int .i64 0, .slice none 0 0]) (by simp [results, Tryz.results36, go_sem, x1, l1]) rfl ⟨_, rfl, OwnH.nil _ _, ?_⟩
 exact StQ.post (StQ.set (StQ.set (StQ.set (O := O) (w0 := w) (B := B) hQ.out (by omega) HL1.out hlt 0 _) (by omega) HL1.out hlt 1 _) (by omega) HL1.out hlt 2 _) A2.size

set_option maxHeartbeats 40000000 in
set_option maxRecDepth 100000 in
theorem ans_one (O : Nat → Prop) (s : StoreR) (B : Nat) (q : RqR) (ka : Option Addr) (kc : Nat) (w : World) (h : StO O w B s) (h1 : (q.kind == 1) = false) (h12 : (q.kind == 12) = false) (h13 : (q.kind == 13) = false) (K N : Int) (F2 : StoreR) (hj : Calls Tryz.prog 59 #[.pointer (some ⟨B, 0, none⟩), .agg #[.int .i64 q.kind, .string q.key, .slice ka q.keys.length kc, .int .i64 q.flags, .int .i64 q.exp, .int .i64 q.nn, .string q.value, .bool q.quiet]] ((w.alloc (.cells #[.int .i64 q.kind, .string q.key, .slice ka q.keys.length kc, .int .i64 q.flags, .int .i64 q.exp, .int .i64 q.nn, .string q.value, .bool q.quiet] 47)).alloc (.cells #[.int .i64 0, .int .i64 0, .slice none 0 0] 42)) fun e w' => e = .returned (replyV K N) ∧ StPost O ((w.alloc (.cells #[.int .i64 q.kind, .string q.key, .slice ka q.keys.length kc, .int .i64 q.flags, .int .i64 q.exp, .int .i64 q.nn, .string q.value, .bool q.quiet] 47)).alloc (.cells #[.int .i64 0, .int .i64 0, .slice none 0 0] 42)) B F2 w') :
 Calls Tryz.prog 36 #[.pointer (some ⟨B, 0, none⟩), .agg #[.int .i64 q.kind, .string q.key, .slice ka q.keys.length kc, .int .i64 q.flags, .int .i64 q.exp, .int .i64 q.nn, .string q.value, .bool q.quiet]] w (AnsPost O w B (F2, K, N, [])) := by
 unfold replyV at hj
 have hlt : ∀ x, O x → x < w.heap.size := by
  obtain ⟨iv, pa, pc, Op, h⟩ := h
  exact h.lt
 have T0 := (TB.new 47 w #[.int .i64 q.kind, .string q.key, .slice ka q.keys.length kc, .int .i64 q.flags, .int .i64 q.exp, .int .i64 q.nn, .string q.value, .bool q.quiet]).alloc (.cells #[.int .i64 0, .int .i64 0, .slice none 0 0] 42)
 have T1 : TB 42 _ (w.heap.size + 1) #[.int .i64 0, .int .i64 0, .slice none 0 0] := TB.new2 (w := w.alloc (.cells #[.int .i64 q.kind, .string q.key, .slice ka q.keys.length kc, .int .i64 q.flags, .int .i64 q.exp, .int .i64 q.nn, .string q.value, .bool q.quiet] 47)) (by simp)
 have A2 : Below w.heap.size w ((w.alloc (.cells #[.int .i64 q.kind, .string q.key, .slice ka q.keys.length kc, .int .i64 q.flags, .int .i64 q.exp, .int .i64 q.nn, .string q.value, .bool q.quiet] 47)).alloc (.cells #[.int .i64 0, .int .i64 0, .slice none 0 0] 42)) := below_al (below_al (Below.refl _ _) _) _
 have hno0 : ¬ O w.heap.size := fun e => by have := hlt _ e; omega
 have hno1 : ¬ O (w.heap.size + 1) := fun e => by have := hlt _ e; omega
 go_enter Tryz.func36, Tryz.ntmps36
 go_wp2_with fail
 generalize hW2 : ((w.alloc (.cells #[.int .i64 q.kind, .string q.key, .slice ka q.keys.length kc, .int .i64 q.flags, .int .i64 q.exp, .int .i64 q.nn, .string q.value, .bool q.quiet] 47)).alloc (.cells #[.int .i64 0, .int .i64 0, .slice none 0 0] 42)) = W2 at *
 clear hW2
 have x0 := fun j => T0.cell j
 have l0 := T0.lt
 have HL1 : Hid (w.heap.size + 1 < W2.heap.size) := T1.lt
 refine hj.mono ?_
 rintro e wj ⟨rfl, hbj⟩
 have hQ : Hid (StQ O w W2 B F2 wj) := StQ.of A2 hbj
 have V1 := hbj.2.tb T1 hno1
 have x1 := fun j => V1.cell j
 have z1 := fun j => V1.frozen j
 have l1 := V1.lt
 go_wp2_with fail
 refine bodyPost_ret (v := .agg #[.int .i64 K, .int .i64 N, .slice none 0 0]) (by simp [results, Tryz.results36, go_sem, x1, l1]) rfl ⟨_, rfl, OwnH.nil _ _, ?_⟩
 exact StQ.post (StQ.set (StQ.set (StQ.set (O := O) (w0 := w) (B := B) hQ.out (by omega) HL1.out hlt 0 _) (by omega) HL1.out hlt 1 _) (by omega) HL1.out hlt 2 _) A2.size

theorem answer_any (O : Nat → Prop) (s : StoreR) (B : Nat) (q : RqR) (ka : Option Addr) (kc : Nat) (w : World) (h : StO O w B s) (hg : Gd s) (hq : q.kind ≠ 1 → q.kind ≠ 12 → q.kind ≠ 13 → QOk q) (hkl : q.kind = 1 → q.keys.length ≤ 10) (hus : s.uses ≤ 1099511627766) (hL : LaidC w) (hO : ¬ O 0) (hI : ItoaAt O w) (hK : ∀ wx, Fr O w wx → StrsAt wx ka q.keys.length q.keys) :
 Calls Tryz.prog 36 #[.pointer (some ⟨B, 0, none⟩), .agg #[.int .i64 q.kind, .string q.key, .slice ka q.keys.length kc, .int .i64 q.flags, .int .i64 q.exp, .int .i64 q.nn, .string q.value, .bool q.quiet]] w (AnsPost O w B (ansN s q)) := by
 unfold ansN
 by_cases h1 : q.kind = 1
 · rw [if_pos h1, h1]
   exact ans_get O s B q ka kc w h h1 (fun k hk => (getK_gd hg q.keys k (by have := hkl h1; omega)).1) (hkl h1) hK
 rw [if_neg h1]
 by_cases h12 : q.kind = 12
 · rw [if_pos h12, h12]
   exact ans_flush O s B q ka kc w h h12
 rw [if_neg h12]
 by_cases h13 : q.kind = 13
 · rw [if_pos h13, h13]
   exact ans_bad O s B q ka kc w h h13
 rw [if_neg h13]
 have hb : Below w.heap.size w ((w.alloc (.cells #[.int .i64 q.kind, .string q.key, .slice ka q.keys.length kc, .int .i64 q.flags, .int .i64 q.exp, .int .i64 q.nn, .string q.value, .bool q.quiet] 47)).alloc (.cells #[.int .i64 0, .int .i64 0, .slice none 0 0] 42)) := below_al (below_al (Below.refl _ _) _) _
 exact ans_one O s B q ka kc w h (by simp [h1]) (by simp [h12]) (by simp [h13]) _ _ _ (one_any O s B q ka q.keys.length kc _ (h.later hb) hg (hq h1 h12 h13) (by omega) (hL.later hb) hO (fun n wx hx => hI n wx ((Fr.of_below hb).trans hx (fun b hb => Or.inl hb))))

/- The contract of store.Copy: the same store, in memory of its own. -/

theorem clone_any (s : ByteArray) (w : World) (h : s.size ≤ 281474976710656) : Calls Tryz.prog 55 #[.string s] w fun e w' => e = .returned (.string s) ∧ Below w.heap.size w w' := by
 have hc := Tryz.stringslite_Clone s w h
 go_enter Tryz.func55, Tryz.ntmps55
 go_wp2_with (go_at_call 79; refine hc.mono ?_; rintro e w' ⟨rfl, hb⟩)
 go_ret
 exact ⟨rfl, hb⟩

def SCopR (l : List ItemR) (W : World) (H k : Nat) (wr : World) : Prop :=
 ∃ cur : Array Value, wr.heap[H]? = some (.cells cur 62 (0, 0)) ∧ cur.size = l.length * 9 ∧ Below H W wr ∧ RowI l k cur

theorem SCopR.later {l : List ItemR} {W w w' : World} {H k : Nat} (h : SCopR l W H k w) (hH : H < w.heap.size) (hb : Below w.heap.size w w') : SCopR l W H k w' := by
 obtain ⟨cur, h1, h2, h3, h4⟩ := h
 exact ⟨cur, by rw [hb.block H hH]; exact h1, h2, h3.trans (hb.mono (by omega)), h4⟩

theorem SCopR.step {l : List ItemR} {W w2 : World} {H k : Nat} {cur : Array Value} (hlt : k < l.length) (hcur : w2.heap[H]? = some (.cells cur 62 (0, 0))) (hcs : cur.size = l.length * 9) (hb : Below H W w2) (hP : RowI l k cur) (it : ItemR) (hit : l.getD k default = it) :
 SCopR l W H (k + 1) (set9 w2 H k it) := by
 unfold set9
 refine ⟨((((((((cur.setIfInBounds (k * 9) (.string it.key)).setIfInBounds (k * 9 + 1) (.int .i64 it.flags)).setIfInBounds (k * 9 + 2) (.int .i64 it.until_)).setIfInBounds (k * 9 + 3) (.int .i64 it.cas)).setIfInBounds (k * 9 + 4) (.int .i64 it.used)).setIfInBounds (k * 9 + 5) (.string it.value)).setIfInBounds (k * 9 + 6) (.bool it.far)).setIfInBounds (k * 9 + 7) (.int .i64 it.page)).setIfInBounds (k * 9 + 8) (.int .i64 it.at_), ?_, by simp [hcs], ?_, ?_⟩
 · exact heap_setCell_same _ H _ _ 62 _ (heap_setCell_same _ H _ _ 62 _ (heap_setCell_same _ H _ _ 62 _ (heap_setCell_same _ H _ _ 62 _ (heap_setCell_same _ H _ _ 62 _ (heap_setCell_same _ H _ _ 62 _ (heap_setCell_same _ H _ _ 62 _ (heap_setCell_same _ H _ _ 62 _ (heap_setCell_same _ H _ _ 62 _ hcur))))))))
 · exact ((((((((hb.setCell (Nat.le_refl _) _).setCell (Nat.le_refl _) _).setCell (Nat.le_refl _) _).setCell (Nat.le_refl _) _).setCell (Nat.le_refl _) _).setCell (Nat.le_refl _) _).setCell (Nat.le_refl _) _).setCell (Nat.le_refl _) _).setCell (Nat.le_refl _) _
 · intro j hj
   by_cases hjk : j = k
   · subst hjk
     rw [hit]
     refine ⟨?_, ?_, ?_, ?_, ?_, ?_, ?_, ?_, ?_⟩ <;> (repeat (first | rw [Array.getElem?_setIfInBounds_self_of_lt (by first | omega | (simp; omega))] | rw [Array.getElem?_setIfInBounds_ne (by omega)]))
   · obtain ⟨e0, e1, e2, e3, e4, e5, e6, e7, e8⟩ := hP j (by omega)
     refine ⟨?_, ?_, ?_, ?_, ?_, ?_, ?_, ?_, ?_⟩ <;> (iterate 9 rw [Array.getElem?_setIfInBounds_ne (by omega)]) <;> assumption

/- The walk of store.Copy: what it makes lies in rows of its own. -/

/-- The copy: its rows in new blocks, apart from each other. -/
def SCopyPost3 (s : StoreR) (w : World) (e : Ending) (w' : World) : Prop := ∃ g pa pc n1, e = .returned (storeV s (some ⟨g, 0, none⟩) s.items.length pa pc) ∧ Below w.heap.size w w' ∧ w.heap.size ≤ g ∧ g < n1 ∧ n1 ≤ w'.heap.size ∧ RowIt w' (.slice (some ⟨g, 0, none⟩) s.items.length s.items.length) s.items ∧ PgIn (fun b => n1 ≤ b ∧ b < w'.heap.size) w' pa s.pages

set_option maxHeartbeats 4000000 in
set_option maxRecDepth 100000 in
theorem scopy_st (s : StoreR) (ia : Option Addr) (ic : Nat) (pa : Option Addr) (pc : Nat) (w : World) (hS : StoreIn w s ia pa) (hn : s.items.length * 88 ≤ 140737488351232) (hks : ∀ j, j < s.items.length → (s.items.getD j default).key.size ≤ 281474976710656 ∧ (s.items.getD j default).value.size ≤ 281474976710656)
 (hpn : s.pages.length * 32 ≤ 140737488351232) (hbs : ∀ j, j < s.pages.length → (s.pages.getD j default).bs.length ≤ 140737488351232) :
 Calls Tryz.prog 35 #[storeV s ia ic pa pc] w (SCopyPost3 s w) := by
 obtain ⟨⟨hmax, hmm⟩, hP⟩ := hS
 have hfc := fun w1 hb => copy_own s.fm s.fx s.pages pa pc w1 (hP.later hb) hpn hbs
 obtain ⟨i0, hi, iz0, iz1, iz2⟩ := info_parts infoItem
 unfold maxLen at hmax
 obtain ⟨clock, scas, uses, most, h0, h1, h2, h3, items, fm, fx, pages⟩ := s
 unfold storeV
 simp only at *
 go_enter Tryz.func35, Tryz.ntmps35
 go_wp2_with (refine wpList_make_full _ rfl (.tmp 8) (.tmp 8) 24 rfl w.heap.size 62 i0 (.agg #[.string ByteArray.empty, .int .i64 0, .int .i64 0, .int .i64 0, .int .i64 0, .string ByteArray.empty, .bool false, .int .i64 0, .int .i64 0]) 9 Tryz.underlying24 hi iz0 iz1 .i64 .i64 _ _ items.length rfl rfl rfl rfl (by rw [iz2]; omega) (by unfold maxLen; omega) (by simp; omega) ?_; intro w1 hO hg; obtain ⟨p1, p2⟩ := bcell (made_keeps hg); have hy1 := (made_keeps hg).size; have hy2 : w.heap.size < w1.heap.size := Nat.lt_of_lt_of_le (by simp; omega) hy1; have hy3 : w.heap.size + 1 < w1.heap.size := Nat.lt_of_lt_of_le (by simp) hy1)
 have hK := made_keeps hg
 have hrow : ∃ cur : Array Value, w1.heap[w.heap.size + 1 + 1]? = some (.cells cur 62 (0, 0)) ∧ cur.size = items.length * 9 := by
  rcases hO.2 with ⟨h0, _⟩ | ⟨g, cap, cur, hv, _, hcur, _, _, hcs, _⟩
  · simp at h0
  · simp at hv
    obtain ⟨rfl, rfl⟩ := hv
    exact ⟨cur, by simpa using hcur, hcs⟩
 have hWb : Below w.heap.size w w1 := (((Below.refl w.heap.size w).alloc (Nat.le_refl _) _).alloc (by simp) _).trans (hK.mono (by simp; omega))
 obtain ⟨cur0, hc0, hs0⟩ := hrow
 have hHlt : w.heap.size + 1 + 1 < w1.heap.size := by
  rcases Nat.lt_or_ge (w.heap.size + 1 + 1) w1.heap.size with h | h
  · exact h
  · rw [Array.getElem?_eq_none h] at hc0; cases hc0
 clear hO hg hK iz0 iz1 iz2 hi
 go_loopw [13] (fun i wr => ∃ k : Nat, k ≤ items.length ∧ i = .int .i64 k ∧ SCopR items w1 (w.heap.size + 1 + 1) k wr) (fun i _ => items.length - (intOf i).toNat)
 case atStart => exact ⟨0, Nat.zero_le _, rfl, cur0, hc0, hs0, Below.refl _ _, fun j hj => absurd hj (Nat.not_lt_zero j)⟩
 case round =>
  obtain ⟨k, hk, rfl, cur, hcur, hcs, hb, hP9⟩ := hrel
  have hbw : Below w.heap.size w wr := hWb.trans (hb.mono (by omega))
  by_cases hlt : k < items.length
  · have hltz : (k : Int) < (items.length : Int) := by omega
    have hk0 : (0 : Int) ≤ (k : Int) := Int.natCast_nonneg _
    rcases hmm with hmm | ⟨b, o, rfl, hbl, hc⟩
    · omega
    obtain ⟨n0, n1, n2, n3, n4, n5, n6, n7, n8⟩ := (hc k hlt).later hbl hbw
    obtain ⟨z1, z2⟩ := hks k hlt
    have hl2 : b < wr.heap.size := Nat.lt_of_lt_of_le hbl hbw.size
    have hHr : w.heap.size + 1 + 1 < wr.heap.size := Nat.lt_of_lt_of_le hHlt hb.size
    clear hc hks
    generalize hit : items.getD k default = it at *
    obtain ⟨key, flags, until_, cas, used, value, far, page, at_⟩ := it
    simp only at *
    have hA1 : Below wr.heap.size wr (wr.alloc (.cells #[.string key, .int .i64 flags, .int .i64 until_, .int .i64 cas, .int .i64 used, .string value, .bool far, .int .i64 page, .int .i64 at_] 62)) := (Below.refl _ _).alloc (Nat.le_refl _) _
    have bx : ∀ wx, Below (wr.alloc (.cells #[.string key, .int .i64 flags, .int .i64 until_, .int .i64 cas, .int .i64 used, .string value, .bool far, .int .i64 page, .int .i64 at_] 62)).heap.size (wr.alloc (.cells #[.string key, .int .i64 flags, .int .i64 until_, .int .i64 cas, .int .i64 used, .string value, .bool far, .int .i64 page, .int .i64 at_] 62)) wx → ∀ j, wx.cell? ⟨wr.heap.size, j, none⟩ = (#[.string key, .int .i64 flags, .int .i64 until_, .int .i64 cas, .int .i64 used, .string value, .bool far, .int .i64 page, .int .i64 at_] : Array Value)[j]? := fun wx hx j => by rw [hx.cell (p := ⟨wr.heap.size, j, none⟩) (by simp)]; simp [go_sem]
    have bf : ∀ wx, Below (wr.alloc (.cells #[.string key, .int .i64 flags, .int .i64 until_, .int .i64 cas, .int .i64 used, .string value, .bool far, .int .i64 page, .int .i64 at_] 62)).heap.size (wr.alloc (.cells #[.string key, .int .i64 flags, .int .i64 until_, .int .i64 cas, .int .i64 used, .string value, .bool far, .int .i64 page, .int .i64 at_] 62)) wx → ∀ j, wx.frozen? ⟨wr.heap.size, j, none⟩ = false := fun wx hx j => by rw [hx.frozen (p := ⟨wr.heap.size, j, none⟩) (by simp)]; simp [go_sem]
    have hWd := (Below.refl (wr.alloc (.cells #[.string key, .int .i64 flags, .int .i64 until_, .int .i64 cas, .int .i64 used, .string value, .bool far, .int .i64 page, .int .i64 at_] 62)).heap.size (wr.alloc (.cells #[.string key, .int .i64 flags, .int .i64 until_, .int .i64 cas, .int .i64 used, .string value, .bool far, .int .i64 page, .int .i64 at_] 62))).drew
    have hcl1 := fun w2 (hB : Below (wr.alloc (.cells #[.string key, .int .i64 flags, .int .i64 until_, .int .i64 cas, .int .i64 used, .string value, .bool far, .int .i64 page, .int .i64 at_] 62)).heap.size (wr.alloc (.cells #[.string key, .int .i64 flags, .int .i64 until_, .int .i64 cas, .int .i64 used, .string value, .bool far, .int .i64 page, .int .i64 at_] 62)) w2) => (clone_any key w2 z1).mono fun e w' (h : _ ∧ _) => (⟨h.1, hB.trans (h.2.mono hB.size)⟩ : e = .returned (.string key) ∧ Below (wr.alloc (.cells #[.string key, .int .i64 flags, .int .i64 until_, .int .i64 cas, .int .i64 used, .string value, .bool far, .int .i64 page, .int .i64 at_] 62)).heap.size (wr.alloc (.cells #[.string key, .int .i64 flags, .int .i64 until_, .int .i64 cas, .int .i64 used, .string value, .bool far, .int .i64 page, .int .i64 at_] 62)) w')
    have hcl2 := fun w2 (hB : Below (wr.alloc (.cells #[.string key, .int .i64 flags, .int .i64 until_, .int .i64 cas, .int .i64 used, .string value, .bool far, .int .i64 page, .int .i64 at_] 62)).heap.size (wr.alloc (.cells #[.string key, .int .i64 flags, .int .i64 until_, .int .i64 cas, .int .i64 used, .string value, .bool far, .int .i64 page, .int .i64 at_] 62)) w2) => (clone_any value w2 z2).mono fun e w' (h : _ ∧ _) => (⟨h.1, hB.trans (h.2.mono hB.size)⟩ : e = .returned (.string value) ∧ Below (wr.alloc (.cells #[.string key, .int .i64 flags, .int .i64 until_, .int .i64 cas, .int .i64 used, .string value, .bool far, .int .i64 page, .int .i64 at_] 62)).heap.size (wr.alloc (.cells #[.string key, .int .i64 flags, .int .i64 until_, .int .i64 cas, .int .i64 used, .string value, .bool far, .int .i64 page, .int .i64 at_] 62)) w')
    go_wp2_with fail
    go_region_held3 (fun w' => w'.cell? ⟨wr.heap.size, 0, none⟩ = some (.string key) ∧ w'.cell? ⟨wr.heap.size, 5, none⟩ = some (.string value))
     (first | exact ⟨bx _ hWd 0, bx _ hWd 5⟩ | exact ⟨bx _ hWa 0, bx _ hWa 5⟩ | exact ⟨bx _ hWb2 0, bx _ hWb2 5⟩ | exact ⟨by simp [go_sem, bx _ hWb2], by simp [go_sem, bx _ hWb2]⟩)
     (first
       | (go_at_call_of 55 (Value.string key); refine (hcl1 _ hWd).mono ?_; rintro e wa ⟨rfl, hWa⟩)
       | (go_at_call_of 55 (Value.string value); refine (hcl2 _ hWa).mono ?_; rintro e wb ⟨rfl, hWb2⟩; have bcl := bx _ hWb2; have bfr := bf _ hWb2; have hzb : wr.heap.size < wb.heap.size := bsize hWb2))
    have hBb : Below wr.heap.size wr wb := hA1.trans (hWb2.mono (by simp))
    have hcb : wb.heap[w.heap.size + 1 + 1]? = some (.cells cur 62 (0, 0)) := by rw [hBb.block _ hHr]; exact hcur
    have hNe : wr.heap.size ≠ w.heap.size + 1 + 1 := by omega
    have hNe' : w.heap.size + 1 + 1 ≠ wr.heap.size := by omega
    have hHb : w.heap.size + 1 + 1 < wb.heap.size := Nat.lt_of_lt_of_le hHr hBb.size
    have ra : wb.cell? ⟨w.heap.size + 1 + 1, k * 9, none⟩ = some (cur[k * 9]'(by omega)) := by rw [cell_rowI hcb, Array.getElem?_eq_getElem]
    have r1 : wb.cell? ⟨w.heap.size + 1 + 1, k * 9 + 1, none⟩ = some (cur[k * 9 + 1]'(by omega)) := by rw [cell_rowI hcb, Array.getElem?_eq_getElem]
    have r2 : wb.cell? ⟨w.heap.size + 1 + 1, k * 9 + 2, none⟩ = some (cur[k * 9 + 2]'(by omega)) := by rw [cell_rowI hcb, Array.getElem?_eq_getElem]
    have r3 : wb.cell? ⟨w.heap.size + 1 + 1, k * 9 + 3, none⟩ = some (cur[k * 9 + 3]'(by omega)) := by rw [cell_rowI hcb, Array.getElem?_eq_getElem]
    have r4 : wb.cell? ⟨w.heap.size + 1 + 1, k * 9 + 4, none⟩ = some (cur[k * 9 + 4]'(by omega)) := by rw [cell_rowI hcb, Array.getElem?_eq_getElem]
    have r5 : wb.cell? ⟨w.heap.size + 1 + 1, k * 9 + 5, none⟩ = some (cur[k * 9 + 5]'(by omega)) := by rw [cell_rowI hcb, Array.getElem?_eq_getElem]
    have r6 : wb.cell? ⟨w.heap.size + 1 + 1, k * 9 + 6, none⟩ = some (cur[k * 9 + 6]'(by omega)) := by rw [cell_rowI hcb, Array.getElem?_eq_getElem]
    have r7 : wb.cell? ⟨w.heap.size + 1 + 1, k * 9 + 7, none⟩ = some (cur[k * 9 + 7]'(by omega)) := by rw [cell_rowI hcb, Array.getElem?_eq_getElem]
    have r8 : wb.cell? ⟨w.heap.size + 1 + 1, k * 9 + 8, none⟩ = some (cur[k * 9 + 8]'(by omega)) := by rw [cell_rowI hcb, Array.getElem?_eq_getElem]
    have fz : ∀ j, wb.frozen? ⟨w.heap.size + 1 + 1, j, none⟩ = false := fun j => frozen_of_row wb (w.heap.size + 1 + 1) j cur 62 hcb
    clear hcl1 hcl2 bx bf n0 n1 n2 n3 n4 n5 n6 n7 n8 hWa hWd
    have hX : SCopR items w1 (w.heap.size + 1 + 1) (k + 1) (set9 ((wb.setCell ⟨wr.heap.size, 0, none⟩ (.string key)).setCell ⟨wr.heap.size, 5, none⟩ (.string value)) (w.heap.size + 1 + 1) k ⟨key, flags, until_, cas, used, value, far, page, at_⟩) :=
     SCopR.step hlt (by rw [heap_setCell_other _ _ _ _ hNe', heap_setCell_other _ _ _ _ hNe']; exact hcb) hcs (((hb.trans (hBb.mono (by omega))).setCell (by show _ ≤ wr.heap.size; omega) _).setCell (by show _ ≤ wr.heap.size; omega) _) hP9 _ hit
    unfold set9 at hX
    simp only at hX
    go_wp2_with fail
    exact ⟨⟨k + 1, hlt, by simp, hX⟩, by simp [intOf]; omega⟩
  · have hke : k = items.length := by omega
    have hHr : w.heap.size + 1 + 1 < wr.heap.size := Nat.lt_of_lt_of_le hHlt hb.size
    have c0 : ∀ j, wr.cell? ⟨w.heap.size, j, none⟩ = (#[.int .i64 clock, .int .i64 scas, .int .i64 uses, .int .i64 most, .int .i64 h0, .int .i64 h1, .int .i64 h2, .int .i64 h3, .slice ia items.length ic, .int .i64 fm, .int .i64 fx, .slice pa pages.length pc] : Array Value)[j]? := fun j => by rw [hb.cell (p := ⟨w.heap.size, j, none⟩) (by simp; omega), p1 _ _ (by simp; omega)]; simp [go_sem]
    have d0 : ∀ j, wr.cell? ⟨w.heap.size + 1, j, none⟩ = (#[.int .i64 0, .int .i64 0, .int .i64 0, .int .i64 0, .int .i64 0, .int .i64 0, .int .i64 0, .int .i64 0, .slice none 0 0, .int .i64 0, .int .i64 0, .slice none 0 0] : Array Value)[j]? := fun j => by rw [hb.cell (p := ⟨w.heap.size + 1, j, none⟩) (by simp), p1 _ _ (by simp)]; simp [go_sem]
    have g0 : ∀ j, wr.frozen? ⟨w.heap.size, j, none⟩ = false := fun j => by rw [hb.frozen (p := ⟨w.heap.size, j, none⟩) (by simp; omega), p2 _ _ (by simp; omega)]; simp [go_sem]
    have g1 : ∀ j, wr.frozen? ⟨w.heap.size + 1, j, none⟩ = false := fun j => by rw [hb.frozen (p := ⟨w.heap.size + 1, j, none⟩) (by simp), p2 _ _ (by simp)]; simp [go_sem]
    have hz1 : w.heap.size < wr.heap.size := by omega
    have hz2 : w.heap.size + 1 < wr.heap.size := by omega
    subst hke
    have hlt2 : ¬ ((items.length : Int) < (items.length : Int)) := by omega
    have hmx : items.length ≤ maxLen := by unfold maxLen; exact hmax
    clear hlt hmm
    have hA1 : Below w.heap.size w (wr.setCell ⟨w.heap.size, 8, none⟩ (.slice (some ⟨w.heap.size + 1 + 1, 0, none⟩) items.length items.length)) := hbw.setCell (Nat.le_refl _) _
    go_wp2_with fail
    refine (hfc _ hA1).mono ?_
    rintro e w2 ⟨a', c', rfl, hPF, hb2⟩
    have hs2 : wr.heap.size ≤ w2.heap.size := by have := hb2.size; simpa [World.setCell] using this
    have e0 : ∀ j, w2.cell? ⟨w.heap.size, j, none⟩ = (#[.int .i64 clock, .int .i64 scas, .int .i64 uses, .int .i64 most, .int .i64 h0, .int .i64 h1, .int .i64 h2, .int .i64 h3, .slice (some ⟨w.heap.size + 1 + 1, 0, none⟩) items.length items.length, .int .i64 fm, .int .i64 fx, .slice pa pages.length pc] : Array Value)[j]? := fun j => by
     rw [hb2.cell (p := ⟨w.heap.size, j, none⟩) (by simp [World.setCell]; omega)]
     by_cases hj : j = 8
     · subst hj
       simp [go_sem, c0]
     · rw [World.cell?_setCell_other _ _ _ _ (by simp [hj] <;> omega), c0]
       match j, hj with
       | 0, _ | 1, _ | 2, _ | 3, _ | 4, _ | 5, _ | 6, _ | 7, _ | 9, _ | 10, _ | 11, _ => rfl
       | n + 12, _ => rfl
    have e1 : ∀ j, w2.cell? ⟨w.heap.size + 1, j, none⟩ = (#[.int .i64 0, .int .i64 0, .int .i64 0, .int .i64 0, .int .i64 0, .int .i64 0, .int .i64 0, .int .i64 0, .slice none 0 0, .int .i64 0, .int .i64 0, .slice none 0 0] : Array Value)[j]? := fun j => by
     rw [hb2.cell (p := ⟨w.heap.size + 1, j, none⟩) (by simp [World.setCell]; omega), World.cell?_setCell_far _ _ _ _ (by show w.heap.size ≠ w.heap.size + 1; omega), d0]
    have e2 : ∀ j, w2.frozen? ⟨w.heap.size, j, none⟩ = false := fun j => by
     rw [hb2.frozen (p := ⟨w.heap.size, j, none⟩) (by simp [World.setCell]; omega)]
     simp [go_sem, g0]
    have e3 : ∀ j, w2.frozen? ⟨w.heap.size + 1, j, none⟩ = false := fun j => by
     rw [hb2.frozen (p := ⟨w.heap.size + 1, j, none⟩) (by simp [World.setCell]; omega)]
     simp [go_sem, g1]
    have hy4 : w.heap.size < w2.heap.size := by omega
    have hy5 : w.heap.size + 1 < w2.heap.size := by omega
    have hcur2 : w2.heap[w.heap.size + 1 + 1]? = some (.cells cur 62 (0, 0)) := by
     rw [hb2.block _ (by simp [World.setCell]; omega), heap_setCell_other _ _ _ _ (show w.heap.size + 1 + 1 ≠ w.heap.size by omega)]
     exact hcur
    have hbw2 : Below w.heap.size w w2 := hA1.trans (hb2.mono (by simp [World.setCell]; omega))
    clear c0 d0 g0 g1 p1 p2 hfc hb2
    go_wp2_with fail
    refine bodyPost_ret (v := .agg #[.int .i64 clock, .int .i64 scas, .int .i64 uses, .int .i64 most, .int .i64 h0, .int .i64 h1, .int .i64 h2, .int .i64 h3, .slice (some ⟨w.heap.size + 1 + 1, 0, none⟩) items.length items.length, .int .i64 fm, .int .i64 fx, .slice a' pages.length c']) (by simp [results, Tryz.results35, go_sem, hy4, hy5, e0, e1]) rfl ⟨w.heap.size + 1 + 1, a', c', wr.heap.size, rfl, ?_, by omega, hHr, ?_, ?_, ?_⟩
    · exact (((((((((((((((hbw2.setCell (Nat.le_refl _) _).setCell (Nat.le_refl _) _).setCell (Nat.le_refl _) _).setCell (Nat.le_succ _) _).setCell (Nat.le_succ _) _).setCell (Nat.le_succ _) _).setCell (Nat.le_succ _) _).setCell (Nat.le_succ _) _).setCell (Nat.le_succ _) _).setCell (Nat.le_succ _) _).setCell (Nat.le_succ _) _).setCell (Nat.le_succ _) _).setCell (Nat.le_succ _) _).setCell (Nat.le_succ _) _).setCell (Nat.le_succ _) _)
    · simpa [World.setCell] using hs2
    · refine RowIt.of_cells (cur := cur) ?_ hcs (Nat.le_refl _) hmx fun q t hq h9 => ?_
      · iterate 12 rw [heap_setCell_other _ _ _ _ (show w.heap.size + 1 + 1 ≠ w.heap.size + 1 by omega)]
        iterate 3 rw [heap_setCell_other _ _ _ _ (show w.heap.size + 1 + 1 ≠ w.heap.size by omega)]
        exact hcur2
      · obtain ⟨r0, r1, r2, r3, r4, r5, r6, r7, r8⟩ := hP9 q hq
        exact nine_cases (p := fun t => cur[q * 9 + t]? = (itemCells (items.getD q default))[t]?) r0 r1 r2 r3 r4 r5 r6 r7 r8 t h9
    · intro w9 hs9 h9
      have hs8 : w2.heap.size ≤ w9.heap.size := by simpa [World.setCell] using hs9
      refine hPF w9 hs8 fun b hbn hbl => ?_
      have hbn' : wr.heap.size ≤ b := by simpa [World.setCell] using hbn
      have hb1 : b ≠ w.heap.size + 1 := by omega
      have hb0 : b ≠ w.heap.size := by omega
      rw [h9 b ⟨hbn', by simpa [World.setCell] using hbl⟩ (by simpa [World.setCell] using hbl)]
      iterate 12 rw [heap_setCell_other _ _ _ _ hb1]
      iterate 3 rw [heap_setCell_other _ _ _ _ hb0]

end Go.Proofs.YtdblegdgmjakfaaGreatDoor
