/- Parts of the proof. -/
import Derived.Test.YtdblegdgmjakfaaGreatDoorMJ16
import Derived.Deep.RegionHeld3
namespace Go.Proofs.YtdblegdgmjakfaaGreatDoor
open Go.ChangeShapes Go.WideShapes Go.ChangeAt Go.RowKit
set_option linter.unusedVariables false
set_option linter.unusedSimpArgs false

/- store.set. -/

/-- Until when an item is there. -/
def untilN (c n : Int) : Int := if n = 0 then 0 else min (c + n) 1099511627776
theorem untilB_any (c n : Int) (w : World) (h0 : 0 ≤ c) (h1 : c ≤ 1099511627776) (h2 : 0 ≤ n) (h3 : n ≤ 1099511627776) :
 Calls Tryz.prog 87 #[.int .i64 c, .int .i64 n] w fun e w' => e = .returned (.int .i64 (untilN c n)) ∧ Below w.heap.size w w' := by
 refine (until_any c n w h0 h1 h2 h3).mono ?_
 rintro e w' ⟨rfl, rfl⟩
 exact ⟨rfl, Below.refl _ _⟩
theorem nine_set0 {fl U : Int} (W : World) (b : Nat) (h : TB 62 W b #[.string ByteArray.empty, .int .i64 0, .int .i64 0, .int .i64 0, .int .i64 0, .string ByteArray.empty, .bool false, .int .i64 0, .int .i64 0]) : TB 62 (((((((((W.setCell ⟨b, 0, none⟩ (.string ByteArray.empty)).setCell ⟨b, 1, none⟩ (.int .i64 fl)).setCell ⟨b, 2, none⟩ (.int .i64 U)).setCell ⟨b, 3, none⟩ (.int .i64 0)).setCell ⟨b, 4, none⟩ (.int .i64 0)).setCell ⟨b, 5, none⟩ (.string ByteArray.empty)).setCell ⟨b, 6, none⟩ (.bool false)).setCell ⟨b, 7, none⟩ (.int .i64 0)).setCell ⟨b, 8, none⟩ (.int .i64 0)) b #[.string ByteArray.empty, .int .i64 fl, .int .i64 U, .int .i64 0, .int .i64 0, .string ByteArray.empty, .bool false, .int .i64 0, .int .i64 0] := nine_set W b h

set_option maxHeartbeats 40000000 in
set_option maxRecDepth 100000 in
theorem set_any (O : Nat → Prop) (s : StoreR) (B : Nat) (kd fl ex nn : Int) (key vl : ByteArray) (ka : Option Addr) (kn kc : Nat) (qt : Bool) (w : World) (h : StO O w B s) (hl : s.items.length ≤ 1000) (hc0 : 0 ≤ s.clock) (hc1 : s.clock ≤ 1099511627776) (he0 : 0 ≤ ex) (he1 : ex ≤ 1099511627776)
 (hpv : ∀ wx, Below w.heap.size w wx → Calls Tryz.prog 112 #[.pointer (some ⟨B, 0, none⟩), .agg #[.string ByteArray.empty, .int .i64 fl, .int .i64 (untilN s.clock ex), .int .i64 0, .int .i64 0, .string ByteArray.empty, .bool false, .int .i64 0, .int .i64 0], .string key, .string vl, replyV 2 0] wx fun e w' => e = .returned (if (putS s (mkI ⟨ByteArray.empty, fl, untilN s.clock ex, 0, 0, ByteArray.empty, false, 0, 0⟩ key vl)).2 = true then replyV 2 0 else replyV 11 0) ∧ StPost O wx B (putS s (mkI ⟨ByteArray.empty, fl, untilN s.clock ex, 0, 0, ByteArray.empty, false, 0, 0⟩ key vl)).1 w') :
 Calls Tryz.prog 88 #[.pointer (some ⟨B, 0, none⟩), .agg #[.int .i64 kd, .string key, .slice ka kn kc, .int .i64 fl, .int .i64 ex, .int .i64 nn, .string vl, .bool qt]] w fun e w' => e = .returned (if (putS s (mkI ⟨ByteArray.empty, fl, untilN s.clock ex, 0, 0, ByteArray.empty, false, 0, 0⟩ key vl)).2 = true then replyV 2 0 else replyV 11 0) ∧ StPost O w B (putS s (mkI ⟨ByteArray.empty, fl, untilN s.clock ex, 0, 0, ByteArray.empty, false, 0, 0⟩ key vl)).1 w' := by
 generalize putS s (mkI ⟨ByteArray.empty, fl, untilN s.clock ex, 0, 0, ByteArray.empty, false, 0, 0⟩ key vl) = P at *
 have hrv : (if P.2 = true then replyV 2 0 else replyV 11 0) = replyV (if P.2 = true then 2 else 11) 0 := by split <;> rfl
 rw [hrv] at hpv ⊢
 clear hrv
 generalize (if P.2 = true then (2 : Int) else 11) = KK at *
 unfold replyV at *
 obtain ⟨iv, pa, pc, Op, h⟩ := h
 obtain ⟨a, cp, e0, hA⟩ := h.row.items (by unfold maxLen; omega)
 subst e0
 have hlt := h.lt
 have hbB := h.box
 unfold stCells at hbB
 have HPV : Hid _ := hpv
 clear hpv hA
 generalize hU : untilN s.clock ex = U at *
 have hset : Hid _ := @nine_set0 fl U
 have T0 := (TB.new 47 w #[.int .i64 kd, .string key, .slice ka kn kc, .int .i64 fl, .int .i64 ex, .int .i64 nn, .string vl, .bool qt]).alloc (.cells #[.int .i64 0, .int .i64 0, .slice none 0 0] 42)
 have T1 : TB 42 _ (w.heap.size + 1) #[.int .i64 0, .int .i64 0, .slice none 0 0] := TB.new2 (w := w.alloc (.cells #[.int .i64 kd, .string key, .slice ka kn kc, .int .i64 fl, .int .i64 ex, .int .i64 nn, .string vl, .bool qt] 47)) (by simp)
 have A2 : Below w.heap.size w ((w.alloc (.cells #[.int .i64 kd, .string key, .slice ka kn kc, .int .i64 fl, .int .i64 ex, .int .i64 nn, .string vl, .bool qt] 47)).alloc (.cells #[.int .i64 0, .int .i64 0, .slice none 0 0] 42)) := below_al (below_al (Below.refl _ _) _) _
 have HS2 : Hid (((w.alloc (.cells #[.int .i64 kd, .string key, .slice ka kn kc, .int .i64 fl, .int .i64 ex, .int .i64 nn, .string vl, .bool qt] 47)).alloc (.cells #[.int .i64 0, .int .i64 0, .slice none 0 0] 42)).heap.size = w.heap.size + 2) := (show _ = _ by simp)
 go_enter Tryz.func88, Tryz.ntmps88
 go_wp2_with fail
 generalize hW2 : ((w.alloc (.cells #[.int .i64 kd, .string key, .slice ka kn kc, .int .i64 fl, .int .i64 ex, .int .i64 nn, .string vl, .bool qt] 47)).alloc (.cells #[.int .i64 0, .int .i64 0, .slice none 0 0] 42)) = W2 at *
 clear hW2
 have TB2 := hbB.later A2
 have x0 := fun j => T0.cell j
 have l0 := T0.lt
 have xB := fun j => TB2.cell j
 have lB := TB2.lt
 have kS : ∀ wx, Below W2.heap.size W2 wx → (fun wx => (∀ j, wx.cell? ⟨w.heap.size, j, none⟩ = (#[.int .i64 kd, .string key, .slice ka kn kc, .int .i64 fl, .int .i64 ex, .int .i64 nn, .string vl, .bool qt] : Array Value)[j]?) ∧ (∀ j, wx.cell? ⟨B, j, none⟩ = (#[.int .i64 s.clock, .int .i64 s.cas, .int .i64 s.uses, .int .i64 s.most, .int .i64 s.h0, .int .i64 s.h1, .int .i64 s.h2, .int .i64 s.h3, .slice a s.items.length cp, .int .i64 s.fm, .int .i64 s.fx, .slice pa s.pages.length pc] : Array Value)[j]?)) wx := fun wx hx => ⟨fun j => by rw [hx.cell (p := ⟨w.heap.size, j, none⟩) l0]; exact x0 j, fun j => by rw [hx.cell (p := ⟨B, j, none⟩) lB]; exact xB j⟩
 refine region_rel (fun a' wx => ∃ bI : Nat, a' = { tmps := #[.pointer (some ⟨B, 0, none⟩), .agg #[.int .i64 kd, .string key, .slice ka kn kc, .int .i64 fl, .int .i64 ex, .int .i64 nn, .string vl, .bool qt], undef, .pointer (some ⟨w.heap.size, 0, none⟩), .pointer (some ⟨w.heap.size + 1, 0, none⟩), .pointer (some ⟨bI, 0, none⟩), .pointer (some ⟨w.heap.size, 3, none⟩), .int .i64 fl, .pointer (some ⟨B, 0, none⟩), .pointer (some ⟨B, 0, none⟩), .pointer (some ⟨B, 0, none⟩), .int .i64 s.clock, .pointer (some ⟨w.heap.size, 4, none⟩), .int .i64 ex, .int .i64 U, .agg #[.string ByteArray.empty, .int .i64 fl, .int .i64 U, .int .i64 0, .int .i64 0, .string ByteArray.empty, .bool false, .int .i64 0, .int .i64 0], undef, undef, undef, undef, undef, undef, undef, undef], defers := [] } ∧ TB 62 wx bI #[.string ByteArray.empty, .int .i64 fl, .int .i64 U, .int .i64 0, .int .i64 0, .string ByteArray.empty, .bool false, .int .i64 0, .int .i64 0] ∧ Below W2.heap.size W2 wx ∧ W2.heap.size ≤ bI) ?_ ?_
 · refine wp_region_last (S := (fun wx => (∀ j, wx.cell? ⟨w.heap.size, j, none⟩ = (#[.int .i64 kd, .string key, .slice ka kn kc, .int .i64 fl, .int .i64 ex, .int .i64 nn, .string vl, .bool qt] : Array Value)[j]?) ∧ (∀ j, wx.cell? ⟨B, j, none⟩ = (#[.int .i64 s.clock, .int .i64 s.cas, .int .i64 s.uses, .int .i64 s.most, .int .i64 s.h0, .int .i64 s.h1, .int .i64 s.h2, .int .i64 s.h3, .slice a s.items.length cp, .int .i64 s.fm, .int .i64 s.fx, .slice pa s.pages.length pc] : Array Value)[j]?))) 11 _ (by kernel_rfl) (by rfl) (by rfl) (by rfl) (by kernel_rfl) ?_
   have hS0 := kS W2.drew (Below.drew (Below.refl W2.heap.size W2))
   simp only [sIB, sZB, sSB]
   have HU : Hid (untilN s.clock ex = U) := hU
   have hun := untilB_any s.clock ex
   rw [hU] at hun
   clear hU
   refine wpAnyH_take (i := 0) (v := ?tv1) rfl (by kernel_rfl) (by kernel_rfl) (by kernel_rfl) (fun _ _ _ h => h) (Or.inl ⟨by rfl, ?th1⟩) (by assumption) ?tr1
   case th1 => (intro w hSw; (try dsimp only at hSw); go_simp; try with_reducible rfl)
   try simp only [Act.put, sIB, sZB, sSB]
   refine wpAnyH_take (i := 1) (v := ?tv2) rfl (by kernel_rfl) (by kernel_rfl) (by kernel_rfl) (fun _ _ _ h => h) (Or.inl ⟨by rfl, ?th2⟩) (by assumption) ?tr2
   case th2 => (intro w hSw; (try dsimp only at hSw); go_simp; try with_reducible rfl)
   try simp only [Act.put, sIB, sZB, sSB]
   refine wpAnyH_take (i := 2) (v := ?tv3) rfl (by kernel_rfl) (by kernel_rfl) (by kernel_rfl) (fun _ _ _ h => h) (Or.inl ⟨by rfl, ?th3⟩) (by assumption) ?tr3
   case th3 => (intro w hSw; (try dsimp only at hSw); go_simp; try with_reducible rfl)
   try simp only [Act.put, sIB, sZB, sSB]
   refine wpAnyH_take (i := 3) (v := ?tv4) rfl (by kernel_rfl) (by kernel_rfl) (by kernel_rfl) (fun _ _ _ h => h) (Or.inl ⟨by rfl, ?th4⟩) (by assumption) ?tr4
   case th4 => (intro w hSw; (try dsimp only at hSw); go_simp; try with_reducible rfl)
   try simp only [Act.put, sIB, sZB, sSB]
   refine wpAnyH_take (i := 4) (v := ?tv5) rfl (by kernel_rfl) (by kernel_rfl) (by kernel_rfl) (fun _ _ _ h => h) (Or.inl ⟨by rfl, ?th5⟩) (by assumption) ?tr5
   case th5 => (intro w hSw; (try dsimp only at hSw); go_simp; try with_reducible rfl)
   try simp only [Act.put, sIB, sZB, sSB]
   refine wpAnyH_take (i := 5) (v := ?tv6) rfl (by kernel_rfl) (by kernel_rfl) (by kernel_rfl) (fun _ _ _ h => h) (Or.inl ⟨by rfl, ?th6⟩) (by assumption) ?tr6
   case th6 => (intro w hSw; (try dsimp only at hSw); go_simp; try with_reducible rfl)
   try simp only [Act.put, sIB, sZB, sSB]
   refine wpAnyH_take (i := 6) (v := ?tv7) rfl (by kernel_rfl) (by kernel_rfl) (by kernel_rfl) (fun _ _ _ h => h) (Or.inl ⟨by rfl, ?th7⟩) (by assumption) ?tr7
   case th7 => (intro w hSw; (try dsimp only at hSw); go_simp; try with_reducible rfl)
   try simp only [Act.put, sIB, sZB, sSB]
   refine wpAnyH_take (i := 7) (v := ?tv8) rfl (by kernel_rfl) (by kernel_rfl) (by kernel_rfl) (fun _ _ _ h => h) (Or.inl ⟨by rfl, ?th8⟩) (by assumption) ?tr8
   case th8 => (intro w hSw; (try dsimp only at hSw); go_simp; try with_reducible rfl)
   try simp only [Act.put, sIB, sZB, sSB]
   refine wpAnyH_ready (rs := [8, 10]) (by kernel_rfl) (by simp) ?_
   refine AllReadyH.cons rfl (fun K hK => ?_) (AllReadyH.cons rfl (fun K hK => ?_) AllReadyH.nil)
   · go_simp
     refine (hun _ hc0 hc1 he0 he1).mono ?_
     rintro e wc9 ⟨rfl, hbc9⟩
     have Bc9 : Below W2.heap.size W2 wc9 := below_thru (Below.drew (Below.refl W2.heap.size W2)) hbc9
     have hSc9 := kS _ Bc9
     refine hK.out _ _ hSc9 ?_
     intro hSd9
     clear hK K
     try simp only [Act.put, sIB, sZB, sSB]
     refine wpAnyH_take (i := 9) (v := ?tv10) rfl (by kernel_rfl) (by kernel_rfl) (by kernel_rfl) (fun _ _ _ h => h) (Or.inl ⟨by rfl, ?th10⟩) (by assumption) ?tr10
     case th10 => (intro w hSw; (try dsimp only at hSw); go_simp; try with_reducible rfl)
     try simp only [Act.put, sIB, sZB, sSB]
     refine wpAnyH_ready (rs := [10]) (by kernel_rfl) (by simp) ?_
     refine AllReadyH.cons rfl (fun K hK => ?_) AllReadyH.nil
     go_simp
     have Bc11 := below_al Bc9 (.cells #[.string ByteArray.empty, .int .i64 0, .int .i64 0, .int .i64 0, .int .i64 0, .string ByteArray.empty, .bool false, .int .i64 0, .int .i64 0] 62)
     have hSc11 := kS _ Bc11
     refine hK.out _ _ hSc11 ?_
     intro hSd11
     clear hK K
     try simp only [Act.put, sIB, sZB, sSB]
     refine wpAnyH_ready (rs := [11]) (by kernel_rfl) (by simp) ?_
     refine AllReadyH.cons rfl (fun K hK => ?_) AllReadyH.nil
     go_simp
     refine hK.out _ _ hSd11 ?_
     intro hSl12
     clear hK K
     try simp only [Act.put, sIB, sZB, sSB]
     refine wpAnyH_done (by kernel_rfl) ?_ _
     refine LastPost.step rfl (fun K hK => ?_)
     have hn : W2.heap.size ≤ wc9.heap.size := Below.size (by assumption)
     go_simp
     refine hK _ _ ?_
     exact ⟨_, rfl, TB.new 62 wc9 #[.string ByteArray.empty, .int .i64 fl, .int .i64 U, .int .i64 0, .int .i64 0, .string ByteArray.empty, .bool false, .int .i64 0, .int .i64 0], below_al Bc9 _, hn⟩
   · go_simp
     have Bc13 := below_al (Below.drew (Below.refl W2.heap.size W2)) (.cells #[.string ByteArray.empty, .int .i64 0, .int .i64 0, .int .i64 0, .int .i64 0, .string ByteArray.empty, .bool false, .int .i64 0, .int .i64 0] 62)
     have hSc13 := kS _ Bc13
     refine hK.out _ _ hSc13 ?_
     intro hSd13
     clear hK K
     try simp only [Act.put, sIB, sZB, sSB]
     refine wpAnyH_ready (rs := [8]) (by kernel_rfl) (by simp) ?_
     refine AllReadyH.cons rfl (fun K hK => ?_) AllReadyH.nil
     go_simp
     refine (hun _ hc0 hc1 he0 he1).mono ?_
     rintro e wc14 ⟨rfl, hbc14⟩
     have Bc14 : Below W2.heap.size W2 wc14 := below_thru Bc13 hbc14
     have hSc14 := kS _ Bc14
     refine hK.out _ _ hSc14 ?_
     intro hSd14
     clear hK K
     try simp only [Act.put, sIB, sZB, sSB]
     refine wpAnyH_take (i := 9) (v := ?tv15) rfl (by kernel_rfl) (by kernel_rfl) (by kernel_rfl) (fun _ _ _ h => h) (Or.inl ⟨by rfl, ?th15⟩) (by assumption) ?tr15
     case th15 => (intro w hSw; (try dsimp only at hSw); go_simp; try with_reducible rfl)
     try simp only [Act.put, sIB, sZB, sSB]
     refine wpAnyH_ready (rs := [11]) (by kernel_rfl) (by simp) ?_
     refine AllReadyH.cons rfl (fun K hK => ?_) AllReadyH.nil
     go_simp
     refine hK.out _ _ hSd14 ?_
     intro hSl16
     clear hK K
     try simp only [Act.put, sIB, sZB, sSB]
     refine wpAnyH_done (by kernel_rfl) ?_ _
     refine LastPost.step rfl (fun K hK => ?_)
     have TT : TB 62 _ W2.heap.size _ := ((TB.new 62 W2.drew #[.string ByteArray.empty, .int .i64 0, .int .i64 0, .int .i64 0, .int .i64 0, .string ByteArray.empty, .bool false, .int .i64 0, .int .i64 0]).later hbc14)
     have tf := fun j => TT.frozen j
     have tc := fun j => TT.cell j
     have tl := TT.lt
     have hn : W2.heap.size ≤ W2.heap.size := by first | exact Nat.le_refl _ | exact Below.size (by assumption)
     go_simp
     refine hK _ _ ?_
     exact ⟨_, rfl, hset.out _ _ TT, (below_st (below_st (below_st (below_st (below_st (below_st (below_st (below_st (below_st Bc14 _ hn) _ hn) _ hn) _ hn) _ hn) _ hn) _ hn) _ hn) _ hn), hn⟩
 · rintro a' wx ⟨bI, rfl, TI, hBx, hbI⟩
   have B0 : Below w.heap.size w wx := below_thru A2 hBx
   have U0 := T0.later hBx
   have U1 := T1.later hBx
   have q0 := fun j => U0.cell j
   have lq0 := U0.lt
   have qI := fun j => TI.cell j
   have lqI := TI.lt
   have hno0 : ¬ O w.heap.size := fun e => by have := hlt _ e; omega
   have hno1 : ¬ O (w.heap.size + 1) := fun e => by have := hlt _ e; omega
   have hnoI : ¬ O bI := fun e => by have := hlt _ e; have := A2.size; omega
   have HL1 : Hid (w.heap.size + 1 < wx.heap.size) := U1.lt
   clear kS
   have htl := told_any 2
   unfold replyV at htl
   have kS : ∀ wy, Below wx.heap.size wx wy → (fun wy => (∀ j, wy.cell? ⟨w.heap.size, j, none⟩ = (#[.int .i64 kd, .string key, .slice ka kn kc, .int .i64 fl, .int .i64 ex, .int .i64 nn, .string vl, .bool qt] : Array Value)[j]?) ∧ (∀ j, wy.cell? ⟨bI, j, none⟩ = (#[.string ByteArray.empty, .int .i64 fl, .int .i64 U, .int .i64 0, .int .i64 0, .string ByteArray.empty, .bool false, .int .i64 0, .int .i64 0] : Array Value)[j]?)) wy := fun wy hy => ⟨fun j => by rw [hy.cell (p := ⟨w.heap.size, j, none⟩) lq0]; exact q0 j, fun j => by rw [hy.cell (p := ⟨bI, j, none⟩) lqI]; exact qI j⟩
   clear hset x0 l0 xB lB T0 T1 TB2 hbB h
   go_wp2_with fail
   refine wp_region_last (S := (fun wy => (∀ j, wy.cell? ⟨w.heap.size, j, none⟩ = (#[.int .i64 kd, .string key, .slice ka kn kc, .int .i64 fl, .int .i64 ex, .int .i64 nn, .string vl, .bool qt] : Array Value)[j]?) ∧ (∀ j, wy.cell? ⟨bI, j, none⟩ = (#[.string ByteArray.empty, .int .i64 fl, .int .i64 U, .int .i64 0, .int .i64 0, .string ByteArray.empty, .bool false, .int .i64 0, .int .i64 0] : Array Value)[j]?))) 8 _ (by kernel_rfl) (by rfl) (by rfl) (by rfl) (by kernel_rfl) ?_
   have hS0 := kS wx.drew (Below.drew (Below.refl wx.heap.size wx))
   simp only [sIB, sZB, sSB]
   refine wpAnyH_take (i := 0) (v := ?tv101) rfl (by kernel_rfl) (by kernel_rfl) (by kernel_rfl) (fun _ _ _ h => h) (Or.inl ⟨by rfl, ?th101⟩) (by assumption) ?tr101
   case th101 => (intro w hSw; (try dsimp only at hSw); go_simp; try with_reducible rfl)
   try simp only [Act.put, sIB, sZB, sSB]
   refine wpAnyH_take (i := 1) (v := ?tv102) rfl (by kernel_rfl) (by kernel_rfl) (by kernel_rfl) (fun _ _ _ h => h) (Or.inl ⟨by rfl, ?th102⟩) (by assumption) ?tr102
   case th102 => (intro w hSw; (try dsimp only at hSw); go_simp; try with_reducible rfl)
   try simp only [Act.put, sIB, sZB, sSB]
   refine wpAnyH_take (i := 2) (v := ?tv103) rfl (by kernel_rfl) (by kernel_rfl) (by kernel_rfl) (fun _ _ _ h => h) (Or.inl ⟨by rfl, ?th103⟩) (by assumption) ?tr103
   case th103 => (intro w hSw; (try dsimp only at hSw); go_simp; try with_reducible rfl)
   try simp only [Act.put, sIB, sZB, sSB]
   refine wpAnyH_take (i := 3) (v := ?tv104) rfl (by kernel_rfl) (by kernel_rfl) (by kernel_rfl) (fun _ _ _ h => h) (Or.inl ⟨by rfl, ?th104⟩) (by assumption) ?tr104
   case th104 => (intro w hSw; (try dsimp only at hSw); go_simp; try with_reducible rfl)
   try simp only [Act.put, sIB, sZB, sSB]
   refine wpAnyH_take (i := 4) (v := ?tv105) rfl (by kernel_rfl) (by kernel_rfl) (by kernel_rfl) (fun _ _ _ h => h) (Or.inl ⟨by rfl, ?th105⟩) (by assumption) ?tr105
   case th105 => (intro w hSw; (try dsimp only at hSw); go_simp; try with_reducible rfl)
   try simp only [Act.put, sIB, sZB, sSB]
   refine wpAnyH_take (i := 5) (v := ?tv106) rfl (by kernel_rfl) (by kernel_rfl) (by kernel_rfl) (fun _ _ _ h => h) (Or.inl ⟨by rfl, ?th106⟩) (by assumption) ?tr106
   case th106 => (intro w hSw; (try dsimp only at hSw); go_simp; try with_reducible rfl)
   try simp only [Act.put, sIB, sZB, sSB]
   refine wpAnyH_ready (rs := [6]) (by kernel_rfl) (by simp) ?_
   refine AllReadyH.cons rfl (fun K hK => ?_) AllReadyH.nil
   go_simp
   refine (htl _).mono ?_
   rintro e wc107 ⟨rfl, hbc107⟩
   have Bc107 : Below wx.heap.size wx wc107 := below_thru (Below.drew (Below.refl wx.heap.size wx)) hbc107
   have hSc107 := kS _ Bc107
   refine hK.out _ _ hSc107 ?_
   intro hSd107
   clear hK K
   try simp only [Act.put, sIB, sZB, sSB]
   refine wpAnyH_ready (rs := [7]) (by kernel_rfl) (by simp) ?_
   refine AllReadyH.cons rfl (fun K hK => ?_) AllReadyH.nil
   go_simp
   refine (HPV.out _ (below_thru B0 Bc107)).mono ?_
   rintro e wc108 ⟨rfl, hbc108⟩
   skip
   have hSc108 := (show (fun wy : World => (∀ j, wy.cell? ⟨w.heap.size, j, none⟩ = (#[.int .i64 kd, .string key, .slice ka kn kc, .int .i64 fl, .int .i64 ex, .int .i64 nn, .string vl, .bool qt] : Array Value)[j]?) ∧ (∀ j, wy.cell? ⟨bI, j, none⟩ = (#[.string ByteArray.empty, .int .i64 fl, .int .i64 U, .int .i64 0, .int .i64 0, .string ByteArray.empty, .bool false, .int .i64 0, .int .i64 0] : Array Value)[j]?)) wc108 from ⟨fun j => by rw [hbc108.2.cell (Nat.lt_of_lt_of_le lq0 (Below.size Bc107)) hno0]; exact (kS _ Bc107).1 j, fun j => by rw [hbc108.2.cell (Nat.lt_of_lt_of_le lqI (Below.size Bc107)) hnoI]; exact (kS _ Bc107).2 j⟩)
   refine hK.out _ _ hSc108 ?_
   intro hSd108
   clear hK K
   try simp only [Act.put, sIB, sZB, sSB]
   refine wpAnyH_ready (rs := [8]) (by kernel_rfl) (by simp) ?_
   refine AllReadyH.cons rfl (fun K hK => ?_) AllReadyH.nil
   go_simp
   refine hK.out _ _ hSd108 ?_
   intro hSl109
   clear hK K
   try simp only [Act.put, sIB, sZB, sSB]
   refine wpAnyH_done (by kernel_rfl) ?_ _
   refine LastPost.step rfl (fun K hK => ?_)
   have V1 := hbc108.2.tb (U1.later Bc107) hno1
   have x1 := fun j => V1.cell j
   have z1 := fun j => V1.frozen j
   have l1 := V1.lt
   have hQ : Hid (StQ O w _ B P.1 _) := StQ.of (below_thru B0 Bc107) hbc108
   have hsz : w.heap.size + 1 < _ := Nat.lt_of_lt_of_le (show w.heap.size + 1 < wx.heap.size from HL1.out) (Below.size Bc107)
   have HZ : Hid _ := hsz
   clear hsz
   go_simp
   refine hK _ _ ?_
   go_wp2_with fail
   refine bodyPost_ret (v := .agg #[.int .i64 KK, .int .i64 0, .slice none 0 0]) (by simp [results, Tryz.results88, go_sem, x1, l1]) rfl ⟨rfl, ?_⟩
   exact StQ.post (StQ.set (StQ.set (StQ.set (O := O) (w0 := w) (B := B) (s := P.1) hQ.out (by omega) HZ.out hlt 0 _) (by omega) HZ.out hlt 1 _) (by omega) HZ.out hlt 2 _) (Nat.le_trans B0.size (Below.size Bc107))

end Go.Proofs.YtdblegdgmjakfaaGreatDoor
