/- Parts of the proof. -/
import Derived.Test.YtdblegdgmjakfaaGreatDoorMJ20
import Derived.Test.YtdblegdgmjakfaaGreatDoorMJ19
import Derived.Deep.RegionHeld3
namespace Go.Proofs.YtdblegdgmjakfaaGreatDoor
open Go.ChangeShapes Go.WideShapes Go.ChangeAt Go.RowKit
set_option linter.unusedVariables false
set_option linter.unusedSimpArgs false

/- store.join, kind 6: the new bytes ahead. -/

set_option maxHeartbeats 40000000 in
set_option maxRecDepth 100000 in
theorem join_walk6 (O : Nat → Prop) (s : StoreR) (B : Nat) (kd fl ex nn : Int) (key vl : ByteArray) (ka : Option Addr) (kn kc : Nat) (qt : Bool) (old : ItemR) (V : ByteArray) (w : World) (h : StO O w B s) (hl : s.items.length ≤ 1000) (hkd : kd = 6) (hvs : V.size ≤ 300) (hvl : vl.size ≤ 200)
 (hsm : ¬ 200 < (vl ++ V).size) (P : StoreR × Bool)
 (hpv : ∀ wx, Below w.heap.size w wx → Calls Tryz.prog 112 #[.pointer (some ⟨B, 0, none⟩), .agg #[.string old.key, .int .i64 old.flags, .int .i64 old.until_, .int .i64 old.cas, .int .i64 old.used, .string old.value, .bool old.far, .int .i64 old.page, .int .i64 old.at_], .string key, .string (vl ++ V), replyV 2 0] wx fun e w' => e = .returned (if P.2 = true then replyV 2 0 else replyV 11 0) ∧ StPost O wx B P.1 w')
 (hval : ∀ (pa : Option Addr) (pc : Nat) (wx : World), PagesAt wx pa s.pages → Calls Tryz.prog 82 #[.agg #[.int .i64 s.fm, .int .i64 s.fx, .slice pa s.pages.length pc], .agg #[.string old.key, .int .i64 old.flags, .int .i64 old.until_, .int .i64 old.cas, .int .i64 old.used, .string old.value, .bool old.far, .int .i64 old.page, .int .i64 old.at_]] wx fun e w' => e = .returned (.string V) ∧ Below wx.heap.size wx w') :
 Calls Tryz.prog 84 #[.pointer (some ⟨B, 0, none⟩), .agg #[.int .i64 kd, .string key, .slice ka kn kc, .int .i64 fl, .int .i64 ex, .int .i64 nn, .string vl, .bool qt], .agg #[.string old.key, .int .i64 old.flags, .int .i64 old.until_, .int .i64 old.cas, .int .i64 old.used, .string old.value, .bool old.far, .int .i64 old.page, .int .i64 old.at_]] w fun e w' => e = .returned (if P.2 = true then replyV 2 0 else replyV 11 0) ∧ StPost O w B P.1 w' := by
 have hrv : (if P.2 = true then replyV 2 0 else replyV 11 0) = replyV (if P.2 = true then 2 else 11) 0 := by split <;> rfl
 rw [hrv] at hpv ⊢
 clear hrv
 generalize (if P.2 = true then (2 : Int) else 11) = KK at *
 have htl := told_any 2
 unfold replyV at *
 have HPV : Hid _ := hpv
 clear hpv
 have hsmz : ¬ ((200 : Int) < ((vl ++ V).size : Int)) := by omega
 generalize hVV : vl ++ V = VV at *
 obtain ⟨iv, pa, pc, Op, h⟩ := h
 obtain ⟨a, cp, e0, hA⟩ := h.row.items (by unfold maxLen; omega)
 subst e0
 have hlt := h.lt
 have hbB := h.box
 have hPA : PagesAt w pa s.pages := h.pages w (Nat.le_refl _) (fun _ _ _ => rfl)
 unfold stCells at hbB
 have T0 := ((TB.new 47 w #[.int .i64 kd, .string key, .slice ka kn kc, .int .i64 fl, .int .i64 ex, .int .i64 nn, .string vl, .bool qt]).alloc (.cells #[.string old.key, .int .i64 old.flags, .int .i64 old.until_, .int .i64 old.cas, .int .i64 old.used, .string old.value, .bool old.far, .int .i64 old.page, .int .i64 old.at_] 62)).alloc (.cells #[.int .i64 0, .int .i64 0, .slice none 0 0] 42)
 have T1 : TB 62 _ (w.heap.size + 1) #[.string old.key, .int .i64 old.flags, .int .i64 old.until_, .int .i64 old.cas, .int .i64 old.used, .string old.value, .bool old.far, .int .i64 old.page, .int .i64 old.at_] := (TB.new2 (w := w.alloc (.cells #[.int .i64 kd, .string key, .slice ka kn kc, .int .i64 fl, .int .i64 ex, .int .i64 nn, .string vl, .bool qt] 47)) (by simp)).alloc (.cells #[.int .i64 0, .int .i64 0, .slice none 0 0] 42)
 have T2 : TB 42 _ (w.heap.size + 1 + 1) #[.int .i64 0, .int .i64 0, .slice none 0 0] := TB.new2 (w := (w.alloc (.cells #[.int .i64 kd, .string key, .slice ka kn kc, .int .i64 fl, .int .i64 ex, .int .i64 nn, .string vl, .bool qt] 47)).alloc (.cells #[.string old.key, .int .i64 old.flags, .int .i64 old.until_, .int .i64 old.cas, .int .i64 old.used, .string old.value, .bool old.far, .int .i64 old.page, .int .i64 old.at_] 62)) (by simp)
 have A3 : Below w.heap.size w (((w.alloc (.cells #[.int .i64 kd, .string key, .slice ka kn kc, .int .i64 fl, .int .i64 ex, .int .i64 nn, .string vl, .bool qt] 47)).alloc (.cells #[.string old.key, .int .i64 old.flags, .int .i64 old.until_, .int .i64 old.cas, .int .i64 old.used, .string old.value, .bool old.far, .int .i64 old.page, .int .i64 old.at_] 62)).alloc (.cells #[.int .i64 0, .int .i64 0, .slice none 0 0] 42)) := below_al (below_al (below_al (Below.refl _ _) _) _) _
 have hfit : V.size + vl.size ≤ 600 := by omega
 have ifitn : ¬ (9223372036854775807 < vl.size + V.size) := by omega
 have ifitz : ¬ ((281474976710656 : Int) < (vl.size : Int) + (V.size : Int)) := by omega
 have ifit2 : vl.size + V.size ≤ 9223372036854775807 := by omega
 have hfitn : ¬ (9223372036854775807 < V.size + vl.size) := by omega
 have hfitz : ¬ ((281474976710656 : Int) < (V.size : Int) + (vl.size : Int)) := by omega
 have hfit2 : V.size + vl.size ≤ 9223372036854775807 := by omega
 have hk6 : (kd == 6) = true := by simp [hkd]
 clear hkd
 go_enter Tryz.func84, Tryz.ntmps84
 go_wp2_with fail
 generalize hW3 : (((w.alloc (.cells #[.int .i64 kd, .string key, .slice ka kn kc, .int .i64 fl, .int .i64 ex, .int .i64 nn, .string vl, .bool qt] 47)).alloc (.cells #[.string old.key, .int .i64 old.flags, .int .i64 old.until_, .int .i64 old.cas, .int .i64 old.used, .string old.value, .bool old.far, .int .i64 old.page, .int .i64 old.at_] 62)).alloc (.cells #[.int .i64 0, .int .i64 0, .slice none 0 0] 42)) = W3 at *
 clear hW3
 have TB3 := hbB.later A3
 have x0 := fun j => T0.cell j
 have l0 := T0.lt
 have x1 := fun j => T1.cell j
 have l1 := T1.lt
 have xB := fun j => TB3.cell j
 have lB := TB3.lt
 have kS : ∀ wx, Below W3.heap.size W3 wx → (fun wx => (∀ j, wx.cell? ⟨w.heap.size, j, none⟩ = (#[.int .i64 kd, .string key, .slice ka kn kc, .int .i64 fl, .int .i64 ex, .int .i64 nn, .string vl, .bool qt] : Array Value)[j]?) ∧ (∀ j, wx.cell? ⟨w.heap.size + 1, j, none⟩ = (#[.string old.key, .int .i64 old.flags, .int .i64 old.until_, .int .i64 old.cas, .int .i64 old.used, .string old.value, .bool old.far, .int .i64 old.page, .int .i64 old.at_] : Array Value)[j]?) ∧ (∀ j, wx.cell? ⟨B, j, none⟩ = (#[.int .i64 s.clock, .int .i64 s.cas, .int .i64 s.uses, .int .i64 s.most, .int .i64 s.h0, .int .i64 s.h1, .int .i64 s.h2, .int .i64 s.h3, .slice a s.items.length cp, .int .i64 s.fm, .int .i64 s.fx, .slice pa s.pages.length pc] : Array Value)[j]?) ∧ Below W3.heap.size W3 wx) wx := fun wx hx => ⟨fun j => by rw [hx.cell (p := ⟨w.heap.size, j, none⟩) l0]; exact x0 j, fun j => by rw [hx.cell (p := ⟨w.heap.size + 1, j, none⟩) l1]; exact x1 j, fun j => by rw [hx.cell (p := ⟨B, j, none⟩) lB]; exact xB j, hx⟩
 go_region_held3 (fun wx => (∀ j, wx.cell? ⟨w.heap.size, j, none⟩ = (#[.int .i64 kd, .string key, .slice ka kn kc, .int .i64 fl, .int .i64 ex, .int .i64 nn, .string vl, .bool qt] : Array Value)[j]?) ∧ (∀ j, wx.cell? ⟨w.heap.size + 1, j, none⟩ = (#[.string old.key, .int .i64 old.flags, .int .i64 old.until_, .int .i64 old.cas, .int .i64 old.used, .string old.value, .bool old.far, .int .i64 old.page, .int .i64 old.at_] : Array Value)[j]?) ∧ (∀ j, wx.cell? ⟨B, j, none⟩ = (#[.int .i64 s.clock, .int .i64 s.cas, .int .i64 s.uses, .int .i64 s.most, .int .i64 s.h0, .int .i64 s.h1, .int .i64 s.h2, .int .i64 s.h3, .slice a s.items.length cp, .int .i64 s.fm, .int .i64 s.fx, .slice pa s.pages.length pc] : Array Value)[j]?) ∧ Below W3.heap.size W3 wx) ((refine kS _ ?_; with_reducible (repeat (first | assumption | exact Below.refl _ _ | refine Below.drew ?_ | refine below_thru ?_ hbv)))) ((go_at_call 82; refine (hval pa pc _ (hPA.later (below_thru A3 (by with_reducible (repeat (first | assumption | exact Below.refl _ _ | refine Below.drew ?_)))))).mono ?_; rintro e wv ⟨rfl, hbv⟩))
 have kB1 := below_thru (Below.drew (Below.refl W3.heap.size W3)) hbv
 have kS1 := kS _ kB1
 go_wp2_with fail
 go_region_held3 (fun wx => (∀ j, wx.cell? ⟨w.heap.size, j, none⟩ = (#[.int .i64 kd, .string key, .slice ka kn kc, .int .i64 fl, .int .i64 ex, .int .i64 nn, .string vl, .bool qt] : Array Value)[j]?) ∧ (∀ j, wx.cell? ⟨w.heap.size + 1, j, none⟩ = (#[.string old.key, .int .i64 old.flags, .int .i64 old.until_, .int .i64 old.cas, .int .i64 old.used, .string old.value, .bool old.far, .int .i64 old.page, .int .i64 old.at_] : Array Value)[j]?) ∧ (∀ j, wx.cell? ⟨B, j, none⟩ = (#[.int .i64 s.clock, .int .i64 s.cas, .int .i64 s.uses, .int .i64 s.most, .int .i64 s.h0, .int .i64 s.h1, .int .i64 s.h2, .int .i64 s.h3, .slice a s.items.length cp, .int .i64 s.fm, .int .i64 s.fx, .slice pa s.pages.length pc] : Array Value)[j]?) ∧ Below W3.heap.size W3 wx) ((refine kS _ ?_; with_reducible (repeat (first | assumption | exact Below.refl _ _ | refine Below.drew ?_ | refine below_thru ?_ hbv2 | refine below_thru ?_ hbv)))) ((go_at_call 82; refine (hval pa pc _ (hPA.later (below_thru A3 (by with_reducible (repeat (first | assumption | exact Below.refl _ _ | refine Below.drew ?_ | refine below_thru ?_ hbv)))))).mono ?_; rintro e wv2 ⟨rfl, hbv2⟩))
 have BV : Below W3.heap.size W3 wv2 := below_thru (Below.drew kB1) hbv2
 clear kS1 hbv
 have B0 : Below w.heap.size w wv2 := below_thru A3 BV
 have U0 := T0.later BV
 have UI := T1.later BV
 have U2 := T2.later BV
 have q0 := fun j => U0.cell j
 have lq0 := U0.lt
 have qI := fun j => UI.cell j
 have lqI := UI.lt
 have hno0 : ¬ O w.heap.size := fun e => by have := hlt _ e; omega
 have hnoI : ¬ O (w.heap.size + 1) := fun e => by have := hlt _ e; omega
 have hno2 : ¬ O (w.heap.size + 1 + 1) := fun e => by have := hlt _ e; omega
 have HL1 : Hid (w.heap.size + 1 + 1 < wv2.heap.size) := U2.lt
 clear kS x0 l0 x1 l1 xB lB T0 T1 T2 TB3 hbB h hval
 have kS : ∀ wy, Below wv2.heap.size wv2 wy → (fun wy : World => (∀ j, wy.cell? ⟨w.heap.size, j, none⟩ = (#[.int .i64 kd, .string key, .slice ka kn kc, .int .i64 fl, .int .i64 ex, .int .i64 nn, .string vl, .bool qt] : Array Value)[j]?) ∧ (∀ j, wy.cell? ⟨w.heap.size + 1, j, none⟩ = (#[.string old.key, .int .i64 old.flags, .int .i64 old.until_, .int .i64 old.cas, .int .i64 old.used, .string old.value, .bool old.far, .int .i64 old.page, .int .i64 old.at_] : Array Value)[j]?)) wy := fun wy hy => ⟨fun j => by rw [hy.cell (p := ⟨w.heap.size, j, none⟩) lq0]; exact q0 j, fun j => by rw [hy.cell (p := ⟨w.heap.size + 1, j, none⟩) lqI]; exact qI j⟩
 go_wp2_with fail
 refine wp_region_last (S := (fun wy : World => (∀ j, wy.cell? ⟨w.heap.size, j, none⟩ = (#[.int .i64 kd, .string key, .slice ka kn kc, .int .i64 fl, .int .i64 ex, .int .i64 nn, .string vl, .bool qt] : Array Value)[j]?) ∧ (∀ j, wy.cell? ⟨w.heap.size + 1, j, none⟩ = (#[.string old.key, .int .i64 old.flags, .int .i64 old.until_, .int .i64 old.cas, .int .i64 old.used, .string old.value, .bool old.far, .int .i64 old.page, .int .i64 old.at_] : Array Value)[j]?))) 7 _ (by kernel_rfl) (by rfl) (by rfl) (by rfl) (by kernel_rfl) ?_
 have hS0 := kS wv2.drew (Below.drew (Below.refl wv2.heap.size wv2))
 simp only [sIB, sZB, sSB]
 refine wpAnyH_take (i := 0) (v := ?tv301) rfl (by kernel_rfl) (by kernel_rfl) (by kernel_rfl) (fun _ _ _ h => h) (Or.inl ⟨by rfl, ?th301⟩) (by assumption) ?tr301
 case th301 => (intro w hSw; (try dsimp only at hSw); go_simp; try with_reducible rfl)
 try simp only [Act.put, sIB, sZB, sSB]
 refine wpAnyH_take (i := 1) (v := ?tv302) rfl (by kernel_rfl) (by kernel_rfl) (by kernel_rfl) (fun _ _ _ h => h) (Or.inl ⟨by rfl, ?th302⟩) (by assumption) ?tr302
 case th302 => (intro w hSw; (try dsimp only at hSw); go_simp; try with_reducible rfl)
 try simp only [Act.put, sIB, sZB, sSB]
 refine wpAnyH_take (i := 2) (v := ?tv303) rfl (by kernel_rfl) (by kernel_rfl) (by kernel_rfl) (fun _ _ _ h => h) (Or.inl ⟨by rfl, ?th303⟩) (by assumption) ?tr303
 case th303 => (intro w hSw; (try dsimp only at hSw); go_simp; try with_reducible rfl)
 try simp only [Act.put, sIB, sZB, sSB]
 refine wpAnyH_take (i := 3) (v := ?tv304) rfl (by kernel_rfl) (by kernel_rfl) (by kernel_rfl) (fun _ _ _ h => h) (Or.inl ⟨by rfl, ?th304⟩) (by assumption) ?tr304
 case th304 => (intro w hSw; (try dsimp only at hSw); go_simp; try with_reducible rfl)
 try simp only [Act.put, sIB, sZB, sSB]
 refine wpAnyH_take (i := 4) (v := ?tv305) rfl (by kernel_rfl) (by kernel_rfl) (by kernel_rfl) (fun _ _ _ h => h) (Or.inl ⟨by rfl, ?th305⟩) (by assumption) ?tr305
 case th305 => (intro w hSw; (try dsimp only at hSw); go_simp; try with_reducible rfl)
 try simp only [Act.put, sIB, sZB, sSB]
 refine wpAnyH_ready (rs := [5]) (by kernel_rfl) (by simp) ?_
 refine AllReadyH.cons rfl (fun K hK => ?_) AllReadyH.nil
 go_simp
 refine (htl _).mono ?_
 rintro e wc306 ⟨rfl, hbc306⟩
 have Bc306 : Below wv2.heap.size wv2 wc306 := below_thru (Below.drew (Below.refl wv2.heap.size wv2)) hbc306
 have hSc306 := kS _ Bc306
 refine hK.out _ _ hSc306 ?_
 intro hSd306
 clear hK K
 try simp only [Act.put, sIB, sZB, sSB]
 refine wpAnyH_ready (rs := [6]) (by kernel_rfl) (by simp) ?_
 refine AllReadyH.cons rfl (fun K hK => ?_) AllReadyH.nil
 go_simp
 refine (HPV.out _ (below_thru B0 Bc306)).mono ?_
 rintro e wc307 ⟨rfl, hbc307⟩
 skip
 have hSc307 := (show (fun wy : World => (∀ j, wy.cell? ⟨w.heap.size, j, none⟩ = (#[.int .i64 kd, .string key, .slice ka kn kc, .int .i64 fl, .int .i64 ex, .int .i64 nn, .string vl, .bool qt] : Array Value)[j]?) ∧ (∀ j, wy.cell? ⟨w.heap.size + 1, j, none⟩ = (#[.string old.key, .int .i64 old.flags, .int .i64 old.until_, .int .i64 old.cas, .int .i64 old.used, .string old.value, .bool old.far, .int .i64 old.page, .int .i64 old.at_] : Array Value)[j]?)) wc307 from ⟨fun j => by rw [hbc307.2.cell (Nat.lt_of_lt_of_le lq0 (Below.size Bc306)) hno0]; exact (kS _ Bc306).1 j, fun j => by rw [hbc307.2.cell (Nat.lt_of_lt_of_le lqI (Below.size Bc306)) hnoI]; exact (kS _ Bc306).2 j⟩)
 refine hK.out _ _ hSc307 ?_
 intro hSd307
 clear hK K
 try simp only [Act.put, sIB, sZB, sSB]
 refine wpAnyH_ready (rs := [7]) (by kernel_rfl) (by simp) ?_
 refine AllReadyH.cons rfl (fun K hK => ?_) AllReadyH.nil
 go_simp
 refine hK.out _ _ hSd307 ?_
 intro hSl308
 clear hK K
 try simp only [Act.put, sIB, sZB, sSB]
 refine wpAnyH_done (by kernel_rfl) ?_ _
 refine LastPost.step rfl (fun K hK => ?_)
 have V1 := hbc307.2.tb (U2.later Bc306) hno2
 have x1 := fun j => V1.cell j
 have z1 := fun j => V1.frozen j
 have l1 := V1.lt
 have hQ : Hid (StQ O w _ B P.1 _) := StQ.of (below_thru B0 Bc306) hbc307
 have hsz : w.heap.size + 1 + 1 < _ := Nat.lt_of_lt_of_le (show w.heap.size + 1 + 1 < wv2.heap.size from HL1.out) (Below.size Bc306)
 have HZ : Hid _ := hsz
 clear hsz
 go_simp
 refine hK _ _ ?_
 go_wp2_with fail
 refine bodyPost_ret (v := .agg #[.int .i64 KK, .int .i64 0, .slice none 0 0]) (by simp [results, Tryz.results84, go_sem, x1, l1]) rfl ⟨rfl, ?_⟩
 exact StQ.post (StQ.set (StQ.set (StQ.set (O := O) (w0 := w) (B := B) (s := P.1) hQ.out (by omega) HZ.out hlt 0 _) (by omega) HZ.out hlt 1 _) (by omega) HZ.out hlt 2 _) (Nat.le_trans B0.size (Below.size Bc306))

/- store.join: too great. -/

set_option maxHeartbeats 40000000 in
set_option maxRecDepth 100000 in
theorem join_big (O : Nat → Prop) (s : StoreR) (B : Nat) (kd fl ex nn : Int) (key vl : ByteArray) (ka : Option Addr) (kn kc : Nat) (qt : Bool) (old : ItemR) (V : ByteArray) (w : World) (h : StO O w B s) (hl : s.items.length ≤ 1000) (hkd : kd ≠ 6) (hvs : V.size ≤ 300) (hvl : vl.size ≤ 200)
 (hsm : 200 < (V ++ vl).size)
 (hval : ∀ (pa : Option Addr) (pc : Nat) (wx : World), PagesAt wx pa s.pages → Calls Tryz.prog 82 #[.agg #[.int .i64 s.fm, .int .i64 s.fx, .slice pa s.pages.length pc], .agg #[.string old.key, .int .i64 old.flags, .int .i64 old.until_, .int .i64 old.cas, .int .i64 old.used, .string old.value, .bool old.far, .int .i64 old.page, .int .i64 old.at_]] wx fun e w' => e = .returned (.string V) ∧ Below wx.heap.size wx w') :
 Calls Tryz.prog 84 #[.pointer (some ⟨B, 0, none⟩), .agg #[.int .i64 kd, .string key, .slice ka kn kc, .int .i64 fl, .int .i64 ex, .int .i64 nn, .string vl, .bool qt], .agg #[.string old.key, .int .i64 old.flags, .int .i64 old.until_, .int .i64 old.cas, .int .i64 old.used, .string old.value, .bool old.far, .int .i64 old.page, .int .i64 old.at_]] w fun e w' => e = .returned (replyV 11 0) ∧ StPost O w B s w' := by
 have hS := h
 have htl := told_any 11
 unfold replyV at *
 have hsmz : ((200 : Int) < ((V ++ vl).size : Int)) := by omega
 generalize hVV : V ++ vl = VV at *
 obtain ⟨iv, pa, pc, Op, h⟩ := h
 obtain ⟨a, cp, e0, hA⟩ := h.row.items (by unfold maxLen; omega)
 subst e0
 have hlt := h.lt
 have hbB := h.box
 have hPA : PagesAt w pa s.pages := h.pages w (Nat.le_refl _) (fun _ _ _ => rfl)
 unfold stCells at hbB
 have T0 := ((TB.new 47 w #[.int .i64 kd, .string key, .slice ka kn kc, .int .i64 fl, .int .i64 ex, .int .i64 nn, .string vl, .bool qt]).alloc (.cells #[.string old.key, .int .i64 old.flags, .int .i64 old.until_, .int .i64 old.cas, .int .i64 old.used, .string old.value, .bool old.far, .int .i64 old.page, .int .i64 old.at_] 62)).alloc (.cells #[.int .i64 0, .int .i64 0, .slice none 0 0] 42)
 have T1 : TB 62 _ (w.heap.size + 1) #[.string old.key, .int .i64 old.flags, .int .i64 old.until_, .int .i64 old.cas, .int .i64 old.used, .string old.value, .bool old.far, .int .i64 old.page, .int .i64 old.at_] := (TB.new2 (w := w.alloc (.cells #[.int .i64 kd, .string key, .slice ka kn kc, .int .i64 fl, .int .i64 ex, .int .i64 nn, .string vl, .bool qt] 47)) (by simp)).alloc (.cells #[.int .i64 0, .int .i64 0, .slice none 0 0] 42)
 have T2 : TB 42 _ (w.heap.size + 1 + 1) #[.int .i64 0, .int .i64 0, .slice none 0 0] := TB.new2 (w := (w.alloc (.cells #[.int .i64 kd, .string key, .slice ka kn kc, .int .i64 fl, .int .i64 ex, .int .i64 nn, .string vl, .bool qt] 47)).alloc (.cells #[.string old.key, .int .i64 old.flags, .int .i64 old.until_, .int .i64 old.cas, .int .i64 old.used, .string old.value, .bool old.far, .int .i64 old.page, .int .i64 old.at_] 62)) (by simp)
 have A3 : Below w.heap.size w (((w.alloc (.cells #[.int .i64 kd, .string key, .slice ka kn kc, .int .i64 fl, .int .i64 ex, .int .i64 nn, .string vl, .bool qt] 47)).alloc (.cells #[.string old.key, .int .i64 old.flags, .int .i64 old.until_, .int .i64 old.cas, .int .i64 old.used, .string old.value, .bool old.far, .int .i64 old.page, .int .i64 old.at_] 62)).alloc (.cells #[.int .i64 0, .int .i64 0, .slice none 0 0] 42)) := below_al (below_al (below_al (Below.refl _ _) _) _) _
 have hfit : V.size + vl.size ≤ 600 := by omega
 have hfitn : ¬ (9223372036854775807 < V.size + vl.size) := by omega
 have hfitz : ¬ ((281474976710656 : Int) < (V.size : Int) + (vl.size : Int)) := by omega
 have hfit2 : V.size + vl.size ≤ 9223372036854775807 := by omega
 have hk6 : (kd == 6) = false := by simp [hkd]
 go_enter Tryz.func84, Tryz.ntmps84
 go_wp2_with fail
 generalize hW3 : (((w.alloc (.cells #[.int .i64 kd, .string key, .slice ka kn kc, .int .i64 fl, .int .i64 ex, .int .i64 nn, .string vl, .bool qt] 47)).alloc (.cells #[.string old.key, .int .i64 old.flags, .int .i64 old.until_, .int .i64 old.cas, .int .i64 old.used, .string old.value, .bool old.far, .int .i64 old.page, .int .i64 old.at_] 62)).alloc (.cells #[.int .i64 0, .int .i64 0, .slice none 0 0] 42)) = W3 at *
 clear hW3
 have TB3 := hbB.later A3
 have x0 := fun j => T0.cell j
 have l0 := T0.lt
 have x1 := fun j => T1.cell j
 have l1 := T1.lt
 have xB := fun j => TB3.cell j
 have lB := TB3.lt
 have kS : ∀ wx, Below W3.heap.size W3 wx → (fun wx => (∀ j, wx.cell? ⟨w.heap.size, j, none⟩ = (#[.int .i64 kd, .string key, .slice ka kn kc, .int .i64 fl, .int .i64 ex, .int .i64 nn, .string vl, .bool qt] : Array Value)[j]?) ∧ (∀ j, wx.cell? ⟨w.heap.size + 1, j, none⟩ = (#[.string old.key, .int .i64 old.flags, .int .i64 old.until_, .int .i64 old.cas, .int .i64 old.used, .string old.value, .bool old.far, .int .i64 old.page, .int .i64 old.at_] : Array Value)[j]?) ∧ (∀ j, wx.cell? ⟨B, j, none⟩ = (#[.int .i64 s.clock, .int .i64 s.cas, .int .i64 s.uses, .int .i64 s.most, .int .i64 s.h0, .int .i64 s.h1, .int .i64 s.h2, .int .i64 s.h3, .slice a s.items.length cp, .int .i64 s.fm, .int .i64 s.fx, .slice pa s.pages.length pc] : Array Value)[j]?) ∧ Below W3.heap.size W3 wx) wx := fun wx hx => ⟨fun j => by rw [hx.cell (p := ⟨w.heap.size, j, none⟩) l0]; exact x0 j, fun j => by rw [hx.cell (p := ⟨w.heap.size + 1, j, none⟩) l1]; exact x1 j, fun j => by rw [hx.cell (p := ⟨B, j, none⟩) lB]; exact xB j, hx⟩
 go_region_held3 (fun wx => (∀ j, wx.cell? ⟨w.heap.size, j, none⟩ = (#[.int .i64 kd, .string key, .slice ka kn kc, .int .i64 fl, .int .i64 ex, .int .i64 nn, .string vl, .bool qt] : Array Value)[j]?) ∧ (∀ j, wx.cell? ⟨w.heap.size + 1, j, none⟩ = (#[.string old.key, .int .i64 old.flags, .int .i64 old.until_, .int .i64 old.cas, .int .i64 old.used, .string old.value, .bool old.far, .int .i64 old.page, .int .i64 old.at_] : Array Value)[j]?) ∧ (∀ j, wx.cell? ⟨B, j, none⟩ = (#[.int .i64 s.clock, .int .i64 s.cas, .int .i64 s.uses, .int .i64 s.most, .int .i64 s.h0, .int .i64 s.h1, .int .i64 s.h2, .int .i64 s.h3, .slice a s.items.length cp, .int .i64 s.fm, .int .i64 s.fx, .slice pa s.pages.length pc] : Array Value)[j]?) ∧ Below W3.heap.size W3 wx) ((refine kS _ ?_; with_reducible (repeat (first | assumption | exact Below.refl _ _ | refine Below.drew ?_ | refine below_thru ?_ hbv)))) ((go_at_call 82; refine (hval pa pc _ (hPA.later (below_thru A3 (by with_reducible (repeat (first | assumption | exact Below.refl _ _ | refine Below.drew ?_)))))).mono ?_; rintro e wv ⟨rfl, hbv⟩))
 have BV : Below W3.heap.size W3 wv := below_thru (Below.drew (Below.refl W3.heap.size W3)) hbv
 have B0 : Below w.heap.size w wv := below_thru A3 BV
 have U0 := T0.later BV
 have UI := T1.later BV
 have U2 := T2.later BV
 have q0 := fun j => U0.cell j
 have lq0 := U0.lt
 have qI := fun j => UI.cell j
 have lqI := UI.lt
 have hno0 : ¬ O w.heap.size := fun e => by have := hlt _ e; omega
 have hnoI : ¬ O (w.heap.size + 1) := fun e => by have := hlt _ e; omega
 have hno2 : ¬ O (w.heap.size + 1 + 1) := fun e => by have := hlt _ e; omega
 clear kS x0 l0 x1 l1 xB lB T0 T1 T2 TB3 hbB h hval q0 lq0 qI lqI
 go_wp2_with fail
 refine (htl _).mono ?_
 rintro e wt ⟨rfl, hbt⟩
 have V1 := U2.later hbt
 have x2 := fun j => V1.cell j
 have z2 := fun j => V1.frozen j
 have l2 := V1.lt
 have HB : Hid (Below w.heap.size w wt) := below_thru B0 hbt
 clear hbt B0 BV
 go_wp2_with fail
 refine bodyPost_ret (v := .agg #[.int .i64 11, .int .i64 0, .slice none 0 0]) (by simp [results, Tryz.results84, go_sem, x2, l2]) rfl ⟨rfl, ?_⟩
 exact StPost.same hS (below_st (below_st (below_st HB.out _ (show w.heap.size ≤ w.heap.size + 1 + 1 by omega)) _ (show w.heap.size ≤ w.heap.size + 1 + 1 by omega)) _ (show w.heap.size ≤ w.heap.size + 1 + 1 by omega))

set_option maxHeartbeats 40000000 in
set_option maxRecDepth 100000 in
theorem join_big6 (O : Nat → Prop) (s : StoreR) (B : Nat) (kd fl ex nn : Int) (key vl : ByteArray) (ka : Option Addr) (kn kc : Nat) (qt : Bool) (old : ItemR) (V : ByteArray) (w : World) (h : StO O w B s) (hl : s.items.length ≤ 1000) (hkd : kd = 6) (hvs : V.size ≤ 300) (hvl : vl.size ≤ 200)
 (hsm : 200 < (vl ++ V).size)
 (hval : ∀ (pa : Option Addr) (pc : Nat) (wx : World), PagesAt wx pa s.pages → Calls Tryz.prog 82 #[.agg #[.int .i64 s.fm, .int .i64 s.fx, .slice pa s.pages.length pc], .agg #[.string old.key, .int .i64 old.flags, .int .i64 old.until_, .int .i64 old.cas, .int .i64 old.used, .string old.value, .bool old.far, .int .i64 old.page, .int .i64 old.at_]] wx fun e w' => e = .returned (.string V) ∧ Below wx.heap.size wx w') :
 Calls Tryz.prog 84 #[.pointer (some ⟨B, 0, none⟩), .agg #[.int .i64 kd, .string key, .slice ka kn kc, .int .i64 fl, .int .i64 ex, .int .i64 nn, .string vl, .bool qt], .agg #[.string old.key, .int .i64 old.flags, .int .i64 old.until_, .int .i64 old.cas, .int .i64 old.used, .string old.value, .bool old.far, .int .i64 old.page, .int .i64 old.at_]] w fun e w' => e = .returned (replyV 11 0) ∧ StPost O w B s w' := by
 have hS := h
 have htl := told_any 11
 unfold replyV at *
 have hsmz : ((200 : Int) < ((vl ++ V).size : Int)) := by omega
 generalize hVV : vl ++ V = VV at *
 obtain ⟨iv, pa, pc, Op, h⟩ := h
 obtain ⟨a, cp, e0, hA⟩ := h.row.items (by unfold maxLen; omega)
 subst e0
 have hlt := h.lt
 have hbB := h.box
 have hPA : PagesAt w pa s.pages := h.pages w (Nat.le_refl _) (fun _ _ _ => rfl)
 unfold stCells at hbB
 have T0 := ((TB.new 47 w #[.int .i64 kd, .string key, .slice ka kn kc, .int .i64 fl, .int .i64 ex, .int .i64 nn, .string vl, .bool qt]).alloc (.cells #[.string old.key, .int .i64 old.flags, .int .i64 old.until_, .int .i64 old.cas, .int .i64 old.used, .string old.value, .bool old.far, .int .i64 old.page, .int .i64 old.at_] 62)).alloc (.cells #[.int .i64 0, .int .i64 0, .slice none 0 0] 42)
 have T1 : TB 62 _ (w.heap.size + 1) #[.string old.key, .int .i64 old.flags, .int .i64 old.until_, .int .i64 old.cas, .int .i64 old.used, .string old.value, .bool old.far, .int .i64 old.page, .int .i64 old.at_] := (TB.new2 (w := w.alloc (.cells #[.int .i64 kd, .string key, .slice ka kn kc, .int .i64 fl, .int .i64 ex, .int .i64 nn, .string vl, .bool qt] 47)) (by simp)).alloc (.cells #[.int .i64 0, .int .i64 0, .slice none 0 0] 42)
 have T2 : TB 42 _ (w.heap.size + 1 + 1) #[.int .i64 0, .int .i64 0, .slice none 0 0] := TB.new2 (w := (w.alloc (.cells #[.int .i64 kd, .string key, .slice ka kn kc, .int .i64 fl, .int .i64 ex, .int .i64 nn, .string vl, .bool qt] 47)).alloc (.cells #[.string old.key, .int .i64 old.flags, .int .i64 old.until_, .int .i64 old.cas, .int .i64 old.used, .string old.value, .bool old.far, .int .i64 old.page, .int .i64 old.at_] 62)) (by simp)
 have A3 : Below w.heap.size w (((w.alloc (.cells #[.int .i64 kd, .string key, .slice ka kn kc, .int .i64 fl, .int .i64 ex, .int .i64 nn, .string vl, .bool qt] 47)).alloc (.cells #[.string old.key, .int .i64 old.flags, .int .i64 old.until_, .int .i64 old.cas, .int .i64 old.used, .string old.value, .bool old.far, .int .i64 old.page, .int .i64 old.at_] 62)).alloc (.cells #[.int .i64 0, .int .i64 0, .slice none 0 0] 42)) := below_al (below_al (below_al (Below.refl _ _) _) _) _
 have hfit : V.size + vl.size ≤ 600 := by omega
 have ifitn : ¬ (9223372036854775807 < vl.size + V.size) := by omega
 have ifitz : ¬ ((281474976710656 : Int) < (vl.size : Int) + (V.size : Int)) := by omega
 have ifit2 : vl.size + V.size ≤ 9223372036854775807 := by omega
 have hfitn : ¬ (9223372036854775807 < V.size + vl.size) := by omega
 have hfitz : ¬ ((281474976710656 : Int) < (V.size : Int) + (vl.size : Int)) := by omega
 have hfit2 : V.size + vl.size ≤ 9223372036854775807 := by omega
 have hk6 : (kd == 6) = true := by simp [hkd]
 clear hkd
 go_enter Tryz.func84, Tryz.ntmps84
 go_wp2_with fail
 generalize hW3 : (((w.alloc (.cells #[.int .i64 kd, .string key, .slice ka kn kc, .int .i64 fl, .int .i64 ex, .int .i64 nn, .string vl, .bool qt] 47)).alloc (.cells #[.string old.key, .int .i64 old.flags, .int .i64 old.until_, .int .i64 old.cas, .int .i64 old.used, .string old.value, .bool old.far, .int .i64 old.page, .int .i64 old.at_] 62)).alloc (.cells #[.int .i64 0, .int .i64 0, .slice none 0 0] 42)) = W3 at *
 clear hW3
 have TB3 := hbB.later A3
 have x0 := fun j => T0.cell j
 have l0 := T0.lt
 have x1 := fun j => T1.cell j
 have l1 := T1.lt
 have xB := fun j => TB3.cell j
 have lB := TB3.lt
 have kS : ∀ wx, Below W3.heap.size W3 wx → (fun wx => (∀ j, wx.cell? ⟨w.heap.size, j, none⟩ = (#[.int .i64 kd, .string key, .slice ka kn kc, .int .i64 fl, .int .i64 ex, .int .i64 nn, .string vl, .bool qt] : Array Value)[j]?) ∧ (∀ j, wx.cell? ⟨w.heap.size + 1, j, none⟩ = (#[.string old.key, .int .i64 old.flags, .int .i64 old.until_, .int .i64 old.cas, .int .i64 old.used, .string old.value, .bool old.far, .int .i64 old.page, .int .i64 old.at_] : Array Value)[j]?) ∧ (∀ j, wx.cell? ⟨B, j, none⟩ = (#[.int .i64 s.clock, .int .i64 s.cas, .int .i64 s.uses, .int .i64 s.most, .int .i64 s.h0, .int .i64 s.h1, .int .i64 s.h2, .int .i64 s.h3, .slice a s.items.length cp, .int .i64 s.fm, .int .i64 s.fx, .slice pa s.pages.length pc] : Array Value)[j]?) ∧ Below W3.heap.size W3 wx) wx := fun wx hx => ⟨fun j => by rw [hx.cell (p := ⟨w.heap.size, j, none⟩) l0]; exact x0 j, fun j => by rw [hx.cell (p := ⟨w.heap.size + 1, j, none⟩) l1]; exact x1 j, fun j => by rw [hx.cell (p := ⟨B, j, none⟩) lB]; exact xB j, hx⟩
 go_region_held3 (fun wx => (∀ j, wx.cell? ⟨w.heap.size, j, none⟩ = (#[.int .i64 kd, .string key, .slice ka kn kc, .int .i64 fl, .int .i64 ex, .int .i64 nn, .string vl, .bool qt] : Array Value)[j]?) ∧ (∀ j, wx.cell? ⟨w.heap.size + 1, j, none⟩ = (#[.string old.key, .int .i64 old.flags, .int .i64 old.until_, .int .i64 old.cas, .int .i64 old.used, .string old.value, .bool old.far, .int .i64 old.page, .int .i64 old.at_] : Array Value)[j]?) ∧ (∀ j, wx.cell? ⟨B, j, none⟩ = (#[.int .i64 s.clock, .int .i64 s.cas, .int .i64 s.uses, .int .i64 s.most, .int .i64 s.h0, .int .i64 s.h1, .int .i64 s.h2, .int .i64 s.h3, .slice a s.items.length cp, .int .i64 s.fm, .int .i64 s.fx, .slice pa s.pages.length pc] : Array Value)[j]?) ∧ Below W3.heap.size W3 wx) ((refine kS _ ?_; with_reducible (repeat (first | assumption | exact Below.refl _ _ | refine Below.drew ?_ | refine below_thru ?_ hbv)))) ((go_at_call 82; refine (hval pa pc _ (hPA.later (below_thru A3 (by with_reducible (repeat (first | assumption | exact Below.refl _ _ | refine Below.drew ?_)))))).mono ?_; rintro e wv ⟨rfl, hbv⟩))
 have kB1 := below_thru (Below.drew (Below.refl W3.heap.size W3)) hbv
 have kS1 := kS _ kB1
 go_wp2_with fail
 go_region_held3 (fun wx => (∀ j, wx.cell? ⟨w.heap.size, j, none⟩ = (#[.int .i64 kd, .string key, .slice ka kn kc, .int .i64 fl, .int .i64 ex, .int .i64 nn, .string vl, .bool qt] : Array Value)[j]?) ∧ (∀ j, wx.cell? ⟨w.heap.size + 1, j, none⟩ = (#[.string old.key, .int .i64 old.flags, .int .i64 old.until_, .int .i64 old.cas, .int .i64 old.used, .string old.value, .bool old.far, .int .i64 old.page, .int .i64 old.at_] : Array Value)[j]?) ∧ (∀ j, wx.cell? ⟨B, j, none⟩ = (#[.int .i64 s.clock, .int .i64 s.cas, .int .i64 s.uses, .int .i64 s.most, .int .i64 s.h0, .int .i64 s.h1, .int .i64 s.h2, .int .i64 s.h3, .slice a s.items.length cp, .int .i64 s.fm, .int .i64 s.fx, .slice pa s.pages.length pc] : Array Value)[j]?) ∧ Below W3.heap.size W3 wx) ((refine kS _ ?_; with_reducible (repeat (first | assumption | exact Below.refl _ _ | refine Below.drew ?_ | refine below_thru ?_ hbv2 | refine below_thru ?_ hbv)))) ((go_at_call 82; refine (hval pa pc _ (hPA.later (below_thru A3 (by with_reducible (repeat (first | assumption | exact Below.refl _ _ | refine Below.drew ?_ | refine below_thru ?_ hbv)))))).mono ?_; rintro e wv2 ⟨rfl, hbv2⟩))
 have BV : Below W3.heap.size W3 wv2 := below_thru (Below.drew kB1) hbv2
 clear kS1 hbv
 have B0 : Below w.heap.size w wv2 := below_thru A3 BV
 have U0 := T0.later BV
 have UI := T1.later BV
 have U2 := T2.later BV
 have q0 := fun j => U0.cell j
 have lq0 := U0.lt
 have qI := fun j => UI.cell j
 have lqI := UI.lt
 have hno0 : ¬ O w.heap.size := fun e => by have := hlt _ e; omega
 have hnoI : ¬ O (w.heap.size + 1) := fun e => by have := hlt _ e; omega
 have hno2 : ¬ O (w.heap.size + 1 + 1) := fun e => by have := hlt _ e; omega
 clear kS x0 l0 x1 l1 xB lB T0 T1 T2 TB3 hbB h hval q0 lq0 qI lqI
 go_wp2_with fail
 refine (htl _).mono ?_
 rintro e wt ⟨rfl, hbt⟩
 have V1 := U2.later hbt
 have x2 := fun j => V1.cell j
 have z2 := fun j => V1.frozen j
 have l2 := V1.lt
 have HB : Hid (Below w.heap.size w wt) := below_thru B0 hbt
 clear hbt B0 BV
 go_wp2_with fail
 refine bodyPost_ret (v := .agg #[.int .i64 11, .int .i64 0, .slice none 0 0]) (by simp [results, Tryz.results84, go_sem, x2, l2]) rfl ⟨rfl, ?_⟩
 exact StPost.same hS (below_st (below_st (below_st HB.out _ (show w.heap.size ≤ w.heap.size + 1 + 1 by omega)) _ (show w.heap.size ≤ w.heap.size + 1 + 1 by omega)) _ (show w.heap.size ≤ w.heap.size + 1 + 1 by omega))

end Go.Proofs.YtdblegdgmjakfaaGreatDoor
