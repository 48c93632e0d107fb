/- Parts of the proof. -/
import Derived.Test.YtdblegdgmjakfaaGreatDoorMJ15
import Derived.Shelf.Strings.Builder1
import Derived.Shelf.Strings.Builder2
import Derived.Shelf.Small.Strs
import Derived.Shelf.Strings.BuilderF
import Derived.Shelf.Strconv.Itoa0
import Derived.Shelf.Strconv.Itoa1
import Derived.Shelf.LaysM
import Derived.Shelf.Strconv.Itoa2
import Derived.Shelf.Strconv.Itoa3
import Derived.Shelf.Strconv.Clone
import Derived.Shelf.Strings.Search1
import Derived.Shelf.Strings.Search2
import Derived.Shelf.Strings.Search3
import Derived.Shelf.Strings.Count
import Derived.Shelf.Strings.Shaped
import Derived.Shelf.Strings.Prefix
import Derived.Shelf.Strings.Split
import Derived.Shelf.Strings.SplitShaped
import Derived.Shelf.Bits.Mul64
import Derived.Shelf.Strings.Repeat
import Derived.Shelf.Unicode.DecodeSlow
import Derived.Test.YtdblegdgmjakfaaGreatDoorProg
import Derived.Deep.RegionHeld3
namespace Go.Proofs
open Go.Shelf

/- The contracts of library functions that the code of this seat calls, at this translation: each one application of a theorem of the library. -/
def Tryz.laysM171_ren : Go.Shelf.Ren := ⟨fun | 171 => 20 | 243 => 39 | 246 => 60 | 283 => 89 | 284 => 90 | 285 => 91 | 286 => 92 | 129 => 117 | 317 => 116 | 318 => 118 | 319 => 119 | 320 => 120 | 337 => 133 | 338 => 134 | n => n, fun | 3 => 3 | 9 => 9 | 2 => 2 | 4 => 4 | 171 => 140 | 0 => 0 | 53 => 128 | 37 => 95 | 5 => 5 | 173 => 143 | 212 => 166 | 51 => 125 | 20 => 20 | 213 => 167 | 46 => 90 | 232 => 184 | 233 => 185 | n => n, fun | 17 => 2 | 18 => 5 | 19 => 6 | n => n⟩
theorem Tryz.laysM171 : Go.Proofs.LaysM.n171 Tryz.prog Tryz.laysM171_ren := {
 mixed := by kernel_rfl
 f129 := Tryz.func117.trans (congrArg some (by kernel_rfl))
 f171 := Tryz.func20.trans (congrArg some (by kernel_rfl))
 f243 := Tryz.func39.trans (congrArg some (by kernel_rfl))
 f246 := Tryz.func60.trans (congrArg some (by kernel_rfl))
 f283 := Tryz.func89.trans (congrArg some (by kernel_rfl))
 f284 := Tryz.func90.trans (congrArg some (by kernel_rfl))
 f285 := Tryz.func91.trans (congrArg some (by kernel_rfl))
 f286 := Tryz.func92.trans (congrArg some (by kernel_rfl))
 f317 := Tryz.func116.trans (congrArg some (by kernel_rfl))
 f318 := Tryz.func118.trans (congrArg some (by kernel_rfl))
 f319 := Tryz.func119.trans (congrArg some (by kernel_rfl))
 f320 := Tryz.func120.trans (congrArg some (by kernel_rfl))
 f337 := Tryz.func133.trans (congrArg some (by kernel_rfl))
 f338 := Tryz.func134.trans (congrArg some (by kernel_rfl))
 t0 := Tryz.underlying0
 a0 := Tryz.isAgg0
 z0 := Tryz.sizeOf0
 v0 := Tryz.zeroValue0
 t2 := Tryz.underlying2
 a2 := Tryz.isAgg2
 z2 := Tryz.sizeOf2
 v2 := Tryz.zeroValue2
 t3 := Tryz.underlying3
 a3 := Tryz.isAgg3
 z3 := Tryz.sizeOf3
 v3 := Tryz.zeroValue3
 t4 := Tryz.underlying4
 a4 := Tryz.isAgg4
 z4 := Tryz.sizeOf4
 v4 := Tryz.zeroValue4
 t5 := Tryz.underlying5
 a5 := Tryz.isAgg5
 z5 := Tryz.sizeOf5
 v5 := Tryz.zeroValue5
 t9 := Tryz.underlying9
 a9 := Tryz.isAgg9
 z9 := Tryz.sizeOf9
 v9 := Tryz.zeroValue9
 t20 := Tryz.underlying20
 a20 := Tryz.isAgg20
 z20 := Tryz.sizeOf20
 v20 := Tryz.zeroValue20
 t37 := Tryz.underlying95
 a37 := Tryz.isAgg95
 z37 := Tryz.sizeOf95
 v37 := Tryz.zeroValue95
 t46 := Tryz.underlying90
 a46 := Tryz.isAgg90
 z46 := Tryz.sizeOf90
 v46 := Tryz.zeroValue90
 t51 := Tryz.underlying125
 a51 := Tryz.isAgg125
 z51 := Tryz.sizeOf125
 v51 := Tryz.zeroValue125
 t53 := Tryz.underlying128
 a53 := Tryz.isAgg128
 z53 := Tryz.sizeOf128
 v53 := Tryz.zeroValue128
 t171 := Tryz.underlying140
 a171 := Tryz.isAgg140
 z171 := Tryz.sizeOf140
 v171 := Tryz.zeroValue140
 t173 := Tryz.underlying143
 a173 := Tryz.isAgg143
 z173 := Tryz.sizeOf143
 v173 := Tryz.zeroValue143
 t212 := Tryz.underlying166
 a212 := Tryz.isAgg166
 z212 := Tryz.sizeOf166
 v212 := Tryz.zeroValue166
 t213 := Tryz.underlying167
 a213 := Tryz.isAgg167
 z213 := Tryz.sizeOf167
 t232 := Tryz.underlying184
 a232 := Tryz.isAgg184
 z232 := Tryz.sizeOf184
 v232 := Tryz.zeroValue184
 t233 := Tryz.underlying185
 a233 := Tryz.isAgg185
 z233 := Tryz.sizeOf185
 v233 := Tryz.zeroValue185
 g17 := by kernel_rfl
 g18 := by kernel_rfl
 g19 := by kernel_rfl
 i0 := by kernel_rfl
 i2 := by kernel_rfl
 i3 := by kernel_rfl
 i4 := by kernel_rfl
 i5 := by kernel_rfl
 i9 := by kernel_rfl
 i20 := by kernel_rfl
 i37 := by kernel_rfl
 i46 := by kernel_rfl
 i51 := by kernel_rfl
 i53 := by kernel_rfl
 i171 := by kernel_rfl
 i173 := by kernel_rfl
 i212 := by kernel_rfl
 i232 := by kernel_rfl
 i233 := by kernel_rfl
 m17 := by kernel_rfl
 m18 := by kernel_rfl
 m19 := by kernel_rfl }
open Go.RowKit Go.Sort Go.Lib in
theorem Tryz.strconv_Itoa (n : Int) (h0 : -9223372036854775808 ≤ n) (h1 : n ≤ 9223372036854775807) (w : World) (htab : Lib.TabIs Tryz.prog w "internal/strconv.uint64pow10" .u64 Lib.pow10Tab) :
 Calls Tryz.prog 20 #[.int .i64 n] w fun e w' => e = .returned (.string ⟨(Lib.itoa n).toArray⟩) ∧ ∃ k os, w' = grow (w.drewN k) os := Any.strconv_Itoa Tryz.laysM171 n h0 h1 w htab
def Tryz.laysM316_ren : Go.Shelf.Ren := ⟨fun | 316 => 79 | n => n, fun | 9 => 9 | 3 => 3 | 4 => 4 | 37 => 95 | 0 => 0 | 127 => 131 | 5 => 5 | n => n, fun | n => n⟩
theorem Tryz.laysM316 : Go.Proofs.LaysM.n316 Tryz.prog Tryz.laysM316_ren := {
 mixed := by kernel_rfl
 f316 := Tryz.func79.trans (congrArg some (by kernel_rfl))
 t0 := Tryz.underlying0
 a0 := Tryz.isAgg0
 z0 := Tryz.sizeOf0
 v0 := Tryz.zeroValue0
 t3 := Tryz.underlying3
 a3 := Tryz.isAgg3
 z3 := Tryz.sizeOf3
 v3 := Tryz.zeroValue3
 t4 := Tryz.underlying4
 a4 := Tryz.isAgg4
 z4 := Tryz.sizeOf4
 v4 := Tryz.zeroValue4
 t9 := Tryz.underlying9
 a9 := Tryz.isAgg9
 z9 := Tryz.sizeOf9
 v9 := Tryz.zeroValue9
 t37 := Tryz.underlying95
 a37 := Tryz.isAgg95
 z37 := Tryz.sizeOf95
 v37 := Tryz.zeroValue95
 t127 := Tryz.underlying131
 a127 := Tryz.isAgg131
 z127 := Tryz.sizeOf131
 v127 := Tryz.zeroValue131
 t5 := Tryz.underlying5
 a5 := Tryz.isAgg5
 z5 := Tryz.sizeOf5
 v5 := Tryz.zeroValue5
 i0 := by kernel_rfl
 i3 := by kernel_rfl
 i4 := by kernel_rfl
 i5 := by kernel_rfl
 i9 := by kernel_rfl
 i37 := by kernel_rfl
 i127 := by kernel_rfl }
open Go.RowKit in
theorem Tryz.stringslite_Clone (s : ByteArray) (w : World) (hlim : s.size ≤ 281474976710656) :
 Calls Tryz.prog 79 #[.string s] w fun e w' => e = .returned (.string s) ∧ Below w.heap.size w w' := Any.stringslite_Clone Tryz.laysM316 s w hlim

end Go.Proofs

namespace Go.Proofs.YtdblegdgmjakfaaGreatDoor
open Go.ChangeShapes Go.WideShapes Go.ChangeAt Go.RowKit
set_option linter.unusedVariables false
set_option linter.unusedSimpArgs false

/- store.told, store.putValue. -/

theorem cloneS_any (s : ByteArray) (w : World) (h : s.size ≤ 281474976710656) : Calls Tryz.prog 55 #[.string s] w fun e w' => e = .returned (.string s) ∧ Below w.heap.size w w' := by
 have hc := Tryz.stringslite_Clone s w h
 go_enter Tryz.func55, Tryz.ntmps55
 go_wp2_with (go_at_call 79; refine hc.mono ?_; rintro e w' ⟨rfl, hb⟩)
 go_ret
 exact ⟨rfl, hb⟩

/-- A reply without hits. -/
def replyV (k n : Int) : Value := .agg #[.int .i64 k, .int .i64 n, .slice none 0 0]

theorem told_any (k : Int) (w : World) : Calls Tryz.prog 58 #[.int .i64 k] w fun e w' => e = .returned (replyV k 0) ∧ Below w.heap.size w w' := by
 go_enter Tryz.func58, Tryz.ntmps58
 go_wp2
 exact bodyPost_ret (v := replyV k 0) (by simp [results, Tryz.results58, go_sem, replyV]) rfl ⟨rfl, (Below.refl _ _).alloc (Nat.le_refl _) _⟩

theorem nine_set {key value : ByteArray} {lf lu : Int} (W : World) (b : Nat) (h : TB 62 W b #[.string ByteArray.empty, .int .i64 0, .int .i64 0, .int .i64 0, .int .i64 0, .string ByteArray.empty, .bool false, .int .i64 0, .int .i64 0]) : TB 62 (((((((((W.setCell ⟨b, 0, none⟩ (.string key)).setCell ⟨b, 1, none⟩ (.int .i64 lf)).setCell ⟨b, 2, none⟩ (.int .i64 lu)).setCell ⟨b, 3, none⟩ (.int .i64 0)).setCell ⟨b, 4, none⟩ (.int .i64 0)).setCell ⟨b, 5, none⟩ (.string value)).setCell ⟨b, 6, none⟩ (.bool false)).setCell ⟨b, 7, none⟩ (.int .i64 0)).setCell ⟨b, 8, none⟩ (.int .i64 0)) b #[.string key, .int .i64 lf, .int .i64 lu, .int .i64 0, .int .i64 0, .string value, .bool false, .int .i64 0, .int .i64 0] := by
 have h9 := (((((((((h.set 0 (.string key)).set 1 (.int .i64 lf)).set 2 (.int .i64 lu)).set 3 (.int .i64 0)).set 4 (.int .i64 0)).set 5 (.string value)).set 6 (.bool false)).set 7 (.int .i64 0)).set 8 (.int .i64 0))
 simp only [sIB, sZB, sSB] at h9
 exact h9

/-- Behind a call: the store is s; boxes of the caller's own are none of its blocks. -/
def StQ (O : Nat → Prop) (w0 w : World) (B : Nat) (s : StoreR) (w2 : World) : Prop := (∃ O', StO O' w2 B s ∧ ∀ x, O' x → O x ∨ w.heap.size ≤ x) ∧ Fr O w0 w2
theorem StQ.of {O : Nat → Prop} {w0 w w1 : World} {B : Nat} {s : StoreR} (hb : Below w0.heap.size w0 w) (h : StPost O w B s w1) : StQ O w0 w B s w1 := ⟨h.1, (Fr.of_below hb).trans h.2 (fun b hb => Or.inl hb)⟩
theorem StQ.set {O : Nat → Prop} {w0 w w2 : World} {B : Nat} {s : StoreR} (h : StQ O w0 w B s w2) {b : Nat} (h1 : w0.heap.size ≤ b) (h2 : b < w.heap.size) (hO : ∀ x, O x → x < w0.heap.size) (j : Nat) (v : Value) : StQ O w0 w B s (w2.setCell ⟨b, j, none⟩ v) := by
 obtain ⟨⟨O', ⟨iv, pa, pc, Op, k1⟩, k2⟩, k3⟩ := h
 refine ⟨⟨O', ⟨iv, pa, pc, Op, k1.kept (by simp [World.setCell]) fun x hx hl => heap_setCell_other _ _ _ _ (show x ≠ b from fun e => ?_)⟩, k2⟩, k3.set j v (Or.inr h1)⟩
 subst e
 rcases k2 x hx with q | q
 · have := hO x q; omega
 · omega
theorem StQ.later {O : Nat → Prop} {w0 w w2 w3 : World} {B : Nat} {s : StoreR} (h : StQ O w0 w B s w2) (hs : w0.heap.size ≤ w.heap.size) (hb : Below w2.heap.size w2 w3) : StQ O w0 w B s w3 := by
 obtain ⟨⟨O', k1, k2⟩, k3⟩ := h
 exact ⟨⟨O', k1.later hb, k2⟩, k3.trans (Fr.of_below (O := O') hb) (fun b hb => (k2 b hb).imp id fun q => Nat.le_trans hs q)⟩
theorem StQ.post {O : Nat → Prop} {w0 w w2 : World} {B : Nat} {s : StoreR} (h : StQ O w0 w B s w2) (hs : w0.heap.size ≤ w.heap.size) : StPost O w0 B s w2 := ⟨h.1.imp fun O' k => ⟨k.1, fun b hb => (k.2 b hb).imp id fun q => Nat.le_trans hs q⟩, h.2⟩

/-- The item that is put: the flags and the time of another one. -/
def mkI (like : ItemR) (key value : ByteArray) : ItemR := ⟨key, like.flags, like.until_, 0, 0, value, false, 0, 0⟩

set_option maxHeartbeats 40000000 in
set_option maxRecDepth 100000 in
theorem putValue_any (O : Nat → Prop) (s : StoreR) (B : Nat) (like : ItemR) (key value : ByteArray) (k n : Int) (w : World) (h : StO O w B s) (hl : s.items.length ≤ 1000) (hg : Gd (takeN s key)) (hks : key.size ≤ 281474976710656) (hvs : value.size ≤ 281474976710656) (hok : ItemOk (mkI like key value)) (hcl : ∃ c : Nat, c ≤ 3 ∧ classN key.size value.size = c) (hL : LaidC w) (hOc : ¬ O 0)
 (hlp : (pushS (takeN s key) (clsN (mkI like key value))).1.items.length ≤ 1000) (hg2 : Gd (roomS (takeN s key) (clsN (mkI like key value))).1) (hmo : KeyMono (roomS (takeN s key) (clsN (mkI like key value))).1.items key) :
 Calls Tryz.prog 112 #[.pointer (some ⟨B, 0, none⟩), .agg #[.string like.key, .int .i64 like.flags, .int .i64 like.until_, .int .i64 like.cas, .int .i64 like.used, .string like.value, .bool like.far, .int .i64 like.page, .int .i64 like.at_], .string key, .string value, replyV k n] w fun e w' => e = .returned (if (putS s (mkI like key value)).2 = true then replyV k n else replyV 11 0) ∧ StPost O w B (putS s (mkI like key value)).1 w' := by
 have hlt : ∀ b, O b → b < w.heap.size := by
  obtain ⟨iv, pa, pc, Op, h⟩ := h
  exact h.lt
 have hpt := fun wx hx => put_any O s B (mkI like key value) wx (h.later hx) hl hg hok hcl (hL.later hx) hOc hlp hg2 hmo
 generalize hPS : putS s (mkI like key value) = P at *
 unfold mkI replyV at *
 have HPT : Hid _ := hpt
 clear hpt hg hok hcl hlp hg2 hmo hPS
 obtain ⟨lk, lf, lu, lc, ls, lv, lr, lp, la⟩ := like
 simp only at *
 have T0 := ((TB.new 62 w #[.string lk, .int .i64 lf, .int .i64 lu, .int .i64 lc, .int .i64 ls, .string lv, .bool lr, .int .i64 lp, .int .i64 la]).alloc (.cells #[.int .i64 k, .int .i64 n, .slice none 0 0] 42)).alloc (.cells #[.int .i64 0, .int .i64 0, .slice none 0 0] 42)
 have T1 : TB 42 _ (w.heap.size + 1) #[.int .i64 k, .int .i64 n, .slice none 0 0] := (TB.new2 (w := w.alloc (.cells #[.string lk, .int .i64 lf, .int .i64 lu, .int .i64 lc, .int .i64 ls, .string lv, .bool lr, .int .i64 lp, .int .i64 la] 62)) (by simp)).alloc (.cells #[.int .i64 0, .int .i64 0, .slice none 0 0] 42)
 have T2 : TB 42 _ (w.heap.size + 1 + 1) #[.int .i64 0, .int .i64 0, .slice none 0 0] := TB.new2 (w := (w.alloc (.cells #[.string lk, .int .i64 lf, .int .i64 lu, .int .i64 lc, .int .i64 ls, .string lv, .bool lr, .int .i64 lp, .int .i64 la] 62)).alloc (.cells #[.int .i64 k, .int .i64 n, .slice none 0 0] 42)) (by simp)
 have A3 : Below w.heap.size w (((w.alloc (.cells #[.string lk, .int .i64 lf, .int .i64 lu, .int .i64 lc, .int .i64 ls, .string lv, .bool lr, .int .i64 lp, .int .i64 la] 62)).alloc (.cells #[.int .i64 k, .int .i64 n, .slice none 0 0] 42)).alloc (.cells #[.int .i64 0, .int .i64 0, .slice none 0 0] 42)) := below_al (below_al (below_al (Below.refl _ _) _) _) _
 have S3 : (((w.alloc (.cells #[.string lk, .int .i64 lf, .int .i64 lu, .int .i64 lc, .int .i64 ls, .string lv, .bool lr, .int .i64 lp, .int .i64 la] 62)).alloc (.cells #[.int .i64 k, .int .i64 n, .slice none 0 0] 42)).alloc (.cells #[.int .i64 0, .int .i64 0, .slice none 0 0] 42)).heap.size = w.heap.size + 3 := by simp
 go_enter Tryz.func112, Tryz.ntmps112
 go_wp2_with fail
 generalize hW3 : (((w.alloc (.cells #[.string lk, .int .i64 lf, .int .i64 lu, .int .i64 lc, .int .i64 ls, .string lv, .bool lr, .int .i64 lp, .int .i64 la] 62)).alloc (.cells #[.int .i64 k, .int .i64 n, .slice none 0 0] 42)).alloc (.cells #[.int .i64 0, .int .i64 0, .slice none 0 0] 42)) = W3 at *
 clear hW3
 have HS3 : Hid (W3.heap.size = w.heap.size + 3) := S3
 clear S3
 have x0 := fun j => T0.cell j
 have l0 := T0.lt
 have kS : ∀ wx, Below W3.heap.size W3 wx → (fun wx => (∀ j, wx.cell? ⟨w.heap.size, j, none⟩ = (#[.string lk, .int .i64 lf, .int .i64 lu, .int .i64 lc, .int .i64 ls, .string lv, .bool lr, .int .i64 lp, .int .i64 la] : Array Value)[j]?) ∧ Below W3.heap.size W3 wx) wx := fun wx hx => ⟨fun j => by rw [hx.cell (p := ⟨w.heap.size, j, none⟩) l0]; exact x0 j, hx⟩
 have hset : Hid _ := @nine_set key value lf lu
 refine region_rel (fun a' wx => ∃ bI : Nat, a' = { tmps := #[.pointer (some ⟨B, 0, none⟩), .agg #[.string lk, .int .i64 lf, .int .i64 lu, .int .i64 lc, .int .i64 ls, .string lv, .bool lr, .int .i64 lp, .int .i64 la], .string key, .string value, .agg #[.int .i64 k, .int .i64 n, .slice none 0 0], undef, .pointer (some ⟨w.heap.size, 0, none⟩), undef, undef, .pointer (some ⟨w.heap.size + 1, 0, none⟩), .pointer (some ⟨w.heap.size + 1 + 1, 0, none⟩), .pointer (some ⟨bI, 0, none⟩), .string key, .string key, .pointer (some ⟨w.heap.size, 1, none⟩), .int .i64 lf, .pointer (some ⟨w.heap.size, 2, none⟩), .int .i64 lu, .string value, .string value, .agg #[.string key, .int .i64 lf, .int .i64 lu, .int .i64 0, .int .i64 0, .string value, .bool false, .int .i64 0, .int .i64 0], undef, undef, undef, undef, undef, undef], defers := [] } ∧ TB 62 wx bI #[.string key, .int .i64 lf, .int .i64 lu, .int .i64 0, .int .i64 0, .string value, .bool false, .int .i64 0, .int .i64 0] ∧ Below W3.heap.size W3 wx ∧ W3.heap.size ≤ bI) ?_ ?_
 · refine wp_region_last (S := (fun wx => (∀ j, wx.cell? ⟨w.heap.size, j, none⟩ = (#[.string lk, .int .i64 lf, .int .i64 lu, .int .i64 lc, .int .i64 ls, .string lv, .bool lr, .int .i64 lp, .int .i64 la] : Array Value)[j]?) ∧ Below W3.heap.size W3 wx)) 10 _ (by kernel_rfl) (by rfl) (by rfl) (by rfl) (by kernel_rfl) ?_
   have hS0 := kS W3.drew (Below.drew (Below.refl W3.heap.size W3))
   simp only [sIB, sZB, sSB]
   refine wpAnyH_take (i := 0) (v := ?tv1) rfl (by kernel_rfl) (by kernel_rfl) (by kernel_rfl) (fun _ _ _ h => h) (Or.inl ⟨by rfl, ?th1⟩) (by assumption) ?tr1
   case th1 => (intro w hSw; (try dsimp only at hSw); go_simp; try with_reducible rfl)
   try simp only [Act.put, sIB, sZB, sSB]
   refine wpAnyH_take (i := 2) (v := ?tv2) rfl (by kernel_rfl) (by kernel_rfl) (by kernel_rfl) (fun _ _ _ h => h) (Or.inl ⟨by rfl, ?th2⟩) (by assumption) ?tr2
   case th2 => (intro w hSw; (try dsimp only at hSw); go_simp; try with_reducible rfl)
   try simp only [Act.put, sIB, sZB, sSB]
   refine wpAnyH_take (i := 3) (v := ?tv3) rfl (by kernel_rfl) (by kernel_rfl) (by kernel_rfl) (fun _ _ _ h => h) (Or.inl ⟨by rfl, ?th3⟩) (by assumption) ?tr3
   case th3 => (intro w hSw; (try dsimp only at hSw); go_simp; try with_reducible rfl)
   try simp only [Act.put, sIB, sZB, sSB]
   refine wpAnyH_take (i := 4) (v := ?tv4) rfl (by kernel_rfl) (by kernel_rfl) (by kernel_rfl) (fun _ _ _ h => h) (Or.inl ⟨by rfl, ?th4⟩) (by assumption) ?tr4
   case th4 => (intro w hSw; (try dsimp only at hSw); go_simp; try with_reducible rfl)
   try simp only [Act.put, sIB, sZB, sSB]
   refine wpAnyH_take (i := 5) (v := ?tv5) rfl (by kernel_rfl) (by kernel_rfl) (by kernel_rfl) (fun _ _ _ h => h) (Or.inl ⟨by rfl, ?th5⟩) (by assumption) ?tr5
   case th5 => (intro w hSw; (try dsimp only at hSw); go_simp; try with_reducible rfl)
   try simp only [Act.put, sIB, sZB, sSB]
   refine wpAnyH_take (i := 6) (v := ?tv6) rfl (by kernel_rfl) (by kernel_rfl) (by kernel_rfl) (fun _ _ _ h => h) (Or.inl ⟨by rfl, ?th6⟩) (by assumption) ?tr6
   case th6 => (intro w hSw; (try dsimp only at hSw); go_simp; try with_reducible rfl)
   try simp only [Act.put, sIB, sZB, sSB]
   refine wpAnyH_ready (rs := [1, 9]) (by kernel_rfl) (by simp) ?_
   refine AllReadyH.cons rfl (fun K hK => ?_) (AllReadyH.cons rfl (fun K hK => ?_) AllReadyH.nil)
   · go_simp
     refine (cloneS_any key _ hks).mono ?_
     rintro e wc7 ⟨rfl, hbc7⟩
     have Bc7 : Below W3.heap.size W3 wc7 := below_thru (Below.drew (Below.refl W3.heap.size W3)) hbc7
     have hSc7 := kS _ Bc7
     refine hK.out _ _ hSc7 ?_
     intro hSd7
     clear hK K
     try simp only [Act.put, sIB, sZB, sSB]
     refine wpAnyH_ready (rs := [7, 9]) (by kernel_rfl) (by simp) ?_
     refine AllReadyH.cons rfl (fun K hK => ?_) (AllReadyH.cons rfl (fun K hK => ?_) AllReadyH.nil)
     · go_simp
       refine (cloneS_any value _ hvs).mono ?_
       rintro e wc8 ⟨rfl, hbc8⟩
       have Bc8 : Below W3.heap.size W3 wc8 := below_thru Bc7 hbc8
       have hSc8 := kS _ Bc8
       refine hK.out _ _ hSc8 ?_
       intro hSd8
       clear hK K
       try simp only [Act.put, sIB, sZB, sSB]
       refine wpAnyH_take (i := 8) (v := ?tv9) rfl (by kernel_rfl) (by kernel_rfl) (by kernel_rfl) (fun _ _ _ h => h) (Or.inl ⟨by rfl, ?th9⟩) (by assumption) ?tr9
       case th9 => (intro w hSw; (try dsimp only at hSw); go_simp; try with_reducible rfl)
       try simp only [Act.put, sIB, sZB, sSB]
       refine wpAnyH_ready (rs := [9]) (by kernel_rfl) (by simp) ?_
       refine AllReadyH.cons rfl (fun K hK => ?_) AllReadyH.nil
       go_simp
       have Bc10 := below_al Bc8 (.cells #[.string ByteArray.empty, .int .i64 0, .int .i64 0, .int .i64 0, .int .i64 0, .string ByteArray.empty, .bool false, .int .i64 0, .int .i64 0] 62)
       have hSc10 := kS _ Bc10
       refine hK.out _ _ hSc10 ?_
       intro hSd10
       clear hK K
       try simp only [Act.put, sIB, sZB, sSB]
       refine wpAnyH_ready (rs := [10]) (by kernel_rfl) (by simp) ?_
       refine AllReadyH.cons rfl (fun K hK => ?_) AllReadyH.nil
       go_simp
       refine hK.out _ _ hSd10 ?_
       intro hSl11
       clear hK K
       try simp only [Act.put, sIB, sZB, sSB]
       refine wpAnyH_done (by kernel_rfl) ?_ _
       refine LastPost.step rfl (fun K hK => ?_)
       have hn : W3.heap.size ≤ wc8.heap.size := Below.size (by assumption)
       go_simp
       refine hK _ _ ?_
       exact ⟨_, rfl, TB.new 62 wc8 #[.string key, .int .i64 lf, .int .i64 lu, .int .i64 0, .int .i64 0, .string value, .bool false, .int .i64 0, .int .i64 0], below_al Bc8 _, hn⟩
     · go_simp
       have Bc12 := below_al Bc7 (.cells #[.string ByteArray.empty, .int .i64 0, .int .i64 0, .int .i64 0, .int .i64 0, .string ByteArray.empty, .bool false, .int .i64 0, .int .i64 0] 62)
       have hSc12 := kS _ Bc12
       refine hK.out _ _ hSc12 ?_
       intro hSd12
       clear hK K
       try simp only [Act.put, sIB, sZB, sSB]
       refine wpAnyH_ready (rs := [7]) (by kernel_rfl) (by simp) ?_
       refine AllReadyH.cons rfl (fun K hK => ?_) AllReadyH.nil
       go_simp
       refine (cloneS_any value _ hvs).mono ?_
       rintro e wc13 ⟨rfl, hbc13⟩
       have Bc13 : Below W3.heap.size W3 wc13 := below_thru Bc12 hbc13
       have hSc13 := kS _ Bc13
       refine hK.out _ _ hSc13 ?_
       intro hSd13
       clear hK K
       try simp only [Act.put, sIB, sZB, sSB]
       refine wpAnyH_take (i := 8) (v := ?tv14) rfl (by kernel_rfl) (by kernel_rfl) (by kernel_rfl) (fun _ _ _ h => h) (Or.inl ⟨by rfl, ?th14⟩) (by assumption) ?tr14
       case th14 => (intro w hSw; (try dsimp only at hSw); go_simp; try with_reducible rfl)
       try simp only [Act.put, sIB, sZB, sSB]
       refine wpAnyH_ready (rs := [10]) (by kernel_rfl) (by simp) ?_
       refine AllReadyH.cons rfl (fun K hK => ?_) AllReadyH.nil
       go_simp
       refine hK.out _ _ hSd13 ?_
       intro hSl15
       clear hK K
       try simp only [Act.put, sIB, sZB, sSB]
       refine wpAnyH_done (by kernel_rfl) ?_ _
       refine LastPost.step rfl (fun K hK => ?_)
       have TT := ((TB.new 62 wc7 #[.string ByteArray.empty, .int .i64 0, .int .i64 0, .int .i64 0, .int .i64 0, .string ByteArray.empty, .bool false, .int .i64 0, .int .i64 0]).later hbc13)
       have tf := fun j => TT.frozen j
       have tc := fun j => TT.cell j
       have tl := TT.lt
       have hn : W3.heap.size ≤ wc7.heap.size := by first | exact Nat.le_refl _ | exact Below.size (by assumption)
       go_simp
       refine hK _ _ ?_
       exact ⟨_, rfl, hset.out _ _ TT, (below_st (below_st (below_st (below_st (below_st (below_st (below_st (below_st (below_st Bc13 _ hn) _ hn) _ hn) _ hn) _ hn) _ hn) _ hn) _ hn) _ hn), hn⟩
   · go_simp
     have Bc16 := below_al (Below.drew (Below.refl W3.heap.size W3)) (.cells #[.string ByteArray.empty, .int .i64 0, .int .i64 0, .int .i64 0, .int .i64 0, .string ByteArray.empty, .bool false, .int .i64 0, .int .i64 0] 62)
     have hSc16 := kS _ Bc16
     refine hK.out _ _ hSc16 ?_
     intro hSd16
     clear hK K
     try simp only [Act.put, sIB, sZB, sSB]
     refine wpAnyH_ready (rs := [1]) (by kernel_rfl) (by simp) ?_
     refine AllReadyH.cons rfl (fun K hK => ?_) AllReadyH.nil
     go_simp
     refine (cloneS_any key _ hks).mono ?_
     rintro e wc17 ⟨rfl, hbc17⟩
     have Bc17 : Below W3.heap.size W3 wc17 := below_thru Bc16 hbc17
     have hSc17 := kS _ Bc17
     refine hK.out _ _ hSc17 ?_
     intro hSd17
     clear hK K
     try simp only [Act.put, sIB, sZB, sSB]
     refine wpAnyH_ready (rs := [7]) (by kernel_rfl) (by simp) ?_
     refine AllReadyH.cons rfl (fun K hK => ?_) AllReadyH.nil
     go_simp
     refine (cloneS_any value _ hvs).mono ?_
     rintro e wc18 ⟨rfl, hbc18⟩
     have Bc18 : Below W3.heap.size W3 wc18 := below_thru Bc17 hbc18
     have hSc18 := kS _ Bc18
     refine hK.out _ _ hSc18 ?_
     intro hSd18
     clear hK K
     try simp only [Act.put, sIB, sZB, sSB]
     refine wpAnyH_take (i := 8) (v := ?tv19) rfl (by kernel_rfl) (by kernel_rfl) (by kernel_rfl) (fun _ _ _ h => h) (Or.inl ⟨by rfl, ?th19⟩) (by assumption) ?tr19
     case th19 => (intro w hSw; (try dsimp only at hSw); go_simp; try with_reducible rfl)
     try simp only [Act.put, sIB, sZB, sSB]
     refine wpAnyH_ready (rs := [10]) (by kernel_rfl) (by simp) ?_
     refine AllReadyH.cons rfl (fun K hK => ?_) AllReadyH.nil
     go_simp
     refine hK.out _ _ hSd18 ?_
     intro hSl20
     clear hK K
     try simp only [Act.put, sIB, sZB, sSB]
     refine wpAnyH_done (by kernel_rfl) ?_ _
     refine LastPost.step rfl (fun K hK => ?_)
     have TT : TB 62 _ W3.heap.size _ := (((TB.new 62 W3.drew #[.string ByteArray.empty, .int .i64 0, .int .i64 0, .int .i64 0, .int .i64 0, .string ByteArray.empty, .bool false, .int .i64 0, .int .i64 0]).later hbc17).later hbc18)
     have tf := fun j => TT.frozen j
     have tc := fun j => TT.cell j
     have tl := TT.lt
     have hn : W3.heap.size ≤ W3.heap.size := by first | exact Nat.le_refl _ | exact Below.size (by assumption)
     go_simp
     refine hK _ _ ?_
     exact ⟨_, rfl, hset.out _ _ TT, (below_st (below_st (below_st (below_st (below_st (below_st (below_st (below_st (below_st Bc18 _ hn) _ hn) _ hn) _ hn) _ hn) _ hn) _ hn) _ hn) _ hn), hn⟩
 · rintro a' wx ⟨bI, rfl, TI, hBx, hbI⟩
   have S3 := HS3.out
   have B0 : Below w.heap.size w wx := below_thru A3 hBx
   have U1 := T1.later hBx
   have U2 := T2.later hBx
   have xi := fun j => TI.cell j
   have li := TI.lt
   have hpx := HPT.out wx B0
   clear T0 T1 T2 TI HPT hset kS x0 l0
   go_wp2_with fail
   refine hpx.mono ?_
   rintro e w5 ⟨rfl, hP5⟩
   have V1 := hP5.2.tb U1 (fun e => by have := hlt _ e; omega)
   have V2 := hP5.2.tb U2 (fun e => by have := hlt _ e; omega)
   have hQ5 : Hid _ := StQ.of B0 hP5
   have hR1 : w.heap.size ≤ w.heap.size + 1 + 1 := by omega
   have hR2 : w.heap.size + 1 + 1 < wx.heap.size := by have := hBx.size; omega
   have HR : Hid (w.heap.size ≤ w.heap.size + 1 + 1 ∧ w.heap.size + 1 + 1 < wx.heap.size ∧ w.heap.size ≤ wx.heap.size) := ⟨hR1, hR2, B0.size⟩
   clear hR1 hR2
   have x1 := fun j => V1.cell j
   have x2 := fun j => V2.cell j
   have z2 := fun j => V2.frozen j
   have l1 := V1.lt
   have l2 := V2.lt
   clear U1 U2 hpx hP5
   obtain ⟨sP, bP⟩ := P
   simp only at *
   cases bP
   · have htl := told_any 11 w5
     unfold replyV at htl
     go_wp2_with fail
     refine htl.mono ?_
     rintro e w6 ⟨rfl, hb6⟩
     have W2 := V2.later hb6
     have x6 := fun j => W2.cell j
     have z6 := fun j => W2.frozen j
     have l6 := W2.lt
     have hQ6 : Hid _ := StQ.later (O := O) (w0 := w) (w := wx) (B := B) (s := sP) hQ5.out HR.out.2.2 hb6
     clear HS3 S3
     go_wp2_with fail
     refine bodyPost_ret (v := .agg #[.int .i64 11, .int .i64 0, .slice none 0 0]) (by simp [results, Tryz.results112, go_sem, x6, l6]) rfl ⟨rfl, ?_⟩
     exact StQ.post (StQ.set (StQ.set (StQ.set (O := O) (w0 := w) (w := wx) (B := B) (s := sP) hQ6.out HR.out.1 HR.out.2.1 hlt 0 _) HR.out.1 HR.out.2.1 hlt 1 _) HR.out.1 HR.out.2.1 hlt 2 _) HR.out.2.2
   · clear HS3 S3
     go_wp2_with fail
     refine bodyPost_ret (v := .agg #[.int .i64 k, .int .i64 n, .slice none 0 0]) (by simp [results, Tryz.results112, go_sem, x2, l2]) rfl ⟨rfl, ?_⟩
     exact StQ.post (StQ.set (StQ.set (StQ.set (O := O) (w0 := w) (w := wx) (B := B) (s := sP) hQ5.out HR.out.1 HR.out.2.1 hlt 0 _) HR.out.1 HR.out.2.1 hlt 1 _) HR.out.1 HR.out.2.1 hlt 2 _) HR.out.2.2

end Go.Proofs.YtdblegdgmjakfaaGreatDoor
