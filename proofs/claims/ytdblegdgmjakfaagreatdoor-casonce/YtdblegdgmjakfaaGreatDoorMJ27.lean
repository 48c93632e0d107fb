/- Parts of the proof. -/
import Derived.Test.YtdblegdgmjakfaaGreatDoorMJ25
import Derived.Test.YtdblegdgmjakfaaGreatDoorMJ26
import Derived.Shelf.Strings.Builder1
import Derived.Shelf.Strings.Builder2
import Derived.Shelf.Small.Strs
import Derived.Shelf.Strings.BuilderF
import Derived.Shelf.Strconv.Itoa0
import Derived.Shelf.Strconv.Itoa1
import Derived.Shelf.LaysM
import Derived.Shelf.Strconv.Itoa2
import Derived.Shelf.Strconv.Itoa3
import Derived.Shelf.Strconv.Clone
import Derived.Shelf.Strings.Search1
import Derived.Shelf.Strings.Search2
import Derived.Shelf.Strings.Search3
import Derived.Shelf.Strings.Count
import Derived.Shelf.Strings.Shaped
import Derived.Shelf.Strings.Prefix
import Derived.Shelf.Strings.Split
import Derived.Shelf.Strings.SplitShaped
import Derived.Shelf.Bits.Mul64
import Derived.Shelf.Strings.Repeat
import Derived.Shelf.Unicode.DecodeSlow
import Derived.Test.YtdblegdgmjakfaaGreatDoorProg
import Derived.Deep.RegionHeld3
namespace Go.Proofs.YtdblegdgmjakfaaGreatDoor
open Go.ChangeShapes Go.WideShapes Go.ChangeAt Go.RowKit Go.Lib Go.Sort
set_option linter.unusedVariables false
set_option linter.unusedSimpArgs false

/- store.Do: a request that is done. -/

theorem twelve_set (W : World) (b : Nat) {d0 d1 d2 d3 d4 d5 d6 d7 d8 d9 d10 d11 c0 c1 c2 c3 c4 c5 c6 c7 c8 c9 c10 c11 : Value} (h : TB 29 W b #[c0, c1, c2, c3, c4, c5, c6, c7, c8, c9, c10, c11]) : TB 29 ((((((((((((W.setCell ⟨b, 0, none⟩ d0).setCell ⟨b, 1, none⟩ d1).setCell ⟨b, 2, none⟩ d2).setCell ⟨b, 3, none⟩ d3).setCell ⟨b, 4, none⟩ d4).setCell ⟨b, 5, none⟩ d5).setCell ⟨b, 6, none⟩ d6).setCell ⟨b, 7, none⟩ d7).setCell ⟨b, 8, none⟩ d8).setCell ⟨b, 9, none⟩ d9).setCell ⟨b, 10, none⟩ d10).setCell ⟨b, 11, none⟩ d11) b #[d0, d1, d2, d3, d4, d5, d6, d7, d8, d9, d10, d11] := by
 have h12 := ((((((((((((h.set 0 d0).set 1 d1).set 2 d2).set 3 d3).set 4 d4).set 5 d5).set 6 d6).set 7 d7).set 8 d8).set 9 d9).set 10 d10).set 11 d11)
 simp only [sIB, sZB, sSB] at h12
 exact h12

/-- What a call of Do tells: the store behind it, the reply; all in new memory. -/
def DoPost (A : StoreR × Int × Int × List HitR) (w : World) (e : Ending) (w' : World) : Prop := ∃ ia ic pa pc hv, e = .returned (.tuple #[storeV A.1 ia ic pa pc, .agg #[.int .i64 A.2.1, .int .i64 A.2.2.1, hv], .int .i64 0]) ∧ StoreFrom w.heap.size w' A.1 ia pa ∧ OwnH w.heap.size w' hv A.2.2.2 ∧ Below w.heap.size w w'

/-- The table of digits. -/
def LaidT (w : World) : Prop := Lib.TabIs Tryz.prog w "internal/strconv.uint64pow10" .u64 Lib.pow10Tab
theorem tabT_later {P : Program} {w w' : World} {n : String} {k : IntKind} {zs : List Int} (h : Lib.TabIs P w n k zs) (hb : Below w.heap.size w w') : Lib.TabIs P w' n k zs := by
 unfold Lib.TabIs World.var? at h ⊢
 cases hg : P.globalNamed n with
 | none => rw [hg] at h; simp at h
 | some g =>
  rw [hg] at h
  simp only [Option.bind_some] at h ⊢
  have hlt : g < w.heap.size := by
   rcases Nat.lt_or_ge g w.heap.size with h' | h'
   · exact h'
   · rw [Array.getElem?_eq_none h'] at h; cases h
  rw [hb.block g hlt]
  exact h
theorem LaidT.later {w w' : World} (h : LaidT w) (hb : Below w.heap.size w w') : LaidT w' := tabT_later h hb
theorem growBelowT (w : World) (k : Nat) (os : Array Obj) : Below w.heap.size w (grow (w.drewN k) os) :=
 ⟨rfl, rfl, rfl, by show w.heap.size ≤ (w.heap ++ os).size; rw [Array.size_append]; omega, fun j hj => by show (w.heap ++ os)[j]? = _; rw [Array.getElem?_append_left hj]⟩
theorem itoaT {w : World} (h : LaidT w) (n : Int) (h0 : 0 ≤ n) (h1 : n ≤ 1099511627776) : Calls Tryz.prog 20 #[.int .i64 n] w fun e w' => e = .returned (.string (decS n)) ∧ Below w.heap.size w w' :=
 (Tryz.strconv_Itoa n (by omega) (by omega) w h).mono fun e w' ⟨he, k, os, hw⟩ => ⟨he, hw ▸ growBelowT w k os⟩

set_option maxHeartbeats 40000000 in
set_option maxRecDepth 100000 in
theorem do_walk (s : StoreR) (ia : Option Addr) (ic : Nat) (pa : Option Addr) (pc : Nat) (q : RqR) (ka : Option Addr) (kc : Nat) (w : World) (A : StoreR × Int × Int × List HitR)
 (href : Calls Tryz.prog 34 #[storeV s ia ic pa pc, .agg #[.int .i64 q.kind, .string q.key, .slice ka q.keys.length kc, .int .i64 q.flags, .int .i64 q.exp, .int .i64 q.nn, .string q.value, .bool q.quiet]] ((((w.alloc (.cells #[.int .i64 s.clock, .int .i64 s.cas, .int .i64 s.uses, .int .i64 s.most, .int .i64 s.h0, .int .i64 s.h1, .int .i64 s.h2, .int .i64 s.h3, .slice ia s.items.length ic, .int .i64 s.fm, .int .i64 s.fx, .slice pa s.pages.length pc] 29)).alloc (.cells #[.int .i64 q.kind, .string q.key, .slice ka q.keys.length kc, .int .i64 q.flags, .int .i64 q.exp, .int .i64 q.nn, .string q.value, .bool q.quiet] 47)).alloc (.cells #[.int .i64 0, .int .i64 0, .int .i64 0, .int .i64 0, .int .i64 0, .int .i64 0, .int .i64 0, .int .i64 0, .slice none 0 0, .int .i64 0, .int .i64 0, .slice none 0 0] 29)).alloc (.cells #[.int .i64 0, .int .i64 0, .slice none 0 0] 42)) fun e w' => e = .returned (.int .i64 0) ∧ Below ((((w.alloc (.cells #[.int .i64 s.clock, .int .i64 s.cas, .int .i64 s.uses, .int .i64 s.most, .int .i64 s.h0, .int .i64 s.h1, .int .i64 s.h2, .int .i64 s.h3, .slice ia s.items.length ic, .int .i64 s.fm, .int .i64 s.fx, .slice pa s.pages.length pc] 29)).alloc (.cells #[.int .i64 q.kind, .string q.key, .slice ka q.keys.length kc, .int .i64 q.flags, .int .i64 q.exp, .int .i64 q.nn, .string q.value, .bool q.quiet] 47)).alloc (.cells #[.int .i64 0, .int .i64 0, .int .i64 0, .int .i64 0, .int .i64 0, .int .i64 0, .int .i64 0, .int .i64 0, .slice none 0 0, .int .i64 0, .int .i64 0, .slice none 0 0] 29)).alloc (.cells #[.int .i64 0, .int .i64 0, .slice none 0 0] 42)).heap.size ((((w.alloc (.cells #[.int .i64 s.clock, .int .i64 s.cas, .int .i64 s.uses, .int .i64 s.most, .int .i64 s.h0, .int .i64 s.h1, .int .i64 s.h2, .int .i64 s.h3, .slice ia s.items.length ic, .int .i64 s.fm, .int .i64 s.fx, .slice pa s.pages.length pc] 29)).alloc (.cells #[.int .i64 q.kind, .string q.key, .slice ka q.keys.length kc, .int .i64 q.flags, .int .i64 q.exp, .int .i64 q.nn, .string q.value, .bool q.quiet] 47)).alloc (.cells #[.int .i64 0, .int .i64 0, .int .i64 0, .int .i64 0, .int .i64 0, .int .i64 0, .int .i64 0, .int .i64 0, .slice none 0 0, .int .i64 0, .int .i64 0, .slice none 0 0] 29)).alloc (.cells #[.int .i64 0, .int .i64 0, .slice none 0 0] 42)) w')
 (hcopy : ∀ wx, Below w.heap.size w wx → Calls Tryz.prog 35 #[storeV s ia ic pa pc] wx (SCopyPost3 s wx))
 (hans : ∀ O wx, StO O wx w.heap.size s → (∀ b, O b → w.heap.size ≤ b) → Below w.heap.size w wx → Calls Tryz.prog 36 #[.pointer (some ⟨w.heap.size, 0, none⟩), .agg #[.int .i64 q.kind, .string q.key, .slice ka q.keys.length kc, .int .i64 q.flags, .int .i64 q.exp, .int .i64 q.nn, .string q.value, .bool q.quiet]] wx (AnsPost O wx w.heap.size A))
 (hA : A.1.items.length ≤ 1000) : Calls Tryz.prog 16 #[storeV s ia ic pa pc, .agg #[.int .i64 q.kind, .string q.key, .slice ka q.keys.length kc, .int .i64 q.flags, .int .i64 q.exp, .int .i64 q.nn, .string q.value, .bool q.quiet]] w (DoPost A w) := by
 have T0 := ((TB.new 29 w #[.int .i64 s.clock, .int .i64 s.cas, .int .i64 s.uses, .int .i64 s.most, .int .i64 s.h0, .int .i64 s.h1, .int .i64 s.h2, .int .i64 s.h3, .slice ia s.items.length ic, .int .i64 s.fm, .int .i64 s.fx, .slice pa s.pages.length pc]).alloc (.cells #[.int .i64 q.kind, .string q.key, .slice ka q.keys.length kc, .int .i64 q.flags, .int .i64 q.exp, .int .i64 q.nn, .string q.value, .bool q.quiet] 47)).alloc (.cells #[.int .i64 0, .int .i64 0, .int .i64 0, .int .i64 0, .int .i64 0, .int .i64 0, .int .i64 0, .int .i64 0, .slice none 0 0, .int .i64 0, .int .i64 0, .slice none 0 0] 29) |>.alloc (.cells #[.int .i64 0, .int .i64 0, .slice none 0 0] 42)
 have T1 : TB 47 _ (w.heap.size + 1) #[.int .i64 q.kind, .string q.key, .slice ka q.keys.length kc, .int .i64 q.flags, .int .i64 q.exp, .int .i64 q.nn, .string q.value, .bool q.quiet] := ((TB.new2 (w := w.alloc (.cells #[.int .i64 s.clock, .int .i64 s.cas, .int .i64 s.uses, .int .i64 s.most, .int .i64 s.h0, .int .i64 s.h1, .int .i64 s.h2, .int .i64 s.h3, .slice ia s.items.length ic, .int .i64 s.fm, .int .i64 s.fx, .slice pa s.pages.length pc] 29)) (by simp)).alloc (.cells #[.int .i64 0, .int .i64 0, .int .i64 0, .int .i64 0, .int .i64 0, .int .i64 0, .int .i64 0, .int .i64 0, .slice none 0 0, .int .i64 0, .int .i64 0, .slice none 0 0] 29)).alloc (.cells #[.int .i64 0, .int .i64 0, .slice none 0 0] 42)
 have T2 : TB 29 _ (w.heap.size + 1 + 1) #[.int .i64 0, .int .i64 0, .int .i64 0, .int .i64 0, .int .i64 0, .int .i64 0, .int .i64 0, .int .i64 0, .slice none 0 0, .int .i64 0, .int .i64 0, .slice none 0 0] := (TB.new2 (w := (w.alloc (.cells #[.int .i64 s.clock, .int .i64 s.cas, .int .i64 s.uses, .int .i64 s.most, .int .i64 s.h0, .int .i64 s.h1, .int .i64 s.h2, .int .i64 s.h3, .slice ia s.items.length ic, .int .i64 s.fm, .int .i64 s.fx, .slice pa s.pages.length pc] 29)).alloc (.cells #[.int .i64 q.kind, .string q.key, .slice ka q.keys.length kc, .int .i64 q.flags, .int .i64 q.exp, .int .i64 q.nn, .string q.value, .bool q.quiet] 47)) (by simp)).alloc (.cells #[.int .i64 0, .int .i64 0, .slice none 0 0] 42)
 have T3 : TB 42 _ (w.heap.size + 1 + 1 + 1) #[.int .i64 0, .int .i64 0, .slice none 0 0] := TB.new2 (w := ((w.alloc (.cells #[.int .i64 s.clock, .int .i64 s.cas, .int .i64 s.uses, .int .i64 s.most, .int .i64 s.h0, .int .i64 s.h1, .int .i64 s.h2, .int .i64 s.h3, .slice ia s.items.length ic, .int .i64 s.fm, .int .i64 s.fx, .slice pa s.pages.length pc] 29)).alloc (.cells #[.int .i64 q.kind, .string q.key, .slice ka q.keys.length kc, .int .i64 q.flags, .int .i64 q.exp, .int .i64 q.nn, .string q.value, .bool q.quiet] 47)).alloc (.cells #[.int .i64 0, .int .i64 0, .int .i64 0, .int .i64 0, .int .i64 0, .int .i64 0, .int .i64 0, .int .i64 0, .slice none 0 0, .int .i64 0, .int .i64 0, .slice none 0 0] 29)) (by simp)
 have A4 : Below w.heap.size w ((((w.alloc (.cells #[.int .i64 s.clock, .int .i64 s.cas, .int .i64 s.uses, .int .i64 s.most, .int .i64 s.h0, .int .i64 s.h1, .int .i64 s.h2, .int .i64 s.h3, .slice ia s.items.length ic, .int .i64 s.fm, .int .i64 s.fx, .slice pa s.pages.length pc] 29)).alloc (.cells #[.int .i64 q.kind, .string q.key, .slice ka q.keys.length kc, .int .i64 q.flags, .int .i64 q.exp, .int .i64 q.nn, .string q.value, .bool q.quiet] 47)).alloc (.cells #[.int .i64 0, .int .i64 0, .int .i64 0, .int .i64 0, .int .i64 0, .int .i64 0, .int .i64 0, .int .i64 0, .slice none 0 0, .int .i64 0, .int .i64 0, .slice none 0 0] 29)).alloc (.cells #[.int .i64 0, .int .i64 0, .slice none 0 0] 42)) := below_al (below_al (below_al (below_al (Below.refl _ _) _) _) _) _
 unfold storeV at *
 go_enter Tryz.func16, Tryz.ntmps16
 go_wp2_with fail
 generalize hW4 : ((((w.alloc (.cells #[.int .i64 s.clock, .int .i64 s.cas, .int .i64 s.uses, .int .i64 s.most, .int .i64 s.h0, .int .i64 s.h1, .int .i64 s.h2, .int .i64 s.h3, .slice ia s.items.length ic, .int .i64 s.fm, .int .i64 s.fx, .slice pa s.pages.length pc] 29)).alloc (.cells #[.int .i64 q.kind, .string q.key, .slice ka q.keys.length kc, .int .i64 q.flags, .int .i64 q.exp, .int .i64 q.nn, .string q.value, .bool q.quiet] 47)).alloc (.cells #[.int .i64 0, .int .i64 0, .int .i64 0, .int .i64 0, .int .i64 0, .int .i64 0, .int .i64 0, .int .i64 0, .slice none 0 0, .int .i64 0, .int .i64 0, .slice none 0 0] 29)).alloc (.cells #[.int .i64 0, .int .i64 0, .slice none 0 0] 42)) = W4 at *
 clear hW4
 have x0 := fun j => T0.cell j
 have l0 := T0.lt
 have x1 := fun j => T1.cell j
 have l1 := T1.lt
 go_wp2_with fail
 refine href.mono ?_
 rintro e wr ⟨rfl, hbr⟩
 have U0 := T0.later hbr
 have U1 := T1.later hbr
 have U2 := T2.later hbr
 have U3 := T3.later hbr
 have Ar := below_thru A4 hbr
 have y0 := fun j => U0.cell j
 have m0 := U0.lt
 clear x0 l0 x1 l1 T0 T1 T2 T3
 go_wp2_with fail
 refine (hcopy _ Ar).mono ?_
 rintro e wc ⟨g, pa2, pc2, n1, rfl, hbc, hg1, hg2, hn1, hrow, hpg⟩
 unfold storeV
 have V0 := U0.later hbc
 have V1 := U1.later hbc
 have V2 := U2.later hbc
 have V3 := U3.later hbc
 have Ac := below_thru Ar hbc
 have hne0 : w.heap.size ≠ g := by omega
 have m3 := U3.lt
 have T5 := twelve_set (d0 := .int .i64 s.clock) (d1 := .int .i64 s.cas) (d2 := .int .i64 s.uses) (d3 := .int .i64 s.most) (d4 := .int .i64 s.h0) (d5 := .int .i64 s.h1) (d6 := .int .i64 s.h2) (d7 := .int .i64 s.h3) (d8 := .slice (some ⟨g, 0, none⟩) s.items.length s.items.length) (d9 := .int .i64 s.fm) (d10 := .int .i64 s.fx) (d11 := .slice pa2 s.pages.length pc2) wc w.heap.size V0
 have hSt : StO (fun b => b = w.heap.size ∨ (wr.heap.size ≤ b ∧ b < wc.heap.size)) ((((((((((((wc.setCell ⟨w.heap.size, 0, none⟩ (.int .i64 s.clock)).setCell ⟨w.heap.size, 1, none⟩ (.int .i64 s.cas)).setCell ⟨w.heap.size, 2, none⟩ (.int .i64 s.uses)).setCell ⟨w.heap.size, 3, none⟩ (.int .i64 s.most)).setCell ⟨w.heap.size, 4, none⟩ (.int .i64 s.h0)).setCell ⟨w.heap.size, 5, none⟩ (.int .i64 s.h1)).setCell ⟨w.heap.size, 6, none⟩ (.int .i64 s.h2)).setCell ⟨w.heap.size, 7, none⟩ (.int .i64 s.h3)).setCell ⟨w.heap.size, 8, none⟩ (.slice (some ⟨g, 0, none⟩) s.items.length s.items.length)).setCell ⟨w.heap.size, 9, none⟩ (.int .i64 s.fm)).setCell ⟨w.heap.size, 10, none⟩ (.int .i64 s.fx)).setCell ⟨w.heap.size, 11, none⟩ (.slice pa2 s.pages.length pc2)) w.heap.size s := by
  refine ⟨.slice (some ⟨g, 0, none⟩) s.items.length s.items.length, pa2, pc2, fun b => n1 ≤ b ∧ b < wc.heap.size, ?_⟩
  have hk : ∀ b, b ≠ w.heap.size → (((((((((((((wc.setCell ⟨w.heap.size, 0, none⟩ (.int .i64 s.clock)).setCell ⟨w.heap.size, 1, none⟩ (.int .i64 s.cas)).setCell ⟨w.heap.size, 2, none⟩ (.int .i64 s.uses)).setCell ⟨w.heap.size, 3, none⟩ (.int .i64 s.most)).setCell ⟨w.heap.size, 4, none⟩ (.int .i64 s.h0)).setCell ⟨w.heap.size, 5, none⟩ (.int .i64 s.h1)).setCell ⟨w.heap.size, 6, none⟩ (.int .i64 s.h2)).setCell ⟨w.heap.size, 7, none⟩ (.int .i64 s.h3)).setCell ⟨w.heap.size, 8, none⟩ (.slice (some ⟨g, 0, none⟩) s.items.length s.items.length)).setCell ⟨w.heap.size, 9, none⟩ (.int .i64 s.fm)).setCell ⟨w.heap.size, 10, none⟩ (.int .i64 s.fx)).setCell ⟨w.heap.size, 11, none⟩ (.slice pa2 s.pages.length pc2))).heap[b]? = wc.heap[b]? := fun b hb => by
   iterate 12 rw [heap_setCell_other _ _ _ _ (show b ≠ w.heap.size from hb)]
  have hsz : (((((((((((((wc.setCell ⟨w.heap.size, 0, none⟩ (.int .i64 s.clock)).setCell ⟨w.heap.size, 1, none⟩ (.int .i64 s.cas)).setCell ⟨w.heap.size, 2, none⟩ (.int .i64 s.uses)).setCell ⟨w.heap.size, 3, none⟩ (.int .i64 s.most)).setCell ⟨w.heap.size, 4, none⟩ (.int .i64 s.h0)).setCell ⟨w.heap.size, 5, none⟩ (.int .i64 s.h1)).setCell ⟨w.heap.size, 6, none⟩ (.int .i64 s.h2)).setCell ⟨w.heap.size, 7, none⟩ (.int .i64 s.h3)).setCell ⟨w.heap.size, 8, none⟩ (.slice (some ⟨g, 0, none⟩) s.items.length s.items.length)).setCell ⟨w.heap.size, 9, none⟩ (.int .i64 s.fm)).setCell ⟨w.heap.size, 10, none⟩ (.int .i64 s.fx)).setCell ⟨w.heap.size, 11, none⟩ (.slice pa2 s.pages.length pc2))).heap.size = wc.heap.size := by simp [World.setCell]
  exact { box := T5, row := hrow.kept (fun b hb _ => hk b (by cases hb; exact Ne.symm hne0)), pages := hpg.kept (by rw [hsz]; exact Nat.le_refl _) (fun b hb _ => hk b (by have hb : n1 ≤ b ∧ b < wc.heap.size := hb; omega)), apart := (fun b hb => by have hb : n1 ≤ b ∧ b < wc.heap.size := hb; exact ⟨Or.inr ⟨by omega, hb.2⟩, by omega, fun e => by have e2 : some g = some b := e; cases e2; omega⟩), rowO := (fun b hb => by have hb2 : some g = some b := hb; cases hb2; exact ⟨Or.inr ⟨hg1, by omega⟩, Ne.symm hne0⟩), boxO := Or.inl rfl, lt := (fun b hb => by have hb : b = w.heap.size ∨ (wr.heap.size ≤ b ∧ b < wc.heap.size) := hb; have := hbc.size; rw [hsz]; omega) }
 have hB5 : Below w.heap.size w ((((((((((((wc.setCell ⟨w.heap.size, 0, none⟩ (.int .i64 s.clock)).setCell ⟨w.heap.size, 1, none⟩ (.int .i64 s.cas)).setCell ⟨w.heap.size, 2, none⟩ (.int .i64 s.uses)).setCell ⟨w.heap.size, 3, none⟩ (.int .i64 s.most)).setCell ⟨w.heap.size, 4, none⟩ (.int .i64 s.h0)).setCell ⟨w.heap.size, 5, none⟩ (.int .i64 s.h1)).setCell ⟨w.heap.size, 6, none⟩ (.int .i64 s.h2)).setCell ⟨w.heap.size, 7, none⟩ (.int .i64 s.h3)).setCell ⟨w.heap.size, 8, none⟩ (.slice (some ⟨g, 0, none⟩) s.items.length s.items.length)).setCell ⟨w.heap.size, 9, none⟩ (.int .i64 s.fm)).setCell ⟨w.heap.size, 10, none⟩ (.int .i64 s.fx)).setCell ⟨w.heap.size, 11, none⟩ (.slice pa2 s.pages.length pc2)) := by
  iterate 12 refine below_st ?_ _ (Nat.le_refl _)
  exact Ac
 have V1' : TB 47 ((((((((((((wc.setCell ⟨w.heap.size, 0, none⟩ (.int .i64 s.clock)).setCell ⟨w.heap.size, 1, none⟩ (.int .i64 s.cas)).setCell ⟨w.heap.size, 2, none⟩ (.int .i64 s.uses)).setCell ⟨w.heap.size, 3, none⟩ (.int .i64 s.most)).setCell ⟨w.heap.size, 4, none⟩ (.int .i64 s.h0)).setCell ⟨w.heap.size, 5, none⟩ (.int .i64 s.h1)).setCell ⟨w.heap.size, 6, none⟩ (.int .i64 s.h2)).setCell ⟨w.heap.size, 7, none⟩ (.int .i64 s.h3)).setCell ⟨w.heap.size, 8, none⟩ (.slice (some ⟨g, 0, none⟩) s.items.length s.items.length)).setCell ⟨w.heap.size, 9, none⟩ (.int .i64 s.fm)).setCell ⟨w.heap.size, 10, none⟩ (.int .i64 s.fx)).setCell ⟨w.heap.size, 11, none⟩ (.slice pa2 s.pages.length pc2)) (w.heap.size + 1) #[.int .i64 q.kind, .string q.key, .slice ka q.keys.length kc, .int .i64 q.flags, .int .i64 q.exp, .int .i64 q.nn, .string q.value, .bool q.quiet] := by
  iterate 12 refine TB.far ?_ ⟨w.heap.size, _, none⟩ _ (show w.heap.size + 1 ≠ w.heap.size by omega)
  exact V1
 have V2' : TB 29 ((((((((((((wc.setCell ⟨w.heap.size, 0, none⟩ (.int .i64 s.clock)).setCell ⟨w.heap.size, 1, none⟩ (.int .i64 s.cas)).setCell ⟨w.heap.size, 2, none⟩ (.int .i64 s.uses)).setCell ⟨w.heap.size, 3, none⟩ (.int .i64 s.most)).setCell ⟨w.heap.size, 4, none⟩ (.int .i64 s.h0)).setCell ⟨w.heap.size, 5, none⟩ (.int .i64 s.h1)).setCell ⟨w.heap.size, 6, none⟩ (.int .i64 s.h2)).setCell ⟨w.heap.size, 7, none⟩ (.int .i64 s.h3)).setCell ⟨w.heap.size, 8, none⟩ (.slice (some ⟨g, 0, none⟩) s.items.length s.items.length)).setCell ⟨w.heap.size, 9, none⟩ (.int .i64 s.fm)).setCell ⟨w.heap.size, 10, none⟩ (.int .i64 s.fx)).setCell ⟨w.heap.size, 11, none⟩ (.slice pa2 s.pages.length pc2)) (w.heap.size + 1 + 1) #[.int .i64 0, .int .i64 0, .int .i64 0, .int .i64 0, .int .i64 0, .int .i64 0, .int .i64 0, .int .i64 0, .slice none 0 0, .int .i64 0, .int .i64 0, .slice none 0 0] := by
  iterate 12 refine TB.far ?_ ⟨w.heap.size, _, none⟩ _ (show w.heap.size + 1 + 1 ≠ w.heap.size by omega)
  exact V2
 have V3' : TB 42 ((((((((((((wc.setCell ⟨w.heap.size, 0, none⟩ (.int .i64 s.clock)).setCell ⟨w.heap.size, 1, none⟩ (.int .i64 s.cas)).setCell ⟨w.heap.size, 2, none⟩ (.int .i64 s.uses)).setCell ⟨w.heap.size, 3, none⟩ (.int .i64 s.most)).setCell ⟨w.heap.size, 4, none⟩ (.int .i64 s.h0)).setCell ⟨w.heap.size, 5, none⟩ (.int .i64 s.h1)).setCell ⟨w.heap.size, 6, none⟩ (.int .i64 s.h2)).setCell ⟨w.heap.size, 7, none⟩ (.int .i64 s.h3)).setCell ⟨w.heap.size, 8, none⟩ (.slice (some ⟨g, 0, none⟩) s.items.length s.items.length)).setCell ⟨w.heap.size, 9, none⟩ (.int .i64 s.fm)).setCell ⟨w.heap.size, 10, none⟩ (.int .i64 s.fx)).setCell ⟨w.heap.size, 11, none⟩ (.slice pa2 s.pages.length pc2)) (w.heap.size + 1 + 1 + 1) #[.int .i64 0, .int .i64 0, .slice none 0 0] := by
  iterate 12 refine TB.far ?_ ⟨w.heap.size, _, none⟩ _ (show w.heap.size + 1 + 1 + 1 ≠ w.heap.size by omega)
  exact V3
 have x0 := fun j => V0.cell j
 have z0 := fun j => V0.frozen j
 have l0 := V0.lt
 have x1 := fun j => V1.cell j
 have l1 := V1.lt
 have HV2 : Hid (TB 29 ((((((((((((wc.setCell ⟨w.heap.size, 0, none⟩ (.int .i64 s.clock)).setCell ⟨w.heap.size, 1, none⟩ (.int .i64 s.cas)).setCell ⟨w.heap.size, 2, none⟩ (.int .i64 s.uses)).setCell ⟨w.heap.size, 3, none⟩ (.int .i64 s.most)).setCell ⟨w.heap.size, 4, none⟩ (.int .i64 s.h0)).setCell ⟨w.heap.size, 5, none⟩ (.int .i64 s.h1)).setCell ⟨w.heap.size, 6, none⟩ (.int .i64 s.h2)).setCell ⟨w.heap.size, 7, none⟩ (.int .i64 s.h3)).setCell ⟨w.heap.size, 8, none⟩ (.slice (some ⟨g, 0, none⟩) s.items.length s.items.length)).setCell ⟨w.heap.size, 9, none⟩ (.int .i64 s.fm)).setCell ⟨w.heap.size, 10, none⟩ (.int .i64 s.fx)).setCell ⟨w.heap.size, 11, none⟩ (.slice pa2 s.pages.length pc2)) (w.heap.size + 1 + 1) #[.int .i64 0, .int .i64 0, .int .i64 0, .int .i64 0, .int .i64 0, .int .i64 0, .int .i64 0, .int .i64 0, .slice none 0 0, .int .i64 0, .int .i64 0, .slice none 0 0]) := V2'
 have HV3 : Hid (TB 42 ((((((((((((wc.setCell ⟨w.heap.size, 0, none⟩ (.int .i64 s.clock)).setCell ⟨w.heap.size, 1, none⟩ (.int .i64 s.cas)).setCell ⟨w.heap.size, 2, none⟩ (.int .i64 s.uses)).setCell ⟨w.heap.size, 3, none⟩ (.int .i64 s.most)).setCell ⟨w.heap.size, 4, none⟩ (.int .i64 s.h0)).setCell ⟨w.heap.size, 5, none⟩ (.int .i64 s.h1)).setCell ⟨w.heap.size, 6, none⟩ (.int .i64 s.h2)).setCell ⟨w.heap.size, 7, none⟩ (.int .i64 s.h3)).setCell ⟨w.heap.size, 8, none⟩ (.slice (some ⟨g, 0, none⟩) s.items.length s.items.length)).setCell ⟨w.heap.size, 9, none⟩ (.int .i64 s.fm)).setCell ⟨w.heap.size, 10, none⟩ (.int .i64 s.fx)).setCell ⟨w.heap.size, 11, none⟩ (.slice pa2 s.pages.length pc2)) (w.heap.size + 1 + 1 + 1) #[.int .i64 0, .int .i64 0, .slice none 0 0]) := V3'
 have HB5 : Hid _ := hB5
 have HSt : Hid _ := hSt
 have hOb : Hid (∀ b, (b = w.heap.size ∨ (wr.heap.size ≤ b ∧ b < wc.heap.size)) → w.heap.size ≤ b) := fun b hb => by omega
 clear y0 m0 hB5 hSt hrow hpg U0 U1 U2 U3 V0 V1 V2 V3 V1' V2' V3' T5
 go_wp2_with fail
 generalize hW5 : ((((((((((((wc.setCell ⟨w.heap.size, 0, none⟩ (.int .i64 s.clock)).setCell ⟨w.heap.size, 1, none⟩ (.int .i64 s.cas)).setCell ⟨w.heap.size, 2, none⟩ (.int .i64 s.uses)).setCell ⟨w.heap.size, 3, none⟩ (.int .i64 s.most)).setCell ⟨w.heap.size, 4, none⟩ (.int .i64 s.h0)).setCell ⟨w.heap.size, 5, none⟩ (.int .i64 s.h1)).setCell ⟨w.heap.size, 6, none⟩ (.int .i64 s.h2)).setCell ⟨w.heap.size, 7, none⟩ (.int .i64 s.h3)).setCell ⟨w.heap.size, 8, none⟩ (.slice (some ⟨g, 0, none⟩) s.items.length s.items.length)).setCell ⟨w.heap.size, 9, none⟩ (.int .i64 s.fm)).setCell ⟨w.heap.size, 10, none⟩ (.int .i64 s.fx)).setCell ⟨w.heap.size, 11, none⟩ (.slice pa2 s.pages.length pc2)) = W5 at *
 clear hW5
 refine (hans _ W5 HSt.out hOb.out HB5.out).mono ?_
 rintro e wj ⟨hv, rfl, hO, ⟨O2, k1, k2⟩, k3⟩
 obtain ⟨ha, hc, rfl⟩ := hO.form
 obtain ⟨iv, pa3, pc3, Op, k1⟩ := k1
 obtain ⟨ia3, ic3, e0, hIt⟩ := k1.row.items (by unfold maxLen; omega)
 subst e0
 have hn2 : ¬ (w.heap.size + 1 + 1 = w.heap.size ∨ (wr.heap.size ≤ w.heap.size + 1 + 1 ∧ w.heap.size + 1 + 1 < wc.heap.size)) := by omega
 have hn3 : ¬ (w.heap.size + 1 + 1 + 1 = w.heap.size ∨ (wr.heap.size ≤ w.heap.size + 1 + 1 + 1 ∧ w.heap.size + 1 + 1 + 1 < wc.heap.size)) := by omega
 have X2 := k3.tb HV2.out hn2
 have X3 := k3.tb HV3.out hn3
 have hl5 := TB.lt HV3.out
 have hlj := k3.size
 have yB := fun j => k1.box.cell j
 have lB := k1.box.lt
 have x2 := fun j => X2.cell j
 have z2 := fun j => X2.frozen j
 have l2 := X2.lt
 have x3 := fun j => X3.cell j
 have z3 := fun j => X3.frozen j
 have l3 := X3.lt
 unfold stCells at yB
 have Bj : Below w.heap.size w wj := HB5.out.trans (k3.below hOb.out (HB5.out.size))
 have HIN : Hid (∀ wz, wj.heap.size ≤ wz.heap.size → (∀ b, w.heap.size ≤ b → b ≠ w.heap.size + 1 + 1 → b ≠ w.heap.size + 1 + 1 + 1 → b < wj.heap.size → wz.heap[b]? = wj.heap[b]?) → StoreIn wz A.1 ia3 pa3 ∧ OwnH w.heap.size wz (.slice ha A.2.2.2.length hc) A.2.2.2) := by
  intro wz hz1 hz2
  have hO2 : ∀ b, O2 b → w.heap.size ≤ b ∧ b ≠ w.heap.size + 1 + 1 ∧ b ≠ w.heap.size + 1 + 1 + 1 := fun b hb => by
   rcases k2 b hb with q | q
   · rcases q with q | q <;> omega
   · omega
  have ks := k1.kept hz1 (fun b hb hl => hz2 b (hO2 b hb).1 (hO2 b hb).2.1 (hO2 b hb).2.2 hl)
  obtain ⟨ia4, ic4, e4, hI4⟩ := ks.row.items (by unfold maxLen; omega)
  cases e4
  refine ⟨⟨hI4, ks.pages wz (Nat.le_refl _) (fun _ _ _ => rfl)⟩, OwnH.base (hO.kept fun b hb => ?_) HB5.out.size⟩
  have := hO.lt hb
  exact hz2 b (by omega) (by omega) (by omega) this.2
 have HBj : Hid (Below w.heap.size w wj) := Bj
 have HFIN : Hid (∀ wz, Fr (fun b => b = w.heap.size + 1 + 1 ∨ b = w.heap.size + 1 + 1 + 1) wj wz → Below w.heap.size w wz → StoreFrom w.heap.size wz A.1 ia3 pa3 ∧ OwnH w.heap.size wz (.slice ha A.2.2.2.length hc) A.2.2.2 ∧ Below w.heap.size w wz) := fun wz hz hb => by
  obtain ⟨q1, q2⟩ := HIN.out wz hz.size (fun b h0 h1 h2 h3 => hz.block b h3 (fun e => e.elim h1 h2))
  exact ⟨fun w2 s2 h2 => (HIN.out w2 (Nat.le_trans hz.size s2) (fun b h0 h1 h3 h4 => by rw [h2 b h0 (Nat.lt_of_lt_of_le h4 hz.size)]; exact hz.block b h4 (fun e => e.elim h1 h3))).1, q2, hb⟩
 clear k1 hO hIt Bj X2 X3
 go_wp2_with fail
 go_region
 go_wp2_with fail
 refine bodyPost_ret (v := .tuple #[.agg #[.int .i64 A.1.clock, .int .i64 A.1.cas, .int .i64 A.1.uses, .int .i64 A.1.most, .int .i64 A.1.h0, .int .i64 A.1.h1, .int .i64 A.1.h2, .int .i64 A.1.h3, .slice ia3 A.1.items.length ic3, .int .i64 A.1.fm, .int .i64 A.1.fx, .slice pa3 A.1.pages.length pc3], .agg #[.int .i64 A.2.1, .int .i64 A.2.2.1, .slice ha A.2.2.2.length hc], .int .i64 0]) (by simp [results, Tryz.results16, go_sem, l2, l3, x2, x3, z2, z3]) rfl ⟨ia3, ic3, pa3, pc3, _, rfl, ?_⟩
 refine HFIN.out _ ?_ ?_
 · refine Fr.drew ?_
   refine Fr.trans (O' := fun b => b = w.heap.size + 1 + 1 ∨ b = w.heap.size + 1 + 1 + 1) ?_ (Fr.of_below ((Below.refl _ _).alloc (Nat.le_refl _) _)) (fun b hb => Or.inl hb)
   iterate 3 refine Fr.set ?_ _ _ (Or.inl (Or.inr rfl))
   iterate 12 refine Fr.set ?_ _ _ (Or.inl (Or.inl rfl))
   exact Fr.refl _ _
 · refine Below.drew ?_
   refine below_al ?_ _
   iterate 3 refine below_st ?_ _ (show w.heap.size ≤ w.heap.size + 1 + 1 + 1 by omega)
   iterate 12 refine below_st ?_ _ (show w.heap.size ≤ w.heap.size + 1 + 1 by omega)
   exact HBj.out

end Go.Proofs.YtdblegdgmjakfaaGreatDoor

namespace Go.Proofs.YtdblegdgmjakfaaGreatDoor
open Go.ChangeShapes Go.WideShapes Go.ChangeAt Go.RowKit
set_option linter.unusedVariables false
set_option linter.unusedSimpArgs false

/- store.Do: what it answers to a request that wire.Check takes, at a store that may be. -/

/-- wire.Check takes it. -/
def QFit (q : RqR) : Prop := checkN q.kind q.key q.keys q.flags q.exp q.nn q.value q.quiet = 0
theorem empty_size {s : ByteArray} (h : s.toList.isEmpty = true) : s.size = 0 := by
 rw [ByteArray.toList_eq] at h
 have h2 : s.data.toList = [] := by simpa using h
 rw [ByteArray.size, ← Array.length_toList, h2]
 rfl
structure QFacts (q : RqR) : Prop where
 one : q.kind ≠ 1 → q.kind ≠ 12 → q.kind ≠ 13 → QOk q
 keys : q.kind = 1 → q.keys.length ≤ 10
 key : q.key.size ≤ 20
 vl : q.value.size ≤ 200
theorem fit_facts {q : RqR} (h : QFit q) : QFacts q := by
 unfold QFit checkN at h
 by_cases h1 : inB q.kind 1 13 = false
 · rw [if_pos h1] at h; omega
 rw [if_neg h1] at h
 by_cases h2 : keysFitB q.kind q.key q.keys = false
 · rw [if_pos h2] at h; omega
 rw [if_neg h2] at h
 by_cases h3 : fieldsFitB q.kind q.flags q.exp q.nn q.value q.quiet = false
 · rw [if_pos h3] at h; omega
 rw [if_neg h3] at h
 by_cases h4 : (outB q.flags 65535 || (outB q.exp 1099511627776 || outB q.nn 1099511627776)) = true
 · rw [if_pos h4] at h; omega
 rw [if_neg h4] at h
 by_cases h5 : 200 < q.value.size
 · rw [if_pos h5] at h; omega
 have h1 : inB q.kind 1 13 = true := by simpa using h1
 have h2 : keysFitB q.kind q.key q.keys = true := by simpa using h2
 have hk := (inB_iff _ _ _).1 h1
 simp only [Bool.or_eq_true, not_or, Bool.not_eq_true] at h4
 obtain ⟨o1, o2, o3⟩ := h4
 have hin : ∀ n hi : Int, outB n hi = false → inB n 0 hi = true := fun n hi h => by
  unfold outB at h
  unfold inB
  simp at h ⊢
  omega
 unfold keysFitB at h2
 by_cases h11 : inB q.kind 2 11 = true
 · rw [if_pos h11] at h2
   simp only [Bool.and_eq_true, decide_eq_true_eq] at h2
   have hr := (inB_iff _ _ _).1 h11
   have hs := key_size h2.2
   exact ⟨fun _ _ _ => ⟨hr, h2.2, hin _ _ o1, hin _ _ o2, hin _ _ o3, by omega⟩, fun e => by omega, by omega, by omega⟩
 · rw [if_neg h11] at h2
   have hr : ¬ (2 ≤ q.kind ∧ q.kind ≤ 11) := fun e => h11 ((inB_iff _ _ _).2 e)
   by_cases he : q.key.toList.isEmpty = false
   · rw [if_pos he] at h2; cases h2
   rw [if_neg he] at h2
   have hz := empty_size (s := q.key) (by simpa using he)
   refine ⟨fun a b c => by omega, fun e => ?_, by omega, by omega⟩
   rw [if_pos e] at h2
   simp only [Bool.and_eq_true] at h2
   have := (inB_iff _ _ _).1 h2.1
   omega

theorem do_any (s : StoreR) (ia : Option Addr) (ic : Nat) (pa : Option Addr) (pc : Nat) (q : RqR) (ka : Option Addr) (kc : Nat) (w : World) (hS : StoreIn w s ia pa) (hg : Gd s) (hq : QFit q) (hus : s.uses ≤ 1099511627766) (hL : LaidC w) (hT : LaidT w) (hK : StrsAt w ka q.keys.length q.keys) :
 Calls Tryz.prog 16 #[storeV s ia ic pa pc, .agg #[.int .i64 q.kind, .string q.key, .slice ka q.keys.length kc, .int .i64 q.flags, .int .i64 q.exp, .int .i64 q.nn, .string q.value, .bool q.quiet]] w (DoPost (ansN s q) w) := by
 obtain ⟨f1, f2, f3, f4⟩ := fit_facts hq
 have hz := sizes_of s hg.b
 have hm : (20 : Nat) ≤ maxLen := by unfold maxLen; omega
 have hm2 : (200 : Nat) ≤ maxLen := by unfold maxLen; omega
 refine do_walk s ia ic pa pc q ka kc w (ansN s q) ?_ (fun wx hx => scopy_st s ia ic pa pc wx (hS.later hx) (by have := hz.items; omega) hz.texts (by have := hz.pages; omega) hz.bytes) (fun O wx a b c => ?_) (hg.ansN f1 f2 hus).len
 · refine (srefused_any s ia ic pa pc q.kind q.flags q.exp q.nn q.key q.value ka q.keys.length kc q.keys q.quiet _ (hS.later ?_) hg.ok (hL.later ?_) (hK.later ?_) (Nat.le_trans f3 hm) (Nat.le_trans f4 hm2)).mono ?_
   · exact below_al (below_al (below_al (below_al (Below.refl _ _) _) _) _) _
   · exact below_al (below_al (below_al (below_al (Below.refl _ _) _) _) _) _
   · exact below_al (below_al (below_al (below_al (Below.refl _ _) _) _) _) _
   · rintro e w' ⟨rfl, hb⟩
     refine ⟨?_, hb⟩
     unfold QFit at hq
     rw [hg.b, hq]
     unfold srefN
     rw [if_pos rfl, if_pos rfl, if_neg (by omega)]
 · have hlow : ∀ wy, Fr O wx wy → Below w.heap.size w wy := fun wy hy => c.trans (hy.below b c.size)
   refine answer_any O s w.heap.size q ka kc wx a hg f1 f2 hus (hL.later c) (fun e => ?_) (fun n wy hy h0 h1 => itoaT (hT.later (hlow wy hy)) n h0 h1) (fun wy hy => hK.later (hlow wy hy))
   have h1 := b _ e
   have h2 := hL.1
   omega

/- The contract of dovecoteref.RequestFault: it answers what wire.Check answers, at every request. -/

def keysOK (kind : Int) (keys : List ByteArray) : Bool := if kind = 1 then inB keys.length 1 10 && !(noKeyIn keys) else decide (keys.length = 0)
def keyBad (kind : Int) (key : ByteArray) : Bool := (inB kind 2 11 && !(keyB key)) || (!(inB kind 2 11) && !(key.toList.isEmpty))
def fieldsBad (kind flags exp : Int) (value : ByteArray) : Bool := !(inB kind 2 7) && (((flags != 0) || !(value.toList.isEmpty)) || ((kind != 11) && (exp != 0)))
def nBad (kind nn : Int) : Bool := (((kind != 7) && (kind != 9)) && (kind != 10)) && (nn != 0)
def quietBad (kind : Int) (quiet : Bool) : Bool := quiet && ((kind == 1) || (kind == 13))
def rangeBad (flags exp nn : Int) : Bool := (!(inB flags 0 65535) || !(inB exp 0 1099511627776)) || !(inB nn 0 1099511627776)

theorem keysFit_eq (kind : Int) (key : ByteArray) (keys : List ByteArray) : keysFitB kind key keys = (keysOK kind keys && !(keyBad kind key)) := by
 unfold keysFitB keysOK keyBad
 by_cases h : kind = 1
 · subst h
   rw [show inB 1 2 11 = false from by decide]
   cases key.toList.isEmpty <;> simp
 · cases inB kind 2 11 <;> cases key.toList.isEmpty <;> cases keyB key <;> simp [h]

theorem fieldsFit_eq (kind flags exp nn : Int) (value : ByteArray) (quiet : Bool) : fieldsFitB kind flags exp nn value quiet = (!(fieldsBad kind flags exp value) && (!(nBad kind nn) && !(quietBad kind quiet))) := by
 rw [fieldsFit_of kind flags exp nn value quiet _ _ _ _ rfl rfl rfl rfl]
 unfold fieldsBad nBad quietBad hasExpB hasNB mayQuietB
 by_cases h1 : kind = 1
 · subst h1
   cases value.toList.isEmpty <;> cases flags != 0 <;> cases exp != 0 <;> cases nn != 0 <;> cases quiet <;> rfl
 by_cases h13 : kind = 13
 · subst h13
   cases value.toList.isEmpty <;> cases flags != 0 <;> cases exp != 0 <;> cases nn != 0 <;> cases quiet <;> rfl
 rw [show (kind == 1) = false from by simp [h1], show (kind == 13) = false from by simp [h13], decide_eq_false h1, decide_eq_false h13]
 by_cases h11 : kind = 11
 · subst h11
   cases value.toList.isEmpty <;> cases flags != 0 <;> cases exp != 0 <;> cases nn != 0 <;> cases quiet <;> rfl
 rw [show (kind != 11) = true from by simp [h11], decide_eq_false h11]
 by_cases h7 : kind = 7
 · subst h7
   cases value.toList.isEmpty <;> cases flags != 0 <;> cases exp != 0 <;> cases nn != 0 <;> cases quiet <;> rfl
 by_cases h9 : kind = 9
 · subst h9
   cases value.toList.isEmpty <;> cases flags != 0 <;> cases exp != 0 <;> cases nn != 0 <;> cases quiet <;> rfl
 by_cases h10 : kind = 10
 · subst h10
   cases value.toList.isEmpty <;> cases flags != 0 <;> cases exp != 0 <;> cases nn != 0 <;> cases quiet <;> rfl
 rw [show (kind != 7) = true from by simp [h7], show (kind != 9) = true from by simp [h9], show (kind != 10) = true from by simp [h10], decide_eq_false h7, decide_eq_false h9, decide_eq_false h10]
 cases inB kind 2 7 <;> cases value.toList.isEmpty <;> cases flags != 0 <;> cases exp != 0 <;> cases nn != 0 <;> cases quiet <;> rfl

theorem range_eq (flags exp nn : Int) : (outB flags 65535 || (outB exp 1099511627776 || outB nn 1099511627776)) = rangeBad flags exp nn := by
 have h : ∀ n m : Int, outB n m = !(inB n 0 m) := fun n m => by
  unfold outB inB
  rw [Bool.eq_iff_iff]
  simp
 unfold rangeBad
 rw [h, h, h]
 cases inB flags 0 65535 <;> cases inB exp 0 1099511627776 <;> cases inB nn 0 1099511627776 <;> rfl

theorem check_eq (kind : Int) (key : ByteArray) (keys : List ByteArray) (flags exp nn : Int) (value : ByteArray) (quiet : Bool) : checkN kind key keys flags exp nn value quiet =
 if inB kind 1 13 = false then 3 else if keysOK kind keys = false then 4 else if keyBad kind key = true then 4 else if fieldsBad kind flags exp value = true then 4 else if nBad kind nn = true then 4 else if quietBad kind quiet = true then 4
 else if rangeBad flags exp nn = true then 2 else if 200 < value.size then 1 else 0 := by
 unfold checkN
 rw [keysFit_eq, fieldsFit_eq, range_eq]
 cases inB kind 1 13 <;> cases keysOK kind keys <;> cases keyBad kind key <;> cases fieldsBad kind flags exp value <;> cases nBad kind nn <;> cases quietBad kind quiet <;> rfl

/- The contracts of dovecotekeep.picked and dovecotekeep.key. -/

def pickN (n many : Int) : Int := (if n < 0 then -(n + 1) else n) % many

theorem pickN_range (n many : Int) (hm : 0 < many) : 0 ≤ pickN n many ∧ pickN n many < many :=
 ⟨Int.emod_nonneg _ (by omega), Int.emod_lt_of_pos _ hm⟩

theorem picked_any (n many : Int) (w : World) (h0 : -9223372036854775808 ≤ n) (h1 : n ≤ 9223372036854775807) (hm : 0 < many) (hm2 : many ≤ 9223372036854775807) :
 Calls Tryz.prog 13 #[.int .i64 n, .int .i64 many] w fun e w' => e = .returned (.int .i64 (pickN n many)) ∧ w' = w := by
 have hmz : ¬ many = 0 := by omega
 by_cases h : n < 0
 · have E : Hid (((-(n + 1)) % many) = pickN n many) := by unfold Hid pickN; rw [if_pos h]
   have ht : (-(n + 1)).tmod many = (-(n + 1)) % many := Int.tmod_eq_emod_of_nonneg (by omega)
   go_enter Tryz.func13, Tryz.ntmps13
   go_wp2
   go_ret
   exact ⟨ret_i64 E.out, rfl⟩
 · have E : Hid ((n % many) = pickN n many) := by unfold Hid pickN; rw [if_neg h]
   have ht : n.tmod many = n % many := Int.tmod_eq_emod_of_nonneg (by omega)
   go_enter Tryz.func13, Tryz.ntmps13
   go_wp2
   go_ret
   exact ⟨ret_i64 E.out, rfl⟩

def keyL : List ByteArray := [⟨#[97]⟩, ⟨#[98]⟩, ⟨#[99, 99]⟩, ⟨#[107, 101, 121]⟩, ⟨#[108, 111, 110, 103, 45, 107, 101, 121, 45, 110, 97, 109, 101]⟩, ⟨#[120, 47, 121]⟩, ⟨#[122, 57]⟩, ⟨#[126]⟩]
def keyS (n : Int) : ByteArray := keyL.getD (pickN n 8).toNat ByteArray.empty

theorem keyS_ok (n : Int) : keyB (keyS n) = true := by
 obtain ⟨h0, h1⟩ := pickN_range n 8 (by decide)
 have : ∀ j : Fin 8, keyB (keyL.getD j.val ByteArray.empty) = true := by decide
 exact this ⟨(pickN n 8).toNat, by omega⟩

set_option maxHeartbeats 1000000 in
theorem keepKey_any (n : Int) (w : World) (h0 : -9223372036854775808 ≤ n) (h1 : n ≤ 9223372036854775807) :
 Calls Tryz.prog 27 #[.int .i64 n] w fun e w' => e = .returned (.string (keyS n)) ∧ Below w.heap.size w w' := by
 have hp := fun w1 => picked_any n 8 w1 h0 h1 (by decide) (by decide)
 obtain ⟨r0, r1⟩ := pickN_range n 8 (by decide)
 unfold keyS
 generalize pickN n 8 = p at *
 have hk : p = 0 ∨ p = 1 ∨ p = 2 ∨ p = 3 ∨ p = 4 ∨ p = 5 ∨ p = 6 ∨ p = 7 := by omega
 clear r0 r1
 rcases hk with rfl | rfl | rfl | rfl | rfl | rfl | rfl | rfl <;>
 (go_enter Tryz.func27, Tryz.ntmps27
  go_wp2_with (go_at_call 13; refine (hp _).mono ?_; rintro e w' ⟨rfl, rfl⟩)
  go_ret
  exact ⟨rfl, (Below.refl _ _).alloc (Nat.le_refl _) _⟩)

end Go.Proofs.YtdblegdgmjakfaaGreatDoor

namespace Go.Proofs
open Go.Shelf

/- The contracts of library functions that the code of this seat calls, at this translation: each one application of a theorem of the library. -/
def Tryz.lays105_ren : Go.Shelf.Ren := ⟨fun | 105 => 33 | 212 => 48 | 99 => 49 | 165 => 50 | 166 => 51 | 170 => 52 | 169 => 53 | 263 => 71 | 264 => 72 | 206 => 73 | 240 => 74 | 241 => 75 | 276 => 104 | 277 => 105 | n => n, fun | 9 => 9 | 3 => 3 | 4 => 4 | 20 => 20 | 0 => 0 | 46 => 90 | 109 => 91 | 5 => 5 | 72 => 97 | 76 => 101 | 51 => 125 | 146 => 126 | 53 => 128 | 148 => 129 | 70 => 94 | 37 => 95 | 75 => 100 | 127 => 131 | 164 => 155 | 80 => 104 | n => n, fun | n => n⟩
theorem Tryz.lays105 : Go.Proofs.Lays.n105 Tryz.prog Tryz.lays105_ren := {
 mixed := by kernel_rfl
 f99 := Tryz.func49.trans (congrArg some (by kernel_rfl))
 f105 := Tryz.func33.trans (congrArg some (by kernel_rfl))
 f165 := Tryz.func50.trans (congrArg some (by kernel_rfl))
 f166 := Tryz.func51.trans (congrArg some (by kernel_rfl))
 f169 := Tryz.func53.trans (congrArg some (by kernel_rfl))
 f170 := Tryz.func52.trans (congrArg some (by kernel_rfl))
 f206 := Tryz.func73.trans (congrArg some (by kernel_rfl))
 f212 := Tryz.func48.trans (congrArg some (by kernel_rfl))
 f240 := Tryz.func74.trans (congrArg some (by kernel_rfl))
 f241 := Tryz.func75.trans (congrArg some (by kernel_rfl))
 f263 := Tryz.func71.trans (congrArg some (by kernel_rfl))
 f264 := Tryz.func72.trans (congrArg some (by kernel_rfl))
 f276 := Tryz.func104.trans (congrArg some (by kernel_rfl))
 f277 := Tryz.func105.trans (congrArg some (by kernel_rfl))
 t0 := Tryz.underlying0
 a0 := Tryz.isAgg0
 z0 := Tryz.sizeOf0
 v0 := Tryz.zeroValue0
 t3 := Tryz.underlying3
 a3 := Tryz.isAgg3
 z3 := Tryz.sizeOf3
 v3 := Tryz.zeroValue3
 t4 := Tryz.underlying4
 a4 := Tryz.isAgg4
 z4 := Tryz.sizeOf4
 v4 := Tryz.zeroValue4
 t5 := Tryz.underlying5
 a5 := Tryz.isAgg5
 z5 := Tryz.sizeOf5
 v5 := Tryz.zeroValue5
 t9 := Tryz.underlying9
 a9 := Tryz.isAgg9
 z9 := Tryz.sizeOf9
 v9 := Tryz.zeroValue9
 t20 := Tryz.underlying20
 a20 := Tryz.isAgg20
 z20 := Tryz.sizeOf20
 v20 := Tryz.zeroValue20
 t37 := Tryz.underlying95
 a37 := Tryz.isAgg95
 z37 := Tryz.sizeOf95
 v37 := Tryz.zeroValue95
 t46 := Tryz.underlying90
 a46 := Tryz.isAgg90
 z46 := Tryz.sizeOf90
 v46 := Tryz.zeroValue90
 t51 := Tryz.underlying125
 a51 := Tryz.isAgg125
 z51 := Tryz.sizeOf125
 v51 := Tryz.zeroValue125
 t53 := Tryz.underlying128
 a53 := Tryz.isAgg128
 z53 := Tryz.sizeOf128
 v53 := Tryz.zeroValue128
 t70 := Tryz.underlying94
 a70 := Tryz.isAgg94
 z70 := Tryz.sizeOf94
 v70 := Tryz.zeroValue94
 t72 := Tryz.underlying97
 a72 := Tryz.isAgg97
 z72 := Tryz.sizeOf97
 v72 := Tryz.zeroValue97
 t75 := Tryz.underlying100
 a75 := Tryz.isAgg100
 z75 := Tryz.sizeOf100
 v75 := Tryz.zeroValue100
 t76 := Tryz.underlying101
 a76 := Tryz.isAgg101
 z76 := Tryz.sizeOf101
 v76 := Tryz.zeroValue101
 t109 := Tryz.underlying91
 a109 := Tryz.isAgg91
 z109 := Tryz.sizeOf91
 v109 := Tryz.zeroValue91
 t127 := Tryz.underlying131
 a127 := Tryz.isAgg131
 z127 := Tryz.sizeOf131
 v127 := Tryz.zeroValue131
 t146 := Tryz.underlying126
 a146 := Tryz.isAgg126
 z146 := Tryz.sizeOf126
 v146 := Tryz.zeroValue126
 t148 := Tryz.underlying129
 a148 := Tryz.isAgg129
 z148 := Tryz.sizeOf129
 v148 := Tryz.zeroValue129
 t164 := Tryz.underlying155
 a164 := Tryz.isAgg155
 z164 := Tryz.sizeOf155
 v164 := Tryz.zeroValue155 }
theorem Tryz.Builder_Extra_105 : Builder.Extra Tryz.prog Tryz.lays105_ren := {
 sizeBuilder := by kernel_rfl
 liesBuilder := by kernel_rfl
 t5 := Tryz.underlying5
 a5 := Tryz.isAgg5
 z5 := Tryz.sizeOf5
 v5 := Tryz.zeroValue5
 infoByte := by kernel_rfl
 cellsByte := by kernel_rfl
 sizeByte := by kernel_rfl
 neB5 := by decide }
open Go.RowKit Go.Lib in
theorem Tryz.strings_Repeat (s : ByteArray) (c : Nat) (w : World) (hc : c ≤ 9223372036854775807) (hlen : s.size * c ≤ 140737488355328) :
 Calls Tryz.prog 33 #[.string s, .int .i64 c] w fun e w' => e = .returned (.string ⟨(Lib.repeatL s.data.toList c).toArray⟩) ∧ Below w.heap.size w w' := Any.strings_Repeat Tryz.lays105 Tryz.Builder_Extra_105 s c w hc hlen

end Go.Proofs

namespace Go.Proofs.YtdblegdgmjakfaaGreatDoor
open Go.ChangeShapes Go.WideShapes Go.ChangeAt Go.RowKit
set_option linter.unusedVariables false

/- What dovecotekeep.value answers, in plain words; strings.Repeat. -/

def val1L : List ByteArray := [⟨#[]⟩, ⟨#[55]⟩, ⟨#[111, 110, 101]⟩, ⟨#[48, 49, 50, 51, 52, 53, 54, 55, 56, 57]⟩, ⟨#[49, 48]⟩, ⟨#[49, 48, 57, 57, 53, 49, 49, 54, 50, 55, 55, 55, 53]⟩, ⟨#[97, 10, 98]⟩, ⟨#[118, 97, 108, 117, 101, 32, 111, 102, 32, 115, 111, 109, 101, 32, 98, 121, 116, 101, 115, 44, 32, 116, 104, 97, 116, 32, 103, 111, 32, 116, 111, 32, 102, 108, 97, 115, 104]⟩]
def val2L : List ByteArray := [⟨#[]⟩, ⟨#[]⟩, ⟨#[120, 121]⟩, ⟨#[97, 32, 118, 97, 108, 117, 101, 32, 116, 104, 97, 116, 32, 105, 115, 32, 108, 111, 110, 103]⟩]
def repS (x : ByteArray) (c : Nat) : ByteArray := ⟨(Lib.repeatL x.data.toList c).toArray⟩
def valS (n : Int) : ByteArray := val1L.getD (pickN n 8).toNat ByteArray.empty ++ repS (val2L.getD (pickN (n.tdiv 8) 4).toNat ByteArray.empty) (pickN (n.tdiv 32) 8).toNat

theorem repeat_any (x : ByteArray) (c : Nat) (w : World) (hx : x.size ≤ 100) (hc : c ≤ 8) :
 Calls Tryz.prog 33 #[.string x, .int .i64 c] w fun e w' => e = .returned (.string (repS x c)) ∧ Below w.heap.size w w' :=
 Tryz.strings_Repeat x c w (by omega) (Nat.le_trans (Nat.mul_le_mul hx hc) (by decide))

theorem tdiv_range (n k : Int) (hk : 1 ≤ k) (h0 : -9223372036854775808 ≤ n) (h1 : n ≤ 9223372036854775807) : -9223372036854775808 ≤ n.tdiv k ∧ n.tdiv k ≤ 9223372036854775807 := by
 by_cases h : 0 ≤ n
 · rw [Int.tdiv_eq_ediv_of_nonneg h]
   have := Int.ediv_nonneg h (by omega : 0 ≤ k)
   have := Int.ediv_le_self k h
   omega
 · have e : n.tdiv k = -((-n).tdiv k) := by rw [Int.neg_tdiv, Int.neg_neg]
   have hn : 0 ≤ -n := by omega
   rw [e, Int.tdiv_eq_ediv_of_nonneg hn]
   have := Int.ediv_nonneg hn (by omega : 0 ≤ k)
   have := Int.ediv_le_self k hn
   omega

end Go.Proofs.YtdblegdgmjakfaaGreatDoor
