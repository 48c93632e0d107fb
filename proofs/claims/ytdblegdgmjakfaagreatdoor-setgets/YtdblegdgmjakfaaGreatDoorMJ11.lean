/- Parts of the proof. -/
import Derived.Test.YtdblegdgmjakfaaGreatDoorMJ10
import Derived.Deep.RegionHeld3
namespace Go.Proofs.YtdblegdgmjakfaaGreatDoor
open Go.ChangeShapes Go.WideShapes Go.ChangeAt Go.RowKit
set_option linter.unusedVariables false
set_option linter.unusedSimpArgs false

/- Behind the call of flash.Append in moveToFlash: its answers in three boxes. -/

theorem below_al {w w1 : World} (h : Below w.heap.size w w1) (o : Obj) : Below w.heap.size w (w1.alloc o) := h.alloc h.size o
theorem below_st {w w1 : World} (h : Below w.heap.size w w1) {p : Addr} (v : Value) (hp : w.heap.size ≤ p.block) : Below w.heap.size w (w1.setCell p v) := h.setCell hp v
theorem below_thru {w w1 w2 : World} (h : Below w.heap.size w w1) (k : Below w1.heap.size w1 w2) : Below w.heap.size w w2 := h.trans (k.mono h.size)
theorem TB.new2 {t : TypeId} {w : World} {cs : Array Value} {b : Nat} (h : b = w.heap.size) : TB t (w.alloc (.cells cs t)) b cs := by subst h; exact TB.new t w cs
theorem PgIn.al {O : Nat → Prop} {w : World} {a : Option Addr} {ps : List PageR} (h : PgIn O w a ps) (o : Obj) : PgIn O (w.alloc o) a ps := h.kept (by simp) fun b _ hl => by show (w.heap.push o)[b]? = _; rw [Array.getElem?_push, if_neg (Nat.ne_of_lt hl)]
theorem PgIn.st {O : Nat → Prop} {w : World} {a : Option Addr} {ps : List PageR} (h : PgIn O w a ps) {p : Addr} (v : Value) (hp : ¬ O p.block) : PgIn O (w.setCell p v) a ps := h.kept (by simp [World.setCell]) fun b hb hl => heap_setCell_other w p b v (fun e => hp (e ▸ hb))

/-- Behind the call of flash.Append: its answers in three boxes. -/
structure MvR (w wx : World) (bf ba bg : Nat) (fa : Option Addr) (fc : Nat) (m : Int) (r : AppR) : Prop where
 f : TB 27 wx bf #[.int .i64 m, .int .i64 r.fx, .slice fa r.pages.length fc]
 a : TB 60 wx ba #[.int .i64 r.page, .int .i64 r.at_]
 g : TB 3 wx bg #[.int .i64 r.gone]
 b : Below w.heap.size w wx
 p : ∃ n1 n2, w.heap.size ≤ n1 ∧ n2 ≤ wx.heap.size ∧ PgIn (fun b => n1 ≤ b ∧ b < n2) wx fa r.pages
 nf : w.heap.size ≤ bf
 na : w.heap.size ≤ ba
 ng : w.heap.size ≤ bg
theorem MvR.of {w wb : World} {bf ba bg : Nat} {fa : Option Addr} {fc : Nat} {m : Int} {r : AppR} {z0 z1 z2 z3 z4 z5 : Value} {n1 n2 : Nat} (hf : TB 27 wb bf #[z0, z1, z2]) (ha : TB 60 wb ba #[z3, z4]) (hg : TB 3 wb bg #[z5]) (hb : Below w.heap.size w wb) (h1 : w.heap.size ≤ n1) (h2 : n2 ≤ wb.heap.size) (hp : PgIn (fun b => n1 ≤ b ∧ b < n2) wb fa r.pages)
 (nf : w.heap.size ≤ bf) (na : w.heap.size ≤ ba) (ng : w.heap.size ≤ bg) (q1 : bf ≠ ba) (q2 : bf ≠ bg) (q3 : ba ≠ bg) (o1 : ¬ (n1 ≤ bf ∧ bf < n2)) (o2 : ¬ (n1 ≤ ba ∧ ba < n2)) (o3 : ¬ (n1 ≤ bg ∧ bg < n2)) :
 MvR w ((((((wb.setCell ⟨bf, 0, none⟩ (.int .i64 m)).setCell ⟨bf, 1, none⟩ (.int .i64 r.fx)).setCell ⟨bf, 2, none⟩ (.slice fa r.pages.length fc)).setCell ⟨ba, 0, none⟩ (.int .i64 r.page)).setCell ⟨ba, 1, none⟩ (.int .i64 r.at_)).setCell ⟨bg, 0, none⟩ (.int .i64 r.gone)) bf ba bg fa fc m r where
 f := ((((((hf.set 0 _).set 1 _).set 2 _).far ⟨ba, 0, none⟩ _ q1).far ⟨ba, 1, none⟩ _ q1).far ⟨bg, 0, none⟩ _ q2)
 a := ((((((ha.far ⟨bf, 0, none⟩ _ (Ne.symm q1)).far ⟨bf, 1, none⟩ _ (Ne.symm q1)).far ⟨bf, 2, none⟩ _ (Ne.symm q1)).set 0 _).set 1 _).far ⟨bg, 0, none⟩ _ q3)
 g := ((((((hg.far ⟨bf, 0, none⟩ _ (Ne.symm q2)).far ⟨bf, 1, none⟩ _ (Ne.symm q2)).far ⟨bf, 2, none⟩ _ (Ne.symm q2)).far ⟨ba, 0, none⟩ _ (Ne.symm q3)).far ⟨ba, 1, none⟩ _ (Ne.symm q3)).set 0 _)
 b := below_st (below_st (below_st (below_st (below_st (below_st hb _ nf) _ nf) _ nf) _ na) _ na) _ ng
 p := ⟨n1, n2, h1, by simpa [World.setCell] using h2, (((((hp.st _ o1).st _ o1).st _ o1).st _ o2).st _ o2).st _ o3⟩
 nf := nf
 na := na
 ng := ng

/-- The flash is another one. -/
theorem StAt.flash {O : Nat → Prop} {w : World} {B : Nat} {s : StoreR} {iv : Value} {pa : Option Addr} {pc : Nat} {Op : Nat → Prop} (h : StAt O w B s iv pa pc Op) (fx : Int) (ps : List PageR) (fa : Option Addr) (fc n1 n2 : Nat) (hP : PgIn (fun b => n1 ≤ b ∧ b < n2) w fa ps) (hn : ∀ b, O b → b < n1) (h2 : n2 ≤ w.heap.size) :
 StAt (fun b => O b ∨ (n1 ≤ b ∧ b < n2)) (((w.setCell ⟨B, 9, none⟩ (.int .i64 s.fm)).setCell ⟨B, 10, none⟩ (.int .i64 fx)).setCell ⟨B, 11, none⟩ (.slice fa ps.length fc)) B { s with fx := fx, pages := ps } iv fa fc (fun b => n1 ≤ b ∧ b < n2) where
 box := ((h.box.set 9 _).set 10 _).set 11 _
 row := h.row.kept fun b hb _ => by
  have hne : b ≠ B := (h.rowO b hb).2
  iterate 3 rw [heap_setCell_other _ _ _ _ (show b ≠ B from hne)]
 pages := by
  have hB : ¬ (n1 ≤ B ∧ B < n2) := fun e => by have := hn B h.boxO; omega
  exact ((hP.st _ hB).st _ hB).st _ hB
 apart := fun b hb => ⟨Or.inr hb, fun e => by have := hn B h.boxO; omega, fun e => by have := hn b (h.rowO b e).1; omega⟩
 rowO := fun g hg => ⟨Or.inl (h.rowO g hg).1, (h.rowO g hg).2⟩
 boxO := Or.inl h.boxO
 lt := fun b hb => by
  have e : (((w.setCell ⟨B, 9, none⟩ (.int .i64 s.fm)).setCell ⟨B, 10, none⟩ (.int .i64 fx)).setCell ⟨B, 11, none⟩ (.slice fa ps.length fc)).heap.size = w.heap.size := by simp [World.setCell]
  rw [e]
  rcases hb with hb | hb
  · exact h.lt b hb
  · omega
/-- Items of the row are others; its value is as it was. -/
theorem StAt.rows {O : Nat → Prop} {w w' : World} {B : Nat} {s : StoreR} {iv : Value} {pa : Option Addr} {pc : Nat} {Op : Nat → Prop} (h : StAt O w B s iv pa pc Op) (l : List ItemR) (hR : RowIt w' iv l) (hF : Fr (fun b => iv.ownBlock = some b) w w') : StAt O w' B { s with items := l } iv pa pc Op where
 box := hF.tb h.box (fun e => (h.rowO B e).2 rfl)
 row := hR
 pages := h.pages.kept hF.size fun b hb hl => hF.block b hl (h.apart b hb).2.2
 apart := h.apart
 rowO := h.rowO
 boxO := h.boxO
 lt := fun b hb => Nat.lt_of_lt_of_le (h.lt b hb) hF.size

theorem fr_row4 {n c g : Nat} (w : World) (j5 j6 j7 j8 : Nat) (v5 v6 v7 v8 : Value) : Fr (fun b => (Value.slice (some ⟨g, 0, none⟩) n c).ownBlock = some b) w ((((w.setCell ⟨g, j5, none⟩ v5).setCell ⟨g, j6, none⟩ v6).setCell ⟨g, j7, none⟩ v7).setCell ⟨g, j8, none⟩ v8).drew :=
 have h : (fun b => (Value.slice (some ⟨g, 0, none⟩) n c).ownBlock = some b) g := rfl
 (((((Fr.refl _ w).set j5 v5 (Or.inl h)).set j6 v6 (Or.inl h)).set j7 v7 (Or.inl h)).set j8 v8 (Or.inl h)).drew

/-- The answer of flash.Append, good or bad, in one form. -/
def AppAny (m : Int) (r : AppR) (k : Int) (w : World) (e : Ending) (w' : World) : Prop := ∃ a c, e = .returned (.tuple #[.agg #[.int .i64 m, .int .i64 r.fx, .slice a r.pages.length c], .agg #[.int .i64 r.page, .int .i64 r.at_], .int .i64 r.gone, .int .i64 k]) ∧ PagesFrom w.heap.size w' a r.pages ∧ Below w.heap.size w w'
theorem append_anyway (m x : Int) (ps : List PageR) (a : Option Addr) (c : Nat) (s : ByteArray) (hs : s.size ≤ maxLen) : ∃ m' r k, ((refN m x ps s.size = 0 ∧ m' = m ∧ r = appF m x ps (recOf s.data.toList) ∧ k = 0) ∨ (refN m x ps s.size ≠ 0 ∧ k ≠ 0)) ∧ ∀ w, PagesAt w a ps → Calls Tryz.prog 158 #[.agg #[.int .i64 m, .int .i64 x, .slice a ps.length c], .string s] w (AppAny m' r k w) := by
 by_cases hr : refN m x ps s.size = 0
 · refine ⟨m, appF m x ps (recOf s.data.toList), 0, Or.inl ⟨hr, rfl, rfl, rfl⟩, fun w hA => ?_⟩
   refine (append_ok m x ps a c s w hA hs hr).mono ?_
   rintro e w' ⟨a', c', h⟩
   exact ⟨a', c', h⟩
 · refine ⟨0, ⟨[], 0, 0, 0, 0⟩, refN m x ps s.size, Or.inr ⟨hr, hr⟩, fun w hA => ?_⟩
   refine (append_bad m x ps a c s w hA hs hr).mono ?_
   rintro e w' ⟨rfl, hb⟩
   exact ⟨none, 0, rfl, fun w2 _ _ => pages_none w2 none, hb⟩

/-- The three boxes ahead of their stores. -/
structure MvB (w wb : World) (bf ba bg : Nat) (fa : Option Addr) (r : AppR) : Prop where
 f : TB 27 wb bf #[.int .i64 0, .int .i64 0, .slice none 0 0]
 a : TB 60 wb ba #[.int .i64 0, .int .i64 0]
 g : TB 3 wb bg #[.int .i64 0]
 b : Below w.heap.size w wb
 nf : w.heap.size ≤ bf
 na : w.heap.size ≤ ba
 ng : w.heap.size ≤ bg
 q1 : bf ≠ ba
 q2 : bf ≠ bg
 q3 : ba ≠ bg
 p : ∃ n1 n2, w.heap.size ≤ n1 ∧ n2 ≤ wb.heap.size ∧ ¬ (n1 ≤ bf ∧ bf < n2) ∧ ¬ (n1 ≤ ba ∧ ba < n2) ∧ ¬ (n1 ≤ bg ∧ bg < n2) ∧ PgIn (fun b => n1 ≤ b ∧ b < n2) wb fa r.pages
/-- A way on from a point that many orders come to, proved once. -/
theorem use_rest {P : Program} {md : Region.Mode} {ops : Array Oper} {Q : Exit → Act → World → Prop} {S : World → Prop} {n : Nat} {l : Array Bool} {a : Act} {w : World} {α : Type} (Fc : α → World → Prop) (af : α → Act) (lf : Array Bool) (m : Nat) (hr : ∀ x wb, Fc x wb → wpAnyH P md ops Q S m lf (af x) wb) (k : Hid (∀ x wb, Fc x wb → wpAnyH P md ops Q S m lf (af x) wb) → wpAnyH P md ops Q S n l a w) : wpAnyH P md ops Q S n l a w := k hr

end Go.Proofs.YtdblegdgmjakfaaGreatDoor
