/- The contract of the reader's item. -/
import Derived.Test.YtogpkbhjobhodaaDoorSnapM
namespace Go.Proofs.YtogpkbhjobhodaaDoor
open Go.ChangeShapes Go.WideShapes Go.ChangeAt Go.RowKit
set_option linter.unusedVariables false
set_option linter.unusedSimpArgs false

def itemHead (st : RS) : RS × (List UInt8 × Nat × Nat × Nat × Nat × Bool) :=
  let k := textR 20 st
  let a := numR k.1
  let b := numR a.1
  let c := numR b.1
  let d := numR c.1
  let y := yesR d.1
  (y.1, k.2, a.2, b.2, c.2, d.2, y.2)
/-- An item that is read. -/
def itemR (st : RS) : RS × ItemR :=
  let h := itemHead st
  if h.2.2.2.2.2.2 = true then
    let p := numR h.1
    let q := numR p.1
    (q.1, ⟨strB h.2.1, h.2.2.1, h.2.2.2.1, h.2.2.2.2.1, h.2.2.2.2.2.1, ⟨#[]⟩, true, p.2, q.2⟩)
  else
    let v := textR 200 h.1
    (v.1, ⟨strB h.2.1, h.2.2.1, h.2.2.2.1, h.2.2.2.2.1, h.2.2.2.2.2.1, strB v.2, false, 0, 0⟩)

/-- The reader, and two boxes of an item: the answer's and the one that is filled. -/
def ItB (m B : Nat) (w : World) (wi : World) (st : RS) (cs : Array Value) : Prop := RdAt m wi B st ∧ TB 49 wi w.heap.size #[.string ⟨#[]⟩, .int .i64 0, .int .i64 0, .int .i64 0, .int .i64 0, .string ⟨#[]⟩, .bool false, .int .i64 0, .int .i64 0] ∧ TB 49 wi (w.heap.size + 1) cs ∧ Only B w wi ∧ B < w.heap.size
theorem ItB.call {m B : Nat} {w wi w1 : World} {st st' : RS} {cs : Array Value} (h : ItB m B w wi st cs) (hR : RdAt m w1 B st') (hO : Only B wi w1) : ItB m B w w1 st' cs := by
  obtain ⟨h1, h2, h3, h4, h5⟩ := h
  exact ⟨hR, hO.tb h2 (by omega), hO.tb h3 (by omega), h4.trans hO, h5⟩
theorem ItB.set {m B : Nat} {w wi : World} {st : RS} {cs : Array Value} (h : ItB m B w wi st cs) (j : Nat) (v : Value) : ItB m B w (wi.setCell ⟨w.heap.size + 1, j, none⟩ v) st (cs.setIfInBounds j v) := by
  obtain ⟨h1, h2, h3, h4, h5⟩ := h
  exact ⟨h1.set j v (by omega) (by have := h1.1; omega), h2.far ⟨w.heap.size + 1, j, none⟩ v (by show w.heap.size ≠ w.heap.size + 1; omega), h3.set j v, h4.set_new (by omega) j v, h5⟩
theorem ItB.out {m B : Nat} {w wi : World} {st : RS} {cs : Array Value} (h : ItB m B w wi st cs) (v0 v1 v2 v3 v4 v5 v6 v7 v8 : Value) :
    let w' := ((((((((wi.setCell ⟨w.heap.size, 0, none⟩ v0).setCell ⟨w.heap.size, 1, none⟩ v1).setCell ⟨w.heap.size, 2, none⟩ v2).setCell ⟨w.heap.size, 3, none⟩ v3).setCell ⟨w.heap.size, 4, none⟩ v4).setCell ⟨w.heap.size, 5, none⟩ v5).setCell ⟨w.heap.size, 6, none⟩ v6).setCell ⟨w.heap.size, 7, none⟩ v7).setCell ⟨w.heap.size, 8, none⟩ v8
    RdAt m w' B st ∧ Only B w w' := by
  obtain ⟨h1, h2, h3, h4, h5⟩ := h
  have hm := h1.1
  have hne : B ≠ w.heap.size := by omega
  have hle : m ≤ w.heap.size := by omega
  have hw := Nat.le_refl w.heap.size
  exact ⟨(((((((((h1.set 0 v0 hne hle).set 1 v1 hne hle).set 2 v2 hne hle).set 3 v3 hne hle).set 4 v4 hne hle).set 5 v5 hne hle).set 6 v6 hne hle).set 7 v7 hne hle).set 8 v8 hne hle), (((((((((h4.set_new hw 0 v0).set_new hw 1 v1).set_new hw 2 v2).set_new hw 3 v3).set_new hw 4 v4).set_new hw 5 v5).set_new hw 6 v6).set_new hw 7 v7).set_new hw 8 v8)⟩

def ItemPost (m B : Nat) (p : RS × ItemR) (w : World) (e : Ending) (w' : World) : Prop := e = .returned (.agg #[.string p.2.key, .int .i64 p.2.flags, .int .i64 p.2.until_, .int .i64 p.2.cas, .int .i64 p.2.used, .string p.2.value, .bool p.2.far, .int .i64 p.2.page, .int .i64 p.2.at_]) ∧ RdAt m w' B p.1 ∧ Only B w w'

set_option maxHeartbeats 4000000 in
set_option maxRecDepth 100000 in
theorem ritem_any (m : Nat) (st : RS) (B : Nat) (w : World) (h : RdAt m w B st) :
    Calls Tryd.prog 36 #[.pointer (some ⟨B, 0, none⟩)] w (ItemPost m B (itemR st) w) := by
  have c1 := fun w1 (hr : RdAt m w1 B st) => rtext_any m 20 st B w1 hr (by omega)
  unfold ItemPost itemR itemHead
  simp only
  generalize textR 20 st = K at *
  obtain ⟨s1, kl⟩ := K
  have c2 := fun w1 (hr : RdAt m w1 B s1) => number_any m s1 B w1 hr
  simp only
  generalize numR s1 = N2 at *
  obtain ⟨s2, n2⟩ := N2
  have c3 := fun w1 (hr : RdAt m w1 B s2) => number_any m s2 B w1 hr
  simp only
  generalize numR s2 = N3 at *
  obtain ⟨s3, n3⟩ := N3
  have c4 := fun w1 (hr : RdAt m w1 B s3) => number_any m s3 B w1 hr
  simp only
  generalize numR s3 = N4 at *
  obtain ⟨s4, n4⟩ := N4
  have c5 := fun w1 (hr : RdAt m w1 B s4) => number_any m s4 B w1 hr
  simp only
  generalize numR s4 = N5 at *
  obtain ⟨s5, n5⟩ := N5
  have c6 := fun w1 (hr : RdAt m w1 B s5) => yes_any m s5 B w1 hr
  simp only
  generalize yesR s5 = Y at *
  obtain ⟨s6, far⟩ := Y
  have c7 := fun w1 (hr : RdAt m w1 B s6) => number_any m s6 B w1 hr
  have c9 := fun w1 (hr : RdAt m w1 B s6) => rtext_any m 200 s6 B w1 hr (by omega)
  simp only
  generalize numR s6 = N7 at *
  obtain ⟨s7, n7⟩ := N7
  have c8 := fun w1 (hr : RdAt m w1 B s7) => number_any m s7 B w1 hr
  simp only
  generalize numR s7 = N8 at *
  obtain ⟨s8, n8⟩ := N8
  generalize textR 200 s6 = V at *
  obtain ⟨s9, vl⟩ := V
  unfold NumPost at *
  unfold BytPost at *
  simp only at *
  have I0 : ItB m B w ((w.alloc (.cells #[.string ⟨#[]⟩, .int .i64 0, .int .i64 0, .int .i64 0, .int .i64 0, .string ⟨#[]⟩, .bool false, .int .i64 0, .int .i64 0] 49)).alloc (.cells #[.string ⟨#[]⟩, .int .i64 0, .int .i64 0, .int .i64 0, .int .i64 0, .string ⟨#[]⟩, .bool false, .int .i64 0, .int .i64 0] 49)) st #[.string ⟨#[]⟩, .int .i64 0, .int .i64 0, .int .i64 0, .int .i64 0, .string ⟨#[]⟩, .bool false, .int .i64 0, .int .i64 0] := by
    have A1 : Below w.heap.size w (w.alloc (.cells #[.string ⟨#[]⟩, .int .i64 0, .int .i64 0, .int .i64 0, .int .i64 0, .string ⟨#[]⟩, .bool false, .int .i64 0, .int .i64 0] 49)) := (Below.refl _ _).alloc (Nat.le_refl _) _
    have A2 : Below (w.alloc (.cells #[.string ⟨#[]⟩, .int .i64 0, .int .i64 0, .int .i64 0, .int .i64 0, .string ⟨#[]⟩, .bool false, .int .i64 0, .int .i64 0] 49)).heap.size (w.alloc (.cells #[.string ⟨#[]⟩, .int .i64 0, .int .i64 0, .int .i64 0, .int .i64 0, .string ⟨#[]⟩, .bool false, .int .i64 0, .int .i64 0] 49)) ((w.alloc (.cells #[.string ⟨#[]⟩, .int .i64 0, .int .i64 0, .int .i64 0, .int .i64 0, .string ⟨#[]⟩, .bool false, .int .i64 0, .int .i64 0] 49)).alloc (.cells #[.string ⟨#[]⟩, .int .i64 0, .int .i64 0, .int .i64 0, .int .i64 0, .string ⟨#[]⟩, .bool false, .int .i64 0, .int .i64 0] 49)) := (Below.refl _ _).alloc (Nat.le_refl _) _
    have T2 := TB.new 49 (w.alloc (.cells #[.string ⟨#[]⟩, .int .i64 0, .int .i64 0, .int .i64 0, .int .i64 0, .string ⟨#[]⟩, .bool false, .int .i64 0, .int .i64 0] 49)) #[.string ⟨#[]⟩, .int .i64 0, .int .i64 0, .int .i64 0, .int .i64 0, .string ⟨#[]⟩, .bool false, .int .i64 0, .int .i64 0]
    rw [show (w.alloc (.cells #[.string ⟨#[]⟩, .int .i64 0, .int .i64 0, .int .i64 0, .int .i64 0, .string ⟨#[]⟩, .bool false, .int .i64 0, .int .i64 0] 49)).heap.size = w.heap.size + 1 by simp] at T2
    exact ⟨(h.later A1).later A2, (TB.new 49 w #[.string ⟨#[]⟩, .int .i64 0, .int .i64 0, .int .i64 0, .int .i64 0, .string ⟨#[]⟩, .bool false, .int .i64 0, .int .i64 0]).later A2, T2, (Only.of_below A1).trans (Only.of_below A2), h.lt⟩
  go_enter Tryd.func36, Tryd.ntmps36
  go_wp2_with fail
  refine (c1 _ I0.1).mono ?_
  rintro e w1 ⟨a1, q1, rfl, hA1, _, _, _, hR1, hO1⟩
  have J1 := I0.call hR1 hO1
  have hcv1 := conv_bytes hA1 q1
  have x1 := fun j => J1.2.2.1.cell j
  have f1 := fun j => J1.2.2.1.frozen j
  have l1 := J1.2.2.1.lt
  have I1 : ItB m B w (w1.setCell ⟨w.heap.size + 1, 0, none⟩ (.string (strB kl))) s1 #[.string (strB kl), .int .i64 0, .int .i64 0, .int .i64 0, .int .i64 0, .string ⟨#[]⟩, .bool false, .int .i64 0, .int .i64 0] := J1.set 0 _
  clear I0 hR1 hO1
  go_wp2_with fail
  clear x1 f1 l1 J1
  refine (c2 _ I1.1).mono ?_
  rintro e w2 ⟨rfl, hR2, hO2⟩
  have J2 := I1.call hR2 hO2
  have x2 := fun j => J2.2.2.1.cell j
  have f2 := fun j => J2.2.2.1.frozen j
  have l2 := J2.2.2.1.lt
  have I2 : ItB m B w (w2.setCell ⟨w.heap.size + 1, 1, none⟩ (.int .i64 (n2 : Int))) s2 #[.string (strB kl), .int .i64 (n2 : Int), .int .i64 0, .int .i64 0, .int .i64 0, .string ⟨#[]⟩, .bool false, .int .i64 0, .int .i64 0] := J2.set 1 _
  clear I1 hR2 hO2
  go_wp2_with fail
  clear x2 f2 l2 J2
  refine (c3 _ I2.1).mono ?_
  rintro e w3 ⟨rfl, hR3, hO3⟩
  have J3 := I2.call hR3 hO3
  have x3 := fun j => J3.2.2.1.cell j
  have f3 := fun j => J3.2.2.1.frozen j
  have l3 := J3.2.2.1.lt
  have I3 : ItB m B w (w3.setCell ⟨w.heap.size + 1, 2, none⟩ (.int .i64 (n3 : Int))) s3 #[.string (strB kl), .int .i64 (n2 : Int), .int .i64 (n3 : Int), .int .i64 0, .int .i64 0, .string ⟨#[]⟩, .bool false, .int .i64 0, .int .i64 0] := J3.set 2 _
  clear I2 hR3 hO3
  go_wp2_with fail
  clear x3 f3 l3 J3
  refine (c4 _ I3.1).mono ?_
  rintro e w4 ⟨rfl, hR4, hO4⟩
  have J4 := I3.call hR4 hO4
  have x4 := fun j => J4.2.2.1.cell j
  have f4 := fun j => J4.2.2.1.frozen j
  have l4 := J4.2.2.1.lt
  have I4 : ItB m B w (w4.setCell ⟨w.heap.size + 1, 3, none⟩ (.int .i64 (n4 : Int))) s4 #[.string (strB kl), .int .i64 (n2 : Int), .int .i64 (n3 : Int), .int .i64 (n4 : Int), .int .i64 0, .string ⟨#[]⟩, .bool false, .int .i64 0, .int .i64 0] := J4.set 3 _
  clear I3 hR4 hO4
  go_wp2_with fail
  clear x4 f4 l4 J4
  refine (c5 _ I4.1).mono ?_
  rintro e w5 ⟨rfl, hR5, hO5⟩
  have J5 := I4.call hR5 hO5
  have x5 := fun j => J5.2.2.1.cell j
  have f5 := fun j => J5.2.2.1.frozen j
  have l5 := J5.2.2.1.lt
  have I5 : ItB m B w (w5.setCell ⟨w.heap.size + 1, 4, none⟩ (.int .i64 (n5 : Int))) s5 #[.string (strB kl), .int .i64 (n2 : Int), .int .i64 (n3 : Int), .int .i64 (n4 : Int), .int .i64 (n5 : Int), .string ⟨#[]⟩, .bool false, .int .i64 0, .int .i64 0] := J5.set 4 _
  clear I4 hR5 hO5
  go_wp2_with fail
  clear x5 f5 l5 J5
  cases far
  · refine (c6 _ I5.1).mono ?_
    rintro e w6 ⟨rfl, hR6, hO6⟩
    have J6 := I5.call hR6 hO6
    have x6 := fun j => J6.2.2.1.cell j
    have f6 := fun j => J6.2.2.1.frozen j
    have l6 := J6.2.2.1.lt
    have I6 : ItB m B w (w6.setCell ⟨w.heap.size + 1, 6, none⟩ (.bool false)) s6 #[.string (strB kl), .int .i64 (n2 : Int), .int .i64 (n3 : Int), .int .i64 (n4 : Int), .int .i64 (n5 : Int), .string ⟨#[]⟩, .bool false, .int .i64 0, .int .i64 0] := J6.set 6 _
    clear I5 hR6 hO6
    go_wp2_with fail
    clear x6 f6 l6 J6
    refine (c9 _ I6.1).mono ?_
    rintro e w7 ⟨a7, q7, rfl, hA7, _, _, _, hR7, hO7⟩
    have J7 := I6.call hR7 hO7
    have hcv7 := conv_bytes hA7 q7
    have x7 := fun j => J7.2.2.1.cell j
    have f7 := fun j => J7.2.2.1.frozen j
    have l7 := J7.2.2.1.lt
    have I7 : ItB m B w (w7.setCell ⟨w.heap.size + 1, 5, none⟩ (.string (strB vl))) s9 #[.string (strB kl), .int .i64 (n2 : Int), .int .i64 (n3 : Int), .int .i64 (n4 : Int), .int .i64 (n5 : Int), .string (strB vl), .bool false, .int .i64 0, .int .i64 0] := J7.set 5 _
    clear I6 hR7 hO7
    have y := fun j => J7.2.1.cell j
    have g := fun j => J7.2.1.frozen j
    have ll := J7.2.1.lt
    go_wp2_with fail
    have hout := I7.out (.string (strB kl)) (.int .i64 (n2 : Int)) (.int .i64 (n3 : Int)) (.int .i64 (n4 : Int)) (.int .i64 (n5 : Int)) (.string (strB vl)) (.bool false) (.int .i64 0) (.int .i64 0)
    exact bodyPost_ret (v := .agg #[.string (strB kl), .int .i64 (n2 : Int), .int .i64 (n3 : Int), .int .i64 (n4 : Int), .int .i64 (n5 : Int), .string (strB vl), .bool false, .int .i64 0, .int .i64 0]) (by simp [results, Tryd.results36, go_sem, l7, ll, x7, y]) rfl ⟨rfl, hout.1, hout.2⟩
  · refine (c6 _ I5.1).mono ?_
    rintro e w6 ⟨rfl, hR6, hO6⟩
    have J6 := I5.call hR6 hO6
    have x6 := fun j => J6.2.2.1.cell j
    have f6 := fun j => J6.2.2.1.frozen j
    have l6 := J6.2.2.1.lt
    have I6 : ItB m B w (w6.setCell ⟨w.heap.size + 1, 6, none⟩ (.bool true)) s6 #[.string (strB kl), .int .i64 (n2 : Int), .int .i64 (n3 : Int), .int .i64 (n4 : Int), .int .i64 (n5 : Int), .string ⟨#[]⟩, .bool true, .int .i64 0, .int .i64 0] := J6.set 6 _
    clear I5 hR6 hO6
    go_wp2_with fail
    clear x6 f6 l6 J6
    refine (c7 _ I6.1).mono ?_
    rintro e w7 ⟨rfl, hR7, hO7⟩
    have J7 := I6.call hR7 hO7
    have x7 := fun j => J7.2.2.1.cell j
    have f7 := fun j => J7.2.2.1.frozen j
    have l7 := J7.2.2.1.lt
    have I7 : ItB m B w (w7.setCell ⟨w.heap.size + 1, 7, none⟩ (.int .i64 (n7 : Int))) s7 #[.string (strB kl), .int .i64 (n2 : Int), .int .i64 (n3 : Int), .int .i64 (n4 : Int), .int .i64 (n5 : Int), .string ⟨#[]⟩, .bool true, .int .i64 (n7 : Int), .int .i64 0] := J7.set 7 _
    clear I6 hR7 hO7
    go_wp2_with fail
    clear x7 f7 l7 J7
    refine (c8 _ I7.1).mono ?_
    rintro e w8 ⟨rfl, hR8, hO8⟩
    have J8 := I7.call hR8 hO8
    have x8 := fun j => J8.2.2.1.cell j
    have f8 := fun j => J8.2.2.1.frozen j
    have l8 := J8.2.2.1.lt
    have I8 : ItB m B w (w8.setCell ⟨w.heap.size + 1, 8, none⟩ (.int .i64 (n8 : Int))) s8 #[.string (strB kl), .int .i64 (n2 : Int), .int .i64 (n3 : Int), .int .i64 (n4 : Int), .int .i64 (n5 : Int), .string ⟨#[]⟩, .bool true, .int .i64 (n7 : Int), .int .i64 (n8 : Int)] := J8.set 8 _
    clear I7 hR8 hO8
    have y := fun j => J8.2.1.cell j
    have g := fun j => J8.2.1.frozen j
    have ll := J8.2.1.lt
    go_wp2_with fail
    have hout := I8.out (.string (strB kl)) (.int .i64 (n2 : Int)) (.int .i64 (n3 : Int)) (.int .i64 (n4 : Int)) (.int .i64 (n5 : Int)) (.string ⟨#[]⟩) (.bool true) (.int .i64 (n7 : Int)) (.int .i64 (n8 : Int))
    exact bodyPost_ret (v := .agg #[.string (strB kl), .int .i64 (n2 : Int), .int .i64 (n3 : Int), .int .i64 (n4 : Int), .int .i64 (n5 : Int), .string ⟨#[]⟩, .bool true, .int .i64 (n7 : Int), .int .i64 (n8 : Int)]) (by simp [results, Tryd.results36, go_sem, l8, ll, x8, y]) rfl ⟨rfl, hout.1, hout.2⟩
end Go.Proofs.YtogpkbhjobhodaaDoor
