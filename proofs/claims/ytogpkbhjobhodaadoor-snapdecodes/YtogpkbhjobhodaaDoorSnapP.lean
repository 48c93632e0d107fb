/- The contract of the reader's flash. -/
import Derived.Test.YtogpkbhjobhodaaDoorSnapM
import Derived.Test.YtogpkbhjobhodaaDoorFClone
import Derived.Deep.RegionHeld3
namespace Go.Proofs.YtogpkbhjobhodaaDoor
open Go.ChangeShapes Go.WideShapes Go.ChangeAt Go.RowKit
set_option linter.unusedVariables false
set_option linter.unusedSimpArgs false

theorem numF_lt : ∀ (f i acc : Nat) (st : RS), i + f = 7 → acc < 128 ^ i → (numF f i acc st).2 < 4398046511104
  | 0, i, acc, st, h, ha => by simp [numF]
  | f + 1, i, acc, st, h, ha => by
    rw [numF]
    split
    · simp
    · rename_i b r hl
      split
      · simp
      · rename_i hb
        have h6 : i < 6 := by omega
        have hn := num_lt acc b.toNat i h6 ha
        split
        · have : 128 ^ (i + 1) ≤ 128 ^ 6 := Nat.pow_le_pow_right (by decide) (by omega)
          simp only
          omega
        · exact numF_lt f (i + 1) _ _ (by omega) hn
theorem numR_lt (st : RS) : (numR st).2 < 4398046511104 := numF_lt 7 0 0 st rfl (by decide)

/-- Pages that are read. -/
def pagesR : Nat → Int → RS → RS × List PageR
  | 0, _, st => (st, [])
  | k + 1, x, st => ((textR 256 (pagesR k x st).1).1, (pagesR k x st).2 ++ [⟨x + k, (textR 256 (pagesR k x st).1).2⟩])

theorem pagesR_len : ∀ (k : Nat) (x : Int) (st : RS), (pagesR k x st).2.length = k
  | 0, _, _ => rfl
  | k + 1, x, st => by simp [pagesR, pagesR_len k x st]
theorem pagesR_at (x : Int) (st : RS) : ∀ (n k : Nat), k < n → (pagesR n x st).2.getD k default = ⟨x + k, (textR 256 (pagesR k x st).1).2⟩
  | 0, k, h => absurd h (Nat.not_lt_zero _)
  | n + 1, k, h => by
    rw [pagesR]
    simp only
    by_cases hk : k = n
    · subst hk
      rw [List.getD_eq_getElem?_getD, List.getElem?_append_right (by rw [pagesR_len]; omega), pagesR_len]
      simp
    · have := pagesR_at x st n k (by omega)
      rw [List.getD_eq_getElem?_getD, List.getElem?_append_left (by rw [pagesR_len]; omega), ← List.getD_eq_getElem?_getD]
      exact this

theorem take_le (n : Nat) (st : RS) : (takeR n st).2.length ≤ n := by
  unfold takeR
  split
  · simp
  · simp only; rw [List.length_take]; omega
theorem text_le (most : Nat) (st : RS) : (textR most st).2.length ≤ most := Nat.le_trans (take_le _ _) (count_le _ _)

/-- Flash that is read: Most, Next, the pages. -/
def flashR (st : RS) : RS × (Nat × Nat × List PageR) :=
  let a := numR st
  let b := numR a.1
  let c := countR 20 b.1
  let p := pagesR c.2 ((b.2 : Int) - c.2) c.1
  (p.1, a.2, b.2, p.2)

/-- The reader, and two boxes of flash: the answer's and the one that is filled. -/
def FlB (m B : Nat) (w : World) (wi : World) (st : RS) (cs : Array Value) : Prop := RdAt m wi B st ∧ TB 27 wi w.heap.size #[.int .i64 0, .int .i64 0, .slice none 0 0] ∧ TB 27 wi (w.heap.size + 1) cs ∧ Only B w wi ∧ B < w.heap.size
theorem FlB.call {m B : Nat} {w wi w1 : World} {st st' : RS} {cs : Array Value} (h : FlB m B w wi st cs) (hR : RdAt m w1 B st') (hO : Only B wi w1) : FlB m B w w1 st' cs := by
  obtain ⟨h1, h2, h3, h4, h5⟩ := h
  exact ⟨hR, hO.tb h2 (by omega), hO.tb h3 (by omega), h4.trans hO, h5⟩
theorem FlB.set {m B : Nat} {w wi : World} {st : RS} {cs : Array Value} (h : FlB m B w wi st cs) (j : Nat) (v : Value) : FlB m B w (wi.setCell ⟨w.heap.size + 1, j, none⟩ v) st (cs.setIfInBounds j v) := by
  obtain ⟨h1, h2, h3, h4, h5⟩ := h
  exact ⟨h1.set j v (by omega) (by have := h1.1; omega), h2.far ⟨w.heap.size + 1, j, none⟩ v (by show w.heap.size ≠ w.heap.size + 1; omega), h3.set j v, h4.set_new (by omega) j v, h5⟩
theorem FlB.far {m B : Nat} {w wi : World} {st : RS} {cs : Array Value} (h : FlB m B w wi st cs) {P : Nat} (hP : w.heap.size + 1 < P) (j : Nat) (v : Value) : FlB m B w (wi.setCell ⟨P, j, none⟩ v) st cs := by
  obtain ⟨h1, h2, h3, h4, h5⟩ := h
  exact ⟨h1.set j v (by omega) (by have := h1.1; omega), h2.far ⟨P, j, none⟩ v (by show w.heap.size ≠ P; omega), h3.far ⟨P, j, none⟩ v (by show w.heap.size + 1 ≠ P; omega), h4.set_new (by omega) j v, h5⟩

theorem row_step {ps : List PageR} {B P k c2 : Nat} {wr w2 : World} {a2 : Option Addr} {cur : Array Value} (hlt : k < ps.length) (hcur : TB 45 wr P cur) (hcs : cur.size = ps.length * 2) (hP : RowP ps P k cur wr) (hO : Only B wr w2) (hBP : B < P)
    (num : Int) (bs : List UInt8) (hn : ps.getD k default = ⟨num, bs⟩) (hB : BytesAt w2 a2 bs) (hne : ∀ x : Addr, a2 = some x → P < x.block) (hc1 : bs.length ≤ c2) (hc2 : c2 ≤ maxLen) :
    ∃ cur', TB 45 ((w2.setCell ⟨P, k * 2, none⟩ (.int .i64 num)).setCell ⟨P, k * 2 + 1, none⟩ (.slice a2 bs.length c2)) P cur' ∧ cur'.size = ps.length * 2 ∧ RowP ps P (k + 1) cur' ((w2.setCell ⟨P, k * 2, none⟩ (.int .i64 num)).setCell ⟨P, k * 2 + 1, none⟩ (.slice a2 bs.length c2)) := by
  have h2 : TB 45 w2 P cur := hO.tb hcur (by omega)
  refine ⟨_, (h2.set (k * 2) _).set (k * 2 + 1) _, by simp [hcs], fun j hj => ?_⟩
  by_cases hjk : j = k
  · subst hjk
    rw [hn]
    refine ⟨a2, c2, ?_, ?_, (hB.farH _ _ _ hne).farH _ _ _ hne, hne, hc1, hc2⟩
    · rw [Array.getElem?_setIfInBounds_ne (by omega), Array.getElem?_setIfInBounds_self_of_lt (by omega)]
    · rw [Array.getElem?_setIfInBounds_self_of_lt (by simp; omega)]
  · obtain ⟨a, c, e1, e2, e3, e4, e5⟩ := hP j (by omega)
    refine ⟨a, c, ?_, ?_, ((hO.bytes e3 (fun x hx => by have := e4 x hx; omega)).farH _ _ _ e4).farH _ _ _ e4, e4, e5⟩
    · rw [Array.getElem?_setIfInBounds_ne (by omega), Array.getElem?_setIfInBounds_ne (by omega)]; exact e1
    · rw [Array.getElem?_setIfInBounds_ne (by omega), Array.getElem?_setIfInBounds_ne (by omega)]; exact e2

def FlPost (m B : Nat) (p : RS × (Nat × Nat × List PageR)) (w : World) (e : Ending) (w' : World) : Prop := ∃ a c, e = .returned (.agg #[.int .i64 (p.2.1 : Int), .int .i64 (p.2.2.1 : Int), .slice a p.2.2.2.length c]) ∧ PagesFrom w.heap.size w' a p.2.2.2 ∧ RdAt m w' B p.1 ∧ Only B w w'

set_option maxHeartbeats 4000000 in
set_option maxRecDepth 100000 in
theorem rflash_m (m : Nat) (st : RS) (B : Nat) (w : World) (h : RdAt m w B st) :
    Calls Tryd.prog 34 #[.pointer (some ⟨B, 0, none⟩)] w (FlPost m B (flashR st) w) := by
  obtain ⟨ti, hi, iz0, iz1, iz2⟩ := info_parts infoPage
  have c1 := fun w1 (hr : RdAt m w1 B st) => number_any m st B w1 hr
  unfold FlPost flashR
  simp only
  generalize numR st = N1 at *
  obtain ⟨s1, n1⟩ := N1
  have c2 := fun w1 (hr : RdAt m w1 B s1) => number_any m s1 B w1 hr
  have hn2 := numR_lt s1
  simp only
  generalize numR s1 = N2 at *
  obtain ⟨s2, n2⟩ := N2
  have c3 := fun w1 (hr : RdAt m w1 B s2) => count_any m 20 s2 B w1 hr
  have hle := count_le 20 s2
  simp only
  generalize countR 20 s2 = N3 at *
  obtain ⟨s3, n⟩ := N3
  simp only at *
  have hpl := pagesR_len n ((n2 : Int) - n) s3
  have hpa := pagesR_at ((n2 : Int) - n) s3 n
  have hps := fun k => show (pagesR (k + 1) ((n2 : Int) - n) s3).1 = (textR 256 (pagesR k ((n2 : Int) - n) s3).1).1 from rfl
  unfold NumPost at *
  simp only at *
  have I0 : FlB m B w ((w.alloc (.cells #[.int .i64 0, .int .i64 0, .slice none 0 0] 27)).alloc (.cells #[.int .i64 0, .int .i64 0, .slice none 0 0] 27)) st #[.int .i64 0, .int .i64 0, .slice none 0 0] := by
    have A1 : Below w.heap.size w (w.alloc (.cells #[.int .i64 0, .int .i64 0, .slice none 0 0] 27)) := (Below.refl _ _).alloc (Nat.le_refl _) _
    have A2 : Below (w.alloc (.cells #[.int .i64 0, .int .i64 0, .slice none 0 0] 27)).heap.size (w.alloc (.cells #[.int .i64 0, .int .i64 0, .slice none 0 0] 27)) ((w.alloc (.cells #[.int .i64 0, .int .i64 0, .slice none 0 0] 27)).alloc (.cells #[.int .i64 0, .int .i64 0, .slice none 0 0] 27)) := (Below.refl _ _).alloc (Nat.le_refl _) _
    have T2 := TB.new 27 (w.alloc (.cells #[.int .i64 0, .int .i64 0, .slice none 0 0] 27)) #[.int .i64 0, .int .i64 0, .slice none 0 0]
    rw [show (w.alloc (.cells #[.int .i64 0, .int .i64 0, .slice none 0 0] 27)).heap.size = w.heap.size + 1 by simp] at T2
    exact ⟨(h.later A1).later A2, (TB.new 27 w #[.int .i64 0, .int .i64 0, .slice none 0 0]).later A2, T2, (Only.of_below A1).trans (Only.of_below A2), h.lt⟩
  go_enter Tryd.func34, Tryd.ntmps34
  go_wp2_with fail
  refine (c1 _ I0.1).mono ?_
  rintro e w1 ⟨rfl, hR1, hO1⟩
  have J1 := I0.call hR1 hO1
  have x1 := fun j => J1.2.2.1.cell j
  have f1 := fun j => J1.2.2.1.frozen j
  have l1 := J1.2.2.1.lt
  have I1 : FlB m B w (w1.setCell ⟨w.heap.size + 1, 0, none⟩ (.int .i64 (n1 : Int))) s1 #[.int .i64 (n1 : Int), .int .i64 0, .slice none 0 0] := J1.set 0 _
  clear I0 hR1 hO1
  go_wp2_with fail
  clear x1 f1 l1 J1
  refine (c2 _ I1.1).mono ?_
  rintro e w2 ⟨rfl, hR2, hO2⟩
  have J2 := I1.call hR2 hO2
  have x2 := fun j => J2.2.2.1.cell j
  have f2 := fun j => J2.2.2.1.frozen j
  have l2 := J2.2.2.1.lt
  have I2 : FlB m B w (w2.setCell ⟨w.heap.size + 1, 1, none⟩ (.int .i64 (n2 : Int))) s2 #[.int .i64 (n1 : Int), .int .i64 (n2 : Int), .slice none 0 0] := J2.set 1 _
  clear I1 hR2 hO2
  go_wp2_with fail
  clear x2 f2 l2 J2
  refine (c3 _ I2.1).mono ?_
  rintro e w3 ⟨rfl, hR3, hO3⟩
  have J3 := I2.call hR3 hO3
  have x3 := fun j => J3.2.2.1.cell j
  have f3 := fun j => J3.2.2.1.frozen j
  have l3 := J3.2.2.1.lt
  clear I2 hR3 hO3
  go_wp2_with (refine wpList_make_full _ rfl (.tmp 13) (.tmp 13) 25 rfl w3.heap.size 45 ti (.agg #[.int .i64 0, .slice none 0 0]) 2 Tryd.underlying25 hi iz0 iz1 .i64 .i64 _ _ n rfl rfl rfl rfl (by rw [iz2]; omega) (by unfold maxLen; omega) (Nat.le_refl _) ?_; intro w4 hO4 hg4; have hb4 := made_keeps hg4; have J4 := J3.call (J3.1.later hb4) (Only.of_below hb4); have x4 := fun j => J4.2.2.1.cell j; have f4 := fun j => J4.2.2.1.frozen j; have l4 := J4.2.2.1.lt)
  have hrow : ∃ cur : Array Value, w4.heap[w3.heap.size]? = some (.cells cur 45 (0, 0)) ∧ cur.size = n * 2 := by
    rcases hO4.2 with ⟨h0, _⟩ | ⟨g, cap, cur, hv, _, hcur, _, _, hcs, _⟩
    · simp at h0
    · simp at hv
      obtain ⟨rfl, rfl⟩ := hv
      exact ⟨cur, by simpa using hcur, hcs⟩
  obtain ⟨cur0, hc0, hs0⟩ := hrow
  have T0 : TB 45 w4 w3.heap.size cur0 := hc0
  have I4 : FlB m B w (w4.setCell ⟨w.heap.size + 1, 2, none⟩ (.slice (some ⟨w3.heap.size, 0, none⟩) n n)) s3 #[.int .i64 (n1 : Int), .int .i64 (n2 : Int), .slice (some ⟨w3.heap.size, 0, none⟩) n n] := J4.set 2 _
  have T4 := T0.far ⟨w.heap.size + 1, 2, none⟩ (.slice (some ⟨w3.heap.size, 0, none⟩) n n) (by show w3.heap.size ≠ w.heap.size + 1; omega)
  clear hO4 hg4 hb4 J4 x4 f4 l4 J3 x3 f3 hi iz0 iz1 iz2 T0 hc0 c1 c2 c3
  generalize hP : w3.heap.size = P at *
  have hB5 := I4.2.2.2.2
  generalize hX : (n2 : Int) - n = X at *
  generalize hL : (pagesR n X s3).2 = L at *
  go_loopw [25] (fun i wr => ∃ k : Nat, k ≤ n ∧ i = .int .i64 k ∧ FlB m B w wr (pagesR k X s3).1 #[.int .i64 (n1 : Int), .int .i64 (n2 : Int), .slice (some ⟨P, 0, none⟩) n n] ∧ ∃ cur, TB 45 wr P cur ∧ cur.size = n * 2 ∧ RowP L P k cur wr) (fun i _ => n - (intOf i).toNat)
  case atStart => exact ⟨0, Nat.zero_le _, rfl, I4, cur0, T4, hs0, fun j hj => absurd hj (Nat.not_lt_zero j)⟩
  case round =>
    clear I4 T4
    obtain ⟨k, hk, rfl, hI, cur, hcur, hcs, hRow⟩ := hrel
    have x5 := fun j => hI.2.2.1.cell j
    have l5 := hI.2.2.1.lt
    have lP := hcur.lt
    by_cases hlt : k < n
    · have hltz : (k : Int) < (n : Int) := by omega
      have hk0 : (0 : Int) ≤ (k : Int) := Int.natCast_nonneg _
      have hpk := hpa k hlt
      have hps1 := hps k
      have ht6 := text_le 256 (pagesR k X s3).1
      have hd5 : Below wr.heap.size wr wr.drew := drewN_below wr 1
      have c4 := rtext_any m 256 (pagesR k X s3).1 B wr.drew (hI.1.later hd5) (by omega)
      unfold BytPost at c4
      have hps2 : Hid ((pagesR (k + 1) X s3).1 = (textR 256 (pagesR k X s3).1).1) := hps1
      have hpk2 : Hid (L.getD k default = ⟨X + k, (textR 256 (pagesR k X s3).1).2⟩) := hpk
      clear hpa hps hps1 hpk
      generalize textR 256 (pagesR k X s3).1 = T at *
      obtain ⟨s5, bs⟩ := T
      simp only at *
      have hS0 : wr.cell? ⟨w.heap.size + 1, 2, none⟩ = some (.slice (some ⟨P, 0, none⟩) n n) := x5 2
      have hS1 : ∀ w' : World, Only B wr w' → w'.cell? ⟨w.heap.size + 1, 2, none⟩ = some (.slice (some ⟨P, 0, none⟩) n n) := fun w' ho => (ho.cell l5 (by omega)).trans hS0
      have hS2 : ∀ (w' : World) (j1 j2 : Nat) (v1 v2 : Value), Only B wr w' → ((w'.setCell ⟨P, j1, none⟩ v1).setCell ⟨P, j2, none⟩ v2).cell? ⟨w.heap.size + 1, 2, none⟩ = some (.slice (some ⟨P, 0, none⟩) n n) := fun w' j1 j2 v1 v2 ho => by
        rw [World.cell?_setCell_far _ ⟨P, j2, none⟩ ⟨w.heap.size + 1, 2, none⟩ v2 (show P ≠ w.heap.size + 1 by omega), World.cell?_setCell_far _ ⟨P, j1, none⟩ ⟨w.heap.size + 1, 2, none⟩ v1 (show P ≠ w.heap.size + 1 by omega)]
        exact hS1 w' ho
      have hXr : -100 ≤ X ∧ X ≤ 4398046511104 := by omega
      obtain ⟨hX0, hX1⟩ := hXr
      have hwr : IntKind.i64.wrap (X + (k : Int)) = X + (k : Int) := by rw [IntKind.wrap_i64]; omega
      go_wp2_with fail
      clear x5
      go_region_held3 (fun w' => w'.cell? ⟨w.heap.size + 1, 2, none⟩ = some (.slice (some ⟨P, 0, none⟩) n n)) (first | assumption | exact hS1 _ (by assumption) | exact hS2 _ _ _ _ _ (by assumption) | go_keep)
        (first | (go_at_call 48; refine c4.mono ?_; rintro e w5 ⟨a5, q5, rfl, hA5, hq1, hq2, hq3, hR5, hO5⟩; have hOw5 : Only B wr w5 := (Only.of_below hd5).trans hO5) | ((refine append_clone_step _ (by rfl) _ (.tmp 35) (by rfl) (by rfl) bs a5 q5 (by rfl) hA5 (by omega) ?_; intro a6 q6 w6 hb6 hA6 hc61 hc62 hy6; have hOw6 : Only B wr w6 := hOw5.trans (Only.of_below hb6); have t6 := hOw6.tb hcur (by omega); have u6 := (fun j => t6.frozen j); have v6 := t6.lt; have r60 : w6.cell? ⟨P, k * 2, none⟩ = some (cur[k * 2]'(by omega)) := (by rw [t6.cell, Array.getElem?_eq_getElem]); have r61 : w6.cell? ⟨P, k * 2 + 1, none⟩ = some (cur[k * 2 + 1]'(by omega)) := (by rw [t6.cell, Array.getElem?_eq_getElem]))))
      have hI6 : FlB m B w w6 s5 #[.int .i64 (n1 : Int), .int .i64 (n2 : Int), .slice (some ⟨P, 0, none⟩) n n] := hI.call (hR5.later hb6) hOw6
      have hI7 := (hI6.far (P := P) (by omega) (k * 2) (.int .i64 (X + (k : Int)))).far (P := P) (by omega) (k * 2 + 1) (.slice a6 bs.length q6)
      have hs5 : P < w5.heap.size := Nat.lt_of_lt_of_le lP hOw5.size
      have hrs := row_step (ps := L) (B := B) (by rw [hpl]; exact hlt) hcur (by rw [hpl]; exact hcs) hRow hOw6 (by omega) (X + (k : Int)) bs hpk2.out hA6 (fun y hy => by have := (hy6 y hy).1; omega) hc61 hc62
      rw [hpl] at hrs
      rw [← hps2.out] at hI7
      clear r60 r61 u6 t6 hI hRow hI6
      go_wp2_with fail
      exact ⟨⟨k + 1, hlt, by simp, hI7, hrs⟩, by simp [intOf]; omega⟩
    · have hlt' : ¬ ((k : Int) < (n : Int)) := by omega
      have hke : k = n := by omega
      subst hke
      have y0 := fun j => hI.2.1.cell j
      have y1 := fun j => hI.2.1.frozen j
      have ly := hI.2.1.lt
      go_wp2_with fail
      obtain ⟨i1, i2, i3, i4, i5⟩ := hI
      have hm1 := i1.1
      have hw := Nat.le_refl w.heap.size
      subst hL
      subst hX
      refine bodyPost_ret (v := .agg #[.int .i64 (n1 : Int), .int .i64 (n2 : Int), .slice (some ⟨P, 0, none⟩) k k]) (by simp [results, Tryd.results34, go_sem, l5, ly, x5, y0]) rfl ⟨some ⟨P, 0, none⟩, ⟨k, rfl⟩, ?_, ?_, ?_⟩
      · intro w9 hs9 h9
        have hs8 : wr.heap.size ≤ w9.heap.size := by simpa [World.setCell] using hs9
        refine row_pages (by rw [hpl]; unfold maxLen; omega) lP hcur (by rw [hpl]; exact hRow) hs8 fun b hb hbl => ?_
        rw [h9 b (by omega) (by simpa [World.setCell] using hbl), heap_setCell_other _ _ _ _ (show b ≠ w.heap.size by omega), heap_setCell_other _ _ _ _ (show b ≠ w.heap.size by omega), heap_setCell_other _ _ _ _ (show b ≠ w.heap.size by omega)]
      · exact ((i1.set 0 _ (by omega) (by omega)).set 1 _ (by omega) (by omega)).set 2 _ (by omega) (by omega)
      · exact ((i4.set_new hw 0 _).set_new hw 1 _).set_new hw 2 _
end Go.Proofs.YtogpkbhjobhodaaDoor
