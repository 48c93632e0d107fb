/- The contract of snap.appendStore. -/
import Derived.Test.YtmjakimpmccedaaDoorSnapF
namespace Go.Proofs.YtmjakimpmccedaaDoor
open Go.ChangeShapes Go.WideShapes Go.ChangeAt Go.RowKit
set_option linter.unusedVariables false
set_option linter.unusedSimpArgs false

/-- The bytes of items. -/
def itemsX (l : List ItemR) : List UInt8 := l.flatMap itemB

structure StoreFit (s : StoreR) : Prop where
  clock : 0 ≤ s.clock ∧ s.clock ≤ 9223372036854775807
  cas : 0 ≤ s.cas ∧ s.cas ≤ 9223372036854775807
  uses : 0 ≤ s.uses ∧ s.uses ≤ 9223372036854775807
  most : 0 ≤ s.most ∧ s.most ≤ 9223372036854775807
  h0 : 0 ≤ s.h0 ∧ s.h0 ≤ 9223372036854775807
  h1 : 0 ≤ s.h1 ∧ s.h1 ≤ 9223372036854775807
  h2 : 0 ≤ s.h2 ∧ s.h2 ≤ 9223372036854775807
  h3 : 0 ≤ s.h3 ∧ s.h3 ≤ 9223372036854775807
  fm : 0 ≤ s.fm ∧ s.fm ≤ 9223372036854775807
  fx : 0 ≤ s.fx ∧ s.fx ≤ 9223372036854775807
  items : s.items.length ≤ 1000
  each : ∀ j, j < s.items.length → ItemFit (s.items.getD j default)
  pages : s.pages.length ≤ 20
  bytes : ∀ j, j < s.pages.length → (s.pages.getD j default).bs.length ≤ 256

/-- The bytes of a store, without mark and seal. -/
def storeX (s : StoreR) : List UInt8 := [s.clock.toNat, s.cas.toNat, s.uses.toNat, s.most.toNat].flatMap sev ++ [s.h0.toNat, s.h1.toNat, s.h2.toNat, s.h3.toNat].flatMap sev ++ [s.fm.toNat, s.fx.toNat, s.pages.length].flatMap sev ++ pagesX s.pages ++ [s.items.length].flatMap sev ++ itemsX s.items

theorem itemB_len (it : ItemR) (h : ItemFit it) : (itemB it).length ≤ 350 := by
  obtain ⟨f, u, c, s, p, a, k, v⟩ := h
  have q1 := sev9 it.flags.toNat (by omega)
  have q2 := sev9 it.until_.toNat (by omega)
  have q3 := sev9 it.cas.toNat (by omega)
  have q4 := sev9 it.used.toNat (by omega)
  have q5 := sev9 it.page.toNat (by omega)
  have q6 := sev9 it.at_.toNat (by omega)
  have q7 := txt_len it.key.data.toList (by rw [str_len]; omega)
  have q8 := txt_len it.value.data.toList (by rw [str_len]; omega)
  have q9 := sev9 1 (by omega)
  have q0 := sev9 0 (by omega)
  rw [str_len] at q7 q8
  unfold itemB
  split <;> simp <;> omega

theorem itemsX_len (l : List ItemR) (hb : ∀ j, j < l.length → ItemFit (l.getD j default)) (k : Nat) : (itemsX (l.take k)).length ≤ l.length * 350 := by
  induction l generalizing k with
  | nil => simp [itemsX]
  | cons x r ih =>
    cases k with
    | zero => simp [itemsX]
    | succ k =>
      have h1 := ih (fun j hj => by simpa using hb (j + 1) (by simpa using hj)) k
      have hx : ItemFit x := by simpa using hb 0 (by simp)
      have h2 := itemB_len x hx
      unfold itemsX at *
      simp only [List.take_succ_cons, List.flatMap_cons, List.length_append, List.length_cons]
      omega

theorem itemsX_take (l : List ItemR) (k : Nat) (hk : k < l.length) : itemsX (l.take (k + 1)) = itemsX (l.take k) ++ itemB (l.getD k default) := by
  unfold itemsX
  rw [List.getD_eq_getElem?_getD, List.getElem?_eq_getElem hk, ← List.take_append_getElem hk, List.flatMap_append]
  simp

theorem flat_len (ns : List Nat) (hs : ∀ m ∈ ns, m < 9223372036854775808) : (ns.flatMap sev).length ≤ ns.length * 9 := by
  have := take_len ns hs ns.length
  rwa [List.take_length] at this

set_option maxHeartbeats 4000000 in
set_option maxRecDepth 100000 in
theorem storeX_any (W0 : World) (v : Value) (l : List UInt8) (s : StoreR) (ia : Option Addr) (ic : Nat) (pa : Option Addr) (pc : Nat) (w : World) (hR : RowC W0.heap.size w v l) (hB : Below W0.heap.size W0 w) (hS : StoreIn W0 s ia pa) (hF : StoreFit s) (hz : l.length + 500000 ≤ 140737488350000) :
    Calls Tryd.prog 12 #[v, storeV s ia ic pa pc] w (AppPost W0.heap.size v (l ++ storeX s) w) := by
  have E : Hid (l ++ storeX s = l ++ [s.clock.toNat, s.cas.toNat, s.uses.toNat, s.most.toNat].flatMap sev ++ [s.h0.toNat, s.h1.toNat, s.h2.toNat, s.h3.toNat].flatMap sev ++ [s.fm.toNat, s.fx.toNat, s.pages.length].flatMap sev ++ pagesX s.pages ++ [s.items.length].flatMap sev ++ itemsX s.items) := by
    unfold Hid storeX
    simp only [List.append_assoc]
  generalize l ++ storeX s = R at *
  obtain ⟨⟨c0, c1⟩, ⟨d0, d1⟩, ⟨e0, e1⟩, ⟨f0, f1⟩, ⟨g0, g1⟩, ⟨i0, i1⟩, ⟨j0, j1⟩, ⟨k0, k1⟩, ⟨m0, m1⟩, ⟨o0, o1⟩, hil, hie, hpl, hpb⟩ := hF
  obtain ⟨clock, cas, uses, most, h0, h1, h2, h3, items, fm, fx, pages⟩ := s
  obtain ⟨⟨hmax, hm⟩, hP⟩ := hS
  unfold storeV
  simp only at *
  obtain ⟨clock, rfl⟩ := Int.eq_ofNat_of_zero_le c0
  obtain ⟨cas, rfl⟩ := Int.eq_ofNat_of_zero_le d0
  obtain ⟨uses, rfl⟩ := Int.eq_ofNat_of_zero_le e0
  obtain ⟨most, rfl⟩ := Int.eq_ofNat_of_zero_le f0
  obtain ⟨h0, rfl⟩ := Int.eq_ofNat_of_zero_le g0
  obtain ⟨h1, rfl⟩ := Int.eq_ofNat_of_zero_le i0
  obtain ⟨h2, rfl⟩ := Int.eq_ofNat_of_zero_le j0
  obtain ⟨h3, rfl⟩ := Int.eq_ofNat_of_zero_le k0
  obtain ⟨fm, rfl⟩ := Int.eq_ofNat_of_zero_le m0
  obtain ⟨fx, rfl⟩ := Int.eq_ofNat_of_zero_le o0
  simp only [Int.toNat_natCast] at E
  have hown : ∀ k, v.ownBlock = some k → W0.heap.size ≤ k := fun k hk => (hR.lt k hk).1
  have B0 : Below w.heap.size w (w.alloc (.cells #[.int .i64 (clock : Int), .int .i64 (cas : Int), .int .i64 (uses : Int), .int .i64 (most : Int), .int .i64 (h0 : Int), .int .i64 (h1 : Int), .int .i64 (h2 : Int), .int .i64 (h3 : Int), .slice ia items.length ic, .int .i64 (fm : Int), .int .i64 (fx : Int), .slice pa pages.length pc] 28)) := (Below.refl _ _).alloc (Nat.le_refl _) _
  have T0 := TB.new 28 w #[.int .i64 (clock : Int), .int .i64 (cas : Int), .int .i64 (uses : Int), .int .i64 (most : Int), .int .i64 (h0 : Int), .int .i64 (h1 : Int), .int .i64 (h2 : Int), .int .i64 (h3 : Int), .slice ia items.length ic, .int .i64 (fm : Int), .int .i64 (fx : Int), .slice pa pages.length pc]
  have hne0 := hR.ne_new
  have hR0 := hR.below B0
  have hG0 := Grew.of_below v B0
  have hn0 : W0.heap.size ≤ (w.alloc (.cells #[.int .i64 (clock : Int), .int .i64 (cas : Int), .int .i64 (uses : Int), .int .i64 (most : Int), .int .i64 (h0 : Int), .int .i64 (h1 : Int), .int .i64 (h2 : Int), .int .i64 (h3 : Int), .slice ia items.length ic, .int .i64 (fm : Int), .int .i64 (fx : Int), .slice pa pages.length pc] 28)).heap.size := Nat.le_trans hB.size B0.size
  have q1 := flat_len [clock, cas, uses, most] (by simp; omega)
  have q2 := flat_len [h0, h1, h2, h3] (by simp; omega)
  have q3 := flat_len [fm, fx, pages.length] (by simp; omega)
  have q4 := flat_len [items.length] (by simp; omega)
  have q5 := pagesX_len pages hpb pages.length
  have q6 := fun k => itemsX_len items hie k
  rw [List.take_length] at q5
  simp only [List.length_cons, List.length_nil] at q1 q2 q3 q4
  go_enter Tryd.func12, Tryd.ntmps12
  go_wp2_with fail
  refine (nums_at (w.heap.size + 1) W0.heap.size v l [clock, cas, uses, most] _ 4 _ (by simp) rfl rfl hR0 (by omega) hn0 (by simp; omega) (by omega)).mono ?_
  rintro e w1 ⟨v1, rfl, hR1, hG1⟩
  have T1 := T0.grew hG1 hne0
  have hne1 := hG1.apart T0.lt hne0
  have hGw1 := hG0.trans hG1
  have hn1 := Nat.le_trans hn0 hG1.1.size
  clear T0 hG0 hG1 hR0 hne0 hn0 B0
  have x1 := fun j => T1.cell j
  have l1 := T1.lt
  generalize hL1 : l ++ [clock, cas, uses, most].flatMap sev = L1 at *
  have hz1 : L1.length + 499900 ≤ 140737488350000 := by rw [← hL1, List.length_append]; omega
  clear hL1 q1
  go_wp2_with fail
  have hI2 : IntsAt w1 (some ⟨w.heap.size, 4, none⟩) [h0, h1, h2, h3] := ⟨by unfold maxLen; simp, Or.inr ⟨w.heap.size, 4, rfl, l1, fun j hj => by
    have hj4 : j = 0 ∨ j = 1 ∨ j = 2 ∨ j = 3 := by simp at hj; omega
    rcases hj4 with rfl | rfl | rfl | rfl <;> (rw [x1]; rfl)⟩⟩
  refine (nums_any W0.heap.size v1 L1 [h0, h1, h2, h3] (some ⟨w.heap.size, 4, none⟩) 4 w1 (Or.inl hR1) (by simp) hn1 hI2 (fun x hx => by cases hx; exact hne1) (by simp; omega) (by simp; omega)).mono ?_
  rintro e w2 ⟨v2, rfl, hR2, hG2⟩
  have T2 := T1.grew hG2 hne1
  have hne2 := hG2.apart T1.lt hne1
  have hGw2 := hGw1.trans hG2
  clear T1 hG2 hGw1 hne1 hn1 x1 l1 hR1 hI2
  have x2 := fun j => T2.cell j
  have l2 := T2.lt
  generalize hL2 : L1 ++ [h0, h1, h2, h3].flatMap sev = L2 at *
  have hz2 : L2.length + 499800 ≤ 140737488350000 := by rw [← hL2, List.length_append]; omega
  clear hL2 q2
  go_wp2_with fail
  refine (flashX_any W0 v2 L2 fm fx pages pa pc w2 hR2 (hGw2.below hB hown) hP hpl hpb (by omega) (by omega) (by omega)).mono ?_
  rintro e w3 ⟨v3, rfl, hR3, hG3⟩
  have T3 := T2.grew hG3 hne2
  have hne3 := hG3.apart T2.lt hne2
  have hGw3 := hGw2.trans hG3
  clear T2 hG3 hGw2 hne2 x2 l2 hR2
  have x3 := fun j => T3.cell j
  have l3 := T3.lt
  generalize hL3 : L2 ++ [fm, fx, pages.length].flatMap sev ++ pagesX pages = L3 at *
  have hz3 : L3.length + 480000 ≤ 140737488350000 := by rw [← hL3, List.length_append, List.length_append]; omega
  clear hL3 q3 q5
  go_wp2_with fail
  refine (nums_new W0.heap.size v3 L3 [items.length] _ 1 w3 rfl rfl (Or.inl hR3) (by omega) (hGw3.below hB hown).size (by simp; omega) (by omega)).mono ?_
  rintro e w4 ⟨v4, rfl, hR4, hG4⟩
  have T4 := T3.grew hG4 hne3
  have hGw4 := hGw3.trans hG4
  clear T3 hG4 hGw3 hne3 x3 l3 hR3
  have x4 := fun j => T4.cell j
  have l4 := T4.lt
  generalize hL4 : L3 ++ [items.length].flatMap sev = L4 at *
  have hz4 : L4.length + 470000 ≤ 140737488350000 := by rw [← hL4, List.length_append]; omega
  clear hL4 q4
  go_wp2_with fail
  clear x4 l4 T4
  go_loopw [0, 35] (fun u i wr => ∃ (k : Nat) (uo : Value), k ≤ items.length ∧ uo = u ∧ i = .int .i64 k ∧ RowB W0.heap.size wr uo (L4 ++ itemsX (items.take k)) ∧ Grew w v wr uo) (fun _ i _ => items.length - (intOf i).toNat)
  case atStart => exact ⟨0, _, Nat.zero_le _, rfl, rfl, by simpa [itemsX] using hR4, hGw4⟩
  case round =>
    obtain ⟨k, uo, hk, rfl, rfl, hRk, hG⟩ := hrel
    by_cases hlt : k < items.length
    · have hltz : (k : Int) < (items.length : Int) := by omega
      have hk0 : (0 : Int) ≤ (k : Int) := Int.natCast_nonneg _
      have hbr := hG.below hB hown
      rcases hm with hm | ⟨b, o, rfl, hbl, hc⟩
      · omega
      have htk := itemsX_take items k hlt
      have hlen := q6 k
      have hfit := hie k hlt
      obtain ⟨n0, n1, n2, n3, n4, n5, n6, n7, n8⟩ := (hc k hlt).later hbl hbr
      clear hc hie q6 hpb hP
      generalize items.getD k default = it at *
      have htk2 : Hid (L4 ++ itemsX (items.take (k + 1)) = L4 ++ itemsX (items.take k) ++ itemB it) := by unfold Hid; rw [htk, List.append_assoc]
      have hL : (L4 ++ itemsX (items.take k)).length + 500 ≤ 140737488350000 := by rw [List.length_append]; omega
      generalize L4 ++ itemsX (items.take k) = L at *
      clear htk hlen
      have A1 : Below wr.heap.size wr (wr.alloc (.cells #[.string it.key, .int .i64 it.flags, .int .i64 it.until_, .int .i64 it.cas, .int .i64 it.used, .string it.value, .bool it.far, .int .i64 it.page, .int .i64 it.at_] 49)) := (Below.refl _ _).alloc (Nat.le_refl _) _
      have hcall := item_any W0.heap.size uo L it _ (hRk.below A1) (Nat.le_trans hbr.size A1.size) hfit (by omega)
      have hGA := hG.trans (Grew.of_below uo A1)
      go_wp2_with (go_at_call 31; refine hcall.mono ?_; rintro e w5 ⟨v5, rfl, hR5, hG5⟩)
      exact ⟨⟨k + 1, _, hlt, rfl, by simp, by rw [htk2.out]; exact hR5, hGA.trans hG5⟩, by simp [intOf]; omega⟩
    · have hltz : ¬ (k : Int) < (items.length : Int) := by omega
      have hke : k = items.length := by omega
      subst hke
      rw [List.take_length] at hRk
      go_wp2
      go_ret
      exact ⟨_, rfl, by rw [E.out]; exact hRk, hG⟩
end Go.Proofs.YtmjakimpmccedaaDoor
