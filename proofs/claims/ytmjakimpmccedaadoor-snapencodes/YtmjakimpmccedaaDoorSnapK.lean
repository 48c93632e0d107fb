/- The contract of dovecoteref.StoreBytes. -/
import Derived.Test.YtmjakimpmccedaaDoorSnapH
import Derived.Test.YtmjakimpmccedaaDoorSMay2
namespace Go.Proofs.YtmjakimpmccedaaDoor
open Go.ChangeShapes Go.WideShapes Go.ChangeAt Go.RowKit
set_option linter.unusedVariables false
set_option linter.unusedSimpArgs false

/-- What is kept from round to round: the row, and the store's box. -/
def BytesR (w : World) (H : Nat) (cs : Array Value) (wr : World) (u : Value) (l : List UInt8) : Prop := RowB w.heap.size wr u l ∧ Below w.heap.size w wr ∧ TB 28 wr H cs ∧ u.ownBlock ≠ some H
theorem BytesR.later {w : World} {H : Nat} {cs : Array Value} {wr w' : World} {u : Value} {l : List UInt8} (h : BytesR w H cs wr u l) (hb : Below wr.heap.size wr w') : BytesR w H cs w' u l := by
  obtain ⟨h1, h2, h3, h4⟩ := h
  exact ⟨h1.below hb, h2.trans (hb.mono h2.size), h3.later hb, h4⟩
theorem BytesR.grew {w : World} {H : Nat} {cs : Array Value} {wr w' : World} {u u' : Value} {l l' : List UInt8} (h : BytesR w H cs wr u l) (hG : Grew wr u w' u') (hR : RowB w.heap.size w' u' l') : BytesR w H cs w' u' l' := by
  obtain ⟨h1, h2, h3, h4⟩ := h
  exact ⟨hR, hG.below h2 (fun k hk => (h1.lt k hk).1), h3.grew hG h4, hG.apart h3.lt h4⟩

/-- The same, and an item's box. -/
def ItR (w : World) (H : Nat) (cs : Array Value) (B : Nat) (xs : Array Value) (wr : World) (u : Value) (l : List UInt8) : Prop := BytesR w H cs wr u l ∧ TB 49 wr B xs ∧ u.ownBlock ≠ some B
theorem ItR.later {w : World} {H : Nat} {cs : Array Value} {B : Nat} {xs : Array Value} {wr w' : World} {u : Value} {l : List UInt8} (h : ItR w H cs B xs wr u l) (hb : Below wr.heap.size wr w') : ItR w H cs B xs w' u l := ⟨h.1.later hb, h.2.1.later hb, h.2.2⟩
theorem ItR.grew {w : World} {H : Nat} {cs : Array Value} {B : Nat} {xs : Array Value} {wr w' : World} {u u' : Value} {l l' : List UInt8} (h : ItR w H cs B xs wr u l) (hG : Grew wr u w' u') (hR : RowB w.heap.size w' u' l') : ItR w H cs B xs w' u' l' := ⟨h.1.grew hG hR, h.2.1.grew hG h.2.2, hG.apart h.2.1.lt h.2.2⟩

theorem allocB (w : World) (o : Obj) : Below w.heap.size w (w.alloc o) := (Below.refl _ _).alloc (Nat.le_refl _) _

theorem pos_getD (ns : List Nat) (k : Nat) (h : k < ns.length) : (ns.take (k + 1)).flatMap sev = (ns.take k).flatMap sev ++ sev (ns.getD k 0) := by
  rw [List.getD_eq_getElem?_getD, List.getElem?_eq_getElem h, ← List.take_append_getElem h, List.flatMap_append]
  simp

set_option maxHeartbeats 8000000 in
set_option maxRecDepth 100000 in
theorem storeBytes_any (s : StoreR) (ia : Option Addr) (ic : Nat) (pa : Option Addr) (pc : Nat) (w : World) (hS : StoreIn w s ia pa) (hok : ItemsOk s.items) (hvi : VIn) :
    Calls Tryd.prog 7 #[storeV s ia ic pa pc] w (EncPost s w) := by
  have hc1 := fun (w1 : World) (hb : Below w.heap.size w w1) => storeMay_any s ia ic pa pc w1 (hS.later hb) hok hvi
  have hfit := fun h => fit_of s h hok
  have hlen := fun h => storeX_len s (hfit h)
  unfold EncPost encL
  have EE : Hid (encS s = mark3 ++ storeX s ++ sealB (mark3 ++ storeX s)) := rfl
  have EX : Hid (mark3 ++ storeX s = mark3 ++ [s.clock.toNat, s.cas.toNat, s.uses.toNat, s.most.toNat, s.h0.toNat, s.h1.toNat, s.h2.toNat, s.h3.toNat, s.fm.toNat, s.fx.toNat, s.pages.length].flatMap sev ++ pagesX s.pages ++ sev s.items.length ++ itemsX s.items) := by
    unfold Hid storeX
    simp [List.append_assoc]
  generalize encS s = R at *
  generalize hbb : storeB s = b at *
  clear hok hvi
  have hml : mark3.length = 3 := rfl
  obtain ⟨⟨hmax, hm⟩, hPm, hP⟩ := hS
  cases b
  · clear hfit hlen EE EX hm hP
    obtain ⟨clock, scas, uses, most, h0, h1, h2, h3, items, fm, fx, pages⟩ := s
    unfold storeV at *
    simp only at *
    have B0 : Below w.heap.size w (w.alloc (.cells #[.int .i64 clock, .int .i64 scas, .int .i64 uses, .int .i64 most, .int .i64 h0, .int .i64 h1, .int .i64 h2, .int .i64 h3, .slice ia items.length ic, .int .i64 fm, .int .i64 fx, .slice pa pages.length pc] 28)) := (Below.refl _ _).alloc (Nat.le_refl _) _
    have T8 : codeN false = 8 := rfl
    rw [T8]
    go_enter Tryd.func7, Tryd.ntmps7
    go_wp2_with fail
    refine (hc1 _ B0).mono ?_
    rintro e w1 ⟨rfl, hb1⟩
    go_wp2
    go_ret2
    exact ⟨_, rfl, World.ownsRow_nil _ _ _ _, B0.trans (hb1.mono B0.size)⟩
  · have T8 : codeN true = 0 := rfl
    rw [T8]
    obtain ⟨⟨c0, c1⟩, ⟨d0, d1⟩, ⟨e0, e1⟩, ⟨f0, f1⟩, ⟨g0, g1⟩, ⟨i0, i1⟩, ⟨j0, j1⟩, ⟨k0, k1⟩, ⟨m0, m1⟩, ⟨o0, o1⟩, hil, hie, hpl, hpb⟩ := hfit rfl
    have hln := hlen rfl
    clear hfit hlen hbb
    obtain ⟨clock, cas, uses, most, h0, h1, h2, h3, items, fm, fx, pages⟩ := s
    unfold storeV at *
    simp only at *
    obtain ⟨clock, rfl⟩ := Int.eq_ofNat_of_zero_le c0
    obtain ⟨cas, rfl⟩ := Int.eq_ofNat_of_zero_le d0
    obtain ⟨uses, rfl⟩ := Int.eq_ofNat_of_zero_le e0
    obtain ⟨most, rfl⟩ := Int.eq_ofNat_of_zero_le f0
    obtain ⟨h0, rfl⟩ := Int.eq_ofNat_of_zero_le g0
    obtain ⟨h1, rfl⟩ := Int.eq_ofNat_of_zero_le i0
    obtain ⟨h2, rfl⟩ := Int.eq_ofNat_of_zero_le j0
    obtain ⟨h3, rfl⟩ := Int.eq_ofNat_of_zero_le k0
    obtain ⟨fm, rfl⟩ := Int.eq_ofNat_of_zero_le m0
    obtain ⟨fx, rfl⟩ := Int.eq_ofNat_of_zero_le o0
    simp only [Int.toNat_natCast] at EX
    generalize storeX _ = X at *
    have hNs : ∀ m ∈ [clock, cas, uses, most, h0, h1, h2, h3, fm, fx, pages.length], m < 9223372036854775808 := by simp; omega
    have B0 : Below w.heap.size w (w.alloc (.cells #[.int .i64 (clock : Int), .int .i64 (cas : Int), .int .i64 (uses : Int), .int .i64 (most : Int), .int .i64 (h0 : Int), .int .i64 (h1 : Int), .int .i64 (h2 : Int), .int .i64 (h3 : Int), .slice ia items.length ic, .int .i64 (fm : Int), .int .i64 (fx : Int), .slice pa pages.length pc] 28)) := (Below.refl _ _).alloc (Nat.le_refl _) _
    have T0 := TB.new 28 w #[.int .i64 (clock : Int), .int .i64 (cas : Int), .int .i64 (uses : Int), .int .i64 (most : Int), .int .i64 (h0 : Int), .int .i64 (h1 : Int), .int .i64 (h2 : Int), .int .i64 (h3 : Int), .slice ia items.length ic, .int .i64 (fm : Int), .int .i64 (fx : Int), .slice pa pages.length pc]
    go_enter Tryd.func7, Tryd.ntmps7
    go_wp2_with fail
    refine (hc1 _ B0).mono ?_
    rintro e w1 ⟨rfl, hb1⟩
    have T1 := T0.later hb1
    have x1 := fun j => T1.cell j
    have l1 := T1.lt
    have hB1 := B0.trans (hb1.mono B0.size)
    have A2 : Below w1.heap.size w1 (w1.alloc (.cells #[.int .u8 100, .int .u8 99, .int .u8 49] 5)) := (Below.refl _ _).alloc (Nat.le_refl _) _
    have hrow := (row_new w1 mark3 #[.int .u8 100, .int .u8 99, .int .u8 49] 3 rfl (by unfold maxLen; omega) rfl).base hB1.size
    have hneq : (Value.slice (some ⟨w1.heap.size, 0, none⟩) 3 3).ownBlock ≠ some w.heap.size := fun e => by
      have : w1.heap.size = w.heap.size := by simpa [Value.ownBlock] using e
      omega
    have hBR0 : BytesR w w.heap.size #[.int .i64 (clock : Int), .int .i64 (cas : Int), .int .i64 (uses : Int), .int .i64 (most : Int), .int .i64 (h0 : Int), .int .i64 (h1 : Int), .int .i64 (h2 : Int), .int .i64 (h3 : Int), .slice ia items.length ic, .int .i64 (fm : Int), .int .i64 (fx : Int), .slice pa pages.length pc] (w1.alloc (.cells #[.int .u8 100, .int .u8 99, .int .u8 49] 5)) (.slice (some ⟨w1.heap.size, 0, none⟩) 3 3) mark3 := ⟨hrow, hB1.trans (A2.mono hB1.size), T1.later A2, hneq⟩
    have T2 := T1.later A2
    have x2 := fun j => T2.cell j
    have hs2 : (w1.alloc (.cells #[.int .u8 100, .int .u8 99, .int .u8 49] 5)).heap.size = w1.heap.size + 1 := by simp
    have A3 : Below (w1.alloc (.cells #[.int .u8 100, .int .u8 99, .int .u8 49] 5)).heap.size (w1.alloc (.cells #[.int .u8 100, .int .u8 99, .int .u8 49] 5)) ((w1.alloc (.cells #[.int .u8 100, .int .u8 99, .int .u8 49] 5)).alloc (.cells #[.int .i64 (clock : Int), .int .i64 (cas : Int), .int .i64 (uses : Int), .int .i64 (most : Int), .int .i64 (h0 : Int), .int .i64 (h1 : Int), .int .i64 (h2 : Int), .int .i64 (h3 : Int), .int .i64 (fm : Int), .int .i64 (fx : Int), .int .i64 (pages.length : Int)] 3)) := (Below.refl _ _).alloc (Nat.le_refl _) _
    have hI3 := ints_new (w1.alloc (.cells #[.int .u8 100, .int .u8 99, .int .u8 49] 5)) [clock, cas, uses, most, h0, h1, h2, h3, fm, fx, pages.length] #[.int .i64 (clock : Int), .int .i64 (cas : Int), .int .i64 (uses : Int), .int .i64 (most : Int), .int .i64 (h0 : Int), .int .i64 (h1 : Int), .int .i64 (h2 : Int), .int .i64 (h3 : Int), .int .i64 (fm : Int), .int .i64 (fx : Int), .int .i64 (pages.length : Int)] rfl (by unfold maxLen; simp)
    rw [hs2] at hI3
    have hBR1 := hBR0.later A3
    have hG0 := Grew.refl ((w1.alloc (.cells #[.int .u8 100, .int .u8 99, .int .u8 49] 5)).alloc (.cells #[.int .i64 (clock : Int), .int .i64 (cas : Int), .int .i64 (uses : Int), .int .i64 (most : Int), .int .i64 (h0 : Int), .int .i64 (h1 : Int), .int .i64 (h2 : Int), .int .i64 (h3 : Int), .int .i64 (fm : Int), .int .i64 (fx : Int), .int .i64 (pages.length : Int)] 3)) (.slice (some ⟨w1.heap.size, 0, none⟩) 3 3)
    clear hBR0 hc1 T0 T1 hb1 hrow
    go_wp2_with fail
    clear x1 x2 T2 A2 A3
    have hnl : [clock, cas, uses, most, h0, h1, h2, h3, fm, fx, pages.length].length = 11 := rfl
    generalize hns : [clock, cas, uses, most, h0, h1, h2, h3, fm, fx, pages.length] = ns at *
    obtain ⟨hImax, hIm⟩ := hI3
    generalize ((w1.alloc (.cells #[.int .u8 100, .int .u8 99, .int .u8 49] 5)).alloc (.cells #[.int .i64 (clock : Int), .int .i64 (cas : Int), .int .i64 (uses : Int), .int .i64 (most : Int), .int .i64 (h0 : Int), .int .i64 (h1 : Int), .int .i64 (h2 : Int), .int .i64 (h3 : Int), .int .i64 (fm : Int), .int .i64 (fx : Int), .int .i64 (pages.length : Int)] 3)) = W2 at *
    have hne3 : (Value.slice (some ⟨w1.heap.size, 0, none⟩) 3 3).ownBlock ≠ some (w1.heap.size + 1) := fun e => by simp [Value.ownBlock] at e
    have hfl := take_len ns hNs
    go_loopw [4, 6] (fun u i wr => ∃ (k : Nat) (uo : Value), k ≤ 11 ∧ uo = u ∧ i = .int .i64 k ∧ BytesR w w.heap.size #[.int .i64 (clock : Int), .int .i64 (cas : Int), .int .i64 (uses : Int), .int .i64 (most : Int), .int .i64 (h0 : Int), .int .i64 (h1 : Int), .int .i64 (h2 : Int), .int .i64 (h3 : Int), .slice ia items.length ic, .int .i64 (fm : Int), .int .i64 (fx : Int), .slice pa pages.length pc] wr uo (mark3 ++ (ns.take k).flatMap sev) ∧ Grew W2 (.slice (some ⟨w1.heap.size, 0, none⟩) 3 3) wr uo) (fun _ i _ => 11 - (intOf i).toNat)
    case atStart => exact ⟨0, _, Nat.zero_le _, rfl, rfl, by simpa using hBR1, hG0⟩
    case round =>
      obtain ⟨k, uo, hk, rfl, rfl, hBR, hG⟩ := hrel
      by_cases hlt : k < 11
      · have hltz : (k : Int) < 11 := by omega
        have hk0 : (0 : Int) ≤ (k : Int) := Int.natCast_nonneg _
        rcases hIm with hIm | ⟨b, o, hbo, hbl, hc⟩
        · omega
        cases hbo
        have hck := hc k (by omega)
        rw [← hG.cell hbl hne3, Nat.zero_add] at hck
        have htk := pos_getD ns k (by omega)
        have hM : ns.getD k 0 < 9223372036854775808 := by
          rw [List.getD_eq_getElem?_getD, List.getElem?_eq_getElem (by omega)]
          exact hNs _ (List.getElem_mem _)
        have hlk := hfl k
        clear hc hm hP
        generalize ns.getD k 0 = M at *
        have htk2 : Hid (mark3 ++ (ns.take (k + 1)).flatMap sev = mark3 ++ (ns.take k).flatMap sev ++ sev M) := by unfold Hid; rw [htk, List.append_assoc]
        have hL : (mark3 ++ (ns.take k).flatMap sev).length + 100 ≤ 140737488350000 := by rw [List.length_append]; omega
        generalize mark3 ++ (ns.take k).flatMap sev = L at *
        clear htk hlk hfl hNs hie hpb EX EE
        have hs9 := sev9 M hM
        go_wp2_with fail
        refine (sevens_fit M wr hM).mono ?_
        rintro e w2 ⟨v2, rfl, hR2, hb2⟩
        have hBR2 := hBR.later hb2
        have hG2 := hG.trans (Grew.of_below uo hb2)
        have hro := hBR2.1
        go_wp2_with (at_builtin; refine append_row _ rfl (.tmp 51) (.tmp 56) rfl w.heap.size uo L rfl hro _ v2 (sev M) rfl hR2 (sev_pos M) hBR2.2.1.size (by omega) ?_; intro v3 w3 hR3 hG3)
        exact ⟨⟨k + 1, _, hlt, rfl, by simp, by rw [htk2.out]; exact hBR2.grew hG3 hR3, hG2.trans hG3⟩, by simp [intOf]; omega⟩
      · have hltz : ¬ (k : Int) < 11 := by omega
        have hke : k = 11 := by omega
        subst hke
        have hlk := hfl 11
        rw [← hnl, List.take_length] at hBR hlk
        have hL1 : (mark3 ++ ns.flatMap sev).length + 400000 ≤ 140737488350000 := by rw [List.length_append]; omega
        generalize mark3 ++ ns.flatMap sev = L1 at *
        clear hG hIm hfl hNs hns hlk hG0 hBR1 hne3
        obtain ⟨wo, hwo⟩ : ∃ x, x = wr := ⟨_, rfl⟩
        subst hwo
        obtain ⟨hRo, hBo, hTo, hNo⟩ := hBR
        have xo := fun j => hTo.cell j
        have lo := hTo.lt
        have hBR : BytesR w w.heap.size #[.int .i64 (clock : Int), .int .i64 (cas : Int), .int .i64 (uses : Int), .int .i64 (most : Int), .int .i64 (h0 : Int), .int .i64 (h1 : Int), .int .i64 (h2 : Int), .int .i64 (h3 : Int), .slice ia items.length ic, .int .i64 (fm : Int), .int .i64 (fx : Int), .slice pa pages.length pc] wo uo L1 := ⟨hRo, hBo, hTo, hNo⟩
        go_wp2_with fail
        clear xo lo hRo hBo hTo hNo
        have hpx := fun k => pagesX_len pages hpb k
        go_loopw [4, 7] (fun u i wr => ∃ (k : Nat) (uo : Value), k ≤ pages.length ∧ uo = u ∧ i = .int .i64 k ∧ BytesR w w.heap.size #[.int .i64 (clock : Int), .int .i64 (cas : Int), .int .i64 (uses : Int), .int .i64 (most : Int), .int .i64 (h0 : Int), .int .i64 (h1 : Int), .int .i64 (h2 : Int), .int .i64 (h3 : Int), .slice ia items.length ic, .int .i64 (fm : Int), .int .i64 (fx : Int), .slice pa pages.length pc] wr uo (L1 ++ pagesX (pages.take k))) (fun _ i _ => pages.length - (intOf i).toNat)
        case atStart => exact ⟨0, _, Nat.zero_le _, rfl, rfl, by simpa [pagesX] using hBR⟩
        case round =>
          clear hBR
          obtain ⟨k, uo, hk, rfl, rfl, hBR⟩ := hrel
          have xo := fun j => hBR.2.2.1.cell j
          have lo := hBR.2.2.1.lt
          by_cases hlt : k < pages.length
          · have hltz : (k : Int) < (pages.length : Int) := by omega
            have hk0 : (0 : Int) ≤ (k : Int) := Int.natCast_nonneg _
            rcases hP with hP | ⟨b, o, rfl, hbl, hc⟩
            · omega
            have htk := pagesX_take pages k hlt
            have hlen := hpx k
            have hb6 := hpb k hlt
            obtain ⟨p, q, n1, n2, n3, n4, n5⟩ := (hc k hlt).later hbl hBR.2.1
            clear hc hpb hpx hm hie EX EE
            generalize pages.getD k default = P at *
            obtain ⟨num, bs⟩ := P
            simp only at *
            have htk2 : Hid (L1 ++ pagesX (pages.take (k + 1)) = L1 ++ pagesX (pages.take k) ++ txt bs) := by unfold Hid; rw [htk, List.append_assoc]
            have hL : (L1 ++ pagesX (pages.take k)).length + 500 ≤ 140737488350000 := by rw [List.length_append]; omega
            generalize L1 ++ pagesX (pages.take k) = L at *
            clear htk hlen
            have hcv := conv_bytes n3 q
            have hcall := with_any w.heap.size uo L (strB bs) wr hBR.1 hBR.2.1.size (by rw [strB_size]; omega)
            rw [strB_list] at hcall
            go_wp2_with (go_at_call 16; refine hcall.mono ?_; rintro e w2 ⟨v2, rfl, hR2, hG2⟩)
            exact ⟨⟨k + 1, _, hlt, rfl, by simp, by rw [htk2.out]; exact hBR.grew hG2 hR2⟩, by simp [intOf]; omega⟩
          · have hltz : ¬ (k : Int) < (pages.length : Int) := by omega
            have hke : k = pages.length := by omega
            subst hke
            have hlen := hpx pages.length
            rw [List.take_length] at hBR hlen
            have hL2 : (L1 ++ pagesX pages).length + 390000 ≤ 140737488350000 := by rw [List.length_append]; omega
            generalize L1 ++ pagesX pages = L2 at *
            clear hP hpb hpx hlen
            obtain ⟨wo, hwo⟩ : ∃ x, x = wr := ⟨_, rfl⟩
            subst hwo
            have hs9 := sev9 items.length (by omega)
            go_wp2_with fail
            refine (sevens_fit items.length wo (by omega)).mono ?_
            rintro e w2 ⟨v2, rfl, hR2, hb2⟩
            have hBR2 := hBR.later hb2
            have hro := hBR2.1
            have hsz2 := hBR2.2.1.size
            clear xo lo hBR
            have x2 := fun j => hBR2.2.2.1.cell j
            have l2 := hBR2.2.2.1.lt
            go_wp2_with (at_builtin; refine append_row _ rfl (.tmp 76) (.tmp 80) rfl w.heap.size uo L2 rfl hro _ v2 (sev items.length) rfl hR2 (sev_pos items.length) hsz2 (by omega) ?_; intro v3 w3 hR3 hG3; have hBR3 := hBR2.grew hG3 hR3; have x3 := fun j => hBR3.2.2.1.cell j; have l3 := hBR3.2.2.1.lt)
            obtain ⟨wo, hwo⟩ : ∃ x, x = w3 := ⟨_, rfl⟩
            subst hwo
            have hL3 : (L2 ++ sev items.length).length + 380000 ≤ 140737488350000 := by rw [List.length_append]; omega
            generalize hL3e : L2 ++ sev items.length = L3 at *
            clear x3 l3 x2 l2 hBR2 hro hsz2 hR3 hG3 hb2 hR2
            have hix := fun k => itemsX_len items hie k
            go_loopw [4, 8] (fun u i wr => ∃ (k : Nat) (uo : Value), k ≤ items.length ∧ uo = u ∧ i = .int .i64 k ∧ BytesR w w.heap.size #[.int .i64 (clock : Int), .int .i64 (cas : Int), .int .i64 (uses : Int), .int .i64 (most : Int), .int .i64 (h0 : Int), .int .i64 (h1 : Int), .int .i64 (h2 : Int), .int .i64 (h3 : Int), .slice ia items.length ic, .int .i64 (fm : Int), .int .i64 (fx : Int), .slice pa pages.length pc] wr uo (L3 ++ itemsX (items.take k))) (fun _ i _ => items.length - (intOf i).toNat)
            case atStart => exact ⟨0, _, Nat.zero_le _, rfl, rfl, by simpa [itemsX] using hBR3⟩
            case round =>
              clear hBR3
              obtain ⟨k, uo, hk, rfl, rfl, hBR⟩ := hrel
              have xo := fun j => hBR.2.2.1.cell j
              have lo := hBR.2.2.1.lt
              by_cases hlt : k < items.length
              · have hltz : (k : Int) < (items.length : Int) := by omega
                have hk0 : (0 : Int) ≤ (k : Int) := Int.natCast_nonneg _
                rcases hm with hm | ⟨b, o, rfl, hbl, hc⟩
                · omega
                have htk := itemsX_take items k hlt
                have hlen := hix k
                have hfit := hie k hlt
                obtain ⟨n0, n1, n2, n3, n4, n5, n6, n7, n8⟩ := (hc k hlt).later hbl hBR.2.1
                clear hc hie hix EX EE
                generalize items.getD k default = it at *
                have htk2 : Hid (L3 ++ itemsX (items.take (k + 1)) = L3 ++ itemsX (items.take k) ++ itemB it) := by unfold Hid; rw [htk, List.append_assoc]
                have hL : (L3 ++ itemsX (items.take k)).length + 500 ≤ 140737488350000 := by rw [List.length_append]; omega
                generalize L3 ++ itemsX (items.take k) = L at *
                clear htk hlen hL3e
                obtain ⟨⟨f0, f1⟩, ⟨u0, u1⟩, ⟨c0, c1⟩, ⟨s0, s1⟩, ⟨p0, p1⟩, ⟨a0, a1⟩, hkey, hval⟩ := hfit
                obtain ⟨key, flags, until_, icas, used, value, far, page, at_⟩ := it
                simp only at *
                obtain ⟨flags, rfl⟩ := Int.eq_ofNat_of_zero_le f0
                obtain ⟨until_, rfl⟩ := Int.eq_ofNat_of_zero_le u0
                obtain ⟨icas, rfl⟩ := Int.eq_ofNat_of_zero_le c0
                obtain ⟨used, rfl⟩ := Int.eq_ofNat_of_zero_le s0
                obtain ⟨page, rfl⟩ := Int.eq_ofNat_of_zero_le p0
                obtain ⟨at_, rfl⟩ := Int.eq_ofNat_of_zero_le a0
                have E : Hid (L ++ itemB ⟨key, flags, until_, icas, used, value, far, page, at_⟩ = L ++ txt key.data.toList ++ sev flags ++ sev until_ ++ sev icas ++ sev used ++ (if far = true then [1] ++ sev page ++ sev at_ else [0] ++ txt value.data.toList)) := by
                  have z1 : sev 1 = [1] := by rw [sev_small (by omega)]; rfl
                  have z0 : sev 0 = [0] := by rw [sev_small (by omega)]; rfl
                  unfold Hid itemB
                  simp [z1, z0]
                generalize L ++ itemB ⟨key, flags, until_, icas, used, value, far, page, at_⟩ = LL at *
                have q1 := sev9 flags (by omega)
                have q2 := sev9 until_ (by omega)
                have q3 := sev9 icas (by omega)
                have q4 := sev9 used (by omega)
                have q5 := sev9 page (by omega)
                have q6 := sev9 at_ (by omega)
                have hkl : (txt key.data.toList).length ≤ 29 := by have := txt_len key.data.toList (by rw [str_len]; omega); rw [str_len] at this; omega
                have A1 : Below wr.heap.size wr (wr.alloc (.cells #[.string key, .int .i64 (flags : Int), .int .i64 (until_ : Int), .int .i64 (icas : Int), .int .i64 (used : Int), .string value, .bool far, .int .i64 (page : Int), .int .i64 (at_ : Int)] 49)) := (Below.refl _ _).alloc (Nat.le_refl _) _
                have I0 : ItR w w.heap.size _ wr.heap.size #[.string key, .int .i64 (flags : Int), .int .i64 (until_ : Int), .int .i64 (icas : Int), .int .i64 (used : Int), .string value, .bool far, .int .i64 (page : Int), .int .i64 (at_ : Int)] (wr.alloc (.cells #[.string key, .int .i64 (flags : Int), .int .i64 (until_ : Int), .int .i64 (icas : Int), .int .i64 (used : Int), .string value, .bool far, .int .i64 (page : Int), .int .i64 (at_ : Int)] 49)) uo L := ⟨hBR.later A1, TB.new 49 wr #[.string key, .int .i64 (flags : Int), .int .i64 (until_ : Int), .int .i64 (icas : Int), .int .i64 (used : Int), .string value, .bool far, .int .i64 (page : Int), .int .i64 (at_ : Int)], hBR.1.ne_new⟩
                have hcall := with_any w.heap.size uo L key _ I0.1.1 I0.1.2.1.size (by omega)
                clear hBR
                go_wp2_with fail
                refine hcall.mono ?_
                rintro e wk ⟨vk, rfl, hRk, hGk⟩
                have Ik := I0.grew hGk hRk
                have xk := fun j => Ik.2.1.cell j
                have lk := Ik.2.1.lt
                have hlMk : (L ++ txt key.data.toList).length ≤ L.length + 29 := by rw [List.length_append]; omega
                obtain ⟨Mk, hMk⟩ : ∃ x, x = L ++ txt key.data.toList := ⟨_, rfl⟩
                rw [← hMk] at Ik hlMk
                have HMk : Hid (Mk = L ++ txt key.data.toList) := hMk
                clear hMk I0 hRk hGk hcall n0 n1 n2 n3 n4 n5 n6 n7 n8 xo lo A1
                go_wp2_with fail
                refine (sevens_fit flags _ (by omega)).mono ?_
                rintro e wa1 ⟨va1, rfl, hRa1, hba1⟩
                have Ia1 := Ik.later hba1
                clear Ik
                have ro1 := Ia1.1.1
                have sz1 := Ia1.1.2.1.size
                go_wp2_with (at_builtin; refine append_row _ rfl (.tmp 98) (.tmp 101) rfl w.heap.size vk Mk rfl ro1 _ va1 (sev flags) rfl hRa1 (sev_pos flags) sz1 (by omega) ?_; intro vb1 wb1 hRb1 hGb1; have I1 := Ia1.grew hGb1 hRb1; have x1 := fun j => I1.2.1.cell j; have l1 := I1.2.1.lt; clear Ia1 ro1 sz1)
                have hlM1 : (Mk ++ sev flags).length ≤ Mk.length + 9 := by rw [List.length_append]; omega
                obtain ⟨M1, hM1⟩ : ∃ x, x = Mk ++ sev flags := ⟨_, rfl⟩
                rw [← hM1] at I1 hlM1
                have HM1 : Hid (M1 = Mk ++ sev flags) := hM1
                clear hM1 hRb1 hGb1 hRa1 hba1
                go_wp2_with fail
                refine (sevens_fit until_ _ (by omega)).mono ?_
                rintro e wa2 ⟨va2, rfl, hRa2, hba2⟩
                have Ia2 := I1.later hba2
                clear I1
                have ro2 := Ia2.1.1
                have sz2 := Ia2.1.2.1.size
                go_wp2_with (at_builtin; refine append_row _ rfl (.tmp 103) (.tmp 106) rfl w.heap.size vb1 M1 rfl ro2 _ va2 (sev until_) rfl hRa2 (sev_pos until_) sz2 (by omega) ?_; intro vb2 wb2 hRb2 hGb2; have I2 := Ia2.grew hGb2 hRb2; have x2 := fun j => I2.2.1.cell j; have l2 := I2.2.1.lt; clear Ia2 ro2 sz2)
                have hlM2 : (M1 ++ sev until_).length ≤ M1.length + 9 := by rw [List.length_append]; omega
                obtain ⟨M2, hM2⟩ : ∃ x, x = M1 ++ sev until_ := ⟨_, rfl⟩
                rw [← hM2] at I2 hlM2
                have HM2 : Hid (M2 = M1 ++ sev until_) := hM2
                clear hM2 hRb2 hGb2 hRa2 hba2
                go_wp2_with fail
                refine (sevens_fit icas _ (by omega)).mono ?_
                rintro e wa3 ⟨va3, rfl, hRa3, hba3⟩
                have Ia3 := I2.later hba3
                clear I2
                have ro3 := Ia3.1.1
                have sz3 := Ia3.1.2.1.size
                go_wp2_with (at_builtin; refine append_row _ rfl (.tmp 108) (.tmp 111) rfl w.heap.size vb2 M2 rfl ro3 _ va3 (sev icas) rfl hRa3 (sev_pos icas) sz3 (by omega) ?_; intro vb3 wb3 hRb3 hGb3; have I3 := Ia3.grew hGb3 hRb3; have x3 := fun j => I3.2.1.cell j; have l3 := I3.2.1.lt; clear Ia3 ro3 sz3)
                have hlM3 : (M2 ++ sev icas).length ≤ M2.length + 9 := by rw [List.length_append]; omega
                obtain ⟨M3, hM3⟩ : ∃ x, x = M2 ++ sev icas := ⟨_, rfl⟩
                rw [← hM3] at I3 hlM3
                have HM3 : Hid (M3 = M2 ++ sev icas) := hM3
                clear hM3 hRb3 hGb3 hRa3 hba3
                cases far
                · rw [if_neg (by decide)] at E
                  go_wp2_with fail
                  refine (sevens_fit used _ (by omega)).mono ?_
                  rintro e wa4 ⟨va4, rfl, hRa4, hba4⟩
                  have Ia4 := I3.later hba4
                  clear I3
                  have ro4 := Ia4.1.1
                  have sz4 := Ia4.1.2.1.size
                  have hmL1 : 1 ≤ maxLen := by unfold maxLen; omega
                  go_wp2_with (first | (at_builtin; refine append_row _ rfl (.tmp 113) (.tmp 116) rfl w.heap.size vb3 M3 rfl ro4 _ va4 (sev used) rfl hRa4 (sev_pos used) sz4 (by omega) ?_; intro vb4 wb4 hRb4 hGb4; have I4 := Ia4.grew hGb4 hRb4; have x4 := fun j => I4.2.1.cell j; have l4 := I4.2.1.lt; clear Ia4 ro4 sz4) | (at_builtin; refine append_row _ rfl (.tmp 135) (.tmp 136) rfl w.heap.size vb4 (M3 ++ sev used) rfl (I4.later (allocB wb4 (.cells #[.int .u8 0] 5))).1.1 _ _ [0] rfl (row_new wb4 [0] #[.int .u8 0] 1 rfl hmL1 rfl) (by simp) (I4.later (allocB wb4 (.cells #[.int .u8 0] 5))).1.2.1.size (by simp; omega) ?_; intro vb5 wb5 hRb5 hGb5; have I5 := (I4.later (allocB wb4 (.cells #[.int .u8 0] 5))).grew hGb5 hRb5; have x5 := fun j => I5.2.1.cell j; have l5 := I5.2.1.lt; clear I4))
                  have hlM5 : (M3 ++ sev used ++ [0]).length ≤ M3.length + 10 := by simp; omega
                  obtain ⟨M5, hM5⟩ : ∃ x, x = M3 ++ sev used ++ [0] := ⟨_, rfl⟩
                  rw [← hM5] at I5 hlM5
                  have HM5 : Hid (M5 = M3 ++ sev used ++ [0]) := hM5
                  clear hM5 hRb5 hGb5 hRb4 hGb4 hRa4 hba4
                  have hcall := with_any w.heap.size vb5 M5 value _ I5.1.1 I5.1.2.1.size (by omega)
                  go_wp2_with fail
                  refine hcall.mono ?_
                  rintro e w6 ⟨v6, rfl, hR6, hG6⟩
                  have I6 := I5.grew hG6 hR6
                  have hfin : LL = M5 ++ txt value.data.toList := by
                    rw [E.out, HM5.out, HM3.out, HM2.out, HM1.out, HMk.out]
                    simp
                  clear x5 l5 I5 hcall
                  go_wp2_with fail
                  exact ⟨⟨k + 1, _, hlt, rfl, by simp, by rw [htk2.out, hfin]; exact I6.1⟩, by simp [intOf]; omega⟩
                · rw [if_pos rfl] at E
                  go_wp2_with fail
                  refine (sevens_fit used _ (by omega)).mono ?_
                  rintro e wa4 ⟨va4, rfl, hRa4, hba4⟩
                  have Ia4 := I3.later hba4
                  clear I3
                  have ro4 := Ia4.1.1
                  have sz4 := Ia4.1.2.1.size
                  have hmL1 : 1 ≤ maxLen := by unfold maxLen; omega
                  go_wp2_with (first | (at_builtin; refine append_row _ rfl (.tmp 113) (.tmp 116) rfl w.heap.size vb3 M3 rfl ro4 _ va4 (sev used) rfl hRa4 (sev_pos used) sz4 (by omega) ?_; intro vb4 wb4 hRb4 hGb4; have I4 := Ia4.grew hGb4 hRb4; have x4 := fun j => I4.2.1.cell j; have l4 := I4.2.1.lt; clear Ia4 ro4 sz4) | (at_builtin; refine append_row _ rfl (.tmp 120) (.tmp 121) rfl w.heap.size vb4 (M3 ++ sev used) rfl (I4.later (allocB wb4 (.cells #[.int .u8 1] 5))).1.1 _ _ [1] rfl (row_new wb4 [1] #[.int .u8 1] 1 rfl hmL1 rfl) (by simp) (I4.later (allocB wb4 (.cells #[.int .u8 1] 5))).1.2.1.size (by simp; omega) ?_; intro vb5 wb5 hRb5 hGb5; have I5 := (I4.later (allocB wb4 (.cells #[.int .u8 1] 5))).grew hGb5 hRb5; have x5 := fun j => I5.2.1.cell j; have l5 := I5.2.1.lt; clear I4))
                  have hlM5 : (M3 ++ sev used ++ [1]).length ≤ M3.length + 10 := by simp; omega
                  obtain ⟨M5, hM5⟩ : ∃ x, x = M3 ++ sev used ++ [1] := ⟨_, rfl⟩
                  rw [← hM5] at I5 hlM5
                  have HM5 : Hid (M5 = M3 ++ sev used ++ [1]) := hM5
                  clear hM5 hRb5 hGb5 hRb4 hGb4 hRa4 hba4
                  go_wp2_with fail
                  refine (sevens_fit page _ (by omega)).mono ?_
                  rintro e wa6 ⟨va6, rfl, hRa6, hba6⟩
                  have Ia6 := I5.later hba6
                  clear I5
                  have ro6 := Ia6.1.1
                  have sz6 := Ia6.1.2.1.size
                  go_wp2_with (at_builtin; refine append_row _ rfl (.tmp 123) (.tmp 127) rfl w.heap.size vb5 M5 rfl ro6 _ va6 (sev page) rfl hRa6 (sev_pos page) sz6 (by omega) ?_; intro vb6 wb6 hRb6 hGb6; have I6 := Ia6.grew hGb6 hRb6; have x6 := fun j => I6.2.1.cell j; have l6 := I6.2.1.lt; clear Ia6 ro6 sz6)
                  have hlM6 : (M5 ++ sev page).length ≤ M5.length + 9 := by rw [List.length_append]; omega
                  obtain ⟨M6, hM6⟩ : ∃ x, x = M5 ++ sev page := ⟨_, rfl⟩
                  rw [← hM6] at I6 hlM6
                  have HM6 : Hid (M6 = M5 ++ sev page) := hM6
                  clear hM6 hRb6 hGb6 hRa6 hba6
                  go_wp2_with fail
                  refine (sevens_fit at_ _ (by omega)).mono ?_
                  rintro e wa7 ⟨va7, rfl, hRa7, hba7⟩
                  have Ia7 := I6.later hba7
                  clear I6
                  have ro7 := Ia7.1.1
                  have sz7 := Ia7.1.2.1.size
                  go_wp2_with (at_builtin; refine append_row _ rfl (.tmp 129) (.tmp 133) rfl w.heap.size vb6 M6 rfl ro7 _ va7 (sev at_) rfl hRa7 (sev_pos at_) sz7 (by omega) ?_; intro vb7 wb7 hRb7 hGb7; have I7 := Ia7.grew hGb7 hRb7; have x7 := fun j => I7.2.1.cell j; have l7 := I7.2.1.lt; clear Ia7 ro7 sz7)
                  have hlM7 : (M6 ++ sev at_).length ≤ M6.length + 9 := by rw [List.length_append]; omega
                  obtain ⟨M7, hM7⟩ : ∃ x, x = M6 ++ sev at_ := ⟨_, rfl⟩
                  rw [← hM7] at I7 hlM7
                  have HM7 : Hid (M7 = M6 ++ sev at_) := hM7
                  clear hM7 hRb7 hGb7 hRa7 hba7
                  have hfin : LL = M7 := by
                    rw [E.out, HM7.out, HM6.out, HM5.out, HM3.out, HM2.out, HM1.out, HMk.out]
                    simp
                  exact ⟨⟨k + 1, _, hlt, rfl, by simp, by rw [htk2.out, hfin]; exact I7.1⟩, by simp [intOf]; omega⟩
              · have hltz : ¬ (k : Int) < (items.length : Int) := by omega
                have hke : k = items.length := by omega
                subst hke
                have hlen := hix items.length
                rw [List.take_length] at hBR hlen
                have hfin : mark3 ++ X = L3 ++ itemsX items := by rw [EX.out, ← hL3e]
                have hL4 : (L3 ++ itemsX items).length + 10 ≤ 140737488350000 := by rw [List.length_append]; omega
                have EE2 : Hid (R = L3 ++ itemsX items ++ sealB (L3 ++ itemsX items)) := by unfold Hid; rw [EE.out, hfin]
                generalize L3 ++ itemsX items = L4 at *
                obtain ⟨a3, c3, hv3, hA3⟩ := hBR.1.bytes (by unfold maxLen; omega)
                have hseal := sealOf_any L4 a3 c3 wr hA3
                rw [← hv3] at hseal
                clear hm hie hix hlen hfin EE EX hv3
                go_wp2_with fail
                refine hseal.mono ?_
                rintro e w4 ⟨v4, rfl, hR4, hb4⟩
                have hBR4 := hBR.later hb4
                have ro4 := hBR4.1
                have sz4 := hBR4.2.1.size
                go_wp2_with (at_builtin; refine append_row _ rfl (.tmp 142) (.tmp 144) rfl w.heap.size uo L4 rfl ro4 _ v4 (sealB L4) rfl hR4 (by rw [seal_len]; omega) sz4 (by rw [seal_len]; omega) ?_; intro v5 w5 hR5 hG5)
                go_ret2
                exact ⟨_, rfl, (show RowB _ _ v5 R by rw [EE2.out]; exact hR5), (hBR4.grew hG5 hR5).2.1⟩
end Go.Proofs.YtmjakimpmccedaaDoor
