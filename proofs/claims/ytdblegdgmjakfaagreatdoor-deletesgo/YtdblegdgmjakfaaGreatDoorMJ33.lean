/- Parts of the proof. -/
import Derived.Test.YtdblegdgmjakfaaGreatDoorMJ29
import Derived.Test.YtdblegdgmjakfaaGreatDoorMJ32
import Derived.Deep.RegionHeld3
import Derived.Deep.AppendLies
namespace Go.Proofs.YtdblegdgmjakfaaGreatDoor
open Go.ChangeShapes Go.WideShapes Go.ChangeAt Go.RowKit
set_option linter.unusedVariables false
set_option linter.unusedSimpArgs false

/- dovecotekeep.played. -/

/-- A region's end under a relation that names the act at its beginning. -/
theorem region_rel2 {P : Program} {c : Code} {Q : Exit → Act → World → Prop} {a : Act} {w : World} (R : Act → Act → World → Prop) (h1 : c.wp P (RelPost (R a)) a w) (h2 : ∀ a' w', R a a' w' → Q Exit.normal a' w') : c.wp P Q a w := region_rel (R a) h1 h2
theorem StoreFrom.fr {n m : Nat} {wc wz : World} {s : StoreR} {ia pa : Option Addr} (h : StoreFrom n wc s ia pa) {O : Nat → Prop} (hf : Fr O wc wz) (hO : ∀ b, O b → b < n ∨ wc.heap.size ≤ b) (hm : m ≤ n) : StoreFrom m wz s ia pa := fun w2 hs h2 => h w2 (Nat.le_trans hf.size hs) fun b hb hl => by
 rw [h2 b (Nat.le_trans hm hb) (Nat.lt_of_lt_of_le hl hf.size)]
 exact hf.block b hl (fun e => by rcases hO b e with q | q <;> omega)
theorem pickB (n many : Int) (w : World) (h0 : -9223372036854775808 ≤ n) (h1 : n ≤ 9223372036854775807) (hm : 0 < many) (hm2 : many ≤ 9223372036854775807) :
 Calls Tryz.prog 13 #[.int .i64 n, .int .i64 many] w fun e w' => e = .returned (.int .i64 (pickN n many)) ∧ Below w.heap.size w w' := (picked_any n many w h0 h1 hm hm2).mono fun e w' ⟨he, hw⟩ => ⟨he, hw ▸ Below.refl _ _⟩

/-- A row of replies of one's own, whatever they are. -/
def OutR (n : Nat) (w : World) (v : Value) (k : Nat) : Prop := ∃ xs : List Value, w.ownsRow n 42 3 v k xs
theorem OutR.lt {n : Nat} {w : World} {v : Value} {k : Nat} (h : OutR n w v k) {g : Nat} (hg : v.ownBlock = some g) : n ≤ g ∧ g < w.heap.size := by
 obtain ⟨xs, h⟩ := h
 rcases h.2 with ⟨h0, _⟩ | ⟨g', cap, cur, hv, hb, hh, _⟩
 · rw [h0] at hg; cases hg
 · rw [hv] at hg
   cases hg
   refine ⟨hb, ?_⟩
   rcases Nat.lt_or_ge g' w.heap.size with h' | h'
   · exact h'
   · rw [Array.getElem?_eq_none h'] at hh; cases hh
theorem OutR.kept {n : Nat} {w w' : World} {v : Value} {k : Nat} (h : OutR n w v k) (hk : ∀ g, v.ownBlock = some g → w'.heap[g]? = w.heap[g]?) : OutR n w' v k := by
 obtain ⟨xs, h⟩ := h
 refine ⟨xs, h.1, h.2.imp id ?_⟩
 rintro ⟨g, cap, cur, hv, hb, hh, r⟩
 exact ⟨g, cap, cur, hv, hb, by rw [hk g (by rw [hv]; rfl)]; exact hh, r⟩
theorem OutR.later {n : Nat} {w w' : World} {v : Value} {k : Nat} (h : OutR n w v k) (hb : Below w.heap.size w w') : OutR n w' v k := h.kept fun g hg => hb.block g (h.lt hg).2
theorem infoReply : (Tryz.prog.info? 42).map (fun i => (i.zero, i.size, i.bytes)) = some (some (.agg #[.int .i64 0, .int .i64 0, .slice none 0 0]), 3, 40) := by kernel_rfl
theorem append_out {ops : Array Oper} {rest : List Oper} {o : Oper} {a : Act} {Q : Exit → Act → World → Prop} (w : World) (hgd : o.guard = none) (s x : Operand)
 (ho : o.op = .call { callee := .builtin .append, args := #[s, x], argTypes := #[30, 30] })
 (n : Nat) (v : Value) (k : Nat) (hs : a.eval s = v) (hW : OutR n w v k) (c0 c1 c2 : Value) (B : Nat) (h1 : c0.oneCell' = true) (h2 : c1.oneCell' = true) (h3 : c2.oneCell' = true) (hx : a.eval x = .slice (some ⟨B, 0, none⟩) 1 1) (hB : w.heap[B]? = some (.cells #[c0, c1, c2] 42 (0, 0))) (hn : n ≤ w.heap.size) (hsz : (k + 1) * 40 ≤ 140737488351232)
 (h : ∀ g cap w', OutR n w' (.slice (some ⟨g, 0, none⟩) (k + 1) cap) (k + 1) → w.grownBy w' v.ownBlock → (v.ownBlock = some g ∨ g = w.heap.size) → wpList Tryz.prog ops Q rest (a.put o.dst (.slice (some ⟨g, 0, none⟩) (k + 1) cap)) w') : wpList Tryz.prog ops Q (o :: rest) a w := by
 obtain ⟨i0, hi, hz0, hz1, hz2⟩ := info_partsH infoReply
 obtain ⟨xs, hW⟩ := hW
 refine wpList_append_lies w hgd s x 30 ho n 42 i0 _ 3 40 Tryz.underlying30 hi hz0 hz1 hz2 rfl (by omega) v k xs hs hW ⟨B, 0, none⟩ 1 1 [c0, c1, c2] hx rfl ?_ ?_ (by omega) (by unfold maxLen; omega) (by omega) hn w.heap.size rfl ?_
 · exact World.news_of_block hB
 · intro u hu
   simp at hu
   rcases hu with rfl | rfl | rfl <;> assumption
 intro g cap w' h2 h3 h4 h5
 exact h g cap w' ⟨_, h2⟩ h3 h4

/-- What played answers. -/
def PlayPost (S : StoreR) (w : World) (e : Ending) (w' : World) : Prop := ∃ ia ic pa pc rv, e = .returned (.tuple #[storeV S ia ic pa pc, rv, .bool true]) ∧ StoreIn w' S ia pa ∧ Below w.heap.size w w'

/-- Behind some raw things. -/
structure PInv (w : World) (b11 n : Nat) (s : StoreR) (k : Nat) (uo : Value) (wr : World) : Prop where
 ex : ∃ ia ic pa pc, TB 29 wr b11 #[.int .i64 s.clock, .int .i64 s.cas, .int .i64 s.uses, .int .i64 s.most, .int .i64 s.h0, .int .i64 s.h1, .int .i64 s.h2, .int .i64 s.h3, .slice ia s.items.length ic, .int .i64 s.fm, .int .i64 s.fx, .slice pa s.pages.length pc] ∧ StoreFrom n wr s ia pa
 row : OutR n wr uo k
 t8 : TB 29 wr w.heap.size #[.int .i64 0, .int .i64 0, .int .i64 0, .int .i64 0, .int .i64 0, .int .i64 0, .int .i64 0, .int .i64 0, .slice none 0 0, .int .i64 0, .int .i64 0, .slice none 0 0]
 b : Below w.heap.size w wr
 sz : n ≤ wr.heap.size

set_option maxHeartbeats 40000000 in
set_option maxRecDepth 100000 in
theorem played_any (l : List RawR) (ra : Option Addr) (rc : Nat) (p m : Int) (mo : Nat) (w : World) (hR : RawsAt w ra l) (hok : RawsOk l) (hp : 0 ≤ p) (hp2 : p ≤ 40) (hm : 0 ≤ m) (hm2 : m ≤ 20) (hmo : mo ≤ 1000) (hL : LaidC w) (hT : LaidT w) :
 Calls Tryz.prog 12 #[.slice ra l.length rc, .int .i64 p, .int .i64 m, .int .i64 mo] w (PlayPost (play (newS p m) l (min mo l.length)) w) := by
 have hsn : snB p m = true := by unfold snB; simp only [Bool.and_eq_true, inB_iff]; omega
 have hnew : ∀ w1, Calls Tryz.prog 19 #[.agg #[.int .i64 p, .int .i64 m]] w1 fun e w' => e = .returned (.tuple #[.agg #[.int .i64 0, .int .i64 0, .int .i64 0, .int .i64 p, .int .i64 0, .int .i64 0, .int .i64 0, .int .i64 0, .slice none 0 0, .int .i64 m, .int .i64 1, .slice none 0 0], .int .i64 0]) ∧ Below w1.heap.size w1 w' := fun w1 => (snew_any p m w1).mono fun e w' h => by
  unfold SNewPost at h
  rw [hsn] at h
  simpa using h
 have T8 := TB.new 29 w #[.int .i64 0, .int .i64 0, .int .i64 0, .int .i64 0, .int .i64 0, .int .i64 0, .int .i64 0, .int .i64 0, .slice none 0 0, .int .i64 0, .int .i64 0, .slice none 0 0]
 have hpl := newS_pl hp hp2 hm hm2
 go_enter Tryz.func12, Tryz.ntmps12
 go_wp2_with fail
 refine (hnew _).mono ?_
 rintro e wn ⟨rfl, hbn⟩
 have U8 := T8.later hbn
 have T11 := TB.new 29 wn #[.int .i64 0, .int .i64 0, .int .i64 0, .int .i64 p, .int .i64 0, .int .i64 0, .int .i64 0, .int .i64 0, .slice none 0 0, .int .i64 m, .int .i64 1, .slice none 0 0]
 have B0 : Below w.heap.size w (wn.alloc (.cells #[.int .i64 0, .int .i64 0, .int .i64 0, .int .i64 p, .int .i64 0, .int .i64 0, .int .i64 0, .int .i64 0, .slice none 0 0, .int .i64 m, .int .i64 1, .slice none 0 0] 29)) := below_al (below_thru (below_al (Below.refl _ _) _) hbn) _
 have HWN : Hid (w.heap.size < wn.heap.size) := U8.lt
 have hws : (wn.alloc (.cells #[.int .i64 0, .int .i64 0, .int .i64 0, .int .i64 p, .int .i64 0, .int .i64 0, .int .i64 0, .int .i64 0, .slice none 0 0, .int .i64 m, .int .i64 1, .slice none 0 0] 29)).heap.size = wn.heap.size + 1 := by simp
 have V8 := U8.alloc (.cells #[.int .i64 0, .int .i64 0, .int .i64 0, .int .i64 p, .int .i64 0, .int .i64 0, .int .i64 0, .int .i64 0, .slice none 0 0, .int .i64 m, .int .i64 1, .slice none 0 0] 29)
 go_wp2_with fail
 generalize hW0 : (wn.alloc (.cells #[.int .i64 0, .int .i64 0, .int .i64 0, .int .i64 p, .int .i64 0, .int .i64 0, .int .i64 0, .int .i64 0, .slice none 0 0, .int .i64 m, .int .i64 1, .slice none 0 0] 29)) = W0 at *
 clear hW0
 have HW0 : Hid (W0.heap.size = wn.heap.size + 1) := hws
 clear hws T8 U8 hbn
 go_loopw [13, 14] (fun u i wr => ∃ (k : Nat) (uo : Value), k ≤ l.length ∧ k ≤ mo ∧ uo = u ∧ i = .int .i64 k ∧ PInv w wn.heap.size W0.heap.size (play (newS p m) l k) k uo wr) (fun _ i _ => l.length - (intOf i).toNat)
 case atStart => exact ⟨0, _, Nat.zero_le _, Nat.zero_le _, rfl, rfl, ⟨⟨none, 0, none, 0, T11, fun w2 _ _ => ⟨items_none _ _, pages_none _ _⟩⟩, ⟨[], rfl, Or.inl ⟨rfl, rfl⟩⟩, V8, B0, Nat.le_refl _⟩⟩
 case round =>
  obtain ⟨k, uo, hkl, hkm, rfl, rfl, hI⟩ := hrel
  by_cases hlt : k < l.length ∧ k < mo
  · obtain ⟨hlt, hltm⟩ := hlt
    have hz1 : (k : Int) < (l.length : Int) := by omega
    have hz2 : (k : Int) < (mo : Int) := by omega
    have hz0 : (0 : Int) ≤ (k : Int) := Int.natCast_nonneg _
    have hplk := pl_play hpl l k hkl (by omega)
    have hplay0 := play_succ (newS p m) l k hlt
    obtain ⟨hk1, hk2, hk3, hk4⟩ := hok k hlt
    obtain ⟨⟨ia, ic, pa, pc, T11wr, hSFr⟩, hRowwr, T8wr, Bwr, hSzwr⟩ := hI
    have hSIr : StoreIn wr (play (newS p m) l k) ia pa := hSFr wr (Nat.le_refl _) (fun _ _ _ => rfl)
    obtain ⟨hmx, hRw⟩ := hR
    obtain ⟨rb, ro, rfl, rbl0, hRc⟩ : ∃ b o, ra = some ⟨b, o, none⟩ ∧ b < w.heap.size ∧ ∀ j, j < l.length → RawAt w b (o + j * 4) (l.getD j default) := by
     rcases hRw with q | q
     · omega
     · exact q
    have hRk := hRc k hlt
    obtain ⟨c0, c1, c2, c3⟩ := hRk.later rbl0 Bwr
    have rbl : rb < wr.heap.size := Nat.lt_of_lt_of_le rbl0 Bwr.size
    clear hRc hRw hpl hok
    generalize l.getD k default = r at *
    have htk := hplk.tick (by omega) r
    have hfit := rawQ_fit r
    have hReq : ∀ wx, Calls Tryz.prog 24 #[.agg #[.int .i64 r.k, .int .i64 r.a, .int .i64 r.b, .int .i64 r.c]] wx fun e w' => ∃ a c, e = .returned (.agg #[.int .i64 (rawQ r).kind, .string (rawQ r).key, .slice a (rawQ r).keys.length c, .int .i64 (rawQ r).flags, .int .i64 (rawQ r).exp, .int .i64 (rawQ r).nn, .string (rawQ r).value, .bool (rawQ r).quiet]) ∧ StrsAt w' a (rawQ r).keys.length (rawQ r).keys ∧ Below wx.heap.size wx w' := fun wx => request_any r.k r.a r.b r.c wx hk1 hk2 hk3 hk4
    have hclk := hplk.clock
    have hgs := hplk.gd
    have hpk := tdiv_range r.k 7 (by decide) hk1.1 hk1.2
    have hpick := fun w1 => picked_any (r.k.tdiv 7) 6 w1 hpk.1 hpk.2 (by decide) (by decide)
    have hw7 : IntKind.i64.wrap (r.k.tdiv 7) = r.k.tdiv 7 := by simp only [IntKind.wrap_i64]; omega
    obtain ⟨ha0, ha1⟩ := hk2
    have hplay : Hid (play (newS p m) l (k + 1) = (ansN (tickR (play (newS p m) l k) r) (rawQ r)).1) := hplay0
    clear hplay0
    have hqf : QFit (rawQ r) := hfit
    have hus0 := hplk.uses
    clear hplk hfit hk1 hk3 hk4 hpk
    generalize rawQ r = q at *
    generalize hs : play (newS p m) l k = s at *
    have hgd1 := htk.1
    have hus1 : (tickR s r).uses ≤ 1099511627766 := by have := htk.2.2.1; omega
    obtain ⟨A, hA⟩ : ∃ A, ansN (tickR s r) q = A := ⟨_, rfl⟩
    rw [hA] at hplay
    have hplayE := hplay.out
    clear hplay htk
    obtain ⟨s1, hs1⟩ : ∃ s1, tickR s r = s1 := ⟨_, rfl⟩
    rw [hs1] at hA hgd1 hus1
    have HS1 : Hid (tickR s r = s1) := hs1
    clear hs1
    have HA : Hid (ansN s1 q = A) := hA
    have HPE : Hid (play (newS p m) l (k + 1) = A.1) := hplayE
    clear hA hplayE
    go_upto_if 45 with (go_at_call 13; refine (hpick _).mono ?_; rintro e wp ⟨rfl, hwp⟩; obtain rfl := hwp.symm)
    refine region_rel2 (fun a a' wx => ∃ (ib : Option Addr) (id : Nat) (pb : Option Addr) (pd : Nat) (j0 j1 j2 j3 j4 j5 j6 j7 j8 j9 j10 j11 j12 j13 j14 j15 : Value), a' = ((((((((((((((((a.put (some 47) j0).put (some 48) j1).put (some 49) j2).put (some 50) j3).put (some 51) j4).put (some 52) j5).put (some 53) j6).put (some 54) j7).put (some 46) j8).put (some 55) j9).put (some 56) j10).put (some 15) j11).put (some 16) j12).put (some 57) j13).put (some 58) j14).put (some 61) j15) ∧ TB 29 wx wn.heap.size #[.int .i64 s1.clock, .int .i64 s1.cas, .int .i64 s1.uses, .int .i64 s1.most, .int .i64 s1.h0, .int .i64 s1.h1, .int .i64 s1.h2, .int .i64 s1.h3, .slice ib s1.items.length id, .int .i64 s1.fm, .int .i64 s1.fx, .slice pb s1.pages.length pd] ∧ StoreIn wx s1 ib pb ∧ OutR W0.heap.size wx uo k ∧ TB 29 wx w.heap.size #[.int .i64 0, .int .i64 0, .int .i64 0, .int .i64 0, .int .i64 0, .int .i64 0, .int .i64 0, .int .i64 0, .slice none 0 0, .int .i64 0, .int .i64 0, .slice none 0 0] ∧ Below w.heap.size w wx ∧ W0.heap.size ≤ wx.heap.size) ?_ ?_
    · by_cases htb : tickB r = true
      · have hs1 : s1 = { s with clock := s.clock + pickN r.a 9 } := by rw [← HS1.out]; exact if_pos htb
        have hb6 : (pickN (r.k.tdiv 7) 6 == 0) = true := by unfold tickB at htb; simpa using htb
        have hclk2 : s.clock + pickN r.a 9 ≤ 1099511627776 := by have := pickN_range r.a 9 (by decide); omega
        have hTick : ∀ wx, Below wr.heap.size wr wx → Calls Tryz.prog 18 #[.agg #[.int .i64 s.clock, .int .i64 s.cas, .int .i64 s.uses, .int .i64 s.most, .int .i64 s.h0, .int .i64 s.h1, .int .i64 s.h2, .int .i64 s.h3, .slice ia s.items.length ic, .int .i64 s.fm, .int .i64 s.fx, .slice pa s.pages.length pc], .int .i64 (pickN r.a 9)] wx fun e w' => ∃ ia2 ic2 pa2 pc2 nT, Hid (nT = wx.heap.size ∧ wr.heap.size ≤ nT) ∧ e = .returned (.tuple #[.agg #[.int .i64 s1.clock, .int .i64 s1.cas, .int .i64 s1.uses, .int .i64 s1.most, .int .i64 s1.h0, .int .i64 s1.h1, .int .i64 s1.h2, .int .i64 s1.h3, .slice ia2 s1.items.length ic2, .int .i64 s1.fm, .int .i64 s1.fx, .slice pa2 s1.pages.length pc2], .int .i64 0]) ∧ StoreFrom nT w' s1 ia2 pa2 ∧ Below wx.heap.size wx w' := fun wx hx => by
         have hz := Bwr.trans (hx.mono Bwr.size)
         have hp := pickN_range r.a 9 (by decide)
         have ho : tickOk s (pickN r.a 9) = true := by
          unfold tickOk
          simp only [Bool.and_eq_true, inB_iff, decide_eq_true_eq]
          omega
         refine (tick_any s ia ic pa pc (pickN r.a 9) wx (hSIr.later hx) hgs.ok (hL.later hz)).mono ?_
         rintro e w' ⟨ia2, ic2, pa2, pc2, rfl, h1, h2⟩
         have e1 : tickN s (pickN r.a 9) = 0 := by unfold tickN; rw [hgs.b, if_pos rfl, ho, if_pos rfl]
         have e2 : tickS s (pickN r.a 9) = s1 := by unfold tickS; rw [hgs.b, if_pos rfl, ho, if_pos rfl, hs1]
         rw [e2] at h1
         exact ⟨ia2, ic2, pa2, pc2, wx.heap.size, ⟨rfl, hx.size⟩, by rw [e1, e2]; rfl, h1, h2⟩
        clear hs1 HS1
        have l11 := T11wr.lt
        have x11 := fun j => T11wr.cell j
        have kS : ∀ wx, Below wr.heap.size wr wx → (fun wx : World => (∀ j, wx.cell? ⟨wn.heap.size, j, none⟩ = (#[.int .i64 s.clock, .int .i64 s.cas, .int .i64 s.uses, .int .i64 s.most, .int .i64 s.h0, .int .i64 s.h1, .int .i64 s.h2, .int .i64 s.h3, .slice ia s.items.length ic, .int .i64 s.fm, .int .i64 s.fx, .slice pa s.pages.length pc] : Array Value)[j]?) ∧ wx.cell? ⟨rb, ro + k * 4, none⟩ = some (.int .i64 r.k) ∧ wx.cell? ⟨rb, ro + k * 4 + 1, none⟩ = some (.int .i64 r.a) ∧ wx.cell? ⟨rb, ro + k * 4 + 2, none⟩ = some (.int .i64 r.b) ∧ wx.cell? ⟨rb, ro + k * 4 + 3, none⟩ = some (.int .i64 r.c)) wx := fun wx hx => ⟨fun j => by rw [hx.cell (p := ⟨wn.heap.size, j, none⟩) l11]; exact x11 j, by rw [hx.cell (p := ⟨rb, ro + k * 4, none⟩) rbl]; exact c0, by rw [hx.cell (p := ⟨rb, ro + k * 4 + 1, none⟩) rbl]; exact c1, by rw [hx.cell (p := ⟨rb, ro + k * 4 + 2, none⟩) rbl]; exact c2, by rw [hx.cell (p := ⟨rb, ro + k * 4 + 3, none⟩) rbl]; exact c3⟩
        go_wp2_with fail
        refine region_rel2 (fun a a' wx => ∃ (b : Nat) (ia2 : Option Addr) (ic2 : Nat) (pa2 : Option Addr) (pc2 : Nat) (j0 j1 j2 j3 j4 j5 j6 j7 j8 j9 j10 : Value), a' = (((((((((((((a.put (some 47) j0).put (some 48) j1).put (some 49) j2).put (some 50) j3).put (some 51) j4).put (some 52) j5).put (some 53) j6).put (some 54) j7).put (some 46) j8).put (some 55) j9).put (some 56) j10).put (some 15) (.pointer (some ⟨b, 0, none⟩))).put (some 16) (.int .i64 0)) ∧ TB 29 wx b #[.int .i64 s1.clock, .int .i64 s1.cas, .int .i64 s1.uses, .int .i64 s1.most, .int .i64 s1.h0, .int .i64 s1.h1, .int .i64 s1.h2, .int .i64 s1.h3, .slice ia2 s1.items.length ic2, .int .i64 s1.fm, .int .i64 s1.fx, .slice pa2 s1.pages.length pc2] ∧ wr.heap.size ≤ b ∧ Below wr.heap.size wr wx ∧ StoreFrom wr.heap.size wx s1 ia2 pa2) ?_ ?_
        · refine wp_region_held_drew (S := (fun wx : World => (∀ j, wx.cell? ⟨wn.heap.size, j, none⟩ = (#[.int .i64 s.clock, .int .i64 s.cas, .int .i64 s.uses, .int .i64 s.most, .int .i64 s.h0, .int .i64 s.h1, .int .i64 s.h2, .int .i64 s.h3, .slice ia s.items.length ic, .int .i64 s.fm, .int .i64 s.fx, .slice pa s.pages.length pc] : Array Value)[j]?) ∧ wx.cell? ⟨rb, ro + k * 4, none⟩ = some (.int .i64 r.k) ∧ wx.cell? ⟨rb, ro + k * 4 + 1, none⟩ = some (.int .i64 r.a) ∧ wx.cell? ⟨rb, ro + k * 4 + 2, none⟩ = some (.int .i64 r.b) ∧ wx.cell? ⟨rb, ro + k * 4 + 3, none⟩ = some (.int .i64 r.c))) (by kernel_rfl) (kS _ (Below.drew (Below.refl wr.heap.size wr))) (fun hS0 => ?_)
          try simp only [sIB, sZB, sSB]
          refine wpAnyH_take (i := 0) (v := ?tv101) rfl (by kernel_rfl) (by kernel_rfl) (by kernel_rfl) (fun _ _ _ h => h) (Or.inl ⟨by rfl, ?th101⟩) (by assumption) ?tr101
          case th101 => (intro w hSw; (try dsimp only at hSw); go_simp; try with_reducible rfl)
          try simp only [Act.put, sIB, sZB, sSB]
          refine wpAnyH_take (i := 1) (v := ?tv102) rfl (by kernel_rfl) (by kernel_rfl) (by kernel_rfl) (fun _ _ _ h => h) (Or.inl ⟨by rfl, ?th102⟩) (by assumption) ?tr102
          case th102 => (intro w hSw; (try dsimp only at hSw); go_simp; try with_reducible rfl)
          try simp only [Act.put, sIB, sZB, sSB]
          refine wpAnyH_take (i := 2) (v := ?tv103) rfl (by kernel_rfl) (by kernel_rfl) (by kernel_rfl) (fun _ _ _ h => h) (Or.inl ⟨by rfl, ?th103⟩) (by assumption) ?tr103
          case th103 => (intro w hSw; (try dsimp only at hSw); go_simp; try with_reducible rfl)
          try simp only [Act.put, sIB, sZB, sSB]
          refine wpAnyH_take (i := 3) (v := ?tv104) rfl (by kernel_rfl) (by kernel_rfl) (by kernel_rfl) (fun _ _ _ h => h) (Or.inl ⟨by rfl, ?th104⟩) (by assumption) ?tr104
          case th104 => (intro w hSw; (try dsimp only at hSw); go_simp; try with_reducible rfl)
          try simp only [Act.put, sIB, sZB, sSB]
          refine wpAnyH_take (i := 4) (v := ?tv105) rfl (by kernel_rfl) (by kernel_rfl) (by kernel_rfl) (fun _ _ _ h => h) (Or.inl ⟨by rfl, ?th105⟩) (by assumption) ?tr105
          case th105 => (intro w hSw; (try dsimp only at hSw); go_simp; try with_reducible rfl)
          try simp only [Act.put, sIB, sZB, sSB]
          refine wpAnyH_take (i := 5) (v := ?tv106) rfl (by kernel_rfl) (by kernel_rfl) (by kernel_rfl) (fun _ _ _ h => h) (Or.inl ⟨by rfl, ?th106⟩) (by assumption) ?tr106
          case th106 => (intro w hSw; (try dsimp only at hSw); go_simp; try with_reducible rfl)
          try simp only [Act.put, sIB, sZB, sSB]
          refine wpAnyH_ready (rs := [6, 11]) (by kernel_rfl) (by simp) ?_
          refine AllReadyH.cons rfl (fun K hK => ?_) (AllReadyH.cons rfl (fun K hK => ?_) AllReadyH.nil)
          · go_simp
            refine ((pickB r.a 9 wr.drew ha0 ha1 (by decide) (by decide))).mono ?_
            rintro e wc107 ⟨rfl, hbc107⟩
            have Bc107 : Below wr.heap.size wr wc107 := below_thru (Below.drew (Below.refl wr.heap.size wr)) hbc107
            have hSc107 := kS _ Bc107
            refine hK.out _ _ hSc107 ?_
            intro hSd107
            clear hK K
            try simp only [Act.put, sIB, sZB, sSB]
            refine wpAnyH_ready (rs := [7, 11]) (by kernel_rfl) (by simp) ?_
            refine AllReadyH.cons rfl (fun K hK => ?_) (AllReadyH.cons rfl (fun K hK => ?_) AllReadyH.nil)
            · go_simp
              refine ((hTick wc107 Bc107)).mono ?_
              rintro e wc108 ⟨ia2, ic2, pa2, pc2, nT, hnT, rfl, hSF, hbc108⟩
              have Bc108 : Below wr.heap.size wr wc108 := below_thru Bc107 hbc108
              have hSc108 := kS _ Bc108
              refine hK.out _ _ hSc108 ?_
              intro hSd108
              clear hK K
              try simp only [Act.put, sIB, sZB, sSB]
              refine wpAnyH_take (i := 8) (v := ?tv109) rfl (by kernel_rfl) (by kernel_rfl) (by kernel_rfl) (fun _ _ _ h => h) (Or.inl ⟨by rfl, ?th109⟩) (by assumption) ?tr109
              case th109 => (intro w hSw; (try dsimp only at hSw); go_simp; try with_reducible rfl)
              try simp only [Act.put, sIB, sZB, sSB]
              refine wpAnyH_take (i := 9) (v := ?tv110) rfl (by kernel_rfl) (by kernel_rfl) (by kernel_rfl) (fun _ _ _ h => h) (Or.inl ⟨by rfl, ?th110⟩) (by assumption) ?tr110
              case th110 => (intro w hSw; (try dsimp only at hSw); go_simp; try with_reducible rfl)
              try simp only [Act.put, sIB, sZB, sSB]
              refine wpAnyH_take (i := 10) (v := ?tv111) rfl (by kernel_rfl) (by kernel_rfl) (by kernel_rfl) (fun _ _ _ h => h) (Or.inl ⟨by rfl, ?th111⟩) (by assumption) ?tr111
              case th111 => (intro w hSw; (try dsimp only at hSw); go_simp; try with_reducible rfl)
              try simp only [Act.put, sIB, sZB, sSB]
              refine wpAnyH_ready (rs := [11]) (by kernel_rfl) (by simp) ?_
              refine AllReadyH.cons rfl (fun K hK => ?_) AllReadyH.nil
              go_simp
              have Bc112 := below_al Bc108 (.cells #[.int .i64 0, .int .i64 0, .int .i64 0, .int .i64 0, .int .i64 0, .int .i64 0, .int .i64 0, .int .i64 0, .slice none 0 0, .int .i64 0, .int .i64 0, .slice none 0 0] 29)
              have hSc112 := kS _ Bc112
              refine hK.out _ _ hSc112 ?_
              intro hSd112
              clear hK K
              try simp only [Act.put, sIB, sZB, sSB]
              have zd : wr.drew.heap.size = wr.heap.size := rfl
              have zz2 := Below.size hbc107
              have zz3 := Below.size hbc108
              have zz4 : (wc108.alloc (.cells #[.int .i64 0, .int .i64 0, .int .i64 0, .int .i64 0, .int .i64 0, .int .i64 0, .int .i64 0, .int .i64 0, .slice none 0 0, .int .i64 0, .int .i64 0, .slice none 0 0] 29)).heap.size = wc108.heap.size + 1 := by simp
              have hnT1 := hnT.out.1
              have hnT2 := hnT.out.2
              have T15 : TB 29 (wc108.alloc (.cells #[.int .i64 0, .int .i64 0, .int .i64 0, .int .i64 0, .int .i64 0, .int .i64 0, .int .i64 0, .int .i64 0, .slice none 0 0, .int .i64 0, .int .i64 0, .slice none 0 0] 29)) wc108.heap.size #[.int .i64 0, .int .i64 0, .int .i64 0, .int .i64 0, .int .i64 0, .int .i64 0, .int .i64 0, .int .i64 0, .slice none 0 0, .int .i64 0, .int .i64 0, .slice none 0 0] := (TB.new2 (w := wc108) (by first | rfl | (simp; done)))
              have HBl : Below wr.heap.size wr (wc108.alloc (.cells #[.int .i64 0, .int .i64 0, .int .i64 0, .int .i64 0, .int .i64 0, .int .i64 0, .int .i64 0, .int .i64 0, .slice none 0 0, .int .i64 0, .int .i64 0, .slice none 0 0] 29)) := Bc112
              have FQ : Fr (fun b => b = wc108.heap.size) wc108 (wc108.alloc (.cells #[.int .i64 0, .int .i64 0, .int .i64 0, .int .i64 0, .int .i64 0, .int .i64 0, .int .i64 0, .int .i64 0, .slice none 0 0, .int .i64 0, .int .i64 0, .slice none 0 0] 29)) := Fr.of_below (below_al (Below.refl _ _) _)
              have hOq : ∀ b, (fun b => b = wc108.heap.size) b → b < nT ∨ wc108.heap.size ≤ b := fun b e => by have e2 : b = wc108.heap.size := e; omega
              have hw15 : wr.heap.size ≤ wc108.heap.size := by have := Below.size (show Below wr.heap.size wr wc108 from Bc108); omega
              have hne11 : ¬ wc108.heap.size = wn.heap.size := by omega
              clear hnT1 zd zz2 zz3 zz4
              generalize (wc108.alloc (.cells #[.int .i64 0, .int .i64 0, .int .i64 0, .int .i64 0, .int .i64 0, .int .i64 0, .int .i64 0, .int .i64 0, .slice none 0 0, .int .i64 0, .int .i64 0, .slice none 0 0] 29)) = wq at *
              have xq := fun j => T15.cell j
              have zq := fun j => T15.frozen j
              have lq := T15.lt
              refine wpAnyH_ready (rs := [12]) (by kernel_rfl) (by simp) ?_
              refine AllReadyH.cons rfl (fun K hK => ?_) AllReadyH.nil
              go_simp
              have hB12 : Below wr.heap.size wr ((((((((((((wq.setCell ⟨wc108.heap.size, 0, none⟩ (.int .i64 s1.clock)).setCell ⟨wc108.heap.size, 1, none⟩ (.int .i64 s1.cas)).setCell ⟨wc108.heap.size, 2, none⟩ (.int .i64 s1.uses)).setCell ⟨wc108.heap.size, 3, none⟩ (.int .i64 s1.most)).setCell ⟨wc108.heap.size, 4, none⟩ (.int .i64 s1.h0)).setCell ⟨wc108.heap.size, 5, none⟩ (.int .i64 s1.h1)).setCell ⟨wc108.heap.size, 6, none⟩ (.int .i64 s1.h2)).setCell ⟨wc108.heap.size, 7, none⟩ (.int .i64 s1.h3)).setCell ⟨wc108.heap.size, 8, none⟩ (.slice ia2 s1.items.length ic2)).setCell ⟨wc108.heap.size, 9, none⟩ (.int .i64 s1.fm)).setCell ⟨wc108.heap.size, 10, none⟩ (.int .i64 s1.fx)).setCell ⟨wc108.heap.size, 11, none⟩ (.slice pa2 s1.pages.length pc2)) := by
               iterate 12 refine below_st ?_ _ hw15
               exact HBl
              refine hK.out _ _ (kS _ hB12) ?_
              intro hSz1
              clear hK K
              try simp only [Act.put, sIB, sZB, sSB]
              refine wpAnyH_take (i := 13) (v := ?tv9001) rfl (by kernel_rfl) (by kernel_rfl) (by kernel_rfl) (fun _ _ _ h => h) (Or.inl ⟨by rfl, ?th9001⟩) (by assumption) ?tr9001
              case th9001 => (intro w hSw; (try dsimp only at hSw); go_simp; try with_reducible rfl)
              try simp only [Act.put, sIB, sZB, sSB]
              refine wpAnyH_done (by kernel_rfl) ?_ _
              refine ⟨wc108.heap.size, ia2, ic2, pa2, pc2, _, _, _, _, _, _, _, _, _, _, _, rfl, twelve_set wq wc108.heap.size T15, hw15, hB12, ?_⟩
              exact StoreFrom.fr hSF (((((((((((((FQ.set 0 _ (Or.inl rfl)).set 1 _ (Or.inl rfl)).set 2 _ (Or.inl rfl)).set 3 _ (Or.inl rfl)).set 4 _ (Or.inl rfl)).set 5 _ (Or.inl rfl)).set 6 _ (Or.inl rfl)).set 7 _ (Or.inl rfl)).set 8 _ (Or.inl rfl)).set 9 _ (Or.inl rfl)).set 10 _ (Or.inl rfl)).set 11 _ (Or.inl rfl))) hOq hnT2
            · go_simp
              have Bc113 := below_al Bc107 (.cells #[.int .i64 0, .int .i64 0, .int .i64 0, .int .i64 0, .int .i64 0, .int .i64 0, .int .i64 0, .int .i64 0, .slice none 0 0, .int .i64 0, .int .i64 0, .slice none 0 0] 29)
              have hSc113 := kS _ Bc113
              refine hK.out _ _ hSc113 ?_
              intro hSd113
              clear hK K
              try simp only [Act.put, sIB, sZB, sSB]
              refine wpAnyH_ready (rs := [7]) (by kernel_rfl) (by simp) ?_
              refine AllReadyH.cons rfl (fun K hK => ?_) AllReadyH.nil
              go_simp
              refine ((hTick (wc107.alloc (.cells #[.int .i64 0, .int .i64 0, .int .i64 0, .int .i64 0, .int .i64 0, .int .i64 0, .int .i64 0, .int .i64 0, .slice none 0 0, .int .i64 0, .int .i64 0, .slice none 0 0] 29)) Bc113)).mono ?_
              rintro e wc114 ⟨ia2, ic2, pa2, pc2, nT, hnT, rfl, hSF, hbc114⟩
              have Bc114 : Below wr.heap.size wr wc114 := below_thru Bc113 hbc114
              have hSc114 := kS _ Bc114
              refine hK.out _ _ hSc114 ?_
              intro hSd114
              clear hK K
              try simp only [Act.put, sIB, sZB, sSB]
              refine wpAnyH_take (i := 8) (v := ?tv115) rfl (by kernel_rfl) (by kernel_rfl) (by kernel_rfl) (fun _ _ _ h => h) (Or.inl ⟨by rfl, ?th115⟩) (by assumption) ?tr115
              case th115 => (intro w hSw; (try dsimp only at hSw); go_simp; try with_reducible rfl)
              try simp only [Act.put, sIB, sZB, sSB]
              refine wpAnyH_take (i := 9) (v := ?tv116) rfl (by kernel_rfl) (by kernel_rfl) (by kernel_rfl) (fun _ _ _ h => h) (Or.inl ⟨by rfl, ?th116⟩) (by assumption) ?tr116
              case th116 => (intro w hSw; (try dsimp only at hSw); go_simp; try with_reducible rfl)
              try simp only [Act.put, sIB, sZB, sSB]
              refine wpAnyH_take (i := 10) (v := ?tv117) rfl (by kernel_rfl) (by kernel_rfl) (by kernel_rfl) (fun _ _ _ h => h) (Or.inl ⟨by rfl, ?th117⟩) (by assumption) ?tr117
              case th117 => (intro w hSw; (try dsimp only at hSw); go_simp; try with_reducible rfl)
              try simp only [Act.put, sIB, sZB, sSB]
              have zd : wr.drew.heap.size = wr.heap.size := rfl
              have zz6 := Below.size hbc107
              have zz7 : (wc107.alloc (.cells #[.int .i64 0, .int .i64 0, .int .i64 0, .int .i64 0, .int .i64 0, .int .i64 0, .int .i64 0, .int .i64 0, .slice none 0 0, .int .i64 0, .int .i64 0, .slice none 0 0] 29)).heap.size = wc107.heap.size + 1 := by simp
              have zz8 := Below.size hbc114
              have hnT1 := hnT.out.1
              have hnT2 := hnT.out.2
              have T15 : TB 29 wc114 wc107.heap.size #[.int .i64 0, .int .i64 0, .int .i64 0, .int .i64 0, .int .i64 0, .int .i64 0, .int .i64 0, .int .i64 0, .slice none 0 0, .int .i64 0, .int .i64 0, .slice none 0 0] := ((TB.new2 (w := wc107) (by first | rfl | (simp; done))).later hbc114)
              have HBl : Below wr.heap.size wr wc114 := Bc114
              have FQ : Fr (fun b => b = wc107.heap.size) wc114 wc114 := Fr.of_below (Below.refl _ _)
              have hOq : ∀ b, (fun b => b = wc107.heap.size) b → b < nT ∨ wc114.heap.size ≤ b := fun b e => by have e2 : b = wc107.heap.size := e; omega
              have hw15 : wr.heap.size ≤ wc107.heap.size := by have := Below.size (show Below wr.heap.size wr wc107 from Bc107); omega
              have hne11 : ¬ wc107.heap.size = wn.heap.size := by omega
              clear hnT1 zd zz6 zz7 zz8
              generalize wc114 = wq at *
              have xq := fun j => T15.cell j
              have zq := fun j => T15.frozen j
              have lq := T15.lt
              refine wpAnyH_ready (rs := [12]) (by kernel_rfl) (by simp) ?_
              refine AllReadyH.cons rfl (fun K hK => ?_) AllReadyH.nil
              go_simp
              have hB12 : Below wr.heap.size wr ((((((((((((wq.setCell ⟨wc107.heap.size, 0, none⟩ (.int .i64 s1.clock)).setCell ⟨wc107.heap.size, 1, none⟩ (.int .i64 s1.cas)).setCell ⟨wc107.heap.size, 2, none⟩ (.int .i64 s1.uses)).setCell ⟨wc107.heap.size, 3, none⟩ (.int .i64 s1.most)).setCell ⟨wc107.heap.size, 4, none⟩ (.int .i64 s1.h0)).setCell ⟨wc107.heap.size, 5, none⟩ (.int .i64 s1.h1)).setCell ⟨wc107.heap.size, 6, none⟩ (.int .i64 s1.h2)).setCell ⟨wc107.heap.size, 7, none⟩ (.int .i64 s1.h3)).setCell ⟨wc107.heap.size, 8, none⟩ (.slice ia2 s1.items.length ic2)).setCell ⟨wc107.heap.size, 9, none⟩ (.int .i64 s1.fm)).setCell ⟨wc107.heap.size, 10, none⟩ (.int .i64 s1.fx)).setCell ⟨wc107.heap.size, 11, none⟩ (.slice pa2 s1.pages.length pc2)) := by
               iterate 12 refine below_st ?_ _ hw15
               exact HBl
              refine hK.out _ _ (kS _ hB12) ?_
              intro hSz5
              clear hK K
              try simp only [Act.put, sIB, sZB, sSB]
              refine wpAnyH_take (i := 13) (v := ?tv9005) rfl (by kernel_rfl) (by kernel_rfl) (by kernel_rfl) (fun _ _ _ h => h) (Or.inl ⟨by rfl, ?th9005⟩) (by assumption) ?tr9005
              case th9005 => (intro w hSw; (try dsimp only at hSw); go_simp; try with_reducible rfl)
              try simp only [Act.put, sIB, sZB, sSB]
              refine wpAnyH_done (by kernel_rfl) ?_ _
              refine ⟨wc107.heap.size, ia2, ic2, pa2, pc2, _, _, _, _, _, _, _, _, _, _, _, rfl, twelve_set wq wc107.heap.size T15, hw15, hB12, ?_⟩
              exact StoreFrom.fr hSF (((((((((((((FQ.set 0 _ (Or.inl rfl)).set 1 _ (Or.inl rfl)).set 2 _ (Or.inl rfl)).set 3 _ (Or.inl rfl)).set 4 _ (Or.inl rfl)).set 5 _ (Or.inl rfl)).set 6 _ (Or.inl rfl)).set 7 _ (Or.inl rfl)).set 8 _ (Or.inl rfl)).set 9 _ (Or.inl rfl)).set 10 _ (Or.inl rfl)).set 11 _ (Or.inl rfl))) hOq hnT2
          · go_simp
            have Bc118 := below_al (Below.drew (Below.refl wr.heap.size wr)) (.cells #[.int .i64 0, .int .i64 0, .int .i64 0, .int .i64 0, .int .i64 0, .int .i64 0, .int .i64 0, .int .i64 0, .slice none 0 0, .int .i64 0, .int .i64 0, .slice none 0 0] 29)
            have hSc118 := kS _ Bc118
            refine hK.out _ _ hSc118 ?_
            intro hSd118
            clear hK K
            try simp only [Act.put, sIB, sZB, sSB]
            refine wpAnyH_ready (rs := [6]) (by kernel_rfl) (by simp) ?_
            refine AllReadyH.cons rfl (fun K hK => ?_) AllReadyH.nil
            go_simp
            refine ((pickB r.a 9 (wr.drew.alloc (.cells #[.int .i64 0, .int .i64 0, .int .i64 0, .int .i64 0, .int .i64 0, .int .i64 0, .int .i64 0, .int .i64 0, .slice none 0 0, .int .i64 0, .int .i64 0, .slice none 0 0] 29)) ha0 ha1 (by decide) (by decide))).mono ?_
            rintro e wc119 ⟨rfl, hbc119⟩
            have Bc119 : Below wr.heap.size wr wc119 := below_thru Bc118 hbc119
            have hSc119 := kS _ Bc119
            refine hK.out _ _ hSc119 ?_
            intro hSd119
            clear hK K
            try simp only [Act.put, sIB, sZB, sSB]
            refine wpAnyH_ready (rs := [7]) (by kernel_rfl) (by simp) ?_
            refine AllReadyH.cons rfl (fun K hK => ?_) AllReadyH.nil
            go_simp
            refine ((hTick wc119 Bc119)).mono ?_
            rintro e wc120 ⟨ia2, ic2, pa2, pc2, nT, hnT, rfl, hSF, hbc120⟩
            have Bc120 : Below wr.heap.size wr wc120 := below_thru Bc119 hbc120
            have hSc120 := kS _ Bc120
            refine hK.out _ _ hSc120 ?_
            intro hSd120
            clear hK K
            try simp only [Act.put, sIB, sZB, sSB]
            refine wpAnyH_take (i := 8) (v := ?tv121) rfl (by kernel_rfl) (by kernel_rfl) (by kernel_rfl) (fun _ _ _ h => h) (Or.inl ⟨by rfl, ?th121⟩) (by assumption) ?tr121
            case th121 => (intro w hSw; (try dsimp only at hSw); go_simp; try with_reducible rfl)
            try simp only [Act.put, sIB, sZB, sSB]
            refine wpAnyH_take (i := 9) (v := ?tv122) rfl (by kernel_rfl) (by kernel_rfl) (by kernel_rfl) (fun _ _ _ h => h) (Or.inl ⟨by rfl, ?th122⟩) (by assumption) ?tr122
            case th122 => (intro w hSw; (try dsimp only at hSw); go_simp; try with_reducible rfl)
            try simp only [Act.put, sIB, sZB, sSB]
            refine wpAnyH_take (i := 10) (v := ?tv123) rfl (by kernel_rfl) (by kernel_rfl) (by kernel_rfl) (fun _ _ _ h => h) (Or.inl ⟨by rfl, ?th123⟩) (by assumption) ?tr123
            case th123 => (intro w hSw; (try dsimp only at hSw); go_simp; try with_reducible rfl)
            try simp only [Act.put, sIB, sZB, sSB]
            have zd : wr.drew.heap.size = wr.heap.size := rfl
            have zz10 : (wr.drew.alloc (.cells #[.int .i64 0, .int .i64 0, .int .i64 0, .int .i64 0, .int .i64 0, .int .i64 0, .int .i64 0, .int .i64 0, .slice none 0 0, .int .i64 0, .int .i64 0, .slice none 0 0] 29)).heap.size = wr.drew.heap.size + 1 := by simp
            have zz11 := Below.size hbc119
            have zz12 := Below.size hbc120
            have hnT1 := hnT.out.1
            have hnT2 := hnT.out.2
            have T15 : TB 29 wc120 wr.heap.size #[.int .i64 0, .int .i64 0, .int .i64 0, .int .i64 0, .int .i64 0, .int .i64 0, .int .i64 0, .int .i64 0, .slice none 0 0, .int .i64 0, .int .i64 0, .slice none 0 0] := (((TB.new2 (w := wr.drew) (by first | rfl | (simp; done))).later hbc119).later hbc120)
            have HBl : Below wr.heap.size wr wc120 := Bc120
            have FQ : Fr (fun b => b = wr.heap.size) wc120 wc120 := Fr.of_below (Below.refl _ _)
            have hOq : ∀ b, (fun b => b = wr.heap.size) b → b < nT ∨ wc120.heap.size ≤ b := fun b e => by have e2 : b = wr.heap.size := e; omega
            have hw15 : wr.heap.size ≤ wr.heap.size := by have := Below.size (show Below wr.heap.size wr wr.drew from (Below.drew (Below.refl wr.heap.size wr))); omega
            have hne11 : ¬ wr.heap.size = wn.heap.size := by omega
            clear hnT1 zd zz10 zz11 zz12
            generalize wc120 = wq at *
            have xq := fun j => T15.cell j
            have zq := fun j => T15.frozen j
            have lq := T15.lt
            refine wpAnyH_ready (rs := [12]) (by kernel_rfl) (by simp) ?_
            refine AllReadyH.cons rfl (fun K hK => ?_) AllReadyH.nil
            go_simp
            have hB12 : Below wr.heap.size wr ((((((((((((wq.setCell ⟨wr.heap.size, 0, none⟩ (.int .i64 s1.clock)).setCell ⟨wr.heap.size, 1, none⟩ (.int .i64 s1.cas)).setCell ⟨wr.heap.size, 2, none⟩ (.int .i64 s1.uses)).setCell ⟨wr.heap.size, 3, none⟩ (.int .i64 s1.most)).setCell ⟨wr.heap.size, 4, none⟩ (.int .i64 s1.h0)).setCell ⟨wr.heap.size, 5, none⟩ (.int .i64 s1.h1)).setCell ⟨wr.heap.size, 6, none⟩ (.int .i64 s1.h2)).setCell ⟨wr.heap.size, 7, none⟩ (.int .i64 s1.h3)).setCell ⟨wr.heap.size, 8, none⟩ (.slice ia2 s1.items.length ic2)).setCell ⟨wr.heap.size, 9, none⟩ (.int .i64 s1.fm)).setCell ⟨wr.heap.size, 10, none⟩ (.int .i64 s1.fx)).setCell ⟨wr.heap.size, 11, none⟩ (.slice pa2 s1.pages.length pc2)) := by
             iterate 12 refine below_st ?_ _ hw15
             exact HBl
            refine hK.out _ _ (kS _ hB12) ?_
            intro hSz9
            clear hK K
            try simp only [Act.put, sIB, sZB, sSB]
            refine wpAnyH_take (i := 13) (v := ?tv9009) rfl (by kernel_rfl) (by kernel_rfl) (by kernel_rfl) (fun _ _ _ h => h) (Or.inl ⟨by rfl, ?th9009⟩) (by assumption) ?tr9009
            case th9009 => (intro w hSw; (try dsimp only at hSw); go_simp; try with_reducible rfl)
            try simp only [Act.put, sIB, sZB, sSB]
            refine wpAnyH_done (by kernel_rfl) ?_ _
            refine ⟨wr.heap.size, ia2, ic2, pa2, pc2, _, _, _, _, _, _, _, _, _, _, _, rfl, twelve_set wq wr.heap.size T15, hw15, hB12, ?_⟩
            exact StoreFrom.fr hSF (((((((((((((FQ.set 0 _ (Or.inl rfl)).set 1 _ (Or.inl rfl)).set 2 _ (Or.inl rfl)).set 3 _ (Or.inl rfl)).set 4 _ (Or.inl rfl)).set 5 _ (Or.inl rfl)).set 6 _ (Or.inl rfl)).set 7 _ (Or.inl rfl)).set 8 _ (Or.inl rfl)).set 9 _ (Or.inl rfl)).set 10 _ (Or.inl rfl)).set 11 _ (Or.inl rfl))) hOq hnT2
        · rintro a' wx ⟨b, ib, id, pb, pd, j0, j1, j2, j3, j4, j5, j6, j7, j8, j9, j10, rfl, T15, hb1, Bx, hSF⟩
          try simp only [Act.put, sIB, sZB, sSB]
          have x15 := fun j => T15.cell j
          have l15 := T15.lt
          have V11 := T11wr.later Bx
          have z11 := fun j => V11.frozen j
          have y11 := fun j => V11.cell j
          have m11 := V11.lt
          have hne15 : ¬ b = wn.heap.size := by omega
          have hne15' : ¬ wn.heap.size = b := by omega
          have hwn := HWN.out
          have hW0 := HW0.out
          have HT11 : Hid (TB 29 ((((((((((((wx.setCell ⟨wn.heap.size, 0, none⟩ (.int .i64 s1.clock)).setCell ⟨wn.heap.size, 1, none⟩ (.int .i64 s1.cas)).setCell ⟨wn.heap.size, 2, none⟩ (.int .i64 s1.uses)).setCell ⟨wn.heap.size, 3, none⟩ (.int .i64 s1.most)).setCell ⟨wn.heap.size, 4, none⟩ (.int .i64 s1.h0)).setCell ⟨wn.heap.size, 5, none⟩ (.int .i64 s1.h1)).setCell ⟨wn.heap.size, 6, none⟩ (.int .i64 s1.h2)).setCell ⟨wn.heap.size, 7, none⟩ (.int .i64 s1.h3)).setCell ⟨wn.heap.size, 8, none⟩ (.slice ib s1.items.length id)).setCell ⟨wn.heap.size, 9, none⟩ (.int .i64 s1.fm)).setCell ⟨wn.heap.size, 10, none⟩ (.int .i64 s1.fx)).setCell ⟨wn.heap.size, 11, none⟩ (.slice pb s1.pages.length pd)) wn.heap.size #[.int .i64 s1.clock, .int .i64 s1.cas, .int .i64 s1.uses, .int .i64 s1.most, .int .i64 s1.h0, .int .i64 s1.h1, .int .i64 s1.h2, .int .i64 s1.h3, .slice ib s1.items.length id, .int .i64 s1.fm, .int .i64 s1.fx, .slice pb s1.pages.length pd]) := twelve_set wx wn.heap.size V11
          have hkb : ∀ b, b ≠ wn.heap.size → (((((((((((((wx.setCell ⟨wn.heap.size, 0, none⟩ (.int .i64 s1.clock)).setCell ⟨wn.heap.size, 1, none⟩ (.int .i64 s1.cas)).setCell ⟨wn.heap.size, 2, none⟩ (.int .i64 s1.uses)).setCell ⟨wn.heap.size, 3, none⟩ (.int .i64 s1.most)).setCell ⟨wn.heap.size, 4, none⟩ (.int .i64 s1.h0)).setCell ⟨wn.heap.size, 5, none⟩ (.int .i64 s1.h1)).setCell ⟨wn.heap.size, 6, none⟩ (.int .i64 s1.h2)).setCell ⟨wn.heap.size, 7, none⟩ (.int .i64 s1.h3)).setCell ⟨wn.heap.size, 8, none⟩ (.slice ib s1.items.length id)).setCell ⟨wn.heap.size, 9, none⟩ (.int .i64 s1.fm)).setCell ⟨wn.heap.size, 10, none⟩ (.int .i64 s1.fx)).setCell ⟨wn.heap.size, 11, none⟩ (.slice pb s1.pages.length pd))).heap[b]? = wx.heap[b]? := fun b hb => by
           iterate 12 rw [heap_setCell_other _ _ _ _ (show b ≠ wn.heap.size from hb)]
          have hksz : (((((((((((((wx.setCell ⟨wn.heap.size, 0, none⟩ (.int .i64 s1.clock)).setCell ⟨wn.heap.size, 1, none⟩ (.int .i64 s1.cas)).setCell ⟨wn.heap.size, 2, none⟩ (.int .i64 s1.uses)).setCell ⟨wn.heap.size, 3, none⟩ (.int .i64 s1.most)).setCell ⟨wn.heap.size, 4, none⟩ (.int .i64 s1.h0)).setCell ⟨wn.heap.size, 5, none⟩ (.int .i64 s1.h1)).setCell ⟨wn.heap.size, 6, none⟩ (.int .i64 s1.h2)).setCell ⟨wn.heap.size, 7, none⟩ (.int .i64 s1.h3)).setCell ⟨wn.heap.size, 8, none⟩ (.slice ib s1.items.length id)).setCell ⟨wn.heap.size, 9, none⟩ (.int .i64 s1.fm)).setCell ⟨wn.heap.size, 10, none⟩ (.int .i64 s1.fx)).setCell ⟨wn.heap.size, 11, none⟩ (.slice pb s1.pages.length pd))).heap.size = wx.heap.size := by simp [World.setCell]
          have HSI : Hid (StoreIn ((((((((((((wx.setCell ⟨wn.heap.size, 0, none⟩ (.int .i64 s1.clock)).setCell ⟨wn.heap.size, 1, none⟩ (.int .i64 s1.cas)).setCell ⟨wn.heap.size, 2, none⟩ (.int .i64 s1.uses)).setCell ⟨wn.heap.size, 3, none⟩ (.int .i64 s1.most)).setCell ⟨wn.heap.size, 4, none⟩ (.int .i64 s1.h0)).setCell ⟨wn.heap.size, 5, none⟩ (.int .i64 s1.h1)).setCell ⟨wn.heap.size, 6, none⟩ (.int .i64 s1.h2)).setCell ⟨wn.heap.size, 7, none⟩ (.int .i64 s1.h3)).setCell ⟨wn.heap.size, 8, none⟩ (.slice ib s1.items.length id)).setCell ⟨wn.heap.size, 9, none⟩ (.int .i64 s1.fm)).setCell ⟨wn.heap.size, 10, none⟩ (.int .i64 s1.fx)).setCell ⟨wn.heap.size, 11, none⟩ (.slice pb s1.pages.length pd)) s1 ib pb) := hSF _ (by rw [hksz]; exact Nat.le_refl _) (fun b hb hl => hkb b (by omega))
          have HRo : Hid (OutR W0.heap.size ((((((((((((wx.setCell ⟨wn.heap.size, 0, none⟩ (.int .i64 s1.clock)).setCell ⟨wn.heap.size, 1, none⟩ (.int .i64 s1.cas)).setCell ⟨wn.heap.size, 2, none⟩ (.int .i64 s1.uses)).setCell ⟨wn.heap.size, 3, none⟩ (.int .i64 s1.most)).setCell ⟨wn.heap.size, 4, none⟩ (.int .i64 s1.h0)).setCell ⟨wn.heap.size, 5, none⟩ (.int .i64 s1.h1)).setCell ⟨wn.heap.size, 6, none⟩ (.int .i64 s1.h2)).setCell ⟨wn.heap.size, 7, none⟩ (.int .i64 s1.h3)).setCell ⟨wn.heap.size, 8, none⟩ (.slice ib s1.items.length id)).setCell ⟨wn.heap.size, 9, none⟩ (.int .i64 s1.fm)).setCell ⟨wn.heap.size, 10, none⟩ (.int .i64 s1.fx)).setCell ⟨wn.heap.size, 11, none⟩ (.slice pb s1.pages.length pd)) uo k) := (hRowwr.later Bx).kept fun g hg => hkb g (by have := (hRowwr.lt hg).1; omega)
          have HT8 : Hid (TB 29 ((((((((((((wx.setCell ⟨wn.heap.size, 0, none⟩ (.int .i64 s1.clock)).setCell ⟨wn.heap.size, 1, none⟩ (.int .i64 s1.cas)).setCell ⟨wn.heap.size, 2, none⟩ (.int .i64 s1.uses)).setCell ⟨wn.heap.size, 3, none⟩ (.int .i64 s1.most)).setCell ⟨wn.heap.size, 4, none⟩ (.int .i64 s1.h0)).setCell ⟨wn.heap.size, 5, none⟩ (.int .i64 s1.h1)).setCell ⟨wn.heap.size, 6, none⟩ (.int .i64 s1.h2)).setCell ⟨wn.heap.size, 7, none⟩ (.int .i64 s1.h3)).setCell ⟨wn.heap.size, 8, none⟩ (.slice ib s1.items.length id)).setCell ⟨wn.heap.size, 9, none⟩ (.int .i64 s1.fm)).setCell ⟨wn.heap.size, 10, none⟩ (.int .i64 s1.fx)).setCell ⟨wn.heap.size, 11, none⟩ (.slice pb s1.pages.length pd)) w.heap.size #[.int .i64 0, .int .i64 0, .int .i64 0, .int .i64 0, .int .i64 0, .int .i64 0, .int .i64 0, .int .i64 0, .slice none 0 0, .int .i64 0, .int .i64 0, .slice none 0 0]) := by
           iterate 12 refine TB.far ?_ ⟨wn.heap.size, _, none⟩ _ (show w.heap.size ≠ wn.heap.size by omega)
           exact T8wr.later Bx
          have HBY : Hid (Below w.heap.size w ((((((((((((wx.setCell ⟨wn.heap.size, 0, none⟩ (.int .i64 s1.clock)).setCell ⟨wn.heap.size, 1, none⟩ (.int .i64 s1.cas)).setCell ⟨wn.heap.size, 2, none⟩ (.int .i64 s1.uses)).setCell ⟨wn.heap.size, 3, none⟩ (.int .i64 s1.most)).setCell ⟨wn.heap.size, 4, none⟩ (.int .i64 s1.h0)).setCell ⟨wn.heap.size, 5, none⟩ (.int .i64 s1.h1)).setCell ⟨wn.heap.size, 6, none⟩ (.int .i64 s1.h2)).setCell ⟨wn.heap.size, 7, none⟩ (.int .i64 s1.h3)).setCell ⟨wn.heap.size, 8, none⟩ (.slice ib s1.items.length id)).setCell ⟨wn.heap.size, 9, none⟩ (.int .i64 s1.fm)).setCell ⟨wn.heap.size, 10, none⟩ (.int .i64 s1.fx)).setCell ⟨wn.heap.size, 11, none⟩ (.slice pb s1.pages.length pd))) := by
           iterate 12 refine below_st ?_ _ (show w.heap.size ≤ wn.heap.size by omega)
           exact Bwr.trans (Bx.mono Bwr.size)
          have HSZ : Hid (W0.heap.size ≤ (((((((((((((wx.setCell ⟨wn.heap.size, 0, none⟩ (.int .i64 s1.clock)).setCell ⟨wn.heap.size, 1, none⟩ (.int .i64 s1.cas)).setCell ⟨wn.heap.size, 2, none⟩ (.int .i64 s1.uses)).setCell ⟨wn.heap.size, 3, none⟩ (.int .i64 s1.most)).setCell ⟨wn.heap.size, 4, none⟩ (.int .i64 s1.h0)).setCell ⟨wn.heap.size, 5, none⟩ (.int .i64 s1.h1)).setCell ⟨wn.heap.size, 6, none⟩ (.int .i64 s1.h2)).setCell ⟨wn.heap.size, 7, none⟩ (.int .i64 s1.h3)).setCell ⟨wn.heap.size, 8, none⟩ (.slice ib s1.items.length id)).setCell ⟨wn.heap.size, 9, none⟩ (.int .i64 s1.fm)).setCell ⟨wn.heap.size, 10, none⟩ (.int .i64 s1.fx)).setCell ⟨wn.heap.size, 11, none⟩ (.slice pb s1.pages.length pd))).heap.size) := by show _ ≤ _; rw [hksz]; exact Nat.le_trans hSzwr Bx.size
          clear hkb hksz V11 T15 hSF Bx hTick kS x11 l11 T11wr hSIr hRowwr T8wr Bwr hSzwr c0 c1 c2 c3 rbl hW0 hwn hSFr hgs
          go_wp2_with fail
          refine ⟨ib, id, pb, pd, j0, j1, j2, j3, j4, j5, j6, j7, j8, j9, j10, .pointer (some ⟨b, 0, none⟩), .int .i64 0, .int .i64 0, .bool false, .agg #[.int .i64 s1.clock, .int .i64 s1.cas, .int .i64 s1.uses, .int .i64 s1.most, .int .i64 s1.h0, .int .i64 s1.h1, .int .i64 s1.h2, .int .i64 s1.h3, .slice ib s1.items.length id, .int .i64 s1.fm, .int .i64 s1.fx, .slice pb s1.pages.length pd], ?_, HT11.out, HSI.out, HRo.out, HT8.out, HBY.out, HSZ.out⟩
          simp only [Act.put, sIB, sZB, sSB, hb6]
      · have hb6 : (pickN (r.k.tdiv 7) 6 == 0) = false := by unfold tickB at htb; simpa using htb
        have hs1 : s1 = s := by rw [← HS1.out]; exact if_neg htb
        clear HS1
        subst hs1
        go_wp2_with fail
        exact ⟨ia, ic, pa, pc, u47, u48, u49, u50, u51, u52, u53, u54, u46, u55, u56, u15, u16, u57, u58, u61, by simp only [Act.put, sIB, sZB, sSB, hb6], T11wr, hSIr, hRowwr, T8wr, Bwr, hSzwr⟩
    · rintro a' wr2 ⟨ib, id, pb, pd, j0, j1, j2, j3, j4, j5, j6, j7, j8, j9, j10, j11, j12, j13, j14, j15, rfl, T11wr2, hSIwr2, hRowwr2, T8wr2, Bwr2, hSzwr2⟩
      try simp only [Act.put, sIB, sZB, sSB]
      have hA := HA.out
      have hplayE := HPE.out
      clear hSFr hSIr hRowwr T8wr Bwr hSzwr T11wr c0 c1 c2 c3 rbl hgs HS1
      obtain ⟨c0, c1, c2, c3⟩ := hRk.later rbl0 Bwr2
      have rbl : rb < wr2.heap.size := Nat.lt_of_lt_of_le rbl0 Bwr2.size
      have hne := HWN.out
      have l11 := T11wr2.lt
      have x11 := fun j => T11wr2.cell j
      have hDo : ∀ wx, Below wr2.heap.size wr2 wx → ∀ ka kc, StrsAt wx ka q.keys.length q.keys → Calls Tryz.prog 16 #[.agg #[.int .i64 s1.clock, .int .i64 s1.cas, .int .i64 s1.uses, .int .i64 s1.most, .int .i64 s1.h0, .int .i64 s1.h1, .int .i64 s1.h2, .int .i64 s1.h3, .slice ib s1.items.length id, .int .i64 s1.fm, .int .i64 s1.fx, .slice pb s1.pages.length pd], .agg #[.int .i64 q.kind, .string q.key, .slice ka q.keys.length kc, .int .i64 q.flags, .int .i64 q.exp, .int .i64 q.nn, .string q.value, .bool q.quiet]] wx fun e w' => ∃ ia2 ic2 pa2 pc2 ha hc nT, Hid (nT = wx.heap.size ∧ wr2.heap.size ≤ nT) ∧ e = .returned (.tuple #[.agg #[.int .i64 A.1.clock, .int .i64 A.1.cas, .int .i64 A.1.uses, .int .i64 A.1.most, .int .i64 A.1.h0, .int .i64 A.1.h1, .int .i64 A.1.h2, .int .i64 A.1.h3, .slice ia2 A.1.items.length ic2, .int .i64 A.1.fm, .int .i64 A.1.fx, .slice pa2 A.1.pages.length pc2], .agg #[.int .i64 A.2.1, .int .i64 A.2.2.1, .slice ha A.2.2.2.length hc], .int .i64 0]) ∧ StoreFrom nT w' A.1 ia2 pa2 ∧ Below wx.heap.size wx w' := fun wx hx ka kc hK => by
       have hz := Bwr2.trans (hx.mono Bwr2.size)
       refine (do_any s1 ib id pb pd q ka kc wx (hSIwr2.later hx) hgd1 hqf hus1 (hL.later hz) (hT.later hz) hK).mono ?_
       rintro e w' ⟨ia2, ic2, pa2, pc2, hv, rfl, h1, h2, h3⟩
       obtain ⟨ha, hc, rfl⟩ := h2.form
       rw [hA] at h1 h2
       exact ⟨ia2, ic2, pa2, pc2, ha, hc, wx.heap.size, ⟨rfl, hx.size⟩, by rw [hA]; rfl, h1, h3⟩
      have kS : ∀ wx, Below wr2.heap.size wr2 wx → (fun wx : World => (∀ j, wx.cell? ⟨wn.heap.size, j, none⟩ = (#[.int .i64 s1.clock, .int .i64 s1.cas, .int .i64 s1.uses, .int .i64 s1.most, .int .i64 s1.h0, .int .i64 s1.h1, .int .i64 s1.h2, .int .i64 s1.h3, .slice ib s1.items.length id, .int .i64 s1.fm, .int .i64 s1.fx, .slice pb s1.pages.length pd] : Array Value)[j]?) ∧ wx.cell? ⟨rb, ro + k * 4, none⟩ = some (.int .i64 r.k) ∧ wx.cell? ⟨rb, ro + k * 4 + 1, none⟩ = some (.int .i64 r.a) ∧ wx.cell? ⟨rb, ro + k * 4 + 2, none⟩ = some (.int .i64 r.b) ∧ wx.cell? ⟨rb, ro + k * 4 + 3, none⟩ = some (.int .i64 r.c)) wx := fun wx hx => ⟨fun j => by rw [hx.cell (p := ⟨wn.heap.size, j, none⟩) l11]; exact x11 j, by rw [hx.cell (p := ⟨rb, ro + k * 4, none⟩) rbl]; exact c0, by rw [hx.cell (p := ⟨rb, ro + k * 4 + 1, none⟩) rbl]; exact c1, by rw [hx.cell (p := ⟨rb, ro + k * 4 + 2, none⟩) rbl]; exact c2, by rw [hx.cell (p := ⟨rb, ro + k * 4 + 3, none⟩) rbl]; exact c3⟩
      go_wp2_with fail
      refine region_rel2 (fun a a' wx => ∃ (b c : Nat) (ia2 : Option Addr) (ic2 : Nat) (pa2 : Option Addr) (pc2 : Nat) (ha : Option Addr) (hc : Nat) (j0 j1 j2 j3 j4 j5 j6 j7 j8 j9 j10 : Value), a' = ((((((((((((((a.put (some 63) j0).put (some 64) j1).put (some 65) j2).put (some 66) j3).put (some 67) j4).put (some 68) j5).put (some 69) j6).put (some 62) j7).put (some 70) j8).put (some 71) j9).put (some 72) j10).put (some 17) (.pointer (some ⟨b, 0, none⟩))).put (some 18) (.pointer (some ⟨c, 0, none⟩))).put (some 19) (.int .i64 0)) ∧ TB 29 wx b #[.int .i64 A.1.clock, .int .i64 A.1.cas, .int .i64 A.1.uses, .int .i64 A.1.most, .int .i64 A.1.h0, .int .i64 A.1.h1, .int .i64 A.1.h2, .int .i64 A.1.h3, .slice ia2 A.1.items.length ic2, .int .i64 A.1.fm, .int .i64 A.1.fx, .slice pa2 A.1.pages.length pc2] ∧ TB 42 wx c #[.int .i64 A.2.1, .int .i64 A.2.2.1, .slice ha A.2.2.2.length hc] ∧ wr2.heap.size ≤ b ∧ wr2.heap.size ≤ c ∧ Below wr2.heap.size wr2 wx ∧ StoreFrom wr2.heap.size wx A.1 ia2 pa2) ?_ ?_
      · refine wp_region_held_drew (S := (fun wx : World => (∀ j, wx.cell? ⟨wn.heap.size, j, none⟩ = (#[.int .i64 s1.clock, .int .i64 s1.cas, .int .i64 s1.uses, .int .i64 s1.most, .int .i64 s1.h0, .int .i64 s1.h1, .int .i64 s1.h2, .int .i64 s1.h3, .slice ib s1.items.length id, .int .i64 s1.fm, .int .i64 s1.fx, .slice pb s1.pages.length pd] : Array Value)[j]?) ∧ wx.cell? ⟨rb, ro + k * 4, none⟩ = some (.int .i64 r.k) ∧ wx.cell? ⟨rb, ro + k * 4 + 1, none⟩ = some (.int .i64 r.a) ∧ wx.cell? ⟨rb, ro + k * 4 + 2, none⟩ = some (.int .i64 r.b) ∧ wx.cell? ⟨rb, ro + k * 4 + 3, none⟩ = some (.int .i64 r.c))) (by kernel_rfl) (kS _ (Below.drew (Below.refl wr2.heap.size wr2))) (fun hS0 => ?_)
        try simp only [sIB, sZB, sSB]
        refine wpAnyH_take (i := 0) (v := ?tv201) rfl (by kernel_rfl) (by kernel_rfl) (by kernel_rfl) (fun _ _ _ h => h) (Or.inl ⟨by rfl, ?th201⟩) (by assumption) ?tr201
        case th201 => (intro w hSw; (try dsimp only at hSw); go_simp; try with_reducible rfl)
        try simp only [Act.put, sIB, sZB, sSB]
        refine wpAnyH_take (i := 1) (v := ?tv202) rfl (by kernel_rfl) (by kernel_rfl) (by kernel_rfl) (fun _ _ _ h => h) (Or.inl ⟨by rfl, ?th202⟩) (by assumption) ?tr202
        case th202 => (intro w hSw; (try dsimp only at hSw); go_simp; try with_reducible rfl)
        try simp only [Act.put, sIB, sZB, sSB]
        refine wpAnyH_take (i := 2) (v := ?tv203) rfl (by kernel_rfl) (by kernel_rfl) (by kernel_rfl) (fun _ _ _ h => h) (Or.inl ⟨by rfl, ?th203⟩) (by assumption) ?tr203
        case th203 => (intro w hSw; (try dsimp only at hSw); go_simp; try with_reducible rfl)
        try simp only [Act.put, sIB, sZB, sSB]
        refine wpAnyH_take (i := 3) (v := ?tv204) rfl (by kernel_rfl) (by kernel_rfl) (by kernel_rfl) (fun _ _ _ h => h) (Or.inl ⟨by rfl, ?th204⟩) (by assumption) ?tr204
        case th204 => (intro w hSw; (try dsimp only at hSw); go_simp; try with_reducible rfl)
        try simp only [Act.put, sIB, sZB, sSB]
        refine wpAnyH_take (i := 4) (v := ?tv205) rfl (by kernel_rfl) (by kernel_rfl) (by kernel_rfl) (fun _ _ _ h => h) (Or.inl ⟨by rfl, ?th205⟩) (by assumption) ?tr205
        case th205 => (intro w hSw; (try dsimp only at hSw); go_simp; try with_reducible rfl)
        try simp only [Act.put, sIB, sZB, sSB]
        refine wpAnyH_ready (rs := [5, 11, 12]) (by kernel_rfl) (by simp) ?_
        refine AllReadyH.cons rfl (fun K hK => ?_) (AllReadyH.cons rfl (fun K hK => ?_) (AllReadyH.cons rfl (fun K hK => ?_) AllReadyH.nil))
        · go_simp
          refine ((hReq wr2.drew)).mono ?_
          rintro e wc206 ⟨ka, kc, rfl, hKs, hbc206⟩
          have Bc206 : Below wr2.heap.size wr2 wc206 := below_thru (Below.drew (Below.refl wr2.heap.size wr2)) hbc206
          have hSc206 := kS _ Bc206
          refine hK.out _ _ hSc206 ?_
          intro hSd206
          clear hK K
          try simp only [Act.put, sIB, sZB, sSB]
          refine wpAnyH_ready (rs := [6, 11, 12]) (by kernel_rfl) (by simp) ?_
          refine AllReadyH.cons rfl (fun K hK => ?_) (AllReadyH.cons rfl (fun K hK => ?_) (AllReadyH.cons rfl (fun K hK => ?_) AllReadyH.nil))
          · go_simp
            refine ((hDo wc206 Bc206 _ _ hKs)).mono ?_
            rintro e wc207 ⟨ia2, ic2, pa2, pc2, ha, hc, nT, hnT, rfl, hSF, hbc207⟩
            have Bc207 : Below wr2.heap.size wr2 wc207 := below_thru Bc206 hbc207
            have hSc207 := kS _ Bc207
            refine hK.out _ _ hSc207 ?_
            intro hSd207
            clear hK K
            try simp only [Act.put, sIB, sZB, sSB]
            refine wpAnyH_take (i := 7) (v := ?tv208) rfl (by kernel_rfl) (by kernel_rfl) (by kernel_rfl) (fun _ _ _ h => h) (Or.inl ⟨by rfl, ?th208⟩) (by assumption) ?tr208
            case th208 => (intro w hSw; (try dsimp only at hSw); go_simp; try with_reducible rfl)
            try simp only [Act.put, sIB, sZB, sSB]
            refine wpAnyH_take (i := 8) (v := ?tv209) rfl (by kernel_rfl) (by kernel_rfl) (by kernel_rfl) (fun _ _ _ h => h) (Or.inl ⟨by rfl, ?th209⟩) (by assumption) ?tr209
            case th209 => (intro w hSw; (try dsimp only at hSw); go_simp; try with_reducible rfl)
            try simp only [Act.put, sIB, sZB, sSB]
            refine wpAnyH_take (i := 9) (v := ?tv210) rfl (by kernel_rfl) (by kernel_rfl) (by kernel_rfl) (fun _ _ _ h => h) (Or.inl ⟨by rfl, ?th210⟩) (by assumption) ?tr210
            case th210 => (intro w hSw; (try dsimp only at hSw); go_simp; try with_reducible rfl)
            try simp only [Act.put, sIB, sZB, sSB]
            refine wpAnyH_take (i := 10) (v := ?tv211) rfl (by kernel_rfl) (by kernel_rfl) (by kernel_rfl) (fun _ _ _ h => h) (Or.inl ⟨by rfl, ?th211⟩) (by assumption) ?tr211
            case th211 => (intro w hSw; (try dsimp only at hSw); go_simp; try with_reducible rfl)
            try simp only [Act.put, sIB, sZB, sSB]
            refine wpAnyH_ready (rs := [11, 12]) (by kernel_rfl) (by simp) ?_
            refine AllReadyH.cons rfl (fun K hK => ?_) (AllReadyH.cons rfl (fun K hK => ?_) AllReadyH.nil)
            · go_simp
              have Bc212 := below_al Bc207 (.cells #[.int .i64 0, .int .i64 0, .int .i64 0, .int .i64 0, .int .i64 0, .int .i64 0, .int .i64 0, .int .i64 0, .slice none 0 0, .int .i64 0, .int .i64 0, .slice none 0 0] 29)
              have hSc212 := kS _ Bc212
              refine hK.out _ _ hSc212 ?_
              intro hSd212
              clear hK K
              try simp only [Act.put, sIB, sZB, sSB]
              refine wpAnyH_ready (rs := [12]) (by kernel_rfl) (by simp) ?_
              refine AllReadyH.cons rfl (fun K hK => ?_) AllReadyH.nil
              go_simp
              have Bc213 := below_al Bc212 (.cells #[.int .i64 0, .int .i64 0, .slice none 0 0] 42)
              have hSc213 := kS _ Bc213
              refine hK.out _ _ hSc213 ?_
              intro hSd213
              clear hK K
              try simp only [Act.put, sIB, sZB, sSB]
              have zd : wr2.drew.heap.size = wr2.heap.size := rfl
              have zz14 := Below.size hbc206
              have zz15 := Below.size hbc207
              have zz16 : (wc207.alloc (.cells #[.int .i64 0, .int .i64 0, .int .i64 0, .int .i64 0, .int .i64 0, .int .i64 0, .int .i64 0, .int .i64 0, .slice none 0 0, .int .i64 0, .int .i64 0, .slice none 0 0] 29)).heap.size = wc207.heap.size + 1 := by simp
              have zz17 : ((wc207.alloc (.cells #[.int .i64 0, .int .i64 0, .int .i64 0, .int .i64 0, .int .i64 0, .int .i64 0, .int .i64 0, .int .i64 0, .slice none 0 0, .int .i64 0, .int .i64 0, .slice none 0 0] 29)).alloc (.cells #[.int .i64 0, .int .i64 0, .slice none 0 0] 42)).heap.size = (wc207.alloc (.cells #[.int .i64 0, .int .i64 0, .int .i64 0, .int .i64 0, .int .i64 0, .int .i64 0, .int .i64 0, .int .i64 0, .slice none 0 0, .int .i64 0, .int .i64 0, .slice none 0 0] 29)).heap.size + 1 := by simp
              have T17 : TB 29 ((wc207.alloc (.cells #[.int .i64 0, .int .i64 0, .int .i64 0, .int .i64 0, .int .i64 0, .int .i64 0, .int .i64 0, .int .i64 0, .slice none 0 0, .int .i64 0, .int .i64 0, .slice none 0 0] 29)).alloc (.cells #[.int .i64 0, .int .i64 0, .slice none 0 0] 42)) wc207.heap.size #[.int .i64 0, .int .i64 0, .int .i64 0, .int .i64 0, .int .i64 0, .int .i64 0, .int .i64 0, .int .i64 0, .slice none 0 0, .int .i64 0, .int .i64 0, .slice none 0 0] := ((TB.new2 (w := wc207) (by first | rfl | (simp; done))).alloc _)
              have T18 : TB 42 ((wc207.alloc (.cells #[.int .i64 0, .int .i64 0, .int .i64 0, .int .i64 0, .int .i64 0, .int .i64 0, .int .i64 0, .int .i64 0, .slice none 0 0, .int .i64 0, .int .i64 0, .slice none 0 0] 29)).alloc (.cells #[.int .i64 0, .int .i64 0, .slice none 0 0] 42)) (wc207.heap.size + 1) #[.int .i64 0, .int .i64 0, .slice none 0 0] := (TB.new2 (w := (wc207.alloc (.cells #[.int .i64 0, .int .i64 0, .int .i64 0, .int .i64 0, .int .i64 0, .int .i64 0, .int .i64 0, .int .i64 0, .slice none 0 0, .int .i64 0, .int .i64 0, .slice none 0 0] 29))) (by first | rfl | (simp; done)))
              have HBl : Below wr2.heap.size wr2 ((wc207.alloc (.cells #[.int .i64 0, .int .i64 0, .int .i64 0, .int .i64 0, .int .i64 0, .int .i64 0, .int .i64 0, .int .i64 0, .slice none 0 0, .int .i64 0, .int .i64 0, .slice none 0 0] 29)).alloc (.cells #[.int .i64 0, .int .i64 0, .slice none 0 0] 42)) := Bc213
              have FQ : Fr (fun b => b = wc207.heap.size ∨ b = (wc207.heap.size + 1)) wc207 ((wc207.alloc (.cells #[.int .i64 0, .int .i64 0, .int .i64 0, .int .i64 0, .int .i64 0, .int .i64 0, .int .i64 0, .int .i64 0, .slice none 0 0, .int .i64 0, .int .i64 0, .slice none 0 0] 29)).alloc (.cells #[.int .i64 0, .int .i64 0, .slice none 0 0] 42)) := Fr.of_below (below_al (below_al (Below.refl _ _) _) _)
              have hnT1 := hnT.out.1
              have hnT2 := hnT.out.2
              have hOq : ∀ b, (fun b => b = wc207.heap.size ∨ b = (wc207.heap.size + 1)) b → b < nT ∨ wc207.heap.size ≤ b := fun b e => by have e2 : b = wc207.heap.size ∨ b = (wc207.heap.size + 1) := e; omega
              have hw17 : wr2.heap.size ≤ wc207.heap.size := by have := Below.size (show Below wr2.heap.size wr2 wc207 from Bc207); omega
              have hw18 : wr2.heap.size ≤ (wc207.heap.size + 1) := by have := Below.size (show Below wr2.heap.size wr2 (wc207.alloc (.cells #[.int .i64 0, .int .i64 0, .int .i64 0, .int .i64 0, .int .i64 0, .int .i64 0, .int .i64 0, .int .i64 0, .slice none 0 0, .int .i64 0, .int .i64 0, .slice none 0 0] 29)) from Bc212); omega
              have hne78 : wc207.heap.size ≠ (wc207.heap.size + 1) := by omega
              have hne87 := Ne.symm hne78
              clear hnT1 zd zz14 zz15 zz16 zz17
              generalize ((wc207.alloc (.cells #[.int .i64 0, .int .i64 0, .int .i64 0, .int .i64 0, .int .i64 0, .int .i64 0, .int .i64 0, .int .i64 0, .slice none 0 0, .int .i64 0, .int .i64 0, .slice none 0 0] 29)).alloc (.cells #[.int .i64 0, .int .i64 0, .slice none 0 0] 42)) = wq at *
              have xq := fun j => T17.cell j
              have zq := fun j => T17.frozen j
              have lq := T17.lt
              have xr := fun j => T18.cell j
              have zr := fun j => T18.frozen j
              have lr := T18.lt
              refine wpAnyH_ready (rs := [13]) (by kernel_rfl) (by simp) ?_
              refine AllReadyH.cons rfl (fun K hK => ?_) AllReadyH.nil
              go_simp
              have hB12 : Below wr2.heap.size wr2 ((((((((((((wq.setCell ⟨wc207.heap.size, 0, none⟩ (.int .i64 A.1.clock)).setCell ⟨wc207.heap.size, 1, none⟩ (.int .i64 A.1.cas)).setCell ⟨wc207.heap.size, 2, none⟩ (.int .i64 A.1.uses)).setCell ⟨wc207.heap.size, 3, none⟩ (.int .i64 A.1.most)).setCell ⟨wc207.heap.size, 4, none⟩ (.int .i64 A.1.h0)).setCell ⟨wc207.heap.size, 5, none⟩ (.int .i64 A.1.h1)).setCell ⟨wc207.heap.size, 6, none⟩ (.int .i64 A.1.h2)).setCell ⟨wc207.heap.size, 7, none⟩ (.int .i64 A.1.h3)).setCell ⟨wc207.heap.size, 8, none⟩ (.slice ia2 A.1.items.length ic2)).setCell ⟨wc207.heap.size, 9, none⟩ (.int .i64 A.1.fm)).setCell ⟨wc207.heap.size, 10, none⟩ (.int .i64 A.1.fx)).setCell ⟨wc207.heap.size, 11, none⟩ (.slice pa2 A.1.pages.length pc2)) := by
               iterate 12 refine below_st ?_ _ hw17
               exact HBl
              refine hK.out _ _ (kS _ hB12) ?_
              intro hSz13
              clear hK K
              try simp only [Act.put, sIB, sZB, sSB]
              refine wpAnyH_ready (rs := [14]) (by kernel_rfl) (by simp) ?_
              refine AllReadyH.cons rfl (fun K hK => ?_) AllReadyH.nil
              go_simp
              have hB15 := below_st (below_st (below_st hB12 (.int .i64 A.2.1) (show wr2.heap.size ≤ (⟨(wc207.heap.size + 1), 0, none⟩ : Addr).block from hw18)) (.int .i64 A.2.2.1) (show wr2.heap.size ≤ (⟨(wc207.heap.size + 1), 1, none⟩ : Addr).block from hw18)) (.slice ha A.2.2.2.length hc) (show wr2.heap.size ≤ (⟨(wc207.heap.size + 1), 2, none⟩ : Addr).block from hw18)
              refine hK.out _ _ (kS _ hB15) ?_
              intro hSy13
              clear hK K
              try simp only [Act.put, sIB, sZB, sSB]
              refine wpAnyH_take (i := 15) (v := ?tv9013) rfl (by kernel_rfl) (by kernel_rfl) (by kernel_rfl) (fun _ _ _ h => h) (Or.inl ⟨by rfl, ?th9013⟩) (by assumption) ?tr9013
              case th9013 => (intro w hSw; (try dsimp only at hSw); go_simp; try with_reducible rfl)
              try simp only [Act.put, sIB, sZB, sSB]
              refine wpAnyH_done (by kernel_rfl) ?_ _
              have Tz17 := (((twelve_set wq wc207.heap.size T17 (d0 := .int .i64 A.1.clock) (d1 := .int .i64 A.1.cas) (d2 := .int .i64 A.1.uses) (d3 := .int .i64 A.1.most) (d4 := .int .i64 A.1.h0) (d5 := .int .i64 A.1.h1) (d6 := .int .i64 A.1.h2) (d7 := .int .i64 A.1.h3) (d8 := .slice ia2 A.1.items.length ic2) (d9 := .int .i64 A.1.fm) (d10 := .int .i64 A.1.fx) (d11 := .slice pa2 A.1.pages.length pc2)).far ⟨(wc207.heap.size + 1), 0, none⟩ (.int .i64 A.2.1) hne78).far ⟨(wc207.heap.size + 1), 1, none⟩ (.int .i64 A.2.2.1) hne78).far ⟨(wc207.heap.size + 1), 2, none⟩ (.slice ha A.2.2.2.length hc) hne78
              have Tz18 : TB 42 (((((((((((((((wq.setCell ⟨wc207.heap.size, 0, none⟩ (.int .i64 A.1.clock)).setCell ⟨wc207.heap.size, 1, none⟩ (.int .i64 A.1.cas)).setCell ⟨wc207.heap.size, 2, none⟩ (.int .i64 A.1.uses)).setCell ⟨wc207.heap.size, 3, none⟩ (.int .i64 A.1.most)).setCell ⟨wc207.heap.size, 4, none⟩ (.int .i64 A.1.h0)).setCell ⟨wc207.heap.size, 5, none⟩ (.int .i64 A.1.h1)).setCell ⟨wc207.heap.size, 6, none⟩ (.int .i64 A.1.h2)).setCell ⟨wc207.heap.size, 7, none⟩ (.int .i64 A.1.h3)).setCell ⟨wc207.heap.size, 8, none⟩ (.slice ia2 A.1.items.length ic2)).setCell ⟨wc207.heap.size, 9, none⟩ (.int .i64 A.1.fm)).setCell ⟨wc207.heap.size, 10, none⟩ (.int .i64 A.1.fx)).setCell ⟨wc207.heap.size, 11, none⟩ (.slice pa2 A.1.pages.length pc2))).setCell ⟨(wc207.heap.size + 1), 0, none⟩ (.int .i64 A.2.1)).setCell ⟨(wc207.heap.size + 1), 1, none⟩ (.int .i64 A.2.2.1) |>.setCell ⟨(wc207.heap.size + 1), 2, none⟩ (.slice ha A.2.2.2.length hc)) (wc207.heap.size + 1) #[.int .i64 A.2.1, .int .i64 A.2.2.1, .slice ha A.2.2.2.length hc] := by
               have t : TB 42 ((((((((((((wq.setCell ⟨wc207.heap.size, 0, none⟩ (.int .i64 A.1.clock)).setCell ⟨wc207.heap.size, 1, none⟩ (.int .i64 A.1.cas)).setCell ⟨wc207.heap.size, 2, none⟩ (.int .i64 A.1.uses)).setCell ⟨wc207.heap.size, 3, none⟩ (.int .i64 A.1.most)).setCell ⟨wc207.heap.size, 4, none⟩ (.int .i64 A.1.h0)).setCell ⟨wc207.heap.size, 5, none⟩ (.int .i64 A.1.h1)).setCell ⟨wc207.heap.size, 6, none⟩ (.int .i64 A.1.h2)).setCell ⟨wc207.heap.size, 7, none⟩ (.int .i64 A.1.h3)).setCell ⟨wc207.heap.size, 8, none⟩ (.slice ia2 A.1.items.length ic2)).setCell ⟨wc207.heap.size, 9, none⟩ (.int .i64 A.1.fm)).setCell ⟨wc207.heap.size, 10, none⟩ (.int .i64 A.1.fx)).setCell ⟨wc207.heap.size, 11, none⟩ (.slice pa2 A.1.pages.length pc2)) (wc207.heap.size + 1) #[.int .i64 0, .int .i64 0, .slice none 0 0] := by
                iterate 12 refine TB.far ?_ ⟨wc207.heap.size, _, none⟩ _ hne87
                exact T18
               have t3 := ((t.set 0 (.int .i64 A.2.1)).set 1 (.int .i64 A.2.2.1)).set 2 (.slice ha A.2.2.2.length hc)
               simp only [sIB, sZB, sSB] at t3
               exact t3
              refine ⟨wc207.heap.size, (wc207.heap.size + 1), ia2, ic2, pa2, pc2, ha, hc, _, _, _, _, _, _, _, _, _, _, _, rfl, Tz17, Tz18, hw17, hw18, hB15, ?_⟩
              refine StoreFrom.fr hSF (((Fr.set (Fr.set (Fr.set ?_ 0 _ (Or.inl (Or.inr rfl))) 1 _ (Or.inl (Or.inr rfl))) 2 _ (Or.inl (Or.inr rfl))))) hOq hnT2
              iterate 12 refine Fr.set ?_ _ _ (Or.inl (Or.inl rfl))
              exact FQ
            · go_simp
              have Bc214 := below_al Bc207 (.cells #[.int .i64 0, .int .i64 0, .slice none 0 0] 42)
              have hSc214 := kS _ Bc214
              refine hK.out _ _ hSc214 ?_
              intro hSd214
              clear hK K
              try simp only [Act.put, sIB, sZB, sSB]
              refine wpAnyH_ready (rs := [11]) (by kernel_rfl) (by simp) ?_
              refine AllReadyH.cons rfl (fun K hK => ?_) AllReadyH.nil
              go_simp
              have Bc215 := below_al Bc214 (.cells #[.int .i64 0, .int .i64 0, .int .i64 0, .int .i64 0, .int .i64 0, .int .i64 0, .int .i64 0, .int .i64 0, .slice none 0 0, .int .i64 0, .int .i64 0, .slice none 0 0] 29)
              have hSc215 := kS _ Bc215
              refine hK.out _ _ hSc215 ?_
              intro hSd215
              clear hK K
              try simp only [Act.put, sIB, sZB, sSB]
              have zd : wr2.drew.heap.size = wr2.heap.size := rfl
              have zz19 := Below.size hbc206
              have zz20 := Below.size hbc207
              have zz21 : (wc207.alloc (.cells #[.int .i64 0, .int .i64 0, .slice none 0 0] 42)).heap.size = wc207.heap.size + 1 := by simp
              have zz22 : ((wc207.alloc (.cells #[.int .i64 0, .int .i64 0, .slice none 0 0] 42)).alloc (.cells #[.int .i64 0, .int .i64 0, .int .i64 0, .int .i64 0, .int .i64 0, .int .i64 0, .int .i64 0, .int .i64 0, .slice none 0 0, .int .i64 0, .int .i64 0, .slice none 0 0] 29)).heap.size = (wc207.alloc (.cells #[.int .i64 0, .int .i64 0, .slice none 0 0] 42)).heap.size + 1 := by simp
              have T17 : TB 29 ((wc207.alloc (.cells #[.int .i64 0, .int .i64 0, .slice none 0 0] 42)).alloc (.cells #[.int .i64 0, .int .i64 0, .int .i64 0, .int .i64 0, .int .i64 0, .int .i64 0, .int .i64 0, .int .i64 0, .slice none 0 0, .int .i64 0, .int .i64 0, .slice none 0 0] 29)) (wc207.heap.size + 1) #[.int .i64 0, .int .i64 0, .int .i64 0, .int .i64 0, .int .i64 0, .int .i64 0, .int .i64 0, .int .i64 0, .slice none 0 0, .int .i64 0, .int .i64 0, .slice none 0 0] := (TB.new2 (w := (wc207.alloc (.cells #[.int .i64 0, .int .i64 0, .slice none 0 0] 42))) (by first | rfl | (simp; done)))
              have T18 : TB 42 ((wc207.alloc (.cells #[.int .i64 0, .int .i64 0, .slice none 0 0] 42)).alloc (.cells #[.int .i64 0, .int .i64 0, .int .i64 0, .int .i64 0, .int .i64 0, .int .i64 0, .int .i64 0, .int .i64 0, .slice none 0 0, .int .i64 0, .int .i64 0, .slice none 0 0] 29)) wc207.heap.size #[.int .i64 0, .int .i64 0, .slice none 0 0] := ((TB.new2 (w := wc207) (by first | rfl | (simp; done))).alloc _)
              have HBl : Below wr2.heap.size wr2 ((wc207.alloc (.cells #[.int .i64 0, .int .i64 0, .slice none 0 0] 42)).alloc (.cells #[.int .i64 0, .int .i64 0, .int .i64 0, .int .i64 0, .int .i64 0, .int .i64 0, .int .i64 0, .int .i64 0, .slice none 0 0, .int .i64 0, .int .i64 0, .slice none 0 0] 29)) := Bc215
              have FQ : Fr (fun b => b = (wc207.heap.size + 1) ∨ b = wc207.heap.size) wc207 ((wc207.alloc (.cells #[.int .i64 0, .int .i64 0, .slice none 0 0] 42)).alloc (.cells #[.int .i64 0, .int .i64 0, .int .i64 0, .int .i64 0, .int .i64 0, .int .i64 0, .int .i64 0, .int .i64 0, .slice none 0 0, .int .i64 0, .int .i64 0, .slice none 0 0] 29)) := Fr.of_below (below_al (below_al (Below.refl _ _) _) _)
              have hnT1 := hnT.out.1
              have hnT2 := hnT.out.2
              have hOq : ∀ b, (fun b => b = (wc207.heap.size + 1) ∨ b = wc207.heap.size) b → b < nT ∨ wc207.heap.size ≤ b := fun b e => by have e2 : b = (wc207.heap.size + 1) ∨ b = wc207.heap.size := e; omega
              have hw17 : wr2.heap.size ≤ (wc207.heap.size + 1) := by have := Below.size (show Below wr2.heap.size wr2 (wc207.alloc (.cells #[.int .i64 0, .int .i64 0, .slice none 0 0] 42)) from Bc214); omega
              have hw18 : wr2.heap.size ≤ wc207.heap.size := by have := Below.size (show Below wr2.heap.size wr2 wc207 from Bc207); omega
              have hne78 : (wc207.heap.size + 1) ≠ wc207.heap.size := by omega
              have hne87 := Ne.symm hne78
              clear hnT1 zd zz19 zz20 zz21 zz22
              generalize ((wc207.alloc (.cells #[.int .i64 0, .int .i64 0, .slice none 0 0] 42)).alloc (.cells #[.int .i64 0, .int .i64 0, .int .i64 0, .int .i64 0, .int .i64 0, .int .i64 0, .int .i64 0, .int .i64 0, .slice none 0 0, .int .i64 0, .int .i64 0, .slice none 0 0] 29)) = wq at *
              have xq := fun j => T17.cell j
              have zq := fun j => T17.frozen j
              have lq := T17.lt
              have xr := fun j => T18.cell j
              have zr := fun j => T18.frozen j
              have lr := T18.lt
              refine wpAnyH_ready (rs := [13]) (by kernel_rfl) (by simp) ?_
              refine AllReadyH.cons rfl (fun K hK => ?_) AllReadyH.nil
              go_simp
              have hB12 : Below wr2.heap.size wr2 ((((((((((((wq.setCell ⟨(wc207.heap.size + 1), 0, none⟩ (.int .i64 A.1.clock)).setCell ⟨(wc207.heap.size + 1), 1, none⟩ (.int .i64 A.1.cas)).setCell ⟨(wc207.heap.size + 1), 2, none⟩ (.int .i64 A.1.uses)).setCell ⟨(wc207.heap.size + 1), 3, none⟩ (.int .i64 A.1.most)).setCell ⟨(wc207.heap.size + 1), 4, none⟩ (.int .i64 A.1.h0)).setCell ⟨(wc207.heap.size + 1), 5, none⟩ (.int .i64 A.1.h1)).setCell ⟨(wc207.heap.size + 1), 6, none⟩ (.int .i64 A.1.h2)).setCell ⟨(wc207.heap.size + 1), 7, none⟩ (.int .i64 A.1.h3)).setCell ⟨(wc207.heap.size + 1), 8, none⟩ (.slice ia2 A.1.items.length ic2)).setCell ⟨(wc207.heap.size + 1), 9, none⟩ (.int .i64 A.1.fm)).setCell ⟨(wc207.heap.size + 1), 10, none⟩ (.int .i64 A.1.fx)).setCell ⟨(wc207.heap.size + 1), 11, none⟩ (.slice pa2 A.1.pages.length pc2)) := by
               iterate 12 refine below_st ?_ _ hw17
               exact HBl
              refine hK.out _ _ (kS _ hB12) ?_
              intro hSz18
              clear hK K
              try simp only [Act.put, sIB, sZB, sSB]
              refine wpAnyH_ready (rs := [14]) (by kernel_rfl) (by simp) ?_
              refine AllReadyH.cons rfl (fun K hK => ?_) AllReadyH.nil
              go_simp
              have hB15 := below_st (below_st (below_st hB12 (.int .i64 A.2.1) (show wr2.heap.size ≤ (⟨wc207.heap.size, 0, none⟩ : Addr).block from hw18)) (.int .i64 A.2.2.1) (show wr2.heap.size ≤ (⟨wc207.heap.size, 1, none⟩ : Addr).block from hw18)) (.slice ha A.2.2.2.length hc) (show wr2.heap.size ≤ (⟨wc207.heap.size, 2, none⟩ : Addr).block from hw18)
              refine hK.out _ _ (kS _ hB15) ?_
              intro hSy18
              clear hK K
              try simp only [Act.put, sIB, sZB, sSB]
              refine wpAnyH_take (i := 15) (v := ?tv9018) rfl (by kernel_rfl) (by kernel_rfl) (by kernel_rfl) (fun _ _ _ h => h) (Or.inl ⟨by rfl, ?th9018⟩) (by assumption) ?tr9018
              case th9018 => (intro w hSw; (try dsimp only at hSw); go_simp; try with_reducible rfl)
              try simp only [Act.put, sIB, sZB, sSB]
              refine wpAnyH_done (by kernel_rfl) ?_ _
              have Tz17 := (((twelve_set wq (wc207.heap.size + 1) T17 (d0 := .int .i64 A.1.clock) (d1 := .int .i64 A.1.cas) (d2 := .int .i64 A.1.uses) (d3 := .int .i64 A.1.most) (d4 := .int .i64 A.1.h0) (d5 := .int .i64 A.1.h1) (d6 := .int .i64 A.1.h2) (d7 := .int .i64 A.1.h3) (d8 := .slice ia2 A.1.items.length ic2) (d9 := .int .i64 A.1.fm) (d10 := .int .i64 A.1.fx) (d11 := .slice pa2 A.1.pages.length pc2)).far ⟨wc207.heap.size, 0, none⟩ (.int .i64 A.2.1) hne78).far ⟨wc207.heap.size, 1, none⟩ (.int .i64 A.2.2.1) hne78).far ⟨wc207.heap.size, 2, none⟩ (.slice ha A.2.2.2.length hc) hne78
              have Tz18 : TB 42 (((((((((((((((wq.setCell ⟨(wc207.heap.size + 1), 0, none⟩ (.int .i64 A.1.clock)).setCell ⟨(wc207.heap.size + 1), 1, none⟩ (.int .i64 A.1.cas)).setCell ⟨(wc207.heap.size + 1), 2, none⟩ (.int .i64 A.1.uses)).setCell ⟨(wc207.heap.size + 1), 3, none⟩ (.int .i64 A.1.most)).setCell ⟨(wc207.heap.size + 1), 4, none⟩ (.int .i64 A.1.h0)).setCell ⟨(wc207.heap.size + 1), 5, none⟩ (.int .i64 A.1.h1)).setCell ⟨(wc207.heap.size + 1), 6, none⟩ (.int .i64 A.1.h2)).setCell ⟨(wc207.heap.size + 1), 7, none⟩ (.int .i64 A.1.h3)).setCell ⟨(wc207.heap.size + 1), 8, none⟩ (.slice ia2 A.1.items.length ic2)).setCell ⟨(wc207.heap.size + 1), 9, none⟩ (.int .i64 A.1.fm)).setCell ⟨(wc207.heap.size + 1), 10, none⟩ (.int .i64 A.1.fx)).setCell ⟨(wc207.heap.size + 1), 11, none⟩ (.slice pa2 A.1.pages.length pc2))).setCell ⟨wc207.heap.size, 0, none⟩ (.int .i64 A.2.1)).setCell ⟨wc207.heap.size, 1, none⟩ (.int .i64 A.2.2.1) |>.setCell ⟨wc207.heap.size, 2, none⟩ (.slice ha A.2.2.2.length hc)) wc207.heap.size #[.int .i64 A.2.1, .int .i64 A.2.2.1, .slice ha A.2.2.2.length hc] := by
               have t : TB 42 ((((((((((((wq.setCell ⟨(wc207.heap.size + 1), 0, none⟩ (.int .i64 A.1.clock)).setCell ⟨(wc207.heap.size + 1), 1, none⟩ (.int .i64 A.1.cas)).setCell ⟨(wc207.heap.size + 1), 2, none⟩ (.int .i64 A.1.uses)).setCell ⟨(wc207.heap.size + 1), 3, none⟩ (.int .i64 A.1.most)).setCell ⟨(wc207.heap.size + 1), 4, none⟩ (.int .i64 A.1.h0)).setCell ⟨(wc207.heap.size + 1), 5, none⟩ (.int .i64 A.1.h1)).setCell ⟨(wc207.heap.size + 1), 6, none⟩ (.int .i64 A.1.h2)).setCell ⟨(wc207.heap.size + 1), 7, none⟩ (.int .i64 A.1.h3)).setCell ⟨(wc207.heap.size + 1), 8, none⟩ (.slice ia2 A.1.items.length ic2)).setCell ⟨(wc207.heap.size + 1), 9, none⟩ (.int .i64 A.1.fm)).setCell ⟨(wc207.heap.size + 1), 10, none⟩ (.int .i64 A.1.fx)).setCell ⟨(wc207.heap.size + 1), 11, none⟩ (.slice pa2 A.1.pages.length pc2)) wc207.heap.size #[.int .i64 0, .int .i64 0, .slice none 0 0] := by
                iterate 12 refine TB.far ?_ ⟨(wc207.heap.size + 1), _, none⟩ _ hne87
                exact T18
               have t3 := ((t.set 0 (.int .i64 A.2.1)).set 1 (.int .i64 A.2.2.1)).set 2 (.slice ha A.2.2.2.length hc)
               simp only [sIB, sZB, sSB] at t3
               exact t3
              refine ⟨(wc207.heap.size + 1), wc207.heap.size, ia2, ic2, pa2, pc2, ha, hc, _, _, _, _, _, _, _, _, _, _, _, rfl, Tz17, Tz18, hw17, hw18, hB15, ?_⟩
              refine StoreFrom.fr hSF (((Fr.set (Fr.set (Fr.set ?_ 0 _ (Or.inl (Or.inr rfl))) 1 _ (Or.inl (Or.inr rfl))) 2 _ (Or.inl (Or.inr rfl))))) hOq hnT2
              iterate 12 refine Fr.set ?_ _ _ (Or.inl (Or.inl rfl))
              exact FQ
          · go_simp
            have Bc216 := below_al Bc206 (.cells #[.int .i64 0, .int .i64 0, .int .i64 0, .int .i64 0, .int .i64 0, .int .i64 0, .int .i64 0, .int .i64 0, .slice none 0 0, .int .i64 0, .int .i64 0, .slice none 0 0] 29)
            have hSc216 := kS _ Bc216
            refine hK.out _ _ hSc216 ?_
            intro hSd216
            clear hK K
            try simp only [Act.put, sIB, sZB, sSB]
            refine wpAnyH_ready (rs := [6, 12]) (by kernel_rfl) (by simp) ?_
            refine AllReadyH.cons rfl (fun K hK => ?_) (AllReadyH.cons rfl (fun K hK => ?_) AllReadyH.nil)
            · go_simp
              refine ((hDo (wc206.alloc (.cells #[.int .i64 0, .int .i64 0, .int .i64 0, .int .i64 0, .int .i64 0, .int .i64 0, .int .i64 0, .int .i64 0, .slice none 0 0, .int .i64 0, .int .i64 0, .slice none 0 0] 29)) Bc216 _ _ (StrsAt.later hKs (below_al (Below.refl _ _) _)))).mono ?_
              rintro e wc217 ⟨ia2, ic2, pa2, pc2, ha, hc, nT, hnT, rfl, hSF, hbc217⟩
              have Bc217 : Below wr2.heap.size wr2 wc217 := below_thru Bc216 hbc217
              have hSc217 := kS _ Bc217
              refine hK.out _ _ hSc217 ?_
              intro hSd217
              clear hK K
              try simp only [Act.put, sIB, sZB, sSB]
              refine wpAnyH_take (i := 7) (v := ?tv218) rfl (by kernel_rfl) (by kernel_rfl) (by kernel_rfl) (fun _ _ _ h => h) (Or.inl ⟨by rfl, ?th218⟩) (by assumption) ?tr218
              case th218 => (intro w hSw; (try dsimp only at hSw); go_simp; try with_reducible rfl)
              try simp only [Act.put, sIB, sZB, sSB]
              refine wpAnyH_take (i := 8) (v := ?tv219) rfl (by kernel_rfl) (by kernel_rfl) (by kernel_rfl) (fun _ _ _ h => h) (Or.inl ⟨by rfl, ?th219⟩) (by assumption) ?tr219
              case th219 => (intro w hSw; (try dsimp only at hSw); go_simp; try with_reducible rfl)
              try simp only [Act.put, sIB, sZB, sSB]
              refine wpAnyH_take (i := 9) (v := ?tv220) rfl (by kernel_rfl) (by kernel_rfl) (by kernel_rfl) (fun _ _ _ h => h) (Or.inl ⟨by rfl, ?th220⟩) (by assumption) ?tr220
              case th220 => (intro w hSw; (try dsimp only at hSw); go_simp; try with_reducible rfl)
              try simp only [Act.put, sIB, sZB, sSB]
              refine wpAnyH_take (i := 10) (v := ?tv221) rfl (by kernel_rfl) (by kernel_rfl) (by kernel_rfl) (fun _ _ _ h => h) (Or.inl ⟨by rfl, ?th221⟩) (by assumption) ?tr221
              case th221 => (intro w hSw; (try dsimp only at hSw); go_simp; try with_reducible rfl)
              try simp only [Act.put, sIB, sZB, sSB]
              refine wpAnyH_ready (rs := [12]) (by kernel_rfl) (by simp) ?_
              refine AllReadyH.cons rfl (fun K hK => ?_) AllReadyH.nil
              go_simp
              have Bc222 := below_al Bc217 (.cells #[.int .i64 0, .int .i64 0, .slice none 0 0] 42)
              have hSc222 := kS _ Bc222
              refine hK.out _ _ hSc222 ?_
              intro hSd222
              clear hK K
              try simp only [Act.put, sIB, sZB, sSB]
              have zd : wr2.drew.heap.size = wr2.heap.size := rfl
              have zz24 := Below.size hbc206
              have zz25 : (wc206.alloc (.cells #[.int .i64 0, .int .i64 0, .int .i64 0, .int .i64 0, .int .i64 0, .int .i64 0, .int .i64 0, .int .i64 0, .slice none 0 0, .int .i64 0, .int .i64 0, .slice none 0 0] 29)).heap.size = wc206.heap.size + 1 := by simp
              have zz26 := Below.size hbc217
              have zz27 : (wc217.alloc (.cells #[.int .i64 0, .int .i64 0, .slice none 0 0] 42)).heap.size = wc217.heap.size + 1 := by simp
              have T17 : TB 29 (wc217.alloc (.cells #[.int .i64 0, .int .i64 0, .slice none 0 0] 42)) wc206.heap.size #[.int .i64 0, .int .i64 0, .int .i64 0, .int .i64 0, .int .i64 0, .int .i64 0, .int .i64 0, .int .i64 0, .slice none 0 0, .int .i64 0, .int .i64 0, .slice none 0 0] := (((TB.new2 (w := wc206) (by first | rfl | (simp; done))).later hbc217).alloc _)
              have T18 : TB 42 (wc217.alloc (.cells #[.int .i64 0, .int .i64 0, .slice none 0 0] 42)) wc217.heap.size #[.int .i64 0, .int .i64 0, .slice none 0 0] := (TB.new2 (w := wc217) (by first | rfl | (simp; done)))
              have HBl : Below wr2.heap.size wr2 (wc217.alloc (.cells #[.int .i64 0, .int .i64 0, .slice none 0 0] 42)) := Bc222
              have FQ : Fr (fun b => b = wc206.heap.size ∨ b = wc217.heap.size) wc217 (wc217.alloc (.cells #[.int .i64 0, .int .i64 0, .slice none 0 0] 42)) := Fr.of_below (below_al (Below.refl _ _) _)
              have hnT1 := hnT.out.1
              have hnT2 := hnT.out.2
              have hOq : ∀ b, (fun b => b = wc206.heap.size ∨ b = wc217.heap.size) b → b < nT ∨ wc217.heap.size ≤ b := fun b e => by have e2 : b = wc206.heap.size ∨ b = wc217.heap.size := e; omega
              have hw17 : wr2.heap.size ≤ wc206.heap.size := by have := Below.size (show Below wr2.heap.size wr2 wc206 from Bc206); omega
              have hw18 : wr2.heap.size ≤ wc217.heap.size := by have := Below.size (show Below wr2.heap.size wr2 wc217 from Bc217); omega
              have hne78 : wc206.heap.size ≠ wc217.heap.size := by omega
              have hne87 := Ne.symm hne78
              clear hnT1 zd zz24 zz25 zz26 zz27
              generalize (wc217.alloc (.cells #[.int .i64 0, .int .i64 0, .slice none 0 0] 42)) = wq at *
              have xq := fun j => T17.cell j
              have zq := fun j => T17.frozen j
              have lq := T17.lt
              have xr := fun j => T18.cell j
              have zr := fun j => T18.frozen j
              have lr := T18.lt
              refine wpAnyH_ready (rs := [13]) (by kernel_rfl) (by simp) ?_
              refine AllReadyH.cons rfl (fun K hK => ?_) AllReadyH.nil
              go_simp
              have hB12 : Below wr2.heap.size wr2 ((((((((((((wq.setCell ⟨wc206.heap.size, 0, none⟩ (.int .i64 A.1.clock)).setCell ⟨wc206.heap.size, 1, none⟩ (.int .i64 A.1.cas)).setCell ⟨wc206.heap.size, 2, none⟩ (.int .i64 A.1.uses)).setCell ⟨wc206.heap.size, 3, none⟩ (.int .i64 A.1.most)).setCell ⟨wc206.heap.size, 4, none⟩ (.int .i64 A.1.h0)).setCell ⟨wc206.heap.size, 5, none⟩ (.int .i64 A.1.h1)).setCell ⟨wc206.heap.size, 6, none⟩ (.int .i64 A.1.h2)).setCell ⟨wc206.heap.size, 7, none⟩ (.int .i64 A.1.h3)).setCell ⟨wc206.heap.size, 8, none⟩ (.slice ia2 A.1.items.length ic2)).setCell ⟨wc206.heap.size, 9, none⟩ (.int .i64 A.1.fm)).setCell ⟨wc206.heap.size, 10, none⟩ (.int .i64 A.1.fx)).setCell ⟨wc206.heap.size, 11, none⟩ (.slice pa2 A.1.pages.length pc2)) := by
               iterate 12 refine below_st ?_ _ hw17
               exact HBl
              refine hK.out _ _ (kS _ hB12) ?_
              intro hSz23
              clear hK K
              try simp only [Act.put, sIB, sZB, sSB]
              refine wpAnyH_ready (rs := [14]) (by kernel_rfl) (by simp) ?_
              refine AllReadyH.cons rfl (fun K hK => ?_) AllReadyH.nil
              go_simp
              have hB15 := below_st (below_st (below_st hB12 (.int .i64 A.2.1) (show wr2.heap.size ≤ (⟨wc217.heap.size, 0, none⟩ : Addr).block from hw18)) (.int .i64 A.2.2.1) (show wr2.heap.size ≤ (⟨wc217.heap.size, 1, none⟩ : Addr).block from hw18)) (.slice ha A.2.2.2.length hc) (show wr2.heap.size ≤ (⟨wc217.heap.size, 2, none⟩ : Addr).block from hw18)
              refine hK.out _ _ (kS _ hB15) ?_
              intro hSy23
              clear hK K
              try simp only [Act.put, sIB, sZB, sSB]
              refine wpAnyH_take (i := 15) (v := ?tv9023) rfl (by kernel_rfl) (by kernel_rfl) (by kernel_rfl) (fun _ _ _ h => h) (Or.inl ⟨by rfl, ?th9023⟩) (by assumption) ?tr9023
              case th9023 => (intro w hSw; (try dsimp only at hSw); go_simp; try with_reducible rfl)
              try simp only [Act.put, sIB, sZB, sSB]
              refine wpAnyH_done (by kernel_rfl) ?_ _
              have Tz17 := (((twelve_set wq wc206.heap.size T17 (d0 := .int .i64 A.1.clock) (d1 := .int .i64 A.1.cas) (d2 := .int .i64 A.1.uses) (d3 := .int .i64 A.1.most) (d4 := .int .i64 A.1.h0) (d5 := .int .i64 A.1.h1) (d6 := .int .i64 A.1.h2) (d7 := .int .i64 A.1.h3) (d8 := .slice ia2 A.1.items.length ic2) (d9 := .int .i64 A.1.fm) (d10 := .int .i64 A.1.fx) (d11 := .slice pa2 A.1.pages.length pc2)).far ⟨wc217.heap.size, 0, none⟩ (.int .i64 A.2.1) hne78).far ⟨wc217.heap.size, 1, none⟩ (.int .i64 A.2.2.1) hne78).far ⟨wc217.heap.size, 2, none⟩ (.slice ha A.2.2.2.length hc) hne78
              have Tz18 : TB 42 (((((((((((((((wq.setCell ⟨wc206.heap.size, 0, none⟩ (.int .i64 A.1.clock)).setCell ⟨wc206.heap.size, 1, none⟩ (.int .i64 A.1.cas)).setCell ⟨wc206.heap.size, 2, none⟩ (.int .i64 A.1.uses)).setCell ⟨wc206.heap.size, 3, none⟩ (.int .i64 A.1.most)).setCell ⟨wc206.heap.size, 4, none⟩ (.int .i64 A.1.h0)).setCell ⟨wc206.heap.size, 5, none⟩ (.int .i64 A.1.h1)).setCell ⟨wc206.heap.size, 6, none⟩ (.int .i64 A.1.h2)).setCell ⟨wc206.heap.size, 7, none⟩ (.int .i64 A.1.h3)).setCell ⟨wc206.heap.size, 8, none⟩ (.slice ia2 A.1.items.length ic2)).setCell ⟨wc206.heap.size, 9, none⟩ (.int .i64 A.1.fm)).setCell ⟨wc206.heap.size, 10, none⟩ (.int .i64 A.1.fx)).setCell ⟨wc206.heap.size, 11, none⟩ (.slice pa2 A.1.pages.length pc2))).setCell ⟨wc217.heap.size, 0, none⟩ (.int .i64 A.2.1)).setCell ⟨wc217.heap.size, 1, none⟩ (.int .i64 A.2.2.1) |>.setCell ⟨wc217.heap.size, 2, none⟩ (.slice ha A.2.2.2.length hc)) wc217.heap.size #[.int .i64 A.2.1, .int .i64 A.2.2.1, .slice ha A.2.2.2.length hc] := by
               have t : TB 42 ((((((((((((wq.setCell ⟨wc206.heap.size, 0, none⟩ (.int .i64 A.1.clock)).setCell ⟨wc206.heap.size, 1, none⟩ (.int .i64 A.1.cas)).setCell ⟨wc206.heap.size, 2, none⟩ (.int .i64 A.1.uses)).setCell ⟨wc206.heap.size, 3, none⟩ (.int .i64 A.1.most)).setCell ⟨wc206.heap.size, 4, none⟩ (.int .i64 A.1.h0)).setCell ⟨wc206.heap.size, 5, none⟩ (.int .i64 A.1.h1)).setCell ⟨wc206.heap.size, 6, none⟩ (.int .i64 A.1.h2)).setCell ⟨wc206.heap.size, 7, none⟩ (.int .i64 A.1.h3)).setCell ⟨wc206.heap.size, 8, none⟩ (.slice ia2 A.1.items.length ic2)).setCell ⟨wc206.heap.size, 9, none⟩ (.int .i64 A.1.fm)).setCell ⟨wc206.heap.size, 10, none⟩ (.int .i64 A.1.fx)).setCell ⟨wc206.heap.size, 11, none⟩ (.slice pa2 A.1.pages.length pc2)) wc217.heap.size #[.int .i64 0, .int .i64 0, .slice none 0 0] := by
                iterate 12 refine TB.far ?_ ⟨wc206.heap.size, _, none⟩ _ hne87
                exact T18
               have t3 := ((t.set 0 (.int .i64 A.2.1)).set 1 (.int .i64 A.2.2.1)).set 2 (.slice ha A.2.2.2.length hc)
               simp only [sIB, sZB, sSB] at t3
               exact t3
              refine ⟨wc206.heap.size, wc217.heap.size, ia2, ic2, pa2, pc2, ha, hc, _, _, _, _, _, _, _, _, _, _, _, rfl, Tz17, Tz18, hw17, hw18, hB15, ?_⟩
              refine StoreFrom.fr hSF (((Fr.set (Fr.set (Fr.set ?_ 0 _ (Or.inl (Or.inr rfl))) 1 _ (Or.inl (Or.inr rfl))) 2 _ (Or.inl (Or.inr rfl))))) hOq hnT2
              iterate 12 refine Fr.set ?_ _ _ (Or.inl (Or.inl rfl))
              exact FQ
            · go_simp
              have Bc223 := below_al Bc216 (.cells #[.int .i64 0, .int .i64 0, .slice none 0 0] 42)
              have hSc223 := kS _ Bc223
              refine hK.out _ _ hSc223 ?_
              intro hSd223
              clear hK K
              try simp only [Act.put, sIB, sZB, sSB]
              refine wpAnyH_ready (rs := [6]) (by kernel_rfl) (by simp) ?_
              refine AllReadyH.cons rfl (fun K hK => ?_) AllReadyH.nil
              go_simp
              refine ((hDo ((wc206.alloc (.cells #[.int .i64 0, .int .i64 0, .int .i64 0, .int .i64 0, .int .i64 0, .int .i64 0, .int .i64 0, .int .i64 0, .slice none 0 0, .int .i64 0, .int .i64 0, .slice none 0 0] 29)).alloc (.cells #[.int .i64 0, .int .i64 0, .slice none 0 0] 42)) Bc223 _ _ (StrsAt.later (StrsAt.later hKs (below_al (Below.refl _ _) _)) (below_al (Below.refl _ _) _)))).mono ?_
              rintro e wc224 ⟨ia2, ic2, pa2, pc2, ha, hc, nT, hnT, rfl, hSF, hbc224⟩
              have Bc224 : Below wr2.heap.size wr2 wc224 := below_thru Bc223 hbc224
              have hSc224 := kS _ Bc224
              refine hK.out _ _ hSc224 ?_
              intro hSd224
              clear hK K
              try simp only [Act.put, sIB, sZB, sSB]
              refine wpAnyH_take (i := 7) (v := ?tv225) rfl (by kernel_rfl) (by kernel_rfl) (by kernel_rfl) (fun _ _ _ h => h) (Or.inl ⟨by rfl, ?th225⟩) (by assumption) ?tr225
              case th225 => (intro w hSw; (try dsimp only at hSw); go_simp; try with_reducible rfl)
              try simp only [Act.put, sIB, sZB, sSB]
              refine wpAnyH_take (i := 8) (v := ?tv226) rfl (by kernel_rfl) (by kernel_rfl) (by kernel_rfl) (fun _ _ _ h => h) (Or.inl ⟨by rfl, ?th226⟩) (by assumption) ?tr226
              case th226 => (intro w hSw; (try dsimp only at hSw); go_simp; try with_reducible rfl)
              try simp only [Act.put, sIB, sZB, sSB]
              refine wpAnyH_take (i := 9) (v := ?tv227) rfl (by kernel_rfl) (by kernel_rfl) (by kernel_rfl) (fun _ _ _ h => h) (Or.inl ⟨by rfl, ?th227⟩) (by assumption) ?tr227
              case th227 => (intro w hSw; (try dsimp only at hSw); go_simp; try with_reducible rfl)
              try simp only [Act.put, sIB, sZB, sSB]
              refine wpAnyH_take (i := 10) (v := ?tv228) rfl (by kernel_rfl) (by kernel_rfl) (by kernel_rfl) (fun _ _ _ h => h) (Or.inl ⟨by rfl, ?th228⟩) (by assumption) ?tr228
              case th228 => (intro w hSw; (try dsimp only at hSw); go_simp; try with_reducible rfl)
              try simp only [Act.put, sIB, sZB, sSB]
              have zd : wr2.drew.heap.size = wr2.heap.size := rfl
              have zz29 := Below.size hbc206
              have zz30 : (wc206.alloc (.cells #[.int .i64 0, .int .i64 0, .int .i64 0, .int .i64 0, .int .i64 0, .int .i64 0, .int .i64 0, .int .i64 0, .slice none 0 0, .int .i64 0, .int .i64 0, .slice none 0 0] 29)).heap.size = wc206.heap.size + 1 := by simp
              have zz31 : ((wc206.alloc (.cells #[.int .i64 0, .int .i64 0, .int .i64 0, .int .i64 0, .int .i64 0, .int .i64 0, .int .i64 0, .int .i64 0, .slice none 0 0, .int .i64 0, .int .i64 0, .slice none 0 0] 29)).alloc (.cells #[.int .i64 0, .int .i64 0, .slice none 0 0] 42)).heap.size = (wc206.alloc (.cells #[.int .i64 0, .int .i64 0, .int .i64 0, .int .i64 0, .int .i64 0, .int .i64 0, .int .i64 0, .int .i64 0, .slice none 0 0, .int .i64 0, .int .i64 0, .slice none 0 0] 29)).heap.size + 1 := by simp
              have zz32 := Below.size hbc224
              have T17 : TB 29 wc224 wc206.heap.size #[.int .i64 0, .int .i64 0, .int .i64 0, .int .i64 0, .int .i64 0, .int .i64 0, .int .i64 0, .int .i64 0, .slice none 0 0, .int .i64 0, .int .i64 0, .slice none 0 0] := (((TB.new2 (w := wc206) (by first | rfl | (simp; done))).alloc _).later hbc224)
              have T18 : TB 42 wc224 (wc206.heap.size + 1) #[.int .i64 0, .int .i64 0, .slice none 0 0] := ((TB.new2 (w := (wc206.alloc (.cells #[.int .i64 0, .int .i64 0, .int .i64 0, .int .i64 0, .int .i64 0, .int .i64 0, .int .i64 0, .int .i64 0, .slice none 0 0, .int .i64 0, .int .i64 0, .slice none 0 0] 29))) (by first | rfl | (simp; done))).later hbc224)
              have HBl : Below wr2.heap.size wr2 wc224 := Bc224
              have FQ : Fr (fun b => b = wc206.heap.size ∨ b = (wc206.heap.size + 1)) wc224 wc224 := Fr.of_below (Below.refl _ _)
              have hnT1 := hnT.out.1
              have hnT2 := hnT.out.2
              have hOq : ∀ b, (fun b => b = wc206.heap.size ∨ b = (wc206.heap.size + 1)) b → b < nT ∨ wc224.heap.size ≤ b := fun b e => by have e2 : b = wc206.heap.size ∨ b = (wc206.heap.size + 1) := e; omega
              have hw17 : wr2.heap.size ≤ wc206.heap.size := by have := Below.size (show Below wr2.heap.size wr2 wc206 from Bc206); omega
              have hw18 : wr2.heap.size ≤ (wc206.heap.size + 1) := by have := Below.size (show Below wr2.heap.size wr2 (wc206.alloc (.cells #[.int .i64 0, .int .i64 0, .int .i64 0, .int .i64 0, .int .i64 0, .int .i64 0, .int .i64 0, .int .i64 0, .slice none 0 0, .int .i64 0, .int .i64 0, .slice none 0 0] 29)) from Bc216); omega
              have hne78 : wc206.heap.size ≠ (wc206.heap.size + 1) := by omega
              have hne87 := Ne.symm hne78
              clear hnT1 zd zz29 zz30 zz31 zz32
              generalize wc224 = wq at *
              have xq := fun j => T17.cell j
              have zq := fun j => T17.frozen j
              have lq := T17.lt
              have xr := fun j => T18.cell j
              have zr := fun j => T18.frozen j
              have lr := T18.lt
              refine wpAnyH_ready (rs := [13]) (by kernel_rfl) (by simp) ?_
              refine AllReadyH.cons rfl (fun K hK => ?_) AllReadyH.nil
              go_simp
              have hB12 : Below wr2.heap.size wr2 ((((((((((((wq.setCell ⟨wc206.heap.size, 0, none⟩ (.int .i64 A.1.clock)).setCell ⟨wc206.heap.size, 1, none⟩ (.int .i64 A.1.cas)).setCell ⟨wc206.heap.size, 2, none⟩ (.int .i64 A.1.uses)).setCell ⟨wc206.heap.size, 3, none⟩ (.int .i64 A.1.most)).setCell ⟨wc206.heap.size, 4, none⟩ (.int .i64 A.1.h0)).setCell ⟨wc206.heap.size, 5, none⟩ (.int .i64 A.1.h1)).setCell ⟨wc206.heap.size, 6, none⟩ (.int .i64 A.1.h2)).setCell ⟨wc206.heap.size, 7, none⟩ (.int .i64 A.1.h3)).setCell ⟨wc206.heap.size, 8, none⟩ (.slice ia2 A.1.items.length ic2)).setCell ⟨wc206.heap.size, 9, none⟩ (.int .i64 A.1.fm)).setCell ⟨wc206.heap.size, 10, none⟩ (.int .i64 A.1.fx)).setCell ⟨wc206.heap.size, 11, none⟩ (.slice pa2 A.1.pages.length pc2)) := by
               iterate 12 refine below_st ?_ _ hw17
               exact HBl
              refine hK.out _ _ (kS _ hB12) ?_
              intro hSz28
              clear hK K
              try simp only [Act.put, sIB, sZB, sSB]
              refine wpAnyH_ready (rs := [14]) (by kernel_rfl) (by simp) ?_
              refine AllReadyH.cons rfl (fun K hK => ?_) AllReadyH.nil
              go_simp
              have hB15 := below_st (below_st (below_st hB12 (.int .i64 A.2.1) (show wr2.heap.size ≤ (⟨(wc206.heap.size + 1), 0, none⟩ : Addr).block from hw18)) (.int .i64 A.2.2.1) (show wr2.heap.size ≤ (⟨(wc206.heap.size + 1), 1, none⟩ : Addr).block from hw18)) (.slice ha A.2.2.2.length hc) (show wr2.heap.size ≤ (⟨(wc206.heap.size + 1), 2, none⟩ : Addr).block from hw18)
              refine hK.out _ _ (kS _ hB15) ?_
              intro hSy28
              clear hK K
              try simp only [Act.put, sIB, sZB, sSB]
              refine wpAnyH_take (i := 15) (v := ?tv9028) rfl (by kernel_rfl) (by kernel_rfl) (by kernel_rfl) (fun _ _ _ h => h) (Or.inl ⟨by rfl, ?th9028⟩) (by assumption) ?tr9028
              case th9028 => (intro w hSw; (try dsimp only at hSw); go_simp; try with_reducible rfl)
              try simp only [Act.put, sIB, sZB, sSB]
              refine wpAnyH_done (by kernel_rfl) ?_ _
              have Tz17 := (((twelve_set wq wc206.heap.size T17 (d0 := .int .i64 A.1.clock) (d1 := .int .i64 A.1.cas) (d2 := .int .i64 A.1.uses) (d3 := .int .i64 A.1.most) (d4 := .int .i64 A.1.h0) (d5 := .int .i64 A.1.h1) (d6 := .int .i64 A.1.h2) (d7 := .int .i64 A.1.h3) (d8 := .slice ia2 A.1.items.length ic2) (d9 := .int .i64 A.1.fm) (d10 := .int .i64 A.1.fx) (d11 := .slice pa2 A.1.pages.length pc2)).far ⟨(wc206.heap.size + 1), 0, none⟩ (.int .i64 A.2.1) hne78).far ⟨(wc206.heap.size + 1), 1, none⟩ (.int .i64 A.2.2.1) hne78).far ⟨(wc206.heap.size + 1), 2, none⟩ (.slice ha A.2.2.2.length hc) hne78
              have Tz18 : TB 42 (((((((((((((((wq.setCell ⟨wc206.heap.size, 0, none⟩ (.int .i64 A.1.clock)).setCell ⟨wc206.heap.size, 1, none⟩ (.int .i64 A.1.cas)).setCell ⟨wc206.heap.size, 2, none⟩ (.int .i64 A.1.uses)).setCell ⟨wc206.heap.size, 3, none⟩ (.int .i64 A.1.most)).setCell ⟨wc206.heap.size, 4, none⟩ (.int .i64 A.1.h0)).setCell ⟨wc206.heap.size, 5, none⟩ (.int .i64 A.1.h1)).setCell ⟨wc206.heap.size, 6, none⟩ (.int .i64 A.1.h2)).setCell ⟨wc206.heap.size, 7, none⟩ (.int .i64 A.1.h3)).setCell ⟨wc206.heap.size, 8, none⟩ (.slice ia2 A.1.items.length ic2)).setCell ⟨wc206.heap.size, 9, none⟩ (.int .i64 A.1.fm)).setCell ⟨wc206.heap.size, 10, none⟩ (.int .i64 A.1.fx)).setCell ⟨wc206.heap.size, 11, none⟩ (.slice pa2 A.1.pages.length pc2))).setCell ⟨(wc206.heap.size + 1), 0, none⟩ (.int .i64 A.2.1)).setCell ⟨(wc206.heap.size + 1), 1, none⟩ (.int .i64 A.2.2.1) |>.setCell ⟨(wc206.heap.size + 1), 2, none⟩ (.slice ha A.2.2.2.length hc)) (wc206.heap.size + 1) #[.int .i64 A.2.1, .int .i64 A.2.2.1, .slice ha A.2.2.2.length hc] := by
               have t : TB 42 ((((((((((((wq.setCell ⟨wc206.heap.size, 0, none⟩ (.int .i64 A.1.clock)).setCell ⟨wc206.heap.size, 1, none⟩ (.int .i64 A.1.cas)).setCell ⟨wc206.heap.size, 2, none⟩ (.int .i64 A.1.uses)).setCell ⟨wc206.heap.size, 3, none⟩ (.int .i64 A.1.most)).setCell ⟨wc206.heap.size, 4, none⟩ (.int .i64 A.1.h0)).setCell ⟨wc206.heap.size, 5, none⟩ (.int .i64 A.1.h1)).setCell ⟨wc206.heap.size, 6, none⟩ (.int .i64 A.1.h2)).setCell ⟨wc206.heap.size, 7, none⟩ (.int .i64 A.1.h3)).setCell ⟨wc206.heap.size, 8, none⟩ (.slice ia2 A.1.items.length ic2)).setCell ⟨wc206.heap.size, 9, none⟩ (.int .i64 A.1.fm)).setCell ⟨wc206.heap.size, 10, none⟩ (.int .i64 A.1.fx)).setCell ⟨wc206.heap.size, 11, none⟩ (.slice pa2 A.1.pages.length pc2)) (wc206.heap.size + 1) #[.int .i64 0, .int .i64 0, .slice none 0 0] := by
                iterate 12 refine TB.far ?_ ⟨wc206.heap.size, _, none⟩ _ hne87
                exact T18
               have t3 := ((t.set 0 (.int .i64 A.2.1)).set 1 (.int .i64 A.2.2.1)).set 2 (.slice ha A.2.2.2.length hc)
               simp only [sIB, sZB, sSB] at t3
               exact t3
              refine ⟨wc206.heap.size, (wc206.heap.size + 1), ia2, ic2, pa2, pc2, ha, hc, _, _, _, _, _, _, _, _, _, _, _, rfl, Tz17, Tz18, hw17, hw18, hB15, ?_⟩
              refine StoreFrom.fr hSF (((Fr.set (Fr.set (Fr.set ?_ 0 _ (Or.inl (Or.inr rfl))) 1 _ (Or.inl (Or.inr rfl))) 2 _ (Or.inl (Or.inr rfl))))) hOq hnT2
              iterate 12 refine Fr.set ?_ _ _ (Or.inl (Or.inl rfl))
              exact FQ
          · go_simp
            have Bc229 := below_al Bc206 (.cells #[.int .i64 0, .int .i64 0, .slice none 0 0] 42)
            have hSc229 := kS _ Bc229
            refine hK.out _ _ hSc229 ?_
            intro hSd229
            clear hK K
            try simp only [Act.put, sIB, sZB, sSB]
            refine wpAnyH_ready (rs := [6, 11]) (by kernel_rfl) (by simp) ?_
            refine AllReadyH.cons rfl (fun K hK => ?_) (AllReadyH.cons rfl (fun K hK => ?_) AllReadyH.nil)
            · go_simp
              refine ((hDo (wc206.alloc (.cells #[.int .i64 0, .int .i64 0, .slice none 0 0] 42)) Bc229 _ _ (StrsAt.later hKs (below_al (Below.refl _ _) _)))).mono ?_
              rintro e wc230 ⟨ia2, ic2, pa2, pc2, ha, hc, nT, hnT, rfl, hSF, hbc230⟩
              have Bc230 : Below wr2.heap.size wr2 wc230 := below_thru Bc229 hbc230
              have hSc230 := kS _ Bc230
              refine hK.out _ _ hSc230 ?_
              intro hSd230
              clear hK K
              try simp only [Act.put, sIB, sZB, sSB]
              refine wpAnyH_take (i := 7) (v := ?tv231) rfl (by kernel_rfl) (by kernel_rfl) (by kernel_rfl) (fun _ _ _ h => h) (Or.inl ⟨by rfl, ?th231⟩) (by assumption) ?tr231
              case th231 => (intro w hSw; (try dsimp only at hSw); go_simp; try with_reducible rfl)
              try simp only [Act.put, sIB, sZB, sSB]
              refine wpAnyH_take (i := 8) (v := ?tv232) rfl (by kernel_rfl) (by kernel_rfl) (by kernel_rfl) (fun _ _ _ h => h) (Or.inl ⟨by rfl, ?th232⟩) (by assumption) ?tr232
              case th232 => (intro w hSw; (try dsimp only at hSw); go_simp; try with_reducible rfl)
              try simp only [Act.put, sIB, sZB, sSB]
              refine wpAnyH_take (i := 9) (v := ?tv233) rfl (by kernel_rfl) (by kernel_rfl) (by kernel_rfl) (fun _ _ _ h => h) (Or.inl ⟨by rfl, ?th233⟩) (by assumption) ?tr233
              case th233 => (intro w hSw; (try dsimp only at hSw); go_simp; try with_reducible rfl)
              try simp only [Act.put, sIB, sZB, sSB]
              refine wpAnyH_take (i := 10) (v := ?tv234) rfl (by kernel_rfl) (by kernel_rfl) (by kernel_rfl) (fun _ _ _ h => h) (Or.inl ⟨by rfl, ?th234⟩) (by assumption) ?tr234
              case th234 => (intro w hSw; (try dsimp only at hSw); go_simp; try with_reducible rfl)
              try simp only [Act.put, sIB, sZB, sSB]
              refine wpAnyH_ready (rs := [11]) (by kernel_rfl) (by simp) ?_
              refine AllReadyH.cons rfl (fun K hK => ?_) AllReadyH.nil
              go_simp
              have Bc235 := below_al Bc230 (.cells #[.int .i64 0, .int .i64 0, .int .i64 0, .int .i64 0, .int .i64 0, .int .i64 0, .int .i64 0, .int .i64 0, .slice none 0 0, .int .i64 0, .int .i64 0, .slice none 0 0] 29)
              have hSc235 := kS _ Bc235
              refine hK.out _ _ hSc235 ?_
              intro hSd235
              clear hK K
              try simp only [Act.put, sIB, sZB, sSB]
              have zd : wr2.drew.heap.size = wr2.heap.size := rfl
              have zz34 := Below.size hbc206
              have zz35 : (wc206.alloc (.cells #[.int .i64 0, .int .i64 0, .slice none 0 0] 42)).heap.size = wc206.heap.size + 1 := by simp
              have zz36 := Below.size hbc230
              have zz37 : (wc230.alloc (.cells #[.int .i64 0, .int .i64 0, .int .i64 0, .int .i64 0, .int .i64 0, .int .i64 0, .int .i64 0, .int .i64 0, .slice none 0 0, .int .i64 0, .int .i64 0, .slice none 0 0] 29)).heap.size = wc230.heap.size + 1 := by simp
              have T17 : TB 29 (wc230.alloc (.cells #[.int .i64 0, .int .i64 0, .int .i64 0, .int .i64 0, .int .i64 0, .int .i64 0, .int .i64 0, .int .i64 0, .slice none 0 0, .int .i64 0, .int .i64 0, .slice none 0 0] 29)) wc230.heap.size #[.int .i64 0, .int .i64 0, .int .i64 0, .int .i64 0, .int .i64 0, .int .i64 0, .int .i64 0, .int .i64 0, .slice none 0 0, .int .i64 0, .int .i64 0, .slice none 0 0] := (TB.new2 (w := wc230) (by first | rfl | (simp; done)))
              have T18 : TB 42 (wc230.alloc (.cells #[.int .i64 0, .int .i64 0, .int .i64 0, .int .i64 0, .int .i64 0, .int .i64 0, .int .i64 0, .int .i64 0, .slice none 0 0, .int .i64 0, .int .i64 0, .slice none 0 0] 29)) wc206.heap.size #[.int .i64 0, .int .i64 0, .slice none 0 0] := (((TB.new2 (w := wc206) (by first | rfl | (simp; done))).later hbc230).alloc _)
              have HBl : Below wr2.heap.size wr2 (wc230.alloc (.cells #[.int .i64 0, .int .i64 0, .int .i64 0, .int .i64 0, .int .i64 0, .int .i64 0, .int .i64 0, .int .i64 0, .slice none 0 0, .int .i64 0, .int .i64 0, .slice none 0 0] 29)) := Bc235
              have FQ : Fr (fun b => b = wc230.heap.size ∨ b = wc206.heap.size) wc230 (wc230.alloc (.cells #[.int .i64 0, .int .i64 0, .int .i64 0, .int .i64 0, .int .i64 0, .int .i64 0, .int .i64 0, .int .i64 0, .slice none 0 0, .int .i64 0, .int .i64 0, .slice none 0 0] 29)) := Fr.of_below (below_al (Below.refl _ _) _)
              have hnT1 := hnT.out.1
              have hnT2 := hnT.out.2
              have hOq : ∀ b, (fun b => b = wc230.heap.size ∨ b = wc206.heap.size) b → b < nT ∨ wc230.heap.size ≤ b := fun b e => by have e2 : b = wc230.heap.size ∨ b = wc206.heap.size := e; omega
              have hw17 : wr2.heap.size ≤ wc230.heap.size := by have := Below.size (show Below wr2.heap.size wr2 wc230 from Bc230); omega
              have hw18 : wr2.heap.size ≤ wc206.heap.size := by have := Below.size (show Below wr2.heap.size wr2 wc206 from Bc206); omega
              have hne78 : wc230.heap.size ≠ wc206.heap.size := by omega
              have hne87 := Ne.symm hne78
              clear hnT1 zd zz34 zz35 zz36 zz37
              generalize (wc230.alloc (.cells #[.int .i64 0, .int .i64 0, .int .i64 0, .int .i64 0, .int .i64 0, .int .i64 0, .int .i64 0, .int .i64 0, .slice none 0 0, .int .i64 0, .int .i64 0, .slice none 0 0] 29)) = wq at *
              have xq := fun j => T17.cell j
              have zq := fun j => T17.frozen j
              have lq := T17.lt
              have xr := fun j => T18.cell j
              have zr := fun j => T18.frozen j
              have lr := T18.lt
              refine wpAnyH_ready (rs := [13]) (by kernel_rfl) (by simp) ?_
              refine AllReadyH.cons rfl (fun K hK => ?_) AllReadyH.nil
              go_simp
              have hB12 : Below wr2.heap.size wr2 ((((((((((((wq.setCell ⟨wc230.heap.size, 0, none⟩ (.int .i64 A.1.clock)).setCell ⟨wc230.heap.size, 1, none⟩ (.int .i64 A.1.cas)).setCell ⟨wc230.heap.size, 2, none⟩ (.int .i64 A.1.uses)).setCell ⟨wc230.heap.size, 3, none⟩ (.int .i64 A.1.most)).setCell ⟨wc230.heap.size, 4, none⟩ (.int .i64 A.1.h0)).setCell ⟨wc230.heap.size, 5, none⟩ (.int .i64 A.1.h1)).setCell ⟨wc230.heap.size, 6, none⟩ (.int .i64 A.1.h2)).setCell ⟨wc230.heap.size, 7, none⟩ (.int .i64 A.1.h3)).setCell ⟨wc230.heap.size, 8, none⟩ (.slice ia2 A.1.items.length ic2)).setCell ⟨wc230.heap.size, 9, none⟩ (.int .i64 A.1.fm)).setCell ⟨wc230.heap.size, 10, none⟩ (.int .i64 A.1.fx)).setCell ⟨wc230.heap.size, 11, none⟩ (.slice pa2 A.1.pages.length pc2)) := by
               iterate 12 refine below_st ?_ _ hw17
               exact HBl
              refine hK.out _ _ (kS _ hB12) ?_
              intro hSz33
              clear hK K
              try simp only [Act.put, sIB, sZB, sSB]
              refine wpAnyH_ready (rs := [14]) (by kernel_rfl) (by simp) ?_
              refine AllReadyH.cons rfl (fun K hK => ?_) AllReadyH.nil
              go_simp
              have hB15 := below_st (below_st (below_st hB12 (.int .i64 A.2.1) (show wr2.heap.size ≤ (⟨wc206.heap.size, 0, none⟩ : Addr).block from hw18)) (.int .i64 A.2.2.1) (show wr2.heap.size ≤ (⟨wc206.heap.size, 1, none⟩ : Addr).block from hw18)) (.slice ha A.2.2.2.length hc) (show wr2.heap.size ≤ (⟨wc206.heap.size, 2, none⟩ : Addr).block from hw18)
              refine hK.out _ _ (kS _ hB15) ?_
              intro hSy33
              clear hK K
              try simp only [Act.put, sIB, sZB, sSB]
              refine wpAnyH_take (i := 15) (v := ?tv9033) rfl (by kernel_rfl) (by kernel_rfl) (by kernel_rfl) (fun _ _ _ h => h) (Or.inl ⟨by rfl, ?th9033⟩) (by assumption) ?tr9033
              case th9033 => (intro w hSw; (try dsimp only at hSw); go_simp; try with_reducible rfl)
              try simp only [Act.put, sIB, sZB, sSB]
              refine wpAnyH_done (by kernel_rfl) ?_ _
              have Tz17 := (((twelve_set wq wc230.heap.size T17 (d0 := .int .i64 A.1.clock) (d1 := .int .i64 A.1.cas) (d2 := .int .i64 A.1.uses) (d3 := .int .i64 A.1.most) (d4 := .int .i64 A.1.h0) (d5 := .int .i64 A.1.h1) (d6 := .int .i64 A.1.h2) (d7 := .int .i64 A.1.h3) (d8 := .slice ia2 A.1.items.length ic2) (d9 := .int .i64 A.1.fm) (d10 := .int .i64 A.1.fx) (d11 := .slice pa2 A.1.pages.length pc2)).far ⟨wc206.heap.size, 0, none⟩ (.int .i64 A.2.1) hne78).far ⟨wc206.heap.size, 1, none⟩ (.int .i64 A.2.2.1) hne78).far ⟨wc206.heap.size, 2, none⟩ (.slice ha A.2.2.2.length hc) hne78
              have Tz18 : TB 42 (((((((((((((((wq.setCell ⟨wc230.heap.size, 0, none⟩ (.int .i64 A.1.clock)).setCell ⟨wc230.heap.size, 1, none⟩ (.int .i64 A.1.cas)).setCell ⟨wc230.heap.size, 2, none⟩ (.int .i64 A.1.uses)).setCell ⟨wc230.heap.size, 3, none⟩ (.int .i64 A.1.most)).setCell ⟨wc230.heap.size, 4, none⟩ (.int .i64 A.1.h0)).setCell ⟨wc230.heap.size, 5, none⟩ (.int .i64 A.1.h1)).setCell ⟨wc230.heap.size, 6, none⟩ (.int .i64 A.1.h2)).setCell ⟨wc230.heap.size, 7, none⟩ (.int .i64 A.1.h3)).setCell ⟨wc230.heap.size, 8, none⟩ (.slice ia2 A.1.items.length ic2)).setCell ⟨wc230.heap.size, 9, none⟩ (.int .i64 A.1.fm)).setCell ⟨wc230.heap.size, 10, none⟩ (.int .i64 A.1.fx)).setCell ⟨wc230.heap.size, 11, none⟩ (.slice pa2 A.1.pages.length pc2))).setCell ⟨wc206.heap.size, 0, none⟩ (.int .i64 A.2.1)).setCell ⟨wc206.heap.size, 1, none⟩ (.int .i64 A.2.2.1) |>.setCell ⟨wc206.heap.size, 2, none⟩ (.slice ha A.2.2.2.length hc)) wc206.heap.size #[.int .i64 A.2.1, .int .i64 A.2.2.1, .slice ha A.2.2.2.length hc] := by
               have t : TB 42 ((((((((((((wq.setCell ⟨wc230.heap.size, 0, none⟩ (.int .i64 A.1.clock)).setCell ⟨wc230.heap.size, 1, none⟩ (.int .i64 A.1.cas)).setCell ⟨wc230.heap.size, 2, none⟩ (.int .i64 A.1.uses)).setCell ⟨wc230.heap.size, 3, none⟩ (.int .i64 A.1.most)).setCell ⟨wc230.heap.size, 4, none⟩ (.int .i64 A.1.h0)).setCell ⟨wc230.heap.size, 5, none⟩ (.int .i64 A.1.h1)).setCell ⟨wc230.heap.size, 6, none⟩ (.int .i64 A.1.h2)).setCell ⟨wc230.heap.size, 7, none⟩ (.int .i64 A.1.h3)).setCell ⟨wc230.heap.size, 8, none⟩ (.slice ia2 A.1.items.length ic2)).setCell ⟨wc230.heap.size, 9, none⟩ (.int .i64 A.1.fm)).setCell ⟨wc230.heap.size, 10, none⟩ (.int .i64 A.1.fx)).setCell ⟨wc230.heap.size, 11, none⟩ (.slice pa2 A.1.pages.length pc2)) wc206.heap.size #[.int .i64 0, .int .i64 0, .slice none 0 0] := by
                iterate 12 refine TB.far ?_ ⟨wc230.heap.size, _, none⟩ _ hne87
                exact T18
               have t3 := ((t.set 0 (.int .i64 A.2.1)).set 1 (.int .i64 A.2.2.1)).set 2 (.slice ha A.2.2.2.length hc)
               simp only [sIB, sZB, sSB] at t3
               exact t3
              refine ⟨wc230.heap.size, wc206.heap.size, ia2, ic2, pa2, pc2, ha, hc, _, _, _, _, _, _, _, _, _, _, _, rfl, Tz17, Tz18, hw17, hw18, hB15, ?_⟩
              refine StoreFrom.fr hSF (((Fr.set (Fr.set (Fr.set ?_ 0 _ (Or.inl (Or.inr rfl))) 1 _ (Or.inl (Or.inr rfl))) 2 _ (Or.inl (Or.inr rfl))))) hOq hnT2
              iterate 12 refine Fr.set ?_ _ _ (Or.inl (Or.inl rfl))
              exact FQ
            · go_simp
              have Bc236 := below_al Bc229 (.cells #[.int .i64 0, .int .i64 0, .int .i64 0, .int .i64 0, .int .i64 0, .int .i64 0, .int .i64 0, .int .i64 0, .slice none 0 0, .int .i64 0, .int .i64 0, .slice none 0 0] 29)
              have hSc236 := kS _ Bc236
              refine hK.out _ _ hSc236 ?_
              intro hSd236
              clear hK K
              try simp only [Act.put, sIB, sZB, sSB]
              refine wpAnyH_ready (rs := [6]) (by kernel_rfl) (by simp) ?_
              refine AllReadyH.cons rfl (fun K hK => ?_) AllReadyH.nil
              go_simp
              refine ((hDo ((wc206.alloc (.cells #[.int .i64 0, .int .i64 0, .slice none 0 0] 42)).alloc (.cells #[.int .i64 0, .int .i64 0, .int .i64 0, .int .i64 0, .int .i64 0, .int .i64 0, .int .i64 0, .int .i64 0, .slice none 0 0, .int .i64 0, .int .i64 0, .slice none 0 0] 29)) Bc236 _ _ (StrsAt.later (StrsAt.later hKs (below_al (Below.refl _ _) _)) (below_al (Below.refl _ _) _)))).mono ?_
              rintro e wc237 ⟨ia2, ic2, pa2, pc2, ha, hc, nT, hnT, rfl, hSF, hbc237⟩
              have Bc237 : Below wr2.heap.size wr2 wc237 := below_thru Bc236 hbc237
              have hSc237 := kS _ Bc237
              refine hK.out _ _ hSc237 ?_
              intro hSd237
              clear hK K
              try simp only [Act.put, sIB, sZB, sSB]
              refine wpAnyH_take (i := 7) (v := ?tv238) rfl (by kernel_rfl) (by kernel_rfl) (by kernel_rfl) (fun _ _ _ h => h) (Or.inl ⟨by rfl, ?th238⟩) (by assumption) ?tr238
              case th238 => (intro w hSw; (try dsimp only at hSw); go_simp; try with_reducible rfl)
              try simp only [Act.put, sIB, sZB, sSB]
              refine wpAnyH_take (i := 8) (v := ?tv239) rfl (by kernel_rfl) (by kernel_rfl) (by kernel_rfl) (fun _ _ _ h => h) (Or.inl ⟨by rfl, ?th239⟩) (by assumption) ?tr239
              case th239 => (intro w hSw; (try dsimp only at hSw); go_simp; try with_reducible rfl)
              try simp only [Act.put, sIB, sZB, sSB]
              refine wpAnyH_take (i := 9) (v := ?tv240) rfl (by kernel_rfl) (by kernel_rfl) (by kernel_rfl) (fun _ _ _ h => h) (Or.inl ⟨by rfl, ?th240⟩) (by assumption) ?tr240
              case th240 => (intro w hSw; (try dsimp only at hSw); go_simp; try with_reducible rfl)
              try simp only [Act.put, sIB, sZB, sSB]
              refine wpAnyH_take (i := 10) (v := ?tv241) rfl (by kernel_rfl) (by kernel_rfl) (by kernel_rfl) (fun _ _ _ h => h) (Or.inl ⟨by rfl, ?th241⟩) (by assumption) ?tr241
              case th241 => (intro w hSw; (try dsimp only at hSw); go_simp; try with_reducible rfl)
              try simp only [Act.put, sIB, sZB, sSB]
              have zd : wr2.drew.heap.size = wr2.heap.size := rfl
              have zz39 := Below.size hbc206
              have zz40 : (wc206.alloc (.cells #[.int .i64 0, .int .i64 0, .slice none 0 0] 42)).heap.size = wc206.heap.size + 1 := by simp
              have zz41 : ((wc206.alloc (.cells #[.int .i64 0, .int .i64 0, .slice none 0 0] 42)).alloc (.cells #[.int .i64 0, .int .i64 0, .int .i64 0, .int .i64 0, .int .i64 0, .int .i64 0, .int .i64 0, .int .i64 0, .slice none 0 0, .int .i64 0, .int .i64 0, .slice none 0 0] 29)).heap.size = (wc206.alloc (.cells #[.int .i64 0, .int .i64 0, .slice none 0 0] 42)).heap.size + 1 := by simp
              have zz42 := Below.size hbc237
              have T17 : TB 29 wc237 (wc206.heap.size + 1) #[.int .i64 0, .int .i64 0, .int .i64 0, .int .i64 0, .int .i64 0, .int .i64 0, .int .i64 0, .int .i64 0, .slice none 0 0, .int .i64 0, .int .i64 0, .slice none 0 0] := ((TB.new2 (w := (wc206.alloc (.cells #[.int .i64 0, .int .i64 0, .slice none 0 0] 42))) (by first | rfl | (simp; done))).later hbc237)
              have T18 : TB 42 wc237 wc206.heap.size #[.int .i64 0, .int .i64 0, .slice none 0 0] := (((TB.new2 (w := wc206) (by first | rfl | (simp; done))).alloc _).later hbc237)
              have HBl : Below wr2.heap.size wr2 wc237 := Bc237
              have FQ : Fr (fun b => b = (wc206.heap.size + 1) ∨ b = wc206.heap.size) wc237 wc237 := Fr.of_below (Below.refl _ _)
              have hnT1 := hnT.out.1
              have hnT2 := hnT.out.2
              have hOq : ∀ b, (fun b => b = (wc206.heap.size + 1) ∨ b = wc206.heap.size) b → b < nT ∨ wc237.heap.size ≤ b := fun b e => by have e2 : b = (wc206.heap.size + 1) ∨ b = wc206.heap.size := e; omega
              have hw17 : wr2.heap.size ≤ (wc206.heap.size + 1) := by have := Below.size (show Below wr2.heap.size wr2 (wc206.alloc (.cells #[.int .i64 0, .int .i64 0, .slice none 0 0] 42)) from Bc229); omega
              have hw18 : wr2.heap.size ≤ wc206.heap.size := by have := Below.size (show Below wr2.heap.size wr2 wc206 from Bc206); omega
              have hne78 : (wc206.heap.size + 1) ≠ wc206.heap.size := by omega
              have hne87 := Ne.symm hne78
              clear hnT1 zd zz39 zz40 zz41 zz42
              generalize wc237 = wq at *
              have xq := fun j => T17.cell j
              have zq := fun j => T17.frozen j
              have lq := T17.lt
              have xr := fun j => T18.cell j
              have zr := fun j => T18.frozen j
              have lr := T18.lt
              refine wpAnyH_ready (rs := [13]) (by kernel_rfl) (by simp) ?_
              refine AllReadyH.cons rfl (fun K hK => ?_) AllReadyH.nil
              go_simp
              have hB12 : Below wr2.heap.size wr2 ((((((((((((wq.setCell ⟨(wc206.heap.size + 1), 0, none⟩ (.int .i64 A.1.clock)).setCell ⟨(wc206.heap.size + 1), 1, none⟩ (.int .i64 A.1.cas)).setCell ⟨(wc206.heap.size + 1), 2, none⟩ (.int .i64 A.1.uses)).setCell ⟨(wc206.heap.size + 1), 3, none⟩ (.int .i64 A.1.most)).setCell ⟨(wc206.heap.size + 1), 4, none⟩ (.int .i64 A.1.h0)).setCell ⟨(wc206.heap.size + 1), 5, none⟩ (.int .i64 A.1.h1)).setCell ⟨(wc206.heap.size + 1), 6, none⟩ (.int .i64 A.1.h2)).setCell ⟨(wc206.heap.size + 1), 7, none⟩ (.int .i64 A.1.h3)).setCell ⟨(wc206.heap.size + 1), 8, none⟩ (.slice ia2 A.1.items.length ic2)).setCell ⟨(wc206.heap.size + 1), 9, none⟩ (.int .i64 A.1.fm)).setCell ⟨(wc206.heap.size + 1), 10, none⟩ (.int .i64 A.1.fx)).setCell ⟨(wc206.heap.size + 1), 11, none⟩ (.slice pa2 A.1.pages.length pc2)) := by
               iterate 12 refine below_st ?_ _ hw17
               exact HBl
              refine hK.out _ _ (kS _ hB12) ?_
              intro hSz38
              clear hK K
              try simp only [Act.put, sIB, sZB, sSB]
              refine wpAnyH_ready (rs := [14]) (by kernel_rfl) (by simp) ?_
              refine AllReadyH.cons rfl (fun K hK => ?_) AllReadyH.nil
              go_simp
              have hB15 := below_st (below_st (below_st hB12 (.int .i64 A.2.1) (show wr2.heap.size ≤ (⟨wc206.heap.size, 0, none⟩ : Addr).block from hw18)) (.int .i64 A.2.2.1) (show wr2.heap.size ≤ (⟨wc206.heap.size, 1, none⟩ : Addr).block from hw18)) (.slice ha A.2.2.2.length hc) (show wr2.heap.size ≤ (⟨wc206.heap.size, 2, none⟩ : Addr).block from hw18)
              refine hK.out _ _ (kS _ hB15) ?_
              intro hSy38
              clear hK K
              try simp only [Act.put, sIB, sZB, sSB]
              refine wpAnyH_take (i := 15) (v := ?tv9038) rfl (by kernel_rfl) (by kernel_rfl) (by kernel_rfl) (fun _ _ _ h => h) (Or.inl ⟨by rfl, ?th9038⟩) (by assumption) ?tr9038
              case th9038 => (intro w hSw; (try dsimp only at hSw); go_simp; try with_reducible rfl)
              try simp only [Act.put, sIB, sZB, sSB]
              refine wpAnyH_done (by kernel_rfl) ?_ _
              have Tz17 := (((twelve_set wq (wc206.heap.size + 1) T17 (d0 := .int .i64 A.1.clock) (d1 := .int .i64 A.1.cas) (d2 := .int .i64 A.1.uses) (d3 := .int .i64 A.1.most) (d4 := .int .i64 A.1.h0) (d5 := .int .i64 A.1.h1) (d6 := .int .i64 A.1.h2) (d7 := .int .i64 A.1.h3) (d8 := .slice ia2 A.1.items.length ic2) (d9 := .int .i64 A.1.fm) (d10 := .int .i64 A.1.fx) (d11 := .slice pa2 A.1.pages.length pc2)).far ⟨wc206.heap.size, 0, none⟩ (.int .i64 A.2.1) hne78).far ⟨wc206.heap.size, 1, none⟩ (.int .i64 A.2.2.1) hne78).far ⟨wc206.heap.size, 2, none⟩ (.slice ha A.2.2.2.length hc) hne78
              have Tz18 : TB 42 (((((((((((((((wq.setCell ⟨(wc206.heap.size + 1), 0, none⟩ (.int .i64 A.1.clock)).setCell ⟨(wc206.heap.size + 1), 1, none⟩ (.int .i64 A.1.cas)).setCell ⟨(wc206.heap.size + 1), 2, none⟩ (.int .i64 A.1.uses)).setCell ⟨(wc206.heap.size + 1), 3, none⟩ (.int .i64 A.1.most)).setCell ⟨(wc206.heap.size + 1), 4, none⟩ (.int .i64 A.1.h0)).setCell ⟨(wc206.heap.size + 1), 5, none⟩ (.int .i64 A.1.h1)).setCell ⟨(wc206.heap.size + 1), 6, none⟩ (.int .i64 A.1.h2)).setCell ⟨(wc206.heap.size + 1), 7, none⟩ (.int .i64 A.1.h3)).setCell ⟨(wc206.heap.size + 1), 8, none⟩ (.slice ia2 A.1.items.length ic2)).setCell ⟨(wc206.heap.size + 1), 9, none⟩ (.int .i64 A.1.fm)).setCell ⟨(wc206.heap.size + 1), 10, none⟩ (.int .i64 A.1.fx)).setCell ⟨(wc206.heap.size + 1), 11, none⟩ (.slice pa2 A.1.pages.length pc2))).setCell ⟨wc206.heap.size, 0, none⟩ (.int .i64 A.2.1)).setCell ⟨wc206.heap.size, 1, none⟩ (.int .i64 A.2.2.1) |>.setCell ⟨wc206.heap.size, 2, none⟩ (.slice ha A.2.2.2.length hc)) wc206.heap.size #[.int .i64 A.2.1, .int .i64 A.2.2.1, .slice ha A.2.2.2.length hc] := by
               have t : TB 42 ((((((((((((wq.setCell ⟨(wc206.heap.size + 1), 0, none⟩ (.int .i64 A.1.clock)).setCell ⟨(wc206.heap.size + 1), 1, none⟩ (.int .i64 A.1.cas)).setCell ⟨(wc206.heap.size + 1), 2, none⟩ (.int .i64 A.1.uses)).setCell ⟨(wc206.heap.size + 1), 3, none⟩ (.int .i64 A.1.most)).setCell ⟨(wc206.heap.size + 1), 4, none⟩ (.int .i64 A.1.h0)).setCell ⟨(wc206.heap.size + 1), 5, none⟩ (.int .i64 A.1.h1)).setCell ⟨(wc206.heap.size + 1), 6, none⟩ (.int .i64 A.1.h2)).setCell ⟨(wc206.heap.size + 1), 7, none⟩ (.int .i64 A.1.h3)).setCell ⟨(wc206.heap.size + 1), 8, none⟩ (.slice ia2 A.1.items.length ic2)).setCell ⟨(wc206.heap.size + 1), 9, none⟩ (.int .i64 A.1.fm)).setCell ⟨(wc206.heap.size + 1), 10, none⟩ (.int .i64 A.1.fx)).setCell ⟨(wc206.heap.size + 1), 11, none⟩ (.slice pa2 A.1.pages.length pc2)) wc206.heap.size #[.int .i64 0, .int .i64 0, .slice none 0 0] := by
                iterate 12 refine TB.far ?_ ⟨(wc206.heap.size + 1), _, none⟩ _ hne87
                exact T18
               have t3 := ((t.set 0 (.int .i64 A.2.1)).set 1 (.int .i64 A.2.2.1)).set 2 (.slice ha A.2.2.2.length hc)
               simp only [sIB, sZB, sSB] at t3
               exact t3
              refine ⟨(wc206.heap.size + 1), wc206.heap.size, ia2, ic2, pa2, pc2, ha, hc, _, _, _, _, _, _, _, _, _, _, _, rfl, Tz17, Tz18, hw17, hw18, hB15, ?_⟩
              refine StoreFrom.fr hSF (((Fr.set (Fr.set (Fr.set ?_ 0 _ (Or.inl (Or.inr rfl))) 1 _ (Or.inl (Or.inr rfl))) 2 _ (Or.inl (Or.inr rfl))))) hOq hnT2
              iterate 12 refine Fr.set ?_ _ _ (Or.inl (Or.inl rfl))
              exact FQ
        · go_simp
          have Bc242 := below_al (Below.drew (Below.refl wr2.heap.size wr2)) (.cells #[.int .i64 0, .int .i64 0, .int .i64 0, .int .i64 0, .int .i64 0, .int .i64 0, .int .i64 0, .int .i64 0, .slice none 0 0, .int .i64 0, .int .i64 0, .slice none 0 0] 29)
          have hSc242 := kS _ Bc242
          refine hK.out _ _ hSc242 ?_
          intro hSd242
          clear hK K
          try simp only [Act.put, sIB, sZB, sSB]
          refine wpAnyH_ready (rs := [5, 12]) (by kernel_rfl) (by simp) ?_
          refine AllReadyH.cons rfl (fun K hK => ?_) (AllReadyH.cons rfl (fun K hK => ?_) AllReadyH.nil)
          · go_simp
            refine ((hReq (wr2.drew.alloc (.cells #[.int .i64 0, .int .i64 0, .int .i64 0, .int .i64 0, .int .i64 0, .int .i64 0, .int .i64 0, .int .i64 0, .slice none 0 0, .int .i64 0, .int .i64 0, .slice none 0 0] 29)))).mono ?_
            rintro e wc243 ⟨ka, kc, rfl, hKs, hbc243⟩
            have Bc243 : Below wr2.heap.size wr2 wc243 := below_thru Bc242 hbc243
            have hSc243 := kS _ Bc243
            refine hK.out _ _ hSc243 ?_
            intro hSd243
            clear hK K
            try simp only [Act.put, sIB, sZB, sSB]
            refine wpAnyH_ready (rs := [6, 12]) (by kernel_rfl) (by simp) ?_
            refine AllReadyH.cons rfl (fun K hK => ?_) (AllReadyH.cons rfl (fun K hK => ?_) AllReadyH.nil)
            · go_simp
              refine ((hDo wc243 Bc243 _ _ hKs)).mono ?_
              rintro e wc244 ⟨ia2, ic2, pa2, pc2, ha, hc, nT, hnT, rfl, hSF, hbc244⟩
              have Bc244 : Below wr2.heap.size wr2 wc244 := below_thru Bc243 hbc244
              have hSc244 := kS _ Bc244
              refine hK.out _ _ hSc244 ?_
              intro hSd244
              clear hK K
              try simp only [Act.put, sIB, sZB, sSB]
              refine wpAnyH_take (i := 7) (v := ?tv245) rfl (by kernel_rfl) (by kernel_rfl) (by kernel_rfl) (fun _ _ _ h => h) (Or.inl ⟨by rfl, ?th245⟩) (by assumption) ?tr245
              case th245 => (intro w hSw; (try dsimp only at hSw); go_simp; try with_reducible rfl)
              try simp only [Act.put, sIB, sZB, sSB]
              refine wpAnyH_take (i := 8) (v := ?tv246) rfl (by kernel_rfl) (by kernel_rfl) (by kernel_rfl) (fun _ _ _ h => h) (Or.inl ⟨by rfl, ?th246⟩) (by assumption) ?tr246
              case th246 => (intro w hSw; (try dsimp only at hSw); go_simp; try with_reducible rfl)
              try simp only [Act.put, sIB, sZB, sSB]
              refine wpAnyH_take (i := 9) (v := ?tv247) rfl (by kernel_rfl) (by kernel_rfl) (by kernel_rfl) (fun _ _ _ h => h) (Or.inl ⟨by rfl, ?th247⟩) (by assumption) ?tr247
              case th247 => (intro w hSw; (try dsimp only at hSw); go_simp; try with_reducible rfl)
              try simp only [Act.put, sIB, sZB, sSB]
              refine wpAnyH_take (i := 10) (v := ?tv248) rfl (by kernel_rfl) (by kernel_rfl) (by kernel_rfl) (fun _ _ _ h => h) (Or.inl ⟨by rfl, ?th248⟩) (by assumption) ?tr248
              case th248 => (intro w hSw; (try dsimp only at hSw); go_simp; try with_reducible rfl)
              try simp only [Act.put, sIB, sZB, sSB]
              refine wpAnyH_ready (rs := [12]) (by kernel_rfl) (by simp) ?_
              refine AllReadyH.cons rfl (fun K hK => ?_) AllReadyH.nil
              go_simp
              have Bc249 := below_al Bc244 (.cells #[.int .i64 0, .int .i64 0, .slice none 0 0] 42)
              have hSc249 := kS _ Bc249
              refine hK.out _ _ hSc249 ?_
              intro hSd249
              clear hK K
              try simp only [Act.put, sIB, sZB, sSB]
              have zd : wr2.drew.heap.size = wr2.heap.size := rfl
              have zz44 : (wr2.drew.alloc (.cells #[.int .i64 0, .int .i64 0, .int .i64 0, .int .i64 0, .int .i64 0, .int .i64 0, .int .i64 0, .int .i64 0, .slice none 0 0, .int .i64 0, .int .i64 0, .slice none 0 0] 29)).heap.size = wr2.drew.heap.size + 1 := by simp
              have zz45 := Below.size hbc243
              have zz46 := Below.size hbc244
              have zz47 : (wc244.alloc (.cells #[.int .i64 0, .int .i64 0, .slice none 0 0] 42)).heap.size = wc244.heap.size + 1 := by simp
              have T17 : TB 29 (wc244.alloc (.cells #[.int .i64 0, .int .i64 0, .slice none 0 0] 42)) wr2.heap.size #[.int .i64 0, .int .i64 0, .int .i64 0, .int .i64 0, .int .i64 0, .int .i64 0, .int .i64 0, .int .i64 0, .slice none 0 0, .int .i64 0, .int .i64 0, .slice none 0 0] := ((((TB.new2 (w := wr2.drew) (by first | rfl | (simp; done))).later hbc243).later hbc244).alloc _)
              have T18 : TB 42 (wc244.alloc (.cells #[.int .i64 0, .int .i64 0, .slice none 0 0] 42)) wc244.heap.size #[.int .i64 0, .int .i64 0, .slice none 0 0] := (TB.new2 (w := wc244) (by first | rfl | (simp; done)))
              have HBl : Below wr2.heap.size wr2 (wc244.alloc (.cells #[.int .i64 0, .int .i64 0, .slice none 0 0] 42)) := Bc249
              have FQ : Fr (fun b => b = wr2.heap.size ∨ b = wc244.heap.size) wc244 (wc244.alloc (.cells #[.int .i64 0, .int .i64 0, .slice none 0 0] 42)) := Fr.of_below (below_al (Below.refl _ _) _)
              have hnT1 := hnT.out.1
              have hnT2 := hnT.out.2
              have hOq : ∀ b, (fun b => b = wr2.heap.size ∨ b = wc244.heap.size) b → b < nT ∨ wc244.heap.size ≤ b := fun b e => by have e2 : b = wr2.heap.size ∨ b = wc244.heap.size := e; omega
              have hw17 : wr2.heap.size ≤ wr2.heap.size := by have := Below.size (show Below wr2.heap.size wr2 wr2.drew from (Below.drew (Below.refl wr2.heap.size wr2))); omega
              have hw18 : wr2.heap.size ≤ wc244.heap.size := by have := Below.size (show Below wr2.heap.size wr2 wc244 from Bc244); omega
              have hne78 : wr2.heap.size ≠ wc244.heap.size := by omega
              have hne87 := Ne.symm hne78
              clear hnT1 zd zz44 zz45 zz46 zz47
              generalize (wc244.alloc (.cells #[.int .i64 0, .int .i64 0, .slice none 0 0] 42)) = wq at *
              have xq := fun j => T17.cell j
              have zq := fun j => T17.frozen j
              have lq := T17.lt
              have xr := fun j => T18.cell j
              have zr := fun j => T18.frozen j
              have lr := T18.lt
              refine wpAnyH_ready (rs := [13]) (by kernel_rfl) (by simp) ?_
              refine AllReadyH.cons rfl (fun K hK => ?_) AllReadyH.nil
              go_simp
              have hB12 : Below wr2.heap.size wr2 ((((((((((((wq.setCell ⟨wr2.heap.size, 0, none⟩ (.int .i64 A.1.clock)).setCell ⟨wr2.heap.size, 1, none⟩ (.int .i64 A.1.cas)).setCell ⟨wr2.heap.size, 2, none⟩ (.int .i64 A.1.uses)).setCell ⟨wr2.heap.size, 3, none⟩ (.int .i64 A.1.most)).setCell ⟨wr2.heap.size, 4, none⟩ (.int .i64 A.1.h0)).setCell ⟨wr2.heap.size, 5, none⟩ (.int .i64 A.1.h1)).setCell ⟨wr2.heap.size, 6, none⟩ (.int .i64 A.1.h2)).setCell ⟨wr2.heap.size, 7, none⟩ (.int .i64 A.1.h3)).setCell ⟨wr2.heap.size, 8, none⟩ (.slice ia2 A.1.items.length ic2)).setCell ⟨wr2.heap.size, 9, none⟩ (.int .i64 A.1.fm)).setCell ⟨wr2.heap.size, 10, none⟩ (.int .i64 A.1.fx)).setCell ⟨wr2.heap.size, 11, none⟩ (.slice pa2 A.1.pages.length pc2)) := by
               iterate 12 refine below_st ?_ _ hw17
               exact HBl
              refine hK.out _ _ (kS _ hB12) ?_
              intro hSz43
              clear hK K
              try simp only [Act.put, sIB, sZB, sSB]
              refine wpAnyH_ready (rs := [14]) (by kernel_rfl) (by simp) ?_
              refine AllReadyH.cons rfl (fun K hK => ?_) AllReadyH.nil
              go_simp
              have hB15 := below_st (below_st (below_st hB12 (.int .i64 A.2.1) (show wr2.heap.size ≤ (⟨wc244.heap.size, 0, none⟩ : Addr).block from hw18)) (.int .i64 A.2.2.1) (show wr2.heap.size ≤ (⟨wc244.heap.size, 1, none⟩ : Addr).block from hw18)) (.slice ha A.2.2.2.length hc) (show wr2.heap.size ≤ (⟨wc244.heap.size, 2, none⟩ : Addr).block from hw18)
              refine hK.out _ _ (kS _ hB15) ?_
              intro hSy43
              clear hK K
              try simp only [Act.put, sIB, sZB, sSB]
              refine wpAnyH_take (i := 15) (v := ?tv9043) rfl (by kernel_rfl) (by kernel_rfl) (by kernel_rfl) (fun _ _ _ h => h) (Or.inl ⟨by rfl, ?th9043⟩) (by assumption) ?tr9043
              case th9043 => (intro w hSw; (try dsimp only at hSw); go_simp; try with_reducible rfl)
              try simp only [Act.put, sIB, sZB, sSB]
              refine wpAnyH_done (by kernel_rfl) ?_ _
              have Tz17 := (((twelve_set wq wr2.heap.size T17 (d0 := .int .i64 A.1.clock) (d1 := .int .i64 A.1.cas) (d2 := .int .i64 A.1.uses) (d3 := .int .i64 A.1.most) (d4 := .int .i64 A.1.h0) (d5 := .int .i64 A.1.h1) (d6 := .int .i64 A.1.h2) (d7 := .int .i64 A.1.h3) (d8 := .slice ia2 A.1.items.length ic2) (d9 := .int .i64 A.1.fm) (d10 := .int .i64 A.1.fx) (d11 := .slice pa2 A.1.pages.length pc2)).far ⟨wc244.heap.size, 0, none⟩ (.int .i64 A.2.1) hne78).far ⟨wc244.heap.size, 1, none⟩ (.int .i64 A.2.2.1) hne78).far ⟨wc244.heap.size, 2, none⟩ (.slice ha A.2.2.2.length hc) hne78
              have Tz18 : TB 42 (((((((((((((((wq.setCell ⟨wr2.heap.size, 0, none⟩ (.int .i64 A.1.clock)).setCell ⟨wr2.heap.size, 1, none⟩ (.int .i64 A.1.cas)).setCell ⟨wr2.heap.size, 2, none⟩ (.int .i64 A.1.uses)).setCell ⟨wr2.heap.size, 3, none⟩ (.int .i64 A.1.most)).setCell ⟨wr2.heap.size, 4, none⟩ (.int .i64 A.1.h0)).setCell ⟨wr2.heap.size, 5, none⟩ (.int .i64 A.1.h1)).setCell ⟨wr2.heap.size, 6, none⟩ (.int .i64 A.1.h2)).setCell ⟨wr2.heap.size, 7, none⟩ (.int .i64 A.1.h3)).setCell ⟨wr2.heap.size, 8, none⟩ (.slice ia2 A.1.items.length ic2)).setCell ⟨wr2.heap.size, 9, none⟩ (.int .i64 A.1.fm)).setCell ⟨wr2.heap.size, 10, none⟩ (.int .i64 A.1.fx)).setCell ⟨wr2.heap.size, 11, none⟩ (.slice pa2 A.1.pages.length pc2))).setCell ⟨wc244.heap.size, 0, none⟩ (.int .i64 A.2.1)).setCell ⟨wc244.heap.size, 1, none⟩ (.int .i64 A.2.2.1) |>.setCell ⟨wc244.heap.size, 2, none⟩ (.slice ha A.2.2.2.length hc)) wc244.heap.size #[.int .i64 A.2.1, .int .i64 A.2.2.1, .slice ha A.2.2.2.length hc] := by
               have t : TB 42 ((((((((((((wq.setCell ⟨wr2.heap.size, 0, none⟩ (.int .i64 A.1.clock)).setCell ⟨wr2.heap.size, 1, none⟩ (.int .i64 A.1.cas)).setCell ⟨wr2.heap.size, 2, none⟩ (.int .i64 A.1.uses)).setCell ⟨wr2.heap.size, 3, none⟩ (.int .i64 A.1.most)).setCell ⟨wr2.heap.size, 4, none⟩ (.int .i64 A.1.h0)).setCell ⟨wr2.heap.size, 5, none⟩ (.int .i64 A.1.h1)).setCell ⟨wr2.heap.size, 6, none⟩ (.int .i64 A.1.h2)).setCell ⟨wr2.heap.size, 7, none⟩ (.int .i64 A.1.h3)).setCell ⟨wr2.heap.size, 8, none⟩ (.slice ia2 A.1.items.length ic2)).setCell ⟨wr2.heap.size, 9, none⟩ (.int .i64 A.1.fm)).setCell ⟨wr2.heap.size, 10, none⟩ (.int .i64 A.1.fx)).setCell ⟨wr2.heap.size, 11, none⟩ (.slice pa2 A.1.pages.length pc2)) wc244.heap.size #[.int .i64 0, .int .i64 0, .slice none 0 0] := by
                iterate 12 refine TB.far ?_ ⟨wr2.heap.size, _, none⟩ _ hne87
                exact T18
               have t3 := ((t.set 0 (.int .i64 A.2.1)).set 1 (.int .i64 A.2.2.1)).set 2 (.slice ha A.2.2.2.length hc)
               simp only [sIB, sZB, sSB] at t3
               exact t3
              refine ⟨wr2.heap.size, wc244.heap.size, ia2, ic2, pa2, pc2, ha, hc, _, _, _, _, _, _, _, _, _, _, _, rfl, Tz17, Tz18, hw17, hw18, hB15, ?_⟩
              refine StoreFrom.fr hSF (((Fr.set (Fr.set (Fr.set ?_ 0 _ (Or.inl (Or.inr rfl))) 1 _ (Or.inl (Or.inr rfl))) 2 _ (Or.inl (Or.inr rfl))))) hOq hnT2
              iterate 12 refine Fr.set ?_ _ _ (Or.inl (Or.inl rfl))
              exact FQ
            · go_simp
              have Bc250 := below_al Bc243 (.cells #[.int .i64 0, .int .i64 0, .slice none 0 0] 42)
              have hSc250 := kS _ Bc250
              refine hK.out _ _ hSc250 ?_
              intro hSd250
              clear hK K
              try simp only [Act.put, sIB, sZB, sSB]
              refine wpAnyH_ready (rs := [6]) (by kernel_rfl) (by simp) ?_
              refine AllReadyH.cons rfl (fun K hK => ?_) AllReadyH.nil
              go_simp
              refine ((hDo (wc243.alloc (.cells #[.int .i64 0, .int .i64 0, .slice none 0 0] 42)) Bc250 _ _ (StrsAt.later hKs (below_al (Below.refl _ _) _)))).mono ?_
              rintro e wc251 ⟨ia2, ic2, pa2, pc2, ha, hc, nT, hnT, rfl, hSF, hbc251⟩
              have Bc251 : Below wr2.heap.size wr2 wc251 := below_thru Bc250 hbc251
              have hSc251 := kS _ Bc251
              refine hK.out _ _ hSc251 ?_
              intro hSd251
              clear hK K
              try simp only [Act.put, sIB, sZB, sSB]
              refine wpAnyH_take (i := 7) (v := ?tv252) rfl (by kernel_rfl) (by kernel_rfl) (by kernel_rfl) (fun _ _ _ h => h) (Or.inl ⟨by rfl, ?th252⟩) (by assumption) ?tr252
              case th252 => (intro w hSw; (try dsimp only at hSw); go_simp; try with_reducible rfl)
              try simp only [Act.put, sIB, sZB, sSB]
              refine wpAnyH_take (i := 8) (v := ?tv253) rfl (by kernel_rfl) (by kernel_rfl) (by kernel_rfl) (fun _ _ _ h => h) (Or.inl ⟨by rfl, ?th253⟩) (by assumption) ?tr253
              case th253 => (intro w hSw; (try dsimp only at hSw); go_simp; try with_reducible rfl)
              try simp only [Act.put, sIB, sZB, sSB]
              refine wpAnyH_take (i := 9) (v := ?tv254) rfl (by kernel_rfl) (by kernel_rfl) (by kernel_rfl) (fun _ _ _ h => h) (Or.inl ⟨by rfl, ?th254⟩) (by assumption) ?tr254
              case th254 => (intro w hSw; (try dsimp only at hSw); go_simp; try with_reducible rfl)
              try simp only [Act.put, sIB, sZB, sSB]
              refine wpAnyH_take (i := 10) (v := ?tv255) rfl (by kernel_rfl) (by kernel_rfl) (by kernel_rfl) (fun _ _ _ h => h) (Or.inl ⟨by rfl, ?th255⟩) (by assumption) ?tr255
              case th255 => (intro w hSw; (try dsimp only at hSw); go_simp; try with_reducible rfl)
              try simp only [Act.put, sIB, sZB, sSB]
              have zd : wr2.drew.heap.size = wr2.heap.size := rfl
              have zz49 : (wr2.drew.alloc (.cells #[.int .i64 0, .int .i64 0, .int .i64 0, .int .i64 0, .int .i64 0, .int .i64 0, .int .i64 0, .int .i64 0, .slice none 0 0, .int .i64 0, .int .i64 0, .slice none 0 0] 29)).heap.size = wr2.drew.heap.size + 1 := by simp
              have zz50 := Below.size hbc243
              have zz51 : (wc243.alloc (.cells #[.int .i64 0, .int .i64 0, .slice none 0 0] 42)).heap.size = wc243.heap.size + 1 := by simp
              have zz52 := Below.size hbc251
              have T17 : TB 29 wc251 wr2.heap.size #[.int .i64 0, .int .i64 0, .int .i64 0, .int .i64 0, .int .i64 0, .int .i64 0, .int .i64 0, .int .i64 0, .slice none 0 0, .int .i64 0, .int .i64 0, .slice none 0 0] := ((((TB.new2 (w := wr2.drew) (by first | rfl | (simp; done))).later hbc243).alloc _).later hbc251)
              have T18 : TB 42 wc251 wc243.heap.size #[.int .i64 0, .int .i64 0, .slice none 0 0] := ((TB.new2 (w := wc243) (by first | rfl | (simp; done))).later hbc251)
              have HBl : Below wr2.heap.size wr2 wc251 := Bc251
              have FQ : Fr (fun b => b = wr2.heap.size ∨ b = wc243.heap.size) wc251 wc251 := Fr.of_below (Below.refl _ _)
              have hnT1 := hnT.out.1
              have hnT2 := hnT.out.2
              have hOq : ∀ b, (fun b => b = wr2.heap.size ∨ b = wc243.heap.size) b → b < nT ∨ wc251.heap.size ≤ b := fun b e => by have e2 : b = wr2.heap.size ∨ b = wc243.heap.size := e; omega
              have hw17 : wr2.heap.size ≤ wr2.heap.size := by have := Below.size (show Below wr2.heap.size wr2 wr2.drew from (Below.drew (Below.refl wr2.heap.size wr2))); omega
              have hw18 : wr2.heap.size ≤ wc243.heap.size := by have := Below.size (show Below wr2.heap.size wr2 wc243 from Bc243); omega
              have hne78 : wr2.heap.size ≠ wc243.heap.size := by omega
              have hne87 := Ne.symm hne78
              clear hnT1 zd zz49 zz50 zz51 zz52
              generalize wc251 = wq at *
              have xq := fun j => T17.cell j
              have zq := fun j => T17.frozen j
              have lq := T17.lt
              have xr := fun j => T18.cell j
              have zr := fun j => T18.frozen j
              have lr := T18.lt
              refine wpAnyH_ready (rs := [13]) (by kernel_rfl) (by simp) ?_
              refine AllReadyH.cons rfl (fun K hK => ?_) AllReadyH.nil
              go_simp
              have hB12 : Below wr2.heap.size wr2 ((((((((((((wq.setCell ⟨wr2.heap.size, 0, none⟩ (.int .i64 A.1.clock)).setCell ⟨wr2.heap.size, 1, none⟩ (.int .i64 A.1.cas)).setCell ⟨wr2.heap.size, 2, none⟩ (.int .i64 A.1.uses)).setCell ⟨wr2.heap.size, 3, none⟩ (.int .i64 A.1.most)).setCell ⟨wr2.heap.size, 4, none⟩ (.int .i64 A.1.h0)).setCell ⟨wr2.heap.size, 5, none⟩ (.int .i64 A.1.h1)).setCell ⟨wr2.heap.size, 6, none⟩ (.int .i64 A.1.h2)).setCell ⟨wr2.heap.size, 7, none⟩ (.int .i64 A.1.h3)).setCell ⟨wr2.heap.size, 8, none⟩ (.slice ia2 A.1.items.length ic2)).setCell ⟨wr2.heap.size, 9, none⟩ (.int .i64 A.1.fm)).setCell ⟨wr2.heap.size, 10, none⟩ (.int .i64 A.1.fx)).setCell ⟨wr2.heap.size, 11, none⟩ (.slice pa2 A.1.pages.length pc2)) := by
               iterate 12 refine below_st ?_ _ hw17
               exact HBl
              refine hK.out _ _ (kS _ hB12) ?_
              intro hSz48
              clear hK K
              try simp only [Act.put, sIB, sZB, sSB]
              refine wpAnyH_ready (rs := [14]) (by kernel_rfl) (by simp) ?_
              refine AllReadyH.cons rfl (fun K hK => ?_) AllReadyH.nil
              go_simp
              have hB15 := below_st (below_st (below_st hB12 (.int .i64 A.2.1) (show wr2.heap.size ≤ (⟨wc243.heap.size, 0, none⟩ : Addr).block from hw18)) (.int .i64 A.2.2.1) (show wr2.heap.size ≤ (⟨wc243.heap.size, 1, none⟩ : Addr).block from hw18)) (.slice ha A.2.2.2.length hc) (show wr2.heap.size ≤ (⟨wc243.heap.size, 2, none⟩ : Addr).block from hw18)
              refine hK.out _ _ (kS _ hB15) ?_
              intro hSy48
              clear hK K
              try simp only [Act.put, sIB, sZB, sSB]
              refine wpAnyH_take (i := 15) (v := ?tv9048) rfl (by kernel_rfl) (by kernel_rfl) (by kernel_rfl) (fun _ _ _ h => h) (Or.inl ⟨by rfl, ?th9048⟩) (by assumption) ?tr9048
              case th9048 => (intro w hSw; (try dsimp only at hSw); go_simp; try with_reducible rfl)
              try simp only [Act.put, sIB, sZB, sSB]
              refine wpAnyH_done (by kernel_rfl) ?_ _
              have Tz17 := (((twelve_set wq wr2.heap.size T17 (d0 := .int .i64 A.1.clock) (d1 := .int .i64 A.1.cas) (d2 := .int .i64 A.1.uses) (d3 := .int .i64 A.1.most) (d4 := .int .i64 A.1.h0) (d5 := .int .i64 A.1.h1) (d6 := .int .i64 A.1.h2) (d7 := .int .i64 A.1.h3) (d8 := .slice ia2 A.1.items.length ic2) (d9 := .int .i64 A.1.fm) (d10 := .int .i64 A.1.fx) (d11 := .slice pa2 A.1.pages.length pc2)).far ⟨wc243.heap.size, 0, none⟩ (.int .i64 A.2.1) hne78).far ⟨wc243.heap.size, 1, none⟩ (.int .i64 A.2.2.1) hne78).far ⟨wc243.heap.size, 2, none⟩ (.slice ha A.2.2.2.length hc) hne78
              have Tz18 : TB 42 (((((((((((((((wq.setCell ⟨wr2.heap.size, 0, none⟩ (.int .i64 A.1.clock)).setCell ⟨wr2.heap.size, 1, none⟩ (.int .i64 A.1.cas)).setCell ⟨wr2.heap.size, 2, none⟩ (.int .i64 A.1.uses)).setCell ⟨wr2.heap.size, 3, none⟩ (.int .i64 A.1.most)).setCell ⟨wr2.heap.size, 4, none⟩ (.int .i64 A.1.h0)).setCell ⟨wr2.heap.size, 5, none⟩ (.int .i64 A.1.h1)).setCell ⟨wr2.heap.size, 6, none⟩ (.int .i64 A.1.h2)).setCell ⟨wr2.heap.size, 7, none⟩ (.int .i64 A.1.h3)).setCell ⟨wr2.heap.size, 8, none⟩ (.slice ia2 A.1.items.length ic2)).setCell ⟨wr2.heap.size, 9, none⟩ (.int .i64 A.1.fm)).setCell ⟨wr2.heap.size, 10, none⟩ (.int .i64 A.1.fx)).setCell ⟨wr2.heap.size, 11, none⟩ (.slice pa2 A.1.pages.length pc2))).setCell ⟨wc243.heap.size, 0, none⟩ (.int .i64 A.2.1)).setCell ⟨wc243.heap.size, 1, none⟩ (.int .i64 A.2.2.1) |>.setCell ⟨wc243.heap.size, 2, none⟩ (.slice ha A.2.2.2.length hc)) wc243.heap.size #[.int .i64 A.2.1, .int .i64 A.2.2.1, .slice ha A.2.2.2.length hc] := by
               have t : TB 42 ((((((((((((wq.setCell ⟨wr2.heap.size, 0, none⟩ (.int .i64 A.1.clock)).setCell ⟨wr2.heap.size, 1, none⟩ (.int .i64 A.1.cas)).setCell ⟨wr2.heap.size, 2, none⟩ (.int .i64 A.1.uses)).setCell ⟨wr2.heap.size, 3, none⟩ (.int .i64 A.1.most)).setCell ⟨wr2.heap.size, 4, none⟩ (.int .i64 A.1.h0)).setCell ⟨wr2.heap.size, 5, none⟩ (.int .i64 A.1.h1)).setCell ⟨wr2.heap.size, 6, none⟩ (.int .i64 A.1.h2)).setCell ⟨wr2.heap.size, 7, none⟩ (.int .i64 A.1.h3)).setCell ⟨wr2.heap.size, 8, none⟩ (.slice ia2 A.1.items.length ic2)).setCell ⟨wr2.heap.size, 9, none⟩ (.int .i64 A.1.fm)).setCell ⟨wr2.heap.size, 10, none⟩ (.int .i64 A.1.fx)).setCell ⟨wr2.heap.size, 11, none⟩ (.slice pa2 A.1.pages.length pc2)) wc243.heap.size #[.int .i64 0, .int .i64 0, .slice none 0 0] := by
                iterate 12 refine TB.far ?_ ⟨wr2.heap.size, _, none⟩ _ hne87
                exact T18
               have t3 := ((t.set 0 (.int .i64 A.2.1)).set 1 (.int .i64 A.2.2.1)).set 2 (.slice ha A.2.2.2.length hc)
               simp only [sIB, sZB, sSB] at t3
               exact t3
              refine ⟨wr2.heap.size, wc243.heap.size, ia2, ic2, pa2, pc2, ha, hc, _, _, _, _, _, _, _, _, _, _, _, rfl, Tz17, Tz18, hw17, hw18, hB15, ?_⟩
              refine StoreFrom.fr hSF (((Fr.set (Fr.set (Fr.set ?_ 0 _ (Or.inl (Or.inr rfl))) 1 _ (Or.inl (Or.inr rfl))) 2 _ (Or.inl (Or.inr rfl))))) hOq hnT2
              iterate 12 refine Fr.set ?_ _ _ (Or.inl (Or.inl rfl))
              exact FQ
          · go_simp
            have Bc256 := below_al Bc242 (.cells #[.int .i64 0, .int .i64 0, .slice none 0 0] 42)
            have hSc256 := kS _ Bc256
            refine hK.out _ _ hSc256 ?_
            intro hSd256
            clear hK K
            try simp only [Act.put, sIB, sZB, sSB]
            refine wpAnyH_ready (rs := [5]) (by kernel_rfl) (by simp) ?_
            refine AllReadyH.cons rfl (fun K hK => ?_) AllReadyH.nil
            go_simp
            refine ((hReq ((wr2.drew.alloc (.cells #[.int .i64 0, .int .i64 0, .int .i64 0, .int .i64 0, .int .i64 0, .int .i64 0, .int .i64 0, .int .i64 0, .slice none 0 0, .int .i64 0, .int .i64 0, .slice none 0 0] 29)).alloc (.cells #[.int .i64 0, .int .i64 0, .slice none 0 0] 42)))).mono ?_
            rintro e wc257 ⟨ka, kc, rfl, hKs, hbc257⟩
            have Bc257 : Below wr2.heap.size wr2 wc257 := below_thru Bc256 hbc257
            have hSc257 := kS _ Bc257
            refine hK.out _ _ hSc257 ?_
            intro hSd257
            clear hK K
            try simp only [Act.put, sIB, sZB, sSB]
            refine wpAnyH_ready (rs := [6]) (by kernel_rfl) (by simp) ?_
            refine AllReadyH.cons rfl (fun K hK => ?_) AllReadyH.nil
            go_simp
            refine ((hDo wc257 Bc257 _ _ hKs)).mono ?_
            rintro e wc258 ⟨ia2, ic2, pa2, pc2, ha, hc, nT, hnT, rfl, hSF, hbc258⟩
            have Bc258 : Below wr2.heap.size wr2 wc258 := below_thru Bc257 hbc258
            have hSc258 := kS _ Bc258
            refine hK.out _ _ hSc258 ?_
            intro hSd258
            clear hK K
            try simp only [Act.put, sIB, sZB, sSB]
            refine wpAnyH_take (i := 7) (v := ?tv259) rfl (by kernel_rfl) (by kernel_rfl) (by kernel_rfl) (fun _ _ _ h => h) (Or.inl ⟨by rfl, ?th259⟩) (by assumption) ?tr259
            case th259 => (intro w hSw; (try dsimp only at hSw); go_simp; try with_reducible rfl)
            try simp only [Act.put, sIB, sZB, sSB]
            refine wpAnyH_take (i := 8) (v := ?tv260) rfl (by kernel_rfl) (by kernel_rfl) (by kernel_rfl) (fun _ _ _ h => h) (Or.inl ⟨by rfl, ?th260⟩) (by assumption) ?tr260
            case th260 => (intro w hSw; (try dsimp only at hSw); go_simp; try with_reducible rfl)
            try simp only [Act.put, sIB, sZB, sSB]
            refine wpAnyH_take (i := 9) (v := ?tv261) rfl (by kernel_rfl) (by kernel_rfl) (by kernel_rfl) (fun _ _ _ h => h) (Or.inl ⟨by rfl, ?th261⟩) (by assumption) ?tr261
            case th261 => (intro w hSw; (try dsimp only at hSw); go_simp; try with_reducible rfl)
            try simp only [Act.put, sIB, sZB, sSB]
            refine wpAnyH_take (i := 10) (v := ?tv262) rfl (by kernel_rfl) (by kernel_rfl) (by kernel_rfl) (fun _ _ _ h => h) (Or.inl ⟨by rfl, ?th262⟩) (by assumption) ?tr262
            case th262 => (intro w hSw; (try dsimp only at hSw); go_simp; try with_reducible rfl)
            try simp only [Act.put, sIB, sZB, sSB]
            have zd : wr2.drew.heap.size = wr2.heap.size := rfl
            have zz54 : (wr2.drew.alloc (.cells #[.int .i64 0, .int .i64 0, .int .i64 0, .int .i64 0, .int .i64 0, .int .i64 0, .int .i64 0, .int .i64 0, .slice none 0 0, .int .i64 0, .int .i64 0, .slice none 0 0] 29)).heap.size = wr2.drew.heap.size + 1 := by simp
            have zz55 : ((wr2.drew.alloc (.cells #[.int .i64 0, .int .i64 0, .int .i64 0, .int .i64 0, .int .i64 0, .int .i64 0, .int .i64 0, .int .i64 0, .slice none 0 0, .int .i64 0, .int .i64 0, .slice none 0 0] 29)).alloc (.cells #[.int .i64 0, .int .i64 0, .slice none 0 0] 42)).heap.size = (wr2.drew.alloc (.cells #[.int .i64 0, .int .i64 0, .int .i64 0, .int .i64 0, .int .i64 0, .int .i64 0, .int .i64 0, .int .i64 0, .slice none 0 0, .int .i64 0, .int .i64 0, .slice none 0 0] 29)).heap.size + 1 := by simp
            have zz56 := Below.size hbc257
            have zz57 := Below.size hbc258
            have T17 : TB 29 wc258 wr2.heap.size #[.int .i64 0, .int .i64 0, .int .i64 0, .int .i64 0, .int .i64 0, .int .i64 0, .int .i64 0, .int .i64 0, .slice none 0 0, .int .i64 0, .int .i64 0, .slice none 0 0] := ((((TB.new2 (w := wr2.drew) (by first | rfl | (simp; done))).alloc _).later hbc257).later hbc258)
            have T18 : TB 42 wc258 (wr2.heap.size + 1) #[.int .i64 0, .int .i64 0, .slice none 0 0] := (((TB.new2 (w := (wr2.drew.alloc (.cells #[.int .i64 0, .int .i64 0, .int .i64 0, .int .i64 0, .int .i64 0, .int .i64 0, .int .i64 0, .int .i64 0, .slice none 0 0, .int .i64 0, .int .i64 0, .slice none 0 0] 29))) (by first | rfl | (simp; done))).later hbc257).later hbc258)
            have HBl : Below wr2.heap.size wr2 wc258 := Bc258
            have FQ : Fr (fun b => b = wr2.heap.size ∨ b = (wr2.heap.size + 1)) wc258 wc258 := Fr.of_below (Below.refl _ _)
            have hnT1 := hnT.out.1
            have hnT2 := hnT.out.2
            have hOq : ∀ b, (fun b => b = wr2.heap.size ∨ b = (wr2.heap.size + 1)) b → b < nT ∨ wc258.heap.size ≤ b := fun b e => by have e2 : b = wr2.heap.size ∨ b = (wr2.heap.size + 1) := e; omega
            have hw17 : wr2.heap.size ≤ wr2.heap.size := by have := Below.size (show Below wr2.heap.size wr2 wr2.drew from (Below.drew (Below.refl wr2.heap.size wr2))); omega
            have hw18 : wr2.heap.size ≤ (wr2.heap.size + 1) := by have := Below.size (show Below wr2.heap.size wr2 (wr2.drew.alloc (.cells #[.int .i64 0, .int .i64 0, .int .i64 0, .int .i64 0, .int .i64 0, .int .i64 0, .int .i64 0, .int .i64 0, .slice none 0 0, .int .i64 0, .int .i64 0, .slice none 0 0] 29)) from Bc242); omega
            have hne78 : wr2.heap.size ≠ (wr2.heap.size + 1) := by omega
            have hne87 := Ne.symm hne78
            clear hnT1 zd zz54 zz55 zz56 zz57
            generalize wc258 = wq at *
            have xq := fun j => T17.cell j
            have zq := fun j => T17.frozen j
            have lq := T17.lt
            have xr := fun j => T18.cell j
            have zr := fun j => T18.frozen j
            have lr := T18.lt
            refine wpAnyH_ready (rs := [13]) (by kernel_rfl) (by simp) ?_
            refine AllReadyH.cons rfl (fun K hK => ?_) AllReadyH.nil
            go_simp
            have hB12 : Below wr2.heap.size wr2 ((((((((((((wq.setCell ⟨wr2.heap.size, 0, none⟩ (.int .i64 A.1.clock)).setCell ⟨wr2.heap.size, 1, none⟩ (.int .i64 A.1.cas)).setCell ⟨wr2.heap.size, 2, none⟩ (.int .i64 A.1.uses)).setCell ⟨wr2.heap.size, 3, none⟩ (.int .i64 A.1.most)).setCell ⟨wr2.heap.size, 4, none⟩ (.int .i64 A.1.h0)).setCell ⟨wr2.heap.size, 5, none⟩ (.int .i64 A.1.h1)).setCell ⟨wr2.heap.size, 6, none⟩ (.int .i64 A.1.h2)).setCell ⟨wr2.heap.size, 7, none⟩ (.int .i64 A.1.h3)).setCell ⟨wr2.heap.size, 8, none⟩ (.slice ia2 A.1.items.length ic2)).setCell ⟨wr2.heap.size, 9, none⟩ (.int .i64 A.1.fm)).setCell ⟨wr2.heap.size, 10, none⟩ (.int .i64 A.1.fx)).setCell ⟨wr2.heap.size, 11, none⟩ (.slice pa2 A.1.pages.length pc2)) := by
             iterate 12 refine below_st ?_ _ hw17
             exact HBl
            refine hK.out _ _ (kS _ hB12) ?_
            intro hSz53
            clear hK K
            try simp only [Act.put, sIB, sZB, sSB]
            refine wpAnyH_ready (rs := [14]) (by kernel_rfl) (by simp) ?_
            refine AllReadyH.cons rfl (fun K hK => ?_) AllReadyH.nil
            go_simp
            have hB15 := below_st (below_st (below_st hB12 (.int .i64 A.2.1) (show wr2.heap.size ≤ (⟨(wr2.heap.size + 1), 0, none⟩ : Addr).block from hw18)) (.int .i64 A.2.2.1) (show wr2.heap.size ≤ (⟨(wr2.heap.size + 1), 1, none⟩ : Addr).block from hw18)) (.slice ha A.2.2.2.length hc) (show wr2.heap.size ≤ (⟨(wr2.heap.size + 1), 2, none⟩ : Addr).block from hw18)
            refine hK.out _ _ (kS _ hB15) ?_
            intro hSy53
            clear hK K
            try simp only [Act.put, sIB, sZB, sSB]
            refine wpAnyH_take (i := 15) (v := ?tv9053) rfl (by kernel_rfl) (by kernel_rfl) (by kernel_rfl) (fun _ _ _ h => h) (Or.inl ⟨by rfl, ?th9053⟩) (by assumption) ?tr9053
            case th9053 => (intro w hSw; (try dsimp only at hSw); go_simp; try with_reducible rfl)
            try simp only [Act.put, sIB, sZB, sSB]
            refine wpAnyH_done (by kernel_rfl) ?_ _
            have Tz17 := (((twelve_set wq wr2.heap.size T17 (d0 := .int .i64 A.1.clock) (d1 := .int .i64 A.1.cas) (d2 := .int .i64 A.1.uses) (d3 := .int .i64 A.1.most) (d4 := .int .i64 A.1.h0) (d5 := .int .i64 A.1.h1) (d6 := .int .i64 A.1.h2) (d7 := .int .i64 A.1.h3) (d8 := .slice ia2 A.1.items.length ic2) (d9 := .int .i64 A.1.fm) (d10 := .int .i64 A.1.fx) (d11 := .slice pa2 A.1.pages.length pc2)).far ⟨(wr2.heap.size + 1), 0, none⟩ (.int .i64 A.2.1) hne78).far ⟨(wr2.heap.size + 1), 1, none⟩ (.int .i64 A.2.2.1) hne78).far ⟨(wr2.heap.size + 1), 2, none⟩ (.slice ha A.2.2.2.length hc) hne78
            have Tz18 : TB 42 (((((((((((((((wq.setCell ⟨wr2.heap.size, 0, none⟩ (.int .i64 A.1.clock)).setCell ⟨wr2.heap.size, 1, none⟩ (.int .i64 A.1.cas)).setCell ⟨wr2.heap.size, 2, none⟩ (.int .i64 A.1.uses)).setCell ⟨wr2.heap.size, 3, none⟩ (.int .i64 A.1.most)).setCell ⟨wr2.heap.size, 4, none⟩ (.int .i64 A.1.h0)).setCell ⟨wr2.heap.size, 5, none⟩ (.int .i64 A.1.h1)).setCell ⟨wr2.heap.size, 6, none⟩ (.int .i64 A.1.h2)).setCell ⟨wr2.heap.size, 7, none⟩ (.int .i64 A.1.h3)).setCell ⟨wr2.heap.size, 8, none⟩ (.slice ia2 A.1.items.length ic2)).setCell ⟨wr2.heap.size, 9, none⟩ (.int .i64 A.1.fm)).setCell ⟨wr2.heap.size, 10, none⟩ (.int .i64 A.1.fx)).setCell ⟨wr2.heap.size, 11, none⟩ (.slice pa2 A.1.pages.length pc2))).setCell ⟨(wr2.heap.size + 1), 0, none⟩ (.int .i64 A.2.1)).setCell ⟨(wr2.heap.size + 1), 1, none⟩ (.int .i64 A.2.2.1) |>.setCell ⟨(wr2.heap.size + 1), 2, none⟩ (.slice ha A.2.2.2.length hc)) (wr2.heap.size + 1) #[.int .i64 A.2.1, .int .i64 A.2.2.1, .slice ha A.2.2.2.length hc] := by
             have t : TB 42 ((((((((((((wq.setCell ⟨wr2.heap.size, 0, none⟩ (.int .i64 A.1.clock)).setCell ⟨wr2.heap.size, 1, none⟩ (.int .i64 A.1.cas)).setCell ⟨wr2.heap.size, 2, none⟩ (.int .i64 A.1.uses)).setCell ⟨wr2.heap.size, 3, none⟩ (.int .i64 A.1.most)).setCell ⟨wr2.heap.size, 4, none⟩ (.int .i64 A.1.h0)).setCell ⟨wr2.heap.size, 5, none⟩ (.int .i64 A.1.h1)).setCell ⟨wr2.heap.size, 6, none⟩ (.int .i64 A.1.h2)).setCell ⟨wr2.heap.size, 7, none⟩ (.int .i64 A.1.h3)).setCell ⟨wr2.heap.size, 8, none⟩ (.slice ia2 A.1.items.length ic2)).setCell ⟨wr2.heap.size, 9, none⟩ (.int .i64 A.1.fm)).setCell ⟨wr2.heap.size, 10, none⟩ (.int .i64 A.1.fx)).setCell ⟨wr2.heap.size, 11, none⟩ (.slice pa2 A.1.pages.length pc2)) (wr2.heap.size + 1) #[.int .i64 0, .int .i64 0, .slice none 0 0] := by
              iterate 12 refine TB.far ?_ ⟨wr2.heap.size, _, none⟩ _ hne87
              exact T18
             have t3 := ((t.set 0 (.int .i64 A.2.1)).set 1 (.int .i64 A.2.2.1)).set 2 (.slice ha A.2.2.2.length hc)
             simp only [sIB, sZB, sSB] at t3
             exact t3
            refine ⟨wr2.heap.size, (wr2.heap.size + 1), ia2, ic2, pa2, pc2, ha, hc, _, _, _, _, _, _, _, _, _, _, _, rfl, Tz17, Tz18, hw17, hw18, hB15, ?_⟩
            refine StoreFrom.fr hSF (((Fr.set (Fr.set (Fr.set ?_ 0 _ (Or.inl (Or.inr rfl))) 1 _ (Or.inl (Or.inr rfl))) 2 _ (Or.inl (Or.inr rfl))))) hOq hnT2
            iterate 12 refine Fr.set ?_ _ _ (Or.inl (Or.inl rfl))
            exact FQ
        · go_simp
          have Bc263 := below_al (Below.drew (Below.refl wr2.heap.size wr2)) (.cells #[.int .i64 0, .int .i64 0, .slice none 0 0] 42)
          have hSc263 := kS _ Bc263
          refine hK.out _ _ hSc263 ?_
          intro hSd263
          clear hK K
          try simp only [Act.put, sIB, sZB, sSB]
          refine wpAnyH_ready (rs := [5, 11]) (by kernel_rfl) (by simp) ?_
          refine AllReadyH.cons rfl (fun K hK => ?_) (AllReadyH.cons rfl (fun K hK => ?_) AllReadyH.nil)
          · go_simp
            refine ((hReq (wr2.drew.alloc (.cells #[.int .i64 0, .int .i64 0, .slice none 0 0] 42)))).mono ?_
            rintro e wc264 ⟨ka, kc, rfl, hKs, hbc264⟩
            have Bc264 : Below wr2.heap.size wr2 wc264 := below_thru Bc263 hbc264
            have hSc264 := kS _ Bc264
            refine hK.out _ _ hSc264 ?_
            intro hSd264
            clear hK K
            try simp only [Act.put, sIB, sZB, sSB]
            refine wpAnyH_ready (rs := [6, 11]) (by kernel_rfl) (by simp) ?_
            refine AllReadyH.cons rfl (fun K hK => ?_) (AllReadyH.cons rfl (fun K hK => ?_) AllReadyH.nil)
            · go_simp
              refine ((hDo wc264 Bc264 _ _ hKs)).mono ?_
              rintro e wc265 ⟨ia2, ic2, pa2, pc2, ha, hc, nT, hnT, rfl, hSF, hbc265⟩
              have Bc265 : Below wr2.heap.size wr2 wc265 := below_thru Bc264 hbc265
              have hSc265 := kS _ Bc265
              refine hK.out _ _ hSc265 ?_
              intro hSd265
              clear hK K
              try simp only [Act.put, sIB, sZB, sSB]
              refine wpAnyH_take (i := 7) (v := ?tv266) rfl (by kernel_rfl) (by kernel_rfl) (by kernel_rfl) (fun _ _ _ h => h) (Or.inl ⟨by rfl, ?th266⟩) (by assumption) ?tr266
              case th266 => (intro w hSw; (try dsimp only at hSw); go_simp; try with_reducible rfl)
              try simp only [Act.put, sIB, sZB, sSB]
              refine wpAnyH_take (i := 8) (v := ?tv267) rfl (by kernel_rfl) (by kernel_rfl) (by kernel_rfl) (fun _ _ _ h => h) (Or.inl ⟨by rfl, ?th267⟩) (by assumption) ?tr267
              case th267 => (intro w hSw; (try dsimp only at hSw); go_simp; try with_reducible rfl)
              try simp only [Act.put, sIB, sZB, sSB]
              refine wpAnyH_take (i := 9) (v := ?tv268) rfl (by kernel_rfl) (by kernel_rfl) (by kernel_rfl) (fun _ _ _ h => h) (Or.inl ⟨by rfl, ?th268⟩) (by assumption) ?tr268
              case th268 => (intro w hSw; (try dsimp only at hSw); go_simp; try with_reducible rfl)
              try simp only [Act.put, sIB, sZB, sSB]
              refine wpAnyH_take (i := 10) (v := ?tv269) rfl (by kernel_rfl) (by kernel_rfl) (by kernel_rfl) (fun _ _ _ h => h) (Or.inl ⟨by rfl, ?th269⟩) (by assumption) ?tr269
              case th269 => (intro w hSw; (try dsimp only at hSw); go_simp; try with_reducible rfl)
              try simp only [Act.put, sIB, sZB, sSB]
              refine wpAnyH_ready (rs := [11]) (by kernel_rfl) (by simp) ?_
              refine AllReadyH.cons rfl (fun K hK => ?_) AllReadyH.nil
              go_simp
              have Bc270 := below_al Bc265 (.cells #[.int .i64 0, .int .i64 0, .int .i64 0, .int .i64 0, .int .i64 0, .int .i64 0, .int .i64 0, .int .i64 0, .slice none 0 0, .int .i64 0, .int .i64 0, .slice none 0 0] 29)
              have hSc270 := kS _ Bc270
              refine hK.out _ _ hSc270 ?_
              intro hSd270
              clear hK K
              try simp only [Act.put, sIB, sZB, sSB]
              have zd : wr2.drew.heap.size = wr2.heap.size := rfl
              have zz59 : (wr2.drew.alloc (.cells #[.int .i64 0, .int .i64 0, .slice none 0 0] 42)).heap.size = wr2.drew.heap.size + 1 := by simp
              have zz60 := Below.size hbc264
              have zz61 := Below.size hbc265
              have zz62 : (wc265.alloc (.cells #[.int .i64 0, .int .i64 0, .int .i64 0, .int .i64 0, .int .i64 0, .int .i64 0, .int .i64 0, .int .i64 0, .slice none 0 0, .int .i64 0, .int .i64 0, .slice none 0 0] 29)).heap.size = wc265.heap.size + 1 := by simp
              have T17 : TB 29 (wc265.alloc (.cells #[.int .i64 0, .int .i64 0, .int .i64 0, .int .i64 0, .int .i64 0, .int .i64 0, .int .i64 0, .int .i64 0, .slice none 0 0, .int .i64 0, .int .i64 0, .slice none 0 0] 29)) wc265.heap.size #[.int .i64 0, .int .i64 0, .int .i64 0, .int .i64 0, .int .i64 0, .int .i64 0, .int .i64 0, .int .i64 0, .slice none 0 0, .int .i64 0, .int .i64 0, .slice none 0 0] := (TB.new2 (w := wc265) (by first | rfl | (simp; done)))
              have T18 : TB 42 (wc265.alloc (.cells #[.int .i64 0, .int .i64 0, .int .i64 0, .int .i64 0, .int .i64 0, .int .i64 0, .int .i64 0, .int .i64 0, .slice none 0 0, .int .i64 0, .int .i64 0, .slice none 0 0] 29)) wr2.heap.size #[.int .i64 0, .int .i64 0, .slice none 0 0] := ((((TB.new2 (w := wr2.drew) (by first | rfl | (simp; done))).later hbc264).later hbc265).alloc _)
              have HBl : Below wr2.heap.size wr2 (wc265.alloc (.cells #[.int .i64 0, .int .i64 0, .int .i64 0, .int .i64 0, .int .i64 0, .int .i64 0, .int .i64 0, .int .i64 0, .slice none 0 0, .int .i64 0, .int .i64 0, .slice none 0 0] 29)) := Bc270
              have FQ : Fr (fun b => b = wc265.heap.size ∨ b = wr2.heap.size) wc265 (wc265.alloc (.cells #[.int .i64 0, .int .i64 0, .int .i64 0, .int .i64 0, .int .i64 0, .int .i64 0, .int .i64 0, .int .i64 0, .slice none 0 0, .int .i64 0, .int .i64 0, .slice none 0 0] 29)) := Fr.of_below (below_al (Below.refl _ _) _)
              have hnT1 := hnT.out.1
              have hnT2 := hnT.out.2
              have hOq : ∀ b, (fun b => b = wc265.heap.size ∨ b = wr2.heap.size) b → b < nT ∨ wc265.heap.size ≤ b := fun b e => by have e2 : b = wc265.heap.size ∨ b = wr2.heap.size := e; omega
              have hw17 : wr2.heap.size ≤ wc265.heap.size := by have := Below.size (show Below wr2.heap.size wr2 wc265 from Bc265); omega
              have hw18 : wr2.heap.size ≤ wr2.heap.size := by have := Below.size (show Below wr2.heap.size wr2 wr2.drew from (Below.drew (Below.refl wr2.heap.size wr2))); omega
              have hne78 : wc265.heap.size ≠ wr2.heap.size := by omega
              have hne87 := Ne.symm hne78
              clear hnT1 zd zz59 zz60 zz61 zz62
              generalize (wc265.alloc (.cells #[.int .i64 0, .int .i64 0, .int .i64 0, .int .i64 0, .int .i64 0, .int .i64 0, .int .i64 0, .int .i64 0, .slice none 0 0, .int .i64 0, .int .i64 0, .slice none 0 0] 29)) = wq at *
              have xq := fun j => T17.cell j
              have zq := fun j => T17.frozen j
              have lq := T17.lt
              have xr := fun j => T18.cell j
              have zr := fun j => T18.frozen j
              have lr := T18.lt
              refine wpAnyH_ready (rs := [13]) (by kernel_rfl) (by simp) ?_
              refine AllReadyH.cons rfl (fun K hK => ?_) AllReadyH.nil
              go_simp
              have hB12 : Below wr2.heap.size wr2 ((((((((((((wq.setCell ⟨wc265.heap.size, 0, none⟩ (.int .i64 A.1.clock)).setCell ⟨wc265.heap.size, 1, none⟩ (.int .i64 A.1.cas)).setCell ⟨wc265.heap.size, 2, none⟩ (.int .i64 A.1.uses)).setCell ⟨wc265.heap.size, 3, none⟩ (.int .i64 A.1.most)).setCell ⟨wc265.heap.size, 4, none⟩ (.int .i64 A.1.h0)).setCell ⟨wc265.heap.size, 5, none⟩ (.int .i64 A.1.h1)).setCell ⟨wc265.heap.size, 6, none⟩ (.int .i64 A.1.h2)).setCell ⟨wc265.heap.size, 7, none⟩ (.int .i64 A.1.h3)).setCell ⟨wc265.heap.size, 8, none⟩ (.slice ia2 A.1.items.length ic2)).setCell ⟨wc265.heap.size, 9, none⟩ (.int .i64 A.1.fm)).setCell ⟨wc265.heap.size, 10, none⟩ (.int .i64 A.1.fx)).setCell ⟨wc265.heap.size, 11, none⟩ (.slice pa2 A.1.pages.length pc2)) := by
               iterate 12 refine below_st ?_ _ hw17
               exact HBl
              refine hK.out _ _ (kS _ hB12) ?_
              intro hSz58
              clear hK K
              try simp only [Act.put, sIB, sZB, sSB]
              refine wpAnyH_ready (rs := [14]) (by kernel_rfl) (by simp) ?_
              refine AllReadyH.cons rfl (fun K hK => ?_) AllReadyH.nil
              go_simp
              have hB15 := below_st (below_st (below_st hB12 (.int .i64 A.2.1) (show wr2.heap.size ≤ (⟨wr2.heap.size, 0, none⟩ : Addr).block from hw18)) (.int .i64 A.2.2.1) (show wr2.heap.size ≤ (⟨wr2.heap.size, 1, none⟩ : Addr).block from hw18)) (.slice ha A.2.2.2.length hc) (show wr2.heap.size ≤ (⟨wr2.heap.size, 2, none⟩ : Addr).block from hw18)
              refine hK.out _ _ (kS _ hB15) ?_
              intro hSy58
              clear hK K
              try simp only [Act.put, sIB, sZB, sSB]
              refine wpAnyH_take (i := 15) (v := ?tv9058) rfl (by kernel_rfl) (by kernel_rfl) (by kernel_rfl) (fun _ _ _ h => h) (Or.inl ⟨by rfl, ?th9058⟩) (by assumption) ?tr9058
              case th9058 => (intro w hSw; (try dsimp only at hSw); go_simp; try with_reducible rfl)
              try simp only [Act.put, sIB, sZB, sSB]
              refine wpAnyH_done (by kernel_rfl) ?_ _
              have Tz17 := (((twelve_set wq wc265.heap.size T17 (d0 := .int .i64 A.1.clock) (d1 := .int .i64 A.1.cas) (d2 := .int .i64 A.1.uses) (d3 := .int .i64 A.1.most) (d4 := .int .i64 A.1.h0) (d5 := .int .i64 A.1.h1) (d6 := .int .i64 A.1.h2) (d7 := .int .i64 A.1.h3) (d8 := .slice ia2 A.1.items.length ic2) (d9 := .int .i64 A.1.fm) (d10 := .int .i64 A.1.fx) (d11 := .slice pa2 A.1.pages.length pc2)).far ⟨wr2.heap.size, 0, none⟩ (.int .i64 A.2.1) hne78).far ⟨wr2.heap.size, 1, none⟩ (.int .i64 A.2.2.1) hne78).far ⟨wr2.heap.size, 2, none⟩ (.slice ha A.2.2.2.length hc) hne78
              have Tz18 : TB 42 (((((((((((((((wq.setCell ⟨wc265.heap.size, 0, none⟩ (.int .i64 A.1.clock)).setCell ⟨wc265.heap.size, 1, none⟩ (.int .i64 A.1.cas)).setCell ⟨wc265.heap.size, 2, none⟩ (.int .i64 A.1.uses)).setCell ⟨wc265.heap.size, 3, none⟩ (.int .i64 A.1.most)).setCell ⟨wc265.heap.size, 4, none⟩ (.int .i64 A.1.h0)).setCell ⟨wc265.heap.size, 5, none⟩ (.int .i64 A.1.h1)).setCell ⟨wc265.heap.size, 6, none⟩ (.int .i64 A.1.h2)).setCell ⟨wc265.heap.size, 7, none⟩ (.int .i64 A.1.h3)).setCell ⟨wc265.heap.size, 8, none⟩ (.slice ia2 A.1.items.length ic2)).setCell ⟨wc265.heap.size, 9, none⟩ (.int .i64 A.1.fm)).setCell ⟨wc265.heap.size, 10, none⟩ (.int .i64 A.1.fx)).setCell ⟨wc265.heap.size, 11, none⟩ (.slice pa2 A.1.pages.length pc2))).setCell ⟨wr2.heap.size, 0, none⟩ (.int .i64 A.2.1)).setCell ⟨wr2.heap.size, 1, none⟩ (.int .i64 A.2.2.1) |>.setCell ⟨wr2.heap.size, 2, none⟩ (.slice ha A.2.2.2.length hc)) wr2.heap.size #[.int .i64 A.2.1, .int .i64 A.2.2.1, .slice ha A.2.2.2.length hc] := by
               have t : TB 42 ((((((((((((wq.setCell ⟨wc265.heap.size, 0, none⟩ (.int .i64 A.1.clock)).setCell ⟨wc265.heap.size, 1, none⟩ (.int .i64 A.1.cas)).setCell ⟨wc265.heap.size, 2, none⟩ (.int .i64 A.1.uses)).setCell ⟨wc265.heap.size, 3, none⟩ (.int .i64 A.1.most)).setCell ⟨wc265.heap.size, 4, none⟩ (.int .i64 A.1.h0)).setCell ⟨wc265.heap.size, 5, none⟩ (.int .i64 A.1.h1)).setCell ⟨wc265.heap.size, 6, none⟩ (.int .i64 A.1.h2)).setCell ⟨wc265.heap.size, 7, none⟩ (.int .i64 A.1.h3)).setCell ⟨wc265.heap.size, 8, none⟩ (.slice ia2 A.1.items.length ic2)).setCell ⟨wc265.heap.size, 9, none⟩ (.int .i64 A.1.fm)).setCell ⟨wc265.heap.size, 10, none⟩ (.int .i64 A.1.fx)).setCell ⟨wc265.heap.size, 11, none⟩ (.slice pa2 A.1.pages.length pc2)) wr2.heap.size #[.int .i64 0, .int .i64 0, .slice none 0 0] := by
                iterate 12 refine TB.far ?_ ⟨wc265.heap.size, _, none⟩ _ hne87
                exact T18
               have t3 := ((t.set 0 (.int .i64 A.2.1)).set 1 (.int .i64 A.2.2.1)).set 2 (.slice ha A.2.2.2.length hc)
               simp only [sIB, sZB, sSB] at t3
               exact t3
              refine ⟨wc265.heap.size, wr2.heap.size, ia2, ic2, pa2, pc2, ha, hc, _, _, _, _, _, _, _, _, _, _, _, rfl, Tz17, Tz18, hw17, hw18, hB15, ?_⟩
              refine StoreFrom.fr hSF (((Fr.set (Fr.set (Fr.set ?_ 0 _ (Or.inl (Or.inr rfl))) 1 _ (Or.inl (Or.inr rfl))) 2 _ (Or.inl (Or.inr rfl))))) hOq hnT2
              iterate 12 refine Fr.set ?_ _ _ (Or.inl (Or.inl rfl))
              exact FQ
            · go_simp
              have Bc271 := below_al Bc264 (.cells #[.int .i64 0, .int .i64 0, .int .i64 0, .int .i64 0, .int .i64 0, .int .i64 0, .int .i64 0, .int .i64 0, .slice none 0 0, .int .i64 0, .int .i64 0, .slice none 0 0] 29)
              have hSc271 := kS _ Bc271
              refine hK.out _ _ hSc271 ?_
              intro hSd271
              clear hK K
              try simp only [Act.put, sIB, sZB, sSB]
              refine wpAnyH_ready (rs := [6]) (by kernel_rfl) (by simp) ?_
              refine AllReadyH.cons rfl (fun K hK => ?_) AllReadyH.nil
              go_simp
              refine ((hDo (wc264.alloc (.cells #[.int .i64 0, .int .i64 0, .int .i64 0, .int .i64 0, .int .i64 0, .int .i64 0, .int .i64 0, .int .i64 0, .slice none 0 0, .int .i64 0, .int .i64 0, .slice none 0 0] 29)) Bc271 _ _ (StrsAt.later hKs (below_al (Below.refl _ _) _)))).mono ?_
              rintro e wc272 ⟨ia2, ic2, pa2, pc2, ha, hc, nT, hnT, rfl, hSF, hbc272⟩
              have Bc272 : Below wr2.heap.size wr2 wc272 := below_thru Bc271 hbc272
              have hSc272 := kS _ Bc272
              refine hK.out _ _ hSc272 ?_
              intro hSd272
              clear hK K
              try simp only [Act.put, sIB, sZB, sSB]
              refine wpAnyH_take (i := 7) (v := ?tv273) rfl (by kernel_rfl) (by kernel_rfl) (by kernel_rfl) (fun _ _ _ h => h) (Or.inl ⟨by rfl, ?th273⟩) (by assumption) ?tr273
              case th273 => (intro w hSw; (try dsimp only at hSw); go_simp; try with_reducible rfl)
              try simp only [Act.put, sIB, sZB, sSB]
              refine wpAnyH_take (i := 8) (v := ?tv274) rfl (by kernel_rfl) (by kernel_rfl) (by kernel_rfl) (fun _ _ _ h => h) (Or.inl ⟨by rfl, ?th274⟩) (by assumption) ?tr274
              case th274 => (intro w hSw; (try dsimp only at hSw); go_simp; try with_reducible rfl)
              try simp only [Act.put, sIB, sZB, sSB]
              refine wpAnyH_take (i := 9) (v := ?tv275) rfl (by kernel_rfl) (by kernel_rfl) (by kernel_rfl) (fun _ _ _ h => h) (Or.inl ⟨by rfl, ?th275⟩) (by assumption) ?tr275
              case th275 => (intro w hSw; (try dsimp only at hSw); go_simp; try with_reducible rfl)
              try simp only [Act.put, sIB, sZB, sSB]
              refine wpAnyH_take (i := 10) (v := ?tv276) rfl (by kernel_rfl) (by kernel_rfl) (by kernel_rfl) (fun _ _ _ h => h) (Or.inl ⟨by rfl, ?th276⟩) (by assumption) ?tr276
              case th276 => (intro w hSw; (try dsimp only at hSw); go_simp; try with_reducible rfl)
              try simp only [Act.put, sIB, sZB, sSB]
              have zd : wr2.drew.heap.size = wr2.heap.size := rfl
              have zz64 : (wr2.drew.alloc (.cells #[.int .i64 0, .int .i64 0, .slice none 0 0] 42)).heap.size = wr2.drew.heap.size + 1 := by simp
              have zz65 := Below.size hbc264
              have zz66 : (wc264.alloc (.cells #[.int .i64 0, .int .i64 0, .int .i64 0, .int .i64 0, .int .i64 0, .int .i64 0, .int .i64 0, .int .i64 0, .slice none 0 0, .int .i64 0, .int .i64 0, .slice none 0 0] 29)).heap.size = wc264.heap.size + 1 := by simp
              have zz67 := Below.size hbc272
              have T17 : TB 29 wc272 wc264.heap.size #[.int .i64 0, .int .i64 0, .int .i64 0, .int .i64 0, .int .i64 0, .int .i64 0, .int .i64 0, .int .i64 0, .slice none 0 0, .int .i64 0, .int .i64 0, .slice none 0 0] := ((TB.new2 (w := wc264) (by first | rfl | (simp; done))).later hbc272)
              have T18 : TB 42 wc272 wr2.heap.size #[.int .i64 0, .int .i64 0, .slice none 0 0] := ((((TB.new2 (w := wr2.drew) (by first | rfl | (simp; done))).later hbc264).alloc _).later hbc272)
              have HBl : Below wr2.heap.size wr2 wc272 := Bc272
              have FQ : Fr (fun b => b = wc264.heap.size ∨ b = wr2.heap.size) wc272 wc272 := Fr.of_below (Below.refl _ _)
              have hnT1 := hnT.out.1
              have hnT2 := hnT.out.2
              have hOq : ∀ b, (fun b => b = wc264.heap.size ∨ b = wr2.heap.size) b → b < nT ∨ wc272.heap.size ≤ b := fun b e => by have e2 : b = wc264.heap.size ∨ b = wr2.heap.size := e; omega
              have hw17 : wr2.heap.size ≤ wc264.heap.size := by have := Below.size (show Below wr2.heap.size wr2 wc264 from Bc264); omega
              have hw18 : wr2.heap.size ≤ wr2.heap.size := by have := Below.size (show Below wr2.heap.size wr2 wr2.drew from (Below.drew (Below.refl wr2.heap.size wr2))); omega
              have hne78 : wc264.heap.size ≠ wr2.heap.size := by omega
              have hne87 := Ne.symm hne78
              clear hnT1 zd zz64 zz65 zz66 zz67
              generalize wc272 = wq at *
              have xq := fun j => T17.cell j
              have zq := fun j => T17.frozen j
              have lq := T17.lt
              have xr := fun j => T18.cell j
              have zr := fun j => T18.frozen j
              have lr := T18.lt
              refine wpAnyH_ready (rs := [13]) (by kernel_rfl) (by simp) ?_
              refine AllReadyH.cons rfl (fun K hK => ?_) AllReadyH.nil
              go_simp
              have hB12 : Below wr2.heap.size wr2 ((((((((((((wq.setCell ⟨wc264.heap.size, 0, none⟩ (.int .i64 A.1.clock)).setCell ⟨wc264.heap.size, 1, none⟩ (.int .i64 A.1.cas)).setCell ⟨wc264.heap.size, 2, none⟩ (.int .i64 A.1.uses)).setCell ⟨wc264.heap.size, 3, none⟩ (.int .i64 A.1.most)).setCell ⟨wc264.heap.size, 4, none⟩ (.int .i64 A.1.h0)).setCell ⟨wc264.heap.size, 5, none⟩ (.int .i64 A.1.h1)).setCell ⟨wc264.heap.size, 6, none⟩ (.int .i64 A.1.h2)).setCell ⟨wc264.heap.size, 7, none⟩ (.int .i64 A.1.h3)).setCell ⟨wc264.heap.size, 8, none⟩ (.slice ia2 A.1.items.length ic2)).setCell ⟨wc264.heap.size, 9, none⟩ (.int .i64 A.1.fm)).setCell ⟨wc264.heap.size, 10, none⟩ (.int .i64 A.1.fx)).setCell ⟨wc264.heap.size, 11, none⟩ (.slice pa2 A.1.pages.length pc2)) := by
               iterate 12 refine below_st ?_ _ hw17
               exact HBl
              refine hK.out _ _ (kS _ hB12) ?_
              intro hSz63
              clear hK K
              try simp only [Act.put, sIB, sZB, sSB]
              refine wpAnyH_ready (rs := [14]) (by kernel_rfl) (by simp) ?_
              refine AllReadyH.cons rfl (fun K hK => ?_) AllReadyH.nil
              go_simp
              have hB15 := below_st (below_st (below_st hB12 (.int .i64 A.2.1) (show wr2.heap.size ≤ (⟨wr2.heap.size, 0, none⟩ : Addr).block from hw18)) (.int .i64 A.2.2.1) (show wr2.heap.size ≤ (⟨wr2.heap.size, 1, none⟩ : Addr).block from hw18)) (.slice ha A.2.2.2.length hc) (show wr2.heap.size ≤ (⟨wr2.heap.size, 2, none⟩ : Addr).block from hw18)
              refine hK.out _ _ (kS _ hB15) ?_
              intro hSy63
              clear hK K
              try simp only [Act.put, sIB, sZB, sSB]
              refine wpAnyH_take (i := 15) (v := ?tv9063) rfl (by kernel_rfl) (by kernel_rfl) (by kernel_rfl) (fun _ _ _ h => h) (Or.inl ⟨by rfl, ?th9063⟩) (by assumption) ?tr9063
              case th9063 => (intro w hSw; (try dsimp only at hSw); go_simp; try with_reducible rfl)
              try simp only [Act.put, sIB, sZB, sSB]
              refine wpAnyH_done (by kernel_rfl) ?_ _
              have Tz17 := (((twelve_set wq wc264.heap.size T17 (d0 := .int .i64 A.1.clock) (d1 := .int .i64 A.1.cas) (d2 := .int .i64 A.1.uses) (d3 := .int .i64 A.1.most) (d4 := .int .i64 A.1.h0) (d5 := .int .i64 A.1.h1) (d6 := .int .i64 A.1.h2) (d7 := .int .i64 A.1.h3) (d8 := .slice ia2 A.1.items.length ic2) (d9 := .int .i64 A.1.fm) (d10 := .int .i64 A.1.fx) (d11 := .slice pa2 A.1.pages.length pc2)).far ⟨wr2.heap.size, 0, none⟩ (.int .i64 A.2.1) hne78).far ⟨wr2.heap.size, 1, none⟩ (.int .i64 A.2.2.1) hne78).far ⟨wr2.heap.size, 2, none⟩ (.slice ha A.2.2.2.length hc) hne78
              have Tz18 : TB 42 (((((((((((((((wq.setCell ⟨wc264.heap.size, 0, none⟩ (.int .i64 A.1.clock)).setCell ⟨wc264.heap.size, 1, none⟩ (.int .i64 A.1.cas)).setCell ⟨wc264.heap.size, 2, none⟩ (.int .i64 A.1.uses)).setCell ⟨wc264.heap.size, 3, none⟩ (.int .i64 A.1.most)).setCell ⟨wc264.heap.size, 4, none⟩ (.int .i64 A.1.h0)).setCell ⟨wc264.heap.size, 5, none⟩ (.int .i64 A.1.h1)).setCell ⟨wc264.heap.size, 6, none⟩ (.int .i64 A.1.h2)).setCell ⟨wc264.heap.size, 7, none⟩ (.int .i64 A.1.h3)).setCell ⟨wc264.heap.size, 8, none⟩ (.slice ia2 A.1.items.length ic2)).setCell ⟨wc264.heap.size, 9, none⟩ (.int .i64 A.1.fm)).setCell ⟨wc264.heap.size, 10, none⟩ (.int .i64 A.1.fx)).setCell ⟨wc264.heap.size, 11, none⟩ (.slice pa2 A.1.pages.length pc2))).setCell ⟨wr2.heap.size, 0, none⟩ (.int .i64 A.2.1)).setCell ⟨wr2.heap.size, 1, none⟩ (.int .i64 A.2.2.1) |>.setCell ⟨wr2.heap.size, 2, none⟩ (.slice ha A.2.2.2.length hc)) wr2.heap.size #[.int .i64 A.2.1, .int .i64 A.2.2.1, .slice ha A.2.2.2.length hc] := by
               have t : TB 42 ((((((((((((wq.setCell ⟨wc264.heap.size, 0, none⟩ (.int .i64 A.1.clock)).setCell ⟨wc264.heap.size, 1, none⟩ (.int .i64 A.1.cas)).setCell ⟨wc264.heap.size, 2, none⟩ (.int .i64 A.1.uses)).setCell ⟨wc264.heap.size, 3, none⟩ (.int .i64 A.1.most)).setCell ⟨wc264.heap.size, 4, none⟩ (.int .i64 A.1.h0)).setCell ⟨wc264.heap.size, 5, none⟩ (.int .i64 A.1.h1)).setCell ⟨wc264.heap.size, 6, none⟩ (.int .i64 A.1.h2)).setCell ⟨wc264.heap.size, 7, none⟩ (.int .i64 A.1.h3)).setCell ⟨wc264.heap.size, 8, none⟩ (.slice ia2 A.1.items.length ic2)).setCell ⟨wc264.heap.size, 9, none⟩ (.int .i64 A.1.fm)).setCell ⟨wc264.heap.size, 10, none⟩ (.int .i64 A.1.fx)).setCell ⟨wc264.heap.size, 11, none⟩ (.slice pa2 A.1.pages.length pc2)) wr2.heap.size #[.int .i64 0, .int .i64 0, .slice none 0 0] := by
                iterate 12 refine TB.far ?_ ⟨wc264.heap.size, _, none⟩ _ hne87
                exact T18
               have t3 := ((t.set 0 (.int .i64 A.2.1)).set 1 (.int .i64 A.2.2.1)).set 2 (.slice ha A.2.2.2.length hc)
               simp only [sIB, sZB, sSB] at t3
               exact t3
              refine ⟨wc264.heap.size, wr2.heap.size, ia2, ic2, pa2, pc2, ha, hc, _, _, _, _, _, _, _, _, _, _, _, rfl, Tz17, Tz18, hw17, hw18, hB15, ?_⟩
              refine StoreFrom.fr hSF (((Fr.set (Fr.set (Fr.set ?_ 0 _ (Or.inl (Or.inr rfl))) 1 _ (Or.inl (Or.inr rfl))) 2 _ (Or.inl (Or.inr rfl))))) hOq hnT2
              iterate 12 refine Fr.set ?_ _ _ (Or.inl (Or.inl rfl))
              exact FQ
          · go_simp
            have Bc277 := below_al Bc263 (.cells #[.int .i64 0, .int .i64 0, .int .i64 0, .int .i64 0, .int .i64 0, .int .i64 0, .int .i64 0, .int .i64 0, .slice none 0 0, .int .i64 0, .int .i64 0, .slice none 0 0] 29)
            have hSc277 := kS _ Bc277
            refine hK.out _ _ hSc277 ?_
            intro hSd277
            clear hK K
            try simp only [Act.put, sIB, sZB, sSB]
            refine wpAnyH_ready (rs := [5]) (by kernel_rfl) (by simp) ?_
            refine AllReadyH.cons rfl (fun K hK => ?_) AllReadyH.nil
            go_simp
            refine ((hReq ((wr2.drew.alloc (.cells #[.int .i64 0, .int .i64 0, .slice none 0 0] 42)).alloc (.cells #[.int .i64 0, .int .i64 0, .int .i64 0, .int .i64 0, .int .i64 0, .int .i64 0, .int .i64 0, .int .i64 0, .slice none 0 0, .int .i64 0, .int .i64 0, .slice none 0 0] 29)))).mono ?_
            rintro e wc278 ⟨ka, kc, rfl, hKs, hbc278⟩
            have Bc278 : Below wr2.heap.size wr2 wc278 := below_thru Bc277 hbc278
            have hSc278 := kS _ Bc278
            refine hK.out _ _ hSc278 ?_
            intro hSd278
            clear hK K
            try simp only [Act.put, sIB, sZB, sSB]
            refine wpAnyH_ready (rs := [6]) (by kernel_rfl) (by simp) ?_
            refine AllReadyH.cons rfl (fun K hK => ?_) AllReadyH.nil
            go_simp
            refine ((hDo wc278 Bc278 _ _ hKs)).mono ?_
            rintro e wc279 ⟨ia2, ic2, pa2, pc2, ha, hc, nT, hnT, rfl, hSF, hbc279⟩
            have Bc279 : Below wr2.heap.size wr2 wc279 := below_thru Bc278 hbc279
            have hSc279 := kS _ Bc279
            refine hK.out _ _ hSc279 ?_
            intro hSd279
            clear hK K
            try simp only [Act.put, sIB, sZB, sSB]
            refine wpAnyH_take (i := 7) (v := ?tv280) rfl (by kernel_rfl) (by kernel_rfl) (by kernel_rfl) (fun _ _ _ h => h) (Or.inl ⟨by rfl, ?th280⟩) (by assumption) ?tr280
            case th280 => (intro w hSw; (try dsimp only at hSw); go_simp; try with_reducible rfl)
            try simp only [Act.put, sIB, sZB, sSB]
            refine wpAnyH_take (i := 8) (v := ?tv281) rfl (by kernel_rfl) (by kernel_rfl) (by kernel_rfl) (fun _ _ _ h => h) (Or.inl ⟨by rfl, ?th281⟩) (by assumption) ?tr281
            case th281 => (intro w hSw; (try dsimp only at hSw); go_simp; try with_reducible rfl)
            try simp only [Act.put, sIB, sZB, sSB]
            refine wpAnyH_take (i := 9) (v := ?tv282) rfl (by kernel_rfl) (by kernel_rfl) (by kernel_rfl) (fun _ _ _ h => h) (Or.inl ⟨by rfl, ?th282⟩) (by assumption) ?tr282
            case th282 => (intro w hSw; (try dsimp only at hSw); go_simp; try with_reducible rfl)
            try simp only [Act.put, sIB, sZB, sSB]
            refine wpAnyH_take (i := 10) (v := ?tv283) rfl (by kernel_rfl) (by kernel_rfl) (by kernel_rfl) (fun _ _ _ h => h) (Or.inl ⟨by rfl, ?th283⟩) (by assumption) ?tr283
            case th283 => (intro w hSw; (try dsimp only at hSw); go_simp; try with_reducible rfl)
            try simp only [Act.put, sIB, sZB, sSB]
            have zd : wr2.drew.heap.size = wr2.heap.size := rfl
            have zz69 : (wr2.drew.alloc (.cells #[.int .i64 0, .int .i64 0, .slice none 0 0] 42)).heap.size = wr2.drew.heap.size + 1 := by simp
            have zz70 : ((wr2.drew.alloc (.cells #[.int .i64 0, .int .i64 0, .slice none 0 0] 42)).alloc (.cells #[.int .i64 0, .int .i64 0, .int .i64 0, .int .i64 0, .int .i64 0, .int .i64 0, .int .i64 0, .int .i64 0, .slice none 0 0, .int .i64 0, .int .i64 0, .slice none 0 0] 29)).heap.size = (wr2.drew.alloc (.cells #[.int .i64 0, .int .i64 0, .slice none 0 0] 42)).heap.size + 1 := by simp
            have zz71 := Below.size hbc278
            have zz72 := Below.size hbc279
            have T17 : TB 29 wc279 (wr2.heap.size + 1) #[.int .i64 0, .int .i64 0, .int .i64 0, .int .i64 0, .int .i64 0, .int .i64 0, .int .i64 0, .int .i64 0, .slice none 0 0, .int .i64 0, .int .i64 0, .slice none 0 0] := (((TB.new2 (w := (wr2.drew.alloc (.cells #[.int .i64 0, .int .i64 0, .slice none 0 0] 42))) (by first | rfl | (simp; done))).later hbc278).later hbc279)
            have T18 : TB 42 wc279 wr2.heap.size #[.int .i64 0, .int .i64 0, .slice none 0 0] := ((((TB.new2 (w := wr2.drew) (by first | rfl | (simp; done))).alloc _).later hbc278).later hbc279)
            have HBl : Below wr2.heap.size wr2 wc279 := Bc279
            have FQ : Fr (fun b => b = (wr2.heap.size + 1) ∨ b = wr2.heap.size) wc279 wc279 := Fr.of_below (Below.refl _ _)
            have hnT1 := hnT.out.1
            have hnT2 := hnT.out.2
            have hOq : ∀ b, (fun b => b = (wr2.heap.size + 1) ∨ b = wr2.heap.size) b → b < nT ∨ wc279.heap.size ≤ b := fun b e => by have e2 : b = (wr2.heap.size + 1) ∨ b = wr2.heap.size := e; omega
            have hw17 : wr2.heap.size ≤ (wr2.heap.size + 1) := by have := Below.size (show Below wr2.heap.size wr2 (wr2.drew.alloc (.cells #[.int .i64 0, .int .i64 0, .slice none 0 0] 42)) from Bc263); omega
            have hw18 : wr2.heap.size ≤ wr2.heap.size := by have := Below.size (show Below wr2.heap.size wr2 wr2.drew from (Below.drew (Below.refl wr2.heap.size wr2))); omega
            have hne78 : (wr2.heap.size + 1) ≠ wr2.heap.size := by omega
            have hne87 := Ne.symm hne78
            clear hnT1 zd zz69 zz70 zz71 zz72
            generalize wc279 = wq at *
            have xq := fun j => T17.cell j
            have zq := fun j => T17.frozen j
            have lq := T17.lt
            have xr := fun j => T18.cell j
            have zr := fun j => T18.frozen j
            have lr := T18.lt
            refine wpAnyH_ready (rs := [13]) (by kernel_rfl) (by simp) ?_
            refine AllReadyH.cons rfl (fun K hK => ?_) AllReadyH.nil
            go_simp
            have hB12 : Below wr2.heap.size wr2 ((((((((((((wq.setCell ⟨(wr2.heap.size + 1), 0, none⟩ (.int .i64 A.1.clock)).setCell ⟨(wr2.heap.size + 1), 1, none⟩ (.int .i64 A.1.cas)).setCell ⟨(wr2.heap.size + 1), 2, none⟩ (.int .i64 A.1.uses)).setCell ⟨(wr2.heap.size + 1), 3, none⟩ (.int .i64 A.1.most)).setCell ⟨(wr2.heap.size + 1), 4, none⟩ (.int .i64 A.1.h0)).setCell ⟨(wr2.heap.size + 1), 5, none⟩ (.int .i64 A.1.h1)).setCell ⟨(wr2.heap.size + 1), 6, none⟩ (.int .i64 A.1.h2)).setCell ⟨(wr2.heap.size + 1), 7, none⟩ (.int .i64 A.1.h3)).setCell ⟨(wr2.heap.size + 1), 8, none⟩ (.slice ia2 A.1.items.length ic2)).setCell ⟨(wr2.heap.size + 1), 9, none⟩ (.int .i64 A.1.fm)).setCell ⟨(wr2.heap.size + 1), 10, none⟩ (.int .i64 A.1.fx)).setCell ⟨(wr2.heap.size + 1), 11, none⟩ (.slice pa2 A.1.pages.length pc2)) := by
             iterate 12 refine below_st ?_ _ hw17
             exact HBl
            refine hK.out _ _ (kS _ hB12) ?_
            intro hSz68
            clear hK K
            try simp only [Act.put, sIB, sZB, sSB]
            refine wpAnyH_ready (rs := [14]) (by kernel_rfl) (by simp) ?_
            refine AllReadyH.cons rfl (fun K hK => ?_) AllReadyH.nil
            go_simp
            have hB15 := below_st (below_st (below_st hB12 (.int .i64 A.2.1) (show wr2.heap.size ≤ (⟨wr2.heap.size, 0, none⟩ : Addr).block from hw18)) (.int .i64 A.2.2.1) (show wr2.heap.size ≤ (⟨wr2.heap.size, 1, none⟩ : Addr).block from hw18)) (.slice ha A.2.2.2.length hc) (show wr2.heap.size ≤ (⟨wr2.heap.size, 2, none⟩ : Addr).block from hw18)
            refine hK.out _ _ (kS _ hB15) ?_
            intro hSy68
            clear hK K
            try simp only [Act.put, sIB, sZB, sSB]
            refine wpAnyH_take (i := 15) (v := ?tv9068) rfl (by kernel_rfl) (by kernel_rfl) (by kernel_rfl) (fun _ _ _ h => h) (Or.inl ⟨by rfl, ?th9068⟩) (by assumption) ?tr9068
            case th9068 => (intro w hSw; (try dsimp only at hSw); go_simp; try with_reducible rfl)
            try simp only [Act.put, sIB, sZB, sSB]
            refine wpAnyH_done (by kernel_rfl) ?_ _
            have Tz17 := (((twelve_set wq (wr2.heap.size + 1) T17 (d0 := .int .i64 A.1.clock) (d1 := .int .i64 A.1.cas) (d2 := .int .i64 A.1.uses) (d3 := .int .i64 A.1.most) (d4 := .int .i64 A.1.h0) (d5 := .int .i64 A.1.h1) (d6 := .int .i64 A.1.h2) (d7 := .int .i64 A.1.h3) (d8 := .slice ia2 A.1.items.length ic2) (d9 := .int .i64 A.1.fm) (d10 := .int .i64 A.1.fx) (d11 := .slice pa2 A.1.pages.length pc2)).far ⟨wr2.heap.size, 0, none⟩ (.int .i64 A.2.1) hne78).far ⟨wr2.heap.size, 1, none⟩ (.int .i64 A.2.2.1) hne78).far ⟨wr2.heap.size, 2, none⟩ (.slice ha A.2.2.2.length hc) hne78
            have Tz18 : TB 42 (((((((((((((((wq.setCell ⟨(wr2.heap.size + 1), 0, none⟩ (.int .i64 A.1.clock)).setCell ⟨(wr2.heap.size + 1), 1, none⟩ (.int .i64 A.1.cas)).setCell ⟨(wr2.heap.size + 1), 2, none⟩ (.int .i64 A.1.uses)).setCell ⟨(wr2.heap.size + 1), 3, none⟩ (.int .i64 A.1.most)).setCell ⟨(wr2.heap.size + 1), 4, none⟩ (.int .i64 A.1.h0)).setCell ⟨(wr2.heap.size + 1), 5, none⟩ (.int .i64 A.1.h1)).setCell ⟨(wr2.heap.size + 1), 6, none⟩ (.int .i64 A.1.h2)).setCell ⟨(wr2.heap.size + 1), 7, none⟩ (.int .i64 A.1.h3)).setCell ⟨(wr2.heap.size + 1), 8, none⟩ (.slice ia2 A.1.items.length ic2)).setCell ⟨(wr2.heap.size + 1), 9, none⟩ (.int .i64 A.1.fm)).setCell ⟨(wr2.heap.size + 1), 10, none⟩ (.int .i64 A.1.fx)).setCell ⟨(wr2.heap.size + 1), 11, none⟩ (.slice pa2 A.1.pages.length pc2))).setCell ⟨wr2.heap.size, 0, none⟩ (.int .i64 A.2.1)).setCell ⟨wr2.heap.size, 1, none⟩ (.int .i64 A.2.2.1) |>.setCell ⟨wr2.heap.size, 2, none⟩ (.slice ha A.2.2.2.length hc)) wr2.heap.size #[.int .i64 A.2.1, .int .i64 A.2.2.1, .slice ha A.2.2.2.length hc] := by
             have t : TB 42 ((((((((((((wq.setCell ⟨(wr2.heap.size + 1), 0, none⟩ (.int .i64 A.1.clock)).setCell ⟨(wr2.heap.size + 1), 1, none⟩ (.int .i64 A.1.cas)).setCell ⟨(wr2.heap.size + 1), 2, none⟩ (.int .i64 A.1.uses)).setCell ⟨(wr2.heap.size + 1), 3, none⟩ (.int .i64 A.1.most)).setCell ⟨(wr2.heap.size + 1), 4, none⟩ (.int .i64 A.1.h0)).setCell ⟨(wr2.heap.size + 1), 5, none⟩ (.int .i64 A.1.h1)).setCell ⟨(wr2.heap.size + 1), 6, none⟩ (.int .i64 A.1.h2)).setCell ⟨(wr2.heap.size + 1), 7, none⟩ (.int .i64 A.1.h3)).setCell ⟨(wr2.heap.size + 1), 8, none⟩ (.slice ia2 A.1.items.length ic2)).setCell ⟨(wr2.heap.size + 1), 9, none⟩ (.int .i64 A.1.fm)).setCell ⟨(wr2.heap.size + 1), 10, none⟩ (.int .i64 A.1.fx)).setCell ⟨(wr2.heap.size + 1), 11, none⟩ (.slice pa2 A.1.pages.length pc2)) wr2.heap.size #[.int .i64 0, .int .i64 0, .slice none 0 0] := by
              iterate 12 refine TB.far ?_ ⟨(wr2.heap.size + 1), _, none⟩ _ hne87
              exact T18
             have t3 := ((t.set 0 (.int .i64 A.2.1)).set 1 (.int .i64 A.2.2.1)).set 2 (.slice ha A.2.2.2.length hc)
             simp only [sIB, sZB, sSB] at t3
             exact t3
            refine ⟨(wr2.heap.size + 1), wr2.heap.size, ia2, ic2, pa2, pc2, ha, hc, _, _, _, _, _, _, _, _, _, _, _, rfl, Tz17, Tz18, hw17, hw18, hB15, ?_⟩
            refine StoreFrom.fr hSF (((Fr.set (Fr.set (Fr.set ?_ 0 _ (Or.inl (Or.inr rfl))) 1 _ (Or.inl (Or.inr rfl))) 2 _ (Or.inl (Or.inr rfl))))) hOq hnT2
            iterate 12 refine Fr.set ?_ _ _ (Or.inl (Or.inl rfl))
            exact FQ
      · rintro a' wx ⟨b, c, ia2, ic2, pa2, pc2, ha, hc, j0, j1, j2, j3, j4, j5, j6, j7, j8, j9, j10, rfl, T17, T18, hb1, hb2, Bx, hSF⟩
        simp only [Act.put, sIB, sZB, sSB]
        have x17 := fun j => T17.cell j
        have l17 := T17.lt
        have x18 := fun j => T18.cell j
        have l18 := T18.lt
        have V11 := T11wr2.later Bx
        have z11 := fun j => V11.frozen j
        have y11 := fun j => V11.cell j
        have m11 := V11.lt
        have hne17 : ¬ b = wn.heap.size := by omega
        have hne18 : ¬ c = wn.heap.size := by omega
        have hne17' : ¬ wn.heap.size = b := by omega
        have hne18' : ¬ wn.heap.size = c := by omega
        have Vy := twelve_set wx wn.heap.size V11 (d0 := .int .i64 A.1.clock) (d1 := .int .i64 A.1.cas) (d2 := .int .i64 A.1.uses) (d3 := .int .i64 A.1.most) (d4 := .int .i64 A.1.h0) (d5 := .int .i64 A.1.h1) (d6 := .int .i64 A.1.h2) (d7 := .int .i64 A.1.h3) (d8 := .slice ia2 A.1.items.length ic2) (d9 := .int .i64 A.1.fm) (d10 := .int .i64 A.1.fx) (d11 := .slice pa2 A.1.pages.length pc2)
        have hrow1 := hRowwr2.later Bx
        have hro : ∀ g, uo.ownBlock = some g → W0.heap.size ≤ g := fun g hg => (hRowwr2.lt hg).1
        have hW0 := HW0.out
        have hrow2 : OutR W0.heap.size ((((((((((((wx.setCell ⟨wn.heap.size, 0, none⟩ (.int .i64 A.1.clock)).setCell ⟨wn.heap.size, 1, none⟩ (.int .i64 A.1.cas)).setCell ⟨wn.heap.size, 2, none⟩ (.int .i64 A.1.uses)).setCell ⟨wn.heap.size, 3, none⟩ (.int .i64 A.1.most)).setCell ⟨wn.heap.size, 4, none⟩ (.int .i64 A.1.h0)).setCell ⟨wn.heap.size, 5, none⟩ (.int .i64 A.1.h1)).setCell ⟨wn.heap.size, 6, none⟩ (.int .i64 A.1.h2)).setCell ⟨wn.heap.size, 7, none⟩ (.int .i64 A.1.h3)).setCell ⟨wn.heap.size, 8, none⟩ (.slice ia2 A.1.items.length ic2)).setCell ⟨wn.heap.size, 9, none⟩ (.int .i64 A.1.fm)).setCell ⟨wn.heap.size, 10, none⟩ (.int .i64 A.1.fx)).setCell ⟨wn.heap.size, 11, none⟩ (.slice pa2 A.1.pages.length pc2)) uo k := hrow1.kept fun g hg => by
         have := hro g hg
         iterate 12 rw [heap_setCell_other _ _ _ _ (show g ≠ wn.heap.size by omega)]
        have hrow3 : Hid (OutR W0.heap.size (((((((((((((wx.setCell ⟨wn.heap.size, 0, none⟩ (.int .i64 A.1.clock)).setCell ⟨wn.heap.size, 1, none⟩ (.int .i64 A.1.cas)).setCell ⟨wn.heap.size, 2, none⟩ (.int .i64 A.1.uses)).setCell ⟨wn.heap.size, 3, none⟩ (.int .i64 A.1.most)).setCell ⟨wn.heap.size, 4, none⟩ (.int .i64 A.1.h0)).setCell ⟨wn.heap.size, 5, none⟩ (.int .i64 A.1.h1)).setCell ⟨wn.heap.size, 6, none⟩ (.int .i64 A.1.h2)).setCell ⟨wn.heap.size, 7, none⟩ (.int .i64 A.1.h3)).setCell ⟨wn.heap.size, 8, none⟩ (.slice ia2 A.1.items.length ic2)).setCell ⟨wn.heap.size, 9, none⟩ (.int .i64 A.1.fm)).setCell ⟨wn.heap.size, 10, none⟩ (.int .i64 A.1.fx)).setCell ⟨wn.heap.size, 11, none⟩ (.slice pa2 A.1.pages.length pc2)).alloc (.cells #[.int .i64 A.2.1, .int .i64 A.2.2.1, .slice ha A.2.2.2.length hc] 42)) uo k) := hrow2.later ((Below.refl _ _).alloc (Nat.le_refl _) _)
        have Fy : Fr (fun b => b = wn.heap.size) wx ((((((((((((wx.setCell ⟨wn.heap.size, 0, none⟩ (.int .i64 A.1.clock)).setCell ⟨wn.heap.size, 1, none⟩ (.int .i64 A.1.cas)).setCell ⟨wn.heap.size, 2, none⟩ (.int .i64 A.1.uses)).setCell ⟨wn.heap.size, 3, none⟩ (.int .i64 A.1.most)).setCell ⟨wn.heap.size, 4, none⟩ (.int .i64 A.1.h0)).setCell ⟨wn.heap.size, 5, none⟩ (.int .i64 A.1.h1)).setCell ⟨wn.heap.size, 6, none⟩ (.int .i64 A.1.h2)).setCell ⟨wn.heap.size, 7, none⟩ (.int .i64 A.1.h3)).setCell ⟨wn.heap.size, 8, none⟩ (.slice ia2 A.1.items.length ic2)).setCell ⟨wn.heap.size, 9, none⟩ (.int .i64 A.1.fm)).setCell ⟨wn.heap.size, 10, none⟩ (.int .i64 A.1.fx)).setCell ⟨wn.heap.size, 11, none⟩ (.slice pa2 A.1.pages.length pc2)) := by
         iterate 12 refine Fr.set ?_ _ _ (Or.inl rfl)
         exact Fr.refl _ _
        have hsy := Fy.size
        have hsx := Bx.size
        have HFIN : Hid (∀ g cap w15, OutR W0.heap.size w15 (.slice (some ⟨g, 0, none⟩) (k + 1) cap) (k + 1) → (((((((((((((wx.setCell ⟨wn.heap.size, 0, none⟩ (.int .i64 A.1.clock)).setCell ⟨wn.heap.size, 1, none⟩ (.int .i64 A.1.cas)).setCell ⟨wn.heap.size, 2, none⟩ (.int .i64 A.1.uses)).setCell ⟨wn.heap.size, 3, none⟩ (.int .i64 A.1.most)).setCell ⟨wn.heap.size, 4, none⟩ (.int .i64 A.1.h0)).setCell ⟨wn.heap.size, 5, none⟩ (.int .i64 A.1.h1)).setCell ⟨wn.heap.size, 6, none⟩ (.int .i64 A.1.h2)).setCell ⟨wn.heap.size, 7, none⟩ (.int .i64 A.1.h3)).setCell ⟨wn.heap.size, 8, none⟩ (.slice ia2 A.1.items.length ic2)).setCell ⟨wn.heap.size, 9, none⟩ (.int .i64 A.1.fm)).setCell ⟨wn.heap.size, 10, none⟩ (.int .i64 A.1.fx)).setCell ⟨wn.heap.size, 11, none⟩ (.slice pa2 A.1.pages.length pc2)).alloc (.cells #[.int .i64 A.2.1, .int .i64 A.2.2.1, .slice ha A.2.2.2.length hc] 42)).grownBy w15 uo.ownBlock → PInv w wn.heap.size W0.heap.size (play (newS p m) l (k + 1)) (k + 1) (.slice (some ⟨g, 0, none⟩) (k + 1) cap) w15) := by
         intro g cap w15 h1 h2
         have F15 : Fr (fun b => b = wn.heap.size ∨ uo.ownBlock = some b) wx w15 := ((Fy.mono (fun b hb => Or.inl (Or.inl hb))).trans (Fr.of_below (O := fun b => b = wn.heap.size ∨ uo.ownBlock = some b) ((Below.refl _ _).alloc (Nat.le_refl _) _)) (fun b hb => Or.inl hb)).trans (Fr.of_grown (O := fun b => b = wn.heap.size ∨ uo.ownBlock = some b) h2 (fun g hg => Or.inl (Or.inr hg))) (fun b hb => Or.inl hb)
         have hrl : ∀ g, uo.ownBlock = some g → g < wr2.heap.size := fun g hg => (hRowwr2.lt hg).2
         refine ⟨⟨ia2, ic2, pa2, pc2, ?_, ?_⟩, h1, ?_, ?_, Nat.le_trans hSzwr2 (Nat.le_trans hsx F15.size)⟩
         · rw [hplayE]
           exact grown_tb h2 (Vy.alloc _) (fun e => by have := hro _ e; omega)
         · rw [hplayE]
           refine StoreFrom.fr hSF F15 (fun b hb => ?_) (by have := hSzwr2; omega)
           rcases hb with q | q
           · exact Or.inl (by omega)
           · exact Or.inl (hrl b q)
         · refine grown_tb h2 (TB.alloc ?_ _) (fun e => by have := hro _ e; omega)
           iterate 12 refine TB.far ?_ ⟨wn.heap.size, _, none⟩ _ (show w.heap.size ≠ wn.heap.size by omega)
           exact T8wr2.later Bx
         · refine Bwr2.trans (Bx.mono Bwr2.size) |>.trans (F15.below (fun b hb => ?_) (by have := Bwr2.size; omega))
           rcases hb with q | q
           · omega
           · have := hro b q; omega
        have hsE : ((((((((((((wx.setCell ⟨wn.heap.size, 0, none⟩ (.int .i64 A.1.clock)).setCell ⟨wn.heap.size, 1, none⟩ (.int .i64 A.1.cas)).setCell ⟨wn.heap.size, 2, none⟩ (.int .i64 A.1.uses)).setCell ⟨wn.heap.size, 3, none⟩ (.int .i64 A.1.most)).setCell ⟨wn.heap.size, 4, none⟩ (.int .i64 A.1.h0)).setCell ⟨wn.heap.size, 5, none⟩ (.int .i64 A.1.h1)).setCell ⟨wn.heap.size, 6, none⟩ (.int .i64 A.1.h2)).setCell ⟨wn.heap.size, 7, none⟩ (.int .i64 A.1.h3)).setCell ⟨wn.heap.size, 8, none⟩ (.slice ia2 A.1.items.length ic2)).setCell ⟨wn.heap.size, 9, none⟩ (.int .i64 A.1.fm)).setCell ⟨wn.heap.size, 10, none⟩ (.int .i64 A.1.fx)).setCell ⟨wn.heap.size, 11, none⟩ (.slice pa2 A.1.pages.length pc2)).heap.size = wx.heap.size := by simp [World.setCell]
        have hBk : Hid ((((((((((((((wx.setCell ⟨wn.heap.size, 0, none⟩ (.int .i64 A.1.clock)).setCell ⟨wn.heap.size, 1, none⟩ (.int .i64 A.1.cas)).setCell ⟨wn.heap.size, 2, none⟩ (.int .i64 A.1.uses)).setCell ⟨wn.heap.size, 3, none⟩ (.int .i64 A.1.most)).setCell ⟨wn.heap.size, 4, none⟩ (.int .i64 A.1.h0)).setCell ⟨wn.heap.size, 5, none⟩ (.int .i64 A.1.h1)).setCell ⟨wn.heap.size, 6, none⟩ (.int .i64 A.1.h2)).setCell ⟨wn.heap.size, 7, none⟩ (.int .i64 A.1.h3)).setCell ⟨wn.heap.size, 8, none⟩ (.slice ia2 A.1.items.length ic2)).setCell ⟨wn.heap.size, 9, none⟩ (.int .i64 A.1.fm)).setCell ⟨wn.heap.size, 10, none⟩ (.int .i64 A.1.fx)).setCell ⟨wn.heap.size, 11, none⟩ (.slice pa2 A.1.pages.length pc2)).alloc (.cells #[.int .i64 A.2.1, .int .i64 A.2.2.1, .slice ha A.2.2.2.length hc] 42)).heap[wx.heap.size]? = some (.cells #[.int .i64 A.2.1, .int .i64 A.2.2.1, .slice ha A.2.2.2.length hc] 42 (0, 0))) := by
         have t := TB.new 42 ((((((((((((wx.setCell ⟨wn.heap.size, 0, none⟩ (.int .i64 A.1.clock)).setCell ⟨wn.heap.size, 1, none⟩ (.int .i64 A.1.cas)).setCell ⟨wn.heap.size, 2, none⟩ (.int .i64 A.1.uses)).setCell ⟨wn.heap.size, 3, none⟩ (.int .i64 A.1.most)).setCell ⟨wn.heap.size, 4, none⟩ (.int .i64 A.1.h0)).setCell ⟨wn.heap.size, 5, none⟩ (.int .i64 A.1.h1)).setCell ⟨wn.heap.size, 6, none⟩ (.int .i64 A.1.h2)).setCell ⟨wn.heap.size, 7, none⟩ (.int .i64 A.1.h3)).setCell ⟨wn.heap.size, 8, none⟩ (.slice ia2 A.1.items.length ic2)).setCell ⟨wn.heap.size, 9, none⟩ (.int .i64 A.1.fm)).setCell ⟨wn.heap.size, 10, none⟩ (.int .i64 A.1.fx)).setCell ⟨wn.heap.size, 11, none⟩ (.slice pa2 A.1.pages.length pc2)) #[.int .i64 A.2.1, .int .i64 A.2.2.1, .slice ha A.2.2.2.length hc]
         unfold TB at t
         rw [hsE] at t
         exact t
        have hszW : Hid (W0.heap.size ≤ (((((((((((((wx.setCell ⟨wn.heap.size, 0, none⟩ (.int .i64 A.1.clock)).setCell ⟨wn.heap.size, 1, none⟩ (.int .i64 A.1.cas)).setCell ⟨wn.heap.size, 2, none⟩ (.int .i64 A.1.uses)).setCell ⟨wn.heap.size, 3, none⟩ (.int .i64 A.1.most)).setCell ⟨wn.heap.size, 4, none⟩ (.int .i64 A.1.h0)).setCell ⟨wn.heap.size, 5, none⟩ (.int .i64 A.1.h1)).setCell ⟨wn.heap.size, 6, none⟩ (.int .i64 A.1.h2)).setCell ⟨wn.heap.size, 7, none⟩ (.int .i64 A.1.h3)).setCell ⟨wn.heap.size, 8, none⟩ (.slice ia2 A.1.items.length ic2)).setCell ⟨wn.heap.size, 9, none⟩ (.int .i64 A.1.fm)).setCell ⟨wn.heap.size, 10, none⟩ (.int .i64 A.1.fx)).setCell ⟨wn.heap.size, 11, none⟩ (.slice pa2 A.1.pages.length pc2)).alloc (.cells #[.int .i64 A.2.1, .int .i64 A.2.2.1, .slice ha A.2.2.2.length hc] 42)).heap.size) := by show W0.heap.size ≤ _; rw [show (((((((((((((wx.setCell ⟨wn.heap.size, 0, none⟩ (.int .i64 A.1.clock)).setCell ⟨wn.heap.size, 1, none⟩ (.int .i64 A.1.cas)).setCell ⟨wn.heap.size, 2, none⟩ (.int .i64 A.1.uses)).setCell ⟨wn.heap.size, 3, none⟩ (.int .i64 A.1.most)).setCell ⟨wn.heap.size, 4, none⟩ (.int .i64 A.1.h0)).setCell ⟨wn.heap.size, 5, none⟩ (.int .i64 A.1.h1)).setCell ⟨wn.heap.size, 6, none⟩ (.int .i64 A.1.h2)).setCell ⟨wn.heap.size, 7, none⟩ (.int .i64 A.1.h3)).setCell ⟨wn.heap.size, 8, none⟩ (.slice ia2 A.1.items.length ic2)).setCell ⟨wn.heap.size, 9, none⟩ (.int .i64 A.1.fm)).setCell ⟨wn.heap.size, 10, none⟩ (.int .i64 A.1.fx)).setCell ⟨wn.heap.size, 11, none⟩ (.slice pa2 A.1.pages.length pc2)).alloc (.cells #[.int .i64 A.2.1, .int .i64 A.2.2.1, .slice ha A.2.2.2.length hc] 42)).heap.size = ((((((((((((wx.setCell ⟨wn.heap.size, 0, none⟩ (.int .i64 A.1.clock)).setCell ⟨wn.heap.size, 1, none⟩ (.int .i64 A.1.cas)).setCell ⟨wn.heap.size, 2, none⟩ (.int .i64 A.1.uses)).setCell ⟨wn.heap.size, 3, none⟩ (.int .i64 A.1.most)).setCell ⟨wn.heap.size, 4, none⟩ (.int .i64 A.1.h0)).setCell ⟨wn.heap.size, 5, none⟩ (.int .i64 A.1.h1)).setCell ⟨wn.heap.size, 6, none⟩ (.int .i64 A.1.h2)).setCell ⟨wn.heap.size, 7, none⟩ (.int .i64 A.1.h3)).setCell ⟨wn.heap.size, 8, none⟩ (.slice ia2 A.1.items.length ic2)).setCell ⟨wn.heap.size, 9, none⟩ (.int .i64 A.1.fm)).setCell ⟨wn.heap.size, 10, none⟩ (.int .i64 A.1.fx)).setCell ⟨wn.heap.size, 11, none⟩ (.slice pa2 A.1.pages.length pc2)).heap.size + 1 by simp]; omega
        clear Vy hrow1 hrow2 Fy hsy T17 T18 V11 Bx hSF hDo hReq kS hW0 hne hA hplayE hpick hro x11 l11 hsx hsE
        go_wp2_with (at_builtin; refine append_out _ rfl (.tmp 78) (.tmp 80) rfl W0.heap.size uo k rfl hrow3.out _ _ _ _ rfl rfl rfl rfl hBk.out hszW.out (by omega) ?_; intro g cap w15 hO15 hg15 hat15)
        refine ⟨⟨k + 1, _, by omega, by omega, rfl, by simp, HFIN.out _ _ _ hO15 hg15⟩, by simp [intOf]; omega⟩
  · have hex : k = min mo l.length := by omega
    obtain ⟨⟨ia, ic, pa, pc, T11wr, hSFr⟩, hRowwr, T8wr, Bwr, hSzwr⟩ := hI
    have HEX0 : Hid (play (newS p m) l (min mo l.length) = play (newS p m) l k) := by rw [← hex]; rfl
    obtain ⟨s, hs⟩ : ∃ s, play (newS p m) l k = s := ⟨_, rfl⟩
    rw [hs] at T11wr hSFr HEX0
    have HEX : Hid (play (newS p m) l (min mo l.length) = s) := HEX0.out
    clear HEX0
    have x11 := fun j => T11wr.cell j
    have l11 := T11wr.lt
    have x8 := fun j => T8wr.cell j
    have z8 := fun j => T8wr.frozen j
    have l8 := T8wr.lt
    have hwn := HWN.out
    have hne8 : ¬ w.heap.size = wn.heap.size := by omega
    have hne8' : ¬ wn.heap.size = w.heap.size := by omega
    have hW0 := HW0.out
    have HE : Hid (StoreIn ((((((((((((wr.setCell ⟨w.heap.size, 0, none⟩ (.int .i64 s.clock)).setCell ⟨w.heap.size, 1, none⟩ (.int .i64 s.cas)).setCell ⟨w.heap.size, 2, none⟩ (.int .i64 s.uses)).setCell ⟨w.heap.size, 3, none⟩ (.int .i64 s.most)).setCell ⟨w.heap.size, 4, none⟩ (.int .i64 s.h0)).setCell ⟨w.heap.size, 5, none⟩ (.int .i64 s.h1)).setCell ⟨w.heap.size, 6, none⟩ (.int .i64 s.h2)).setCell ⟨w.heap.size, 7, none⟩ (.int .i64 s.h3)).setCell ⟨w.heap.size, 8, none⟩ (.slice ia s.items.length ic)).setCell ⟨w.heap.size, 9, none⟩ (.int .i64 s.fm)).setCell ⟨w.heap.size, 10, none⟩ (.int .i64 s.fx)).setCell ⟨w.heap.size, 11, none⟩ (.slice pa s.pages.length pc)) s ia pa ∧ Below w.heap.size w ((((((((((((wr.setCell ⟨w.heap.size, 0, none⟩ (.int .i64 s.clock)).setCell ⟨w.heap.size, 1, none⟩ (.int .i64 s.cas)).setCell ⟨w.heap.size, 2, none⟩ (.int .i64 s.uses)).setCell ⟨w.heap.size, 3, none⟩ (.int .i64 s.most)).setCell ⟨w.heap.size, 4, none⟩ (.int .i64 s.h0)).setCell ⟨w.heap.size, 5, none⟩ (.int .i64 s.h1)).setCell ⟨w.heap.size, 6, none⟩ (.int .i64 s.h2)).setCell ⟨w.heap.size, 7, none⟩ (.int .i64 s.h3)).setCell ⟨w.heap.size, 8, none⟩ (.slice ia s.items.length ic)).setCell ⟨w.heap.size, 9, none⟩ (.int .i64 s.fm)).setCell ⟨w.heap.size, 10, none⟩ (.int .i64 s.fx)).setCell ⟨w.heap.size, 11, none⟩ (.slice pa s.pages.length pc))) := by
     refine ⟨hSFr _ (by simp [World.setCell]) (fun b hb hl => ?_), ?_⟩
     · iterate 12 rw [heap_setCell_other _ _ _ _ (show b ≠ w.heap.size by omega)]
     · iterate 12 refine below_st ?_ _ (Nat.le_refl _)
       exact Bwr
    clear hW0 hwn hSFr T11wr T8wr hRowwr Bwr hex hpl hs
    by_cases hlt2 : k < l.length
    · have hz1 : (k : Int) < (l.length : Int) := by omega
      have hz2 : ¬ (k : Int) < (mo : Int) := by omega
      go_wp2_with fail
      refine bodyPost_ret (v := .tuple #[.agg #[.int .i64 s.clock, .int .i64 s.cas, .int .i64 s.uses, .int .i64 s.most, .int .i64 s.h0, .int .i64 s.h1, .int .i64 s.h2, .int .i64 s.h3, .slice ia s.items.length ic, .int .i64 s.fm, .int .i64 s.fx, .slice pa s.pages.length pc], uo, .bool true]) (by simp [results, Tryz.results12, go_sem, x8, l8]) rfl ?_
      rw [HEX.out]
      exact ⟨ia, ic, pa, pc, uo, rfl, HE.out.1, HE.out.2⟩
    · have hz1 : ¬ (k : Int) < (l.length : Int) := by omega
      go_wp2_with fail
      refine bodyPost_ret (v := .tuple #[.agg #[.int .i64 s.clock, .int .i64 s.cas, .int .i64 s.uses, .int .i64 s.most, .int .i64 s.h0, .int .i64 s.h1, .int .i64 s.h2, .int .i64 s.h3, .slice ia s.items.length ic, .int .i64 s.fm, .int .i64 s.fx, .slice pa s.pages.length pc], uo, .bool true]) (by simp [results, Tryz.results12, go_sem, x8, l8]) rfl ?_
      rw [HEX.out]
      exact ⟨ia, ic, pa, pc, uo, rfl, HE.out.1, HE.out.2⟩

end Go.Proofs.YtdblegdgmjakfaaGreatDoor
