/- Parts of the proof. -/
import Derived.Test.YtdblegdgmjakfaaGreatDoorMJ13
import Derived.Test.YtdblegdgmjakfaaGreatDoorMJ14
import Derived.Test.YtdblegdgmjakfaaGreatDoorMJ10
import Derived.Test.YtdblegdgmjakfaaGreatDoorMJ11
import Derived.Deep.RegionHeld3
namespace Go.Proofs.YtdblegdgmjakfaaGreatDoor
open Go.ChangeShapes Go.WideShapes Go.ChangeAt Go.RowKit
set_option linter.unusedVariables false
set_option linter.unusedSimpArgs false

/- store.put: an item instead of that with its key. -/

/-- The class of an item, as a number of a list. -/
def clsN (it : ItemR) : Nat := (classN it.key.size it.value.size).toNat
/-- The item as it is put. -/
def putI (s : StoreR) (it : ItemR) : ItemR := { it with cas := s.cas + 1, used := s.uses + 1 }
/-- A store with an item more. -/
def putT (s : StoreR) (it : ItemR) : StoreR := { s with cas := s.cas + 1, uses := s.uses + 1, items := insL s.items (placeN s.items it.key) (putI s it) }
/-- An item instead of that with its key. -/
def putS (s : StoreR) (it : ItemR) : StoreR × Bool :=
 if (takeN s it.key).cas = 1099511627776 then (takeN s it.key, false)
 else if (roomS (takeN s it.key) (clsN it)).2 = true then (putT (roomS (takeN s it.key) (clsN it)).1 it, true)
 else ((roomS (takeN s it.key) (clsN it)).1, false)

theorem Fr.lt {O : Nat → Prop} {w w' : World} (h : Fr O w w') {b : Nat} (hb : b < w.heap.size) : b < w'.heap.size := Nat.lt_of_lt_of_le hb h.size

theorem counts_facts {s : StoreR} (h : countsB s = true) : 0 ≤ s.clock ∧ s.clock ≤ 1099511627776 ∧ 0 ≤ s.cas ∧ s.cas ≤ 1099511627776 ∧ 0 ≤ s.uses ∧ s.uses ≤ 1099511627776 ∧ 0 ≤ s.most ∧ s.most ≤ 40 := by
 unfold countsB at h
 simp only [Bool.and_eq_true] at h
 obtain ⟨h1, h2, h3, h4⟩ := h
 have a1 := (inB_iff _ _ _).1 h1
 have a2 := (inB_iff _ _ _).1 h2
 have a3 := (inB_iff _ _ _).1 h3
 have a4 := (inB_iff _ _ _).1 h4
 exact ⟨a1.1, a1.2, a2.1, a2.2, a3.1, a3.2, a4.1, a4.2⟩

set_option maxHeartbeats 8000000 in
set_option maxRecDepth 100000 in
theorem put_any (O : Nat → Prop) (s : StoreR) (B : Nat) (it : ItemR) (w : World) (h : StO O w B s) (hl : s.items.length ≤ 1000) (hg : Gd (takeN s it.key)) (hok : ItemOk it) (hcl : ∃ c : Nat, c ≤ 3 ∧ classN it.key.size it.value.size = c) (hL : LaidC w) (hOc : ¬ O 0)
 (hlp : (pushS (takeN s it.key) (clsN it)).1.items.length ≤ 1000) (hg2 : Gd (roomS (takeN s it.key) (clsN it)).1) (hmo : KeyMono (roomS (takeN s it.key) (clsN it)).1.items it.key) :
 Calls Tryz.prog 132 #[.pointer (some ⟨B, 0, none⟩), .agg #[.string it.key, .int .i64 it.flags, .int .i64 it.until_, .int .i64 it.cas, .int .i64 it.used, .string it.value, .bool it.far, .int .i64 it.page, .int .i64 it.at_]] w fun e w' => e = .returned (.bool (putS s it).2) ∧ StPost O w B (putS s it).1 w' := by
 have hS := h
 obtain ⟨c, hc3, hcn⟩ := hcl
 have hcN : clsN it = c := by unfold clsN; rw [hcn]; rfl
 rw [hcN] at hlp hg2 hmo
 have E : Hid (putS s it = putS s it) := rfl
 conv at E => arg 1; rhs; unfold putS
 rw [hcN] at E
 generalize putS s it = R at *
 have hlt : ∀ b, O b → b < w.heap.size := by
  obtain ⟨iv, pa, pc, Op, h⟩ := h
  exact h.lt
 have A1 : Below w.heap.size w (w.alloc (.cells (itemCells it).toArray 62)) := (Below.refl _ _).alloc (Nat.le_refl _) _
 have K1 := TB.new 62 w (itemCells it).toArray
 have hta := takeAway_any O s B it.key _ (hS.later A1) hl
 have hcla := fun w1 hL1 => sclassOf_any it w1 hL1 hok
 rw [hcn] at hcla
 have hmr := fun O1 w1 h1 hL1 hO1 => makeRoom_any O1 (takeN s it.key) B c hc3 w1 h1 hg hL1 hO1 hlp
 have hputT := fun (s2 : StoreR) => (rfl : putT s2 it = { s2 with cas := s2.cas + 1, uses := s2.uses + 1, items := insL s2.items (placeN s2.items it.key) (putI s2 it) })
 generalize hs1 : takeN s it.key = s1 at *
 generalize roomS s1 c = M at *
 obtain ⟨s2, bM⟩ := M
 simp only at *
 have q1 := (counts_facts hg.parts.1)
 have q2 := (counts_facts hg2.parts.1)
 obtain ⟨key, flags, until_, cas, used, value, far, page, at_⟩ := it
 simp only [itemCells] at *
 go_enter Tryz.func132, Tryz.ntmps132
 go_wp2_with fail
 refine hta.mono ?_
 rintro e w1 ⟨rfl, hP1⟩
 have hF1 := hP1.2
 obtain ⟨⟨O1, hO1, ho1'⟩, _⟩ := hP1
 have ho1 : ∀ b, O1 b → O b ∨ w.heap.size ≤ b := fun b hb => (ho1' b hb).imp id (fun q => Nat.le_trans A1.size q)
 have hFw1 : Fr O w w1 := (Fr.of_below A1).trans hF1 (fun b hb => Or.inl hb)
 have hI1 : ¬ O w.heap.size := fun e => by have := hlt _ e; omega
 have T1 := hF1.tb K1 hI1
 have x1 := fun j => T1.cell j
 have l1 := T1.lt
 have hL1 : LaidC w1 := (hL.later A1).fr hF1 hOc
 have hS1 := hO1
 obtain ⟨iv1, pa1, pc1, Op1, h1⟩ := hO1
 obtain ⟨a1, cp1, e1, hA1⟩ := h1.row.items (by have := hg.len; unfold maxLen; omega)
 subst e1
 have y1 := fun j => h1.box.cell j
 have lb1 := h1.box.lt
 have hIO1 : ¬ O1 w.heap.size := fun e => by
  rcases ho1' _ e with q | q
  · exact hI1 q
  · simp at q; omega
 unfold stCells at y1
 by_cases hmax : s1.cas = 1099511627776
 · have E2 : Hid (R = (s1, false)) := by
    have e := E.out
    rw [if_pos hmax] at e
    exact e
   clear E hmr
   go_wp2_with fail
   go_ret
   rw [E2.out]
   exact ⟨rfl, ⟨O1, hS1, ho1⟩, hFw1⟩
 · have E1 : Hid (R = if bM = true then (putT s2 ⟨key, flags, until_, cas, used, value, far, page, at_⟩, true) else (s2, false)) := by
    have e := E.out
    rw [if_neg hmax] at e
    exact e
   clear E
   have hOc1 : ¬ O1 0 := fun e => (ho1 _ e).elim hOc fun q => by have := hL.1; omega
   have hmz : (s1.cas == 1099511627776) = false := by simp [hmax]
   have hmr1 := fun w2 h2 hL2 => hmr O1 w2 h2 hL2 hOc1
   clear hmr
   go_wp2_with fail
   refine (hcla _ hL1).mono ?_
   rintro e w2 ⟨rfl, hb2⟩
   go_wp2_with fail
   refine (hmr1 _ (hS1.later hb2) (hL1.later hb2)).mono ?_
   rintro e w3 ⟨rfl, hP3⟩
   cases bM
   · have E2 : Hid (R = (s2, false)) := E1.out
     go_wp2_with fail
     go_ret
     rw [E2.out]
     exact ⟨rfl, (StPost.on (O2 := O1) ho1 (hFw1.trans (Fr.of_below (O := O1) hb2) ho1) hP3)⟩
   · have E2 : Hid (R = (putT s2 ⟨key, flags, until_, cas, used, value, far, page, at_⟩, true)) := E1.out
     clear E1 hmr1
     have hF3 := hP3.2
     have T3 := hF3.tb (T1.later hb2) hIO1
     obtain ⟨⟨O3, hS3, ho3⟩, _⟩ := hP3
     have hIO3 : ¬ O3 w.heap.size := fun e => (ho3 _ e).elim hIO1 fun q => by have := hb2.size; omega
     have ho3w : ∀ b, O3 b → O b ∨ w.heap.size ≤ b := fun b hb => (ho3 b hb).elim (ho1 b) fun q => Or.inr (by have := hFw1.size; have := hb2.size; omega)
     have hFw3 : Fr O w w3 := (hFw1.trans (Fr.of_below (O := O1) hb2) ho1).trans hF3 (fun b hb => ho1 b hb)
     obtain ⟨iv3, pa3, pc3, Op3, h3⟩ := hS3
     have hl2 := hg2.len
     obtain ⟨a3, cp3, e3, hA3⟩ := h3.row.items (by unfold maxLen; omega)
     subst e3
     have y3 := fun j => h3.box.cell j
     have z3 := fun j => h3.box.frozen j
     have lb3 := h3.box.lt
     have x3 := fun j => T3.cell j
     have v3 := fun j => T3.frozen j
     have l3 := T3.lt
     have hBI : ¬ B = w.heap.size := fun e => hIO3 (e ▸ h3.boxO)
     have hIB : ¬ w.heap.size = B := fun e => hBI e.symm
     obtain ⟨r1, r2, r3, r4, r5, r6, _⟩ := q2
     unfold stCells at y3
     clear x1 y1 hcla
     go_wp2_with fail
     have h4 : StAt O3 (w3.setCell ⟨B, 1, none⟩ (.int .i64 (s2.cas + 1))) B { s2 with cas := s2.cas + 1 } (.slice a3 s2.items.length cp3) pa3 pc3 Op3 := h3.scalar { s2 with cas := s2.cas + 1 } 1 (.int .i64 (s2.cas + 1)) rfl rfl rfl
     have hfar : ∀ {W : World} {S : StoreR} (j : Nat) (v : Value), StAt O3 W B S (.slice a3 s2.items.length cp3) pa3 pc3 Op3 → StAt O3 (W.setCell ⟨w.heap.size, j, none⟩ v) B S (.slice a3 s2.items.length cp3) pa3 pc3 Op3 := fun j v hh => hh.kept (by simp [World.setCell]) fun b hb hl => heap_setCell_other _ _ _ _ (show b ≠ w.heap.size from fun e => hIO3 (e ▸ hb))
     have h5 := hfar 3 (.int .i64 (s2.cas + 1)) h4
     have T5 := (T3.far ⟨B, 1, none⟩ (.int .i64 (s2.cas + 1)) hIB).set 3 (.int .i64 (s2.cas + 1))
     refine (ask_any { s2 with cas := s2.cas + 1 } _ pa3 pc3 B w.heap.size 0 (.int .i64 used) _ h5.box (by simpa [World.setCell] using l3) hIB (by rw [T5.cell]; rfl) (T5.frozen _) (by show -1 ≤ s2.uses; omega) r6).mono ?_
     rintro e w6 ⟨rfl, hw6⟩
     have h6 : StAt O3 w6 B { s2 with cas := s2.cas + 1, uses := s2.uses + 1 } (.slice a3 s2.items.length cp3) pa3 pc3 Op3 := by
      rw [hw6]
      exact hfar 4 _ (h5.scalar { s2 with cas := s2.cas + 1, uses := s2.uses + 1 } 2 (.int .i64 (s2.uses + 1)) rfl rfl rfl)
     have T6 : TB 62 w6 w.heap.size (itemCells (putI s2 ⟨key, flags, until_, cas, used, value, far, page, at_⟩)).toArray := by
      rw [hw6]
      exact (T5.far ⟨B, 2, none⟩ (.int .i64 (s2.uses + 1)) hIB).set 4 (.int .i64 (s2.uses + 1))
     have F6 : Fr O w w6 := by
      rw [hw6]
      have hB3 : O B ∨ w.heap.size ≤ B := ho3w B h3.boxO
      exact (((hFw3.set 1 _ hB3).set 3 _ (Or.inr (Nat.le_refl _))).set 2 _ hB3).set 4 _ (Or.inr (Nat.le_refl _))
     have ls6 : w3.heap.size = w6.heap.size := by rw [hw6]; simp [World.setCell]
     clear hw6 T5 h5 h4 hfar y3 z3 x3 v3 T3 h3 hFw3 hF3
     have hI6 := h6.row.items (by show s2.items.length ≤ maxLen; unfold maxLen; omega)
     obtain ⟨_, _, ee, hA6⟩ := hI6
     simp at ee
     obtain ⟨rfl, rfl⟩ := ee
     have y6 := fun j => h6.box.cell j
     have z6 := fun j => h6.box.frozen j
     have lb6 := h6.box.lt
     have x6 := fun j => T6.cell j
     have l6 := T6.lt
     unfold stCells at y6
     simp only [itemCells, putI] at x6
     go_wp2_with fail
     have hpl := fun wx (hb : Below w6.heap.size w6 wx) => placeOf_any s2.items key a3 cp3 wx (hA6.later hb) hmo hl2
     have hPle : placeN s2.items key ≤ s2.items.length := (placeN_found s2.items key hmo).1
     have h3B := h6.boxO
     have kS : ∀ wx, Below w6.heap.size w6 wx → (fun wx => (∀ j, wx.cell? ⟨B, j, none⟩ = (#[.int .i64 s2.clock, .int .i64 (s2.cas + 1), .int .i64 (s2.uses + 1), .int .i64 s2.most, .int .i64 s2.h0, .int .i64 s2.h1, .int .i64 s2.h2, .int .i64 s2.h3, .slice a3 s2.items.length cp3, .int .i64 s2.fm, .int .i64 s2.fx, .slice pa3 s2.pages.length pc3] : Array Value)[j]?) ∧ ∀ j, wx.cell? ⟨w.heap.size, j, none⟩ = (#[.string key, .int .i64 flags, .int .i64 until_, .int .i64 (s2.cas + 1), .int .i64 (s2.uses + 1), .string value, .bool far, .int .i64 page, .int .i64 at_] : Array Value)[j]?) wx := fun wx hx => ⟨fun j => by rw [hx.cell (p := ⟨B, j, none⟩) lb6]; exact y6 j, fun j => by rw [hx.cell (p := ⟨w.heap.size, j, none⟩) l6]; have := x6 j; simpa using this⟩
     refine wp_region_last (S := (fun wx => (∀ j, wx.cell? ⟨B, j, none⟩ = (#[.int .i64 s2.clock, .int .i64 (s2.cas + 1), .int .i64 (s2.uses + 1), .int .i64 s2.most, .int .i64 s2.h0, .int .i64 s2.h1, .int .i64 s2.h2, .int .i64 s2.h3, .slice a3 s2.items.length cp3, .int .i64 s2.fm, .int .i64 s2.fx, .slice pa3 s2.pages.length pc3] : Array Value)[j]?) ∧ ∀ j, wx.cell? ⟨w.heap.size, j, none⟩ = (#[.string key, .int .i64 flags, .int .i64 until_, .int .i64 (s2.cas + 1), .int .i64 (s2.uses + 1), .string value, .bool far, .int .i64 page, .int .i64 at_] : Array Value)[j]?)) 17 _ (by kernel_rfl) (by rfl) (by rfl) (by rfl) (by kernel_rfl) ?_
     have hS0 := kS w6.drew ((Below.refl _ _).drew)
     simp only [sIB, sZB, sSB]
     refine wpAnyH_take (i := 0) (v := ?v0) rfl (by kernel_rfl) (by kernel_rfl) (by kernel_rfl) (fun _ _ _ h => h) (Or.inl ⟨by rfl, ?h0⟩) (by assumption) ?r0
     case h0 => (intro w hSw; obtain ⟨hSw1, hSw2⟩ := hSw; go_simp; try with_reducible rfl)
     try simp only [Act.put, sIB, sZB, sSB]
     refine wpAnyH_take (i := 1) (v := ?v1) rfl (by kernel_rfl) (by kernel_rfl) (by kernel_rfl) (fun _ _ _ h => h) (Or.inl ⟨by rfl, ?h1⟩) (by assumption) ?r1
     case h1 => (intro w hSw; obtain ⟨hSw1, hSw2⟩ := hSw; go_simp; try with_reducible rfl)
     try simp only [Act.put, sIB, sZB, sSB]
     refine wpAnyH_take (i := 2) (v := ?v2) rfl (by kernel_rfl) (by kernel_rfl) (by kernel_rfl) (fun _ _ _ h => h) (Or.inl ⟨by rfl, ?h2⟩) (by assumption) ?r2
     case h2 => (intro w hSw; obtain ⟨hSw1, hSw2⟩ := hSw; go_simp; try with_reducible rfl)
     try simp only [Act.put, sIB, sZB, sSB]
     refine wpAnyH_take (i := 3) (v := ?v3) rfl (by kernel_rfl) (by kernel_rfl) (by kernel_rfl) (fun _ _ _ h => h) (Or.inl ⟨by rfl, ?h3⟩) (by assumption) ?r3
     case h3 => (intro w hSw; obtain ⟨hSw1, hSw2⟩ := hSw; go_simp; try with_reducible rfl)
     try simp only [Act.put, sIB, sZB, sSB]
     refine wpAnyH_take (i := 4) (v := ?v4) rfl (by kernel_rfl) (by kernel_rfl) (by kernel_rfl) (fun _ _ _ h => h) (Or.inl ⟨by rfl, ?h4⟩) (by assumption) ?r4
     case h4 => (intro w hSw; obtain ⟨hSw1, hSw2⟩ := hSw; go_simp; try with_reducible rfl)
     try simp only [Act.put, sIB, sZB, sSB]
     refine wpAnyH_take (i := 5) (v := ?v5) rfl (by kernel_rfl) (by kernel_rfl) (by kernel_rfl) (fun _ _ _ h => h) (Or.inl ⟨by rfl, ?h5⟩) (by assumption) ?r5
     case h5 => (intro w hSw; obtain ⟨hSw1, hSw2⟩ := hSw; go_simp; try with_reducible rfl)
     try simp only [Act.put, sIB, sZB, sSB]
     refine wpAnyH_take (i := 6) (v := ?v6) rfl (by kernel_rfl) (by kernel_rfl) (by kernel_rfl) (fun _ _ _ h => h) (Or.inl ⟨by rfl, ?h6⟩) (by assumption) ?r6
     case h6 => (intro w hSw; obtain ⟨hSw1, hSw2⟩ := hSw; go_simp; try with_reducible rfl)
     try simp only [Act.put, sIB, sZB, sSB]
     refine wpAnyH_take (i := 7) (v := ?v7) rfl (by kernel_rfl) (by kernel_rfl) (by kernel_rfl) (fun _ _ _ h => h) (Or.inl ⟨by rfl, ?h7⟩) (by assumption) ?r7
     case h7 => (intro w hSw; obtain ⟨hSw1, hSw2⟩ := hSw; go_simp; try with_reducible rfl)
     try simp only [Act.put, sIB, sZB, sSB]
     refine wpAnyH_take (i := 8) (v := ?v8) rfl (by kernel_rfl) (by kernel_rfl) (by kernel_rfl) (fun _ _ _ h => h) (Or.inl ⟨by rfl, ?h8⟩) (by assumption) ?r8
     case h8 => (intro w hSw; obtain ⟨hSw1, hSw2⟩ := hSw; go_simp; try with_reducible rfl)
     try simp only [Act.put, sIB, sZB, sSB]
     refine wpAnyH_take (i := 9) (v := ?v9) rfl (by kernel_rfl) (by kernel_rfl) (by kernel_rfl) (fun _ _ _ h => h) (Or.inl ⟨by rfl, ?h9⟩) (by assumption) ?r9
     case h9 => (intro w hSw; obtain ⟨hSw1, hSw2⟩ := hSw; go_simp; try with_reducible rfl)
     try simp only [Act.put, sIB, sZB, sSB]
     refine wpAnyH_take (i := 10) (v := ?v10) rfl (by kernel_rfl) (by kernel_rfl) (by kernel_rfl) (fun _ _ _ h => h) (Or.inl ⟨by rfl, ?h10⟩) (by assumption) ?r10
     case h10 => (intro w hSw; obtain ⟨hSw1, hSw2⟩ := hSw; go_simp; try with_reducible rfl)
     try simp only [Act.put, sIB, sZB, sSB]
     refine wpAnyH_take (i := 12) (v := ?v12) rfl (by kernel_rfl) (by kernel_rfl) (by kernel_rfl) (fun _ _ _ h => h) (Or.inl ⟨by rfl, ?h12⟩) (by assumption) ?r12
     case h12 => (intro w hSw; obtain ⟨hSw1, hSw2⟩ := hSw; go_simp; try with_reducible rfl)
     try simp only [Act.put, sIB, sZB, sSB]
     refine wpAnyH_ready (rs := [11, 13]) (by kernel_rfl) (by simp) ?_
     refine AllReadyH.cons rfl (fun K hK => ?_) (AllReadyH.cons rfl (fun K hK => ?_) AllReadyH.nil)
     · go_simp
       refine (hpl _ ((Below.refl _ _).drew)).mono ?_
       rintro e w7 ⟨rfl, hb7⟩
       have B7 : Below w6.heap.size w6 w7 := ((Below.refl _ _).drew).trans hb7
       refine hK.out _ _ (kS _ B7) ?_
       intro hS7
       clear hK K
       try simp only [Act.put, sIB, sZB, sSB]
       refine wpAnyH_ready (rs := [13]) (by kernel_rfl) (by simp) ?_
       refine AllReadyH.cons rfl (fun K hK => ?_) AllReadyH.nil
       go_simp
       refine hK.out _ _ (kS _ (below_al B7 _)) ?_
       intro hS8
       clear hK K
       try simp only [Act.put, sIB, sZB, sSB]
       have hV8 : TB 62 (w7.alloc (.cells #[.string key, .int .i64 flags, .int .i64 until_, .int .i64 (s2.cas + 1), .int .i64 (s2.uses + 1), .string value, .bool far, .int .i64 page, .int .i64 at_] 62)) w7.heap.size (itemCells (putI s2 ⟨key, flags, until_, cas, used, value, far, page, at_⟩)).toArray := TB.new 62 w7 _
       have B8 : Below w6.heap.size w6 (w7.alloc (.cells #[.string key, .int .i64 flags, .int .i64 until_, .int .i64 (s2.cas + 1), .int .i64 (s2.uses + 1), .string value, .bool far, .int .i64 page, .int .i64 at_] 62)) := below_al B7 _
       have hR8 := h6.row.later B8
       have h8 := h6.later B8
       have hVv : (Value.slice a3 s2.items.length cp3).ownBlock ≠ some w7.heap.size := fun e => by have := h6.lt _ (h6.rowO _ e).1; have := B7.size; omega
       refine wpAnyH_ready (rs := [14]) (by kernel_rfl) (by simp) ?_
       refine AllReadyH.cons rfl (fun K hK => ?_) AllReadyH.nil
       go_simp
       refine (insert_any s2.items _ (placeN s2.items key) _ w7.heap.size _ hR8 hV8 hVv hPle hl2).mono ?_
       rintro e w9 ⟨v9, rfl, hR9, hG9, hat9⟩
       have TB9 := grown_tb hG9 h8.box (fun e => (h6.rowO _ e).2 rfl)
       have TI9 := grown_tb hG9 (T6.later B8) (fun e => hIO3 (h6.rowO _ e).1)
       refine hK.out _ _ ⟨fun j => by have := TB9.cell j; unfold stCells at this; exact this, fun j => by have := TI9.cell j; simpa [itemCells, putI] using this⟩ ?_
       intro hS9
       clear hK K
       try simp only [Act.put, sIB, sZB, sSB]
       refine wpAnyH_take (i := 15) (v := ?v15) rfl (by kernel_rfl) (by kernel_rfl) (by kernel_rfl) (fun _ _ _ h => h) (Or.inl ⟨by rfl, ?h15⟩) (by assumption) ?r15
       case h15 => (intro w hSw; obtain ⟨hSw1, hSw2⟩ := hSw; go_simp; try with_reducible rfl)
       try simp only [Act.put, sIB, sZB, sSB]
       refine wpAnyH_take (i := 16) (v := ?v16) rfl (by kernel_rfl) (by kernel_rfl) (by kernel_rfl) (fun _ _ _ h => h) (Or.inl ⟨by rfl, ?h16⟩) (by assumption) ?r16
       case h16 => (intro w hSw; obtain ⟨hSw1, hSw2⟩ := hSw; go_simp; try with_reducible rfl)
       try simp only [Act.put, sIB, sZB, sSB]
       refine wpAnyH_ready (rs := [17]) (by kernel_rfl) (by simp) ?_
       refine AllReadyH.cons rfl (fun K hK => ?_) AllReadyH.nil
       go_simp
       refine hK.out _ _ hS9 ?_
       intro hS10
       clear hK K
       refine wpAnyH_done (by kernel_rfl) ?_ _
       refine LastPost.step rfl (fun K hK => ?_)
       obtain ⟨va, vn, vc, rfl⟩ : ∃ va vn vc, v9 = .slice va vn vc := by
        rcases hR9.2 with ⟨h0, _⟩ | ⟨g, cap, cur, hv, _⟩
        · exact ⟨none, 0, 0, h0⟩
        · exact ⟨_, _, _, hv⟩
       have z9 := fun j => TB9.frozen j
       have lb9 := TB9.lt
       have hs8 : w6.heap.size ≤ (w7.alloc (.cells #[.string key, .int .i64 flags, .int .i64 until_, .int .i64 (s2.cas + 1), .int .i64 (s2.uses + 1), .string value, .bool far, .int .i64 page, .int .i64 at_] 62)).heap.size := B8.size
       have h9 := h8.items (w' := w9) (O' := fun b => O3 b ∨ ((w7.alloc (.cells #[.string key, .int .i64 flags, .int .i64 until_, .int .i64 (s2.cas + 1), .int .i64 (s2.uses + 1), .string value, .bool far, .int .i64 page, .int .i64 at_] 62)).heap.size ≤ b ∧ b < w9.heap.size)) _ hR9 (Fr.of_grown hG9 (fun g hg => Or.inl hg)) (fun g hg => by
        rcases hat9 with q | ⟨g', q, q1, q2⟩
        · exact Or.inl (q ▸ hg)
        · rw [q] at hg; cases hg; exact Or.inr q1) (fun b hb => Or.inl hb) (fun g hg => by
        rcases hat9 with q | ⟨g', q, q1, q2⟩
        · exact Or.inl (h6.rowO g (q ▸ hg)).1
        · rw [q] at hg; cases hg; exact Or.inr ⟨q1, q2⟩) (fun b hb => hb.elim (fun q => Nat.lt_of_lt_of_le (h8.lt b q) hG9.size) (fun q => q.2))
       have hend : Hid (StPost O w B R.1 (w9.setCell ⟨B, 8, none⟩ (.slice va vn vc))) := by
        rw [E2.out]
        refine ⟨⟨_, ⟨_, _, _, _, h9⟩, fun b hb => hb.elim (ho3w b) fun q => Or.inr (by have := F6.size; omega)⟩, ?_⟩
        exact ((F6.trans (Fr.of_below (O := O3) B8) ho3w).trans (Fr.of_grown (O := O3) hG9 (fun g hg => Or.inl (h6.rowO g hg).1)) ho3w).set 8 _ (ho3w B h3B)
       have hret : R.2 = true := by rw [E2.out]
       go_simp
       refine hK _ _ ?_
       go_wp2_with fail
       go_ret
       exact ⟨by first | rfl | (rw [hret]; rfl), hend.out⟩
     · go_simp
       refine hK.out _ _ (kS _ (below_al ((Below.refl _ _).drew) _)) ?_
       intro hS7
       clear hK K
       try simp only [Act.put, sIB, sZB, sSB]
       refine wpAnyH_ready (rs := [11]) (by kernel_rfl) (by simp) ?_
       refine AllReadyH.cons rfl (fun K hK => ?_) AllReadyH.nil
       go_simp
       refine (hpl _ (below_al ((Below.refl _ _).drew) _)).mono ?_
       rintro e w7 ⟨rfl, hb7⟩
       have B8 : Below w6.heap.size w6 w7 := below_thru (below_al ((Below.refl _ _).drew) _) hb7
       have hV8 : TB 62 w7 w6.heap.size (itemCells (putI s2 ⟨key, flags, until_, cas, used, value, far, page, at_⟩)).toArray := (TB.new 62 w6.drew _).later hb7
       refine hK.out _ _ (kS _ B8) ?_
       intro hS8
       clear hK K
       try simp only [Act.put, sIB, sZB, sSB]
       have hR8 := h6.row.later B8
       have h8 := h6.later B8
       have hVv : (Value.slice a3 s2.items.length cp3).ownBlock ≠ some w6.heap.size := fun e => by have := h6.lt _ (h6.rowO _ e).1; have := B8.size; omega
       refine wpAnyH_ready (rs := [14]) (by kernel_rfl) (by simp) ?_
       refine AllReadyH.cons rfl (fun K hK => ?_) AllReadyH.nil
       go_simp
       refine (insert_any s2.items _ (placeN s2.items key) _ w6.heap.size _ hR8 hV8 hVv hPle hl2).mono ?_
       rintro e w9 ⟨v9, rfl, hR9, hG9, hat9⟩
       have TB9 := grown_tb hG9 h8.box (fun e => (h6.rowO _ e).2 rfl)
       have TI9 := grown_tb hG9 (T6.later B8) (fun e => hIO3 (h6.rowO _ e).1)
       refine hK.out _ _ ⟨fun j => by have := TB9.cell j; unfold stCells at this; exact this, fun j => by have := TI9.cell j; simpa [itemCells, putI] using this⟩ ?_
       intro hS9
       clear hK K
       try simp only [Act.put, sIB, sZB, sSB]
       refine wpAnyH_take (i := 15) (v := ?vb15) rfl (by kernel_rfl) (by kernel_rfl) (by kernel_rfl) (fun _ _ _ h => h) (Or.inl ⟨by rfl, ?hb15⟩) (by assumption) ?rb15
       case hb15 => (intro w hSw; obtain ⟨hSw1, hSw2⟩ := hSw; go_simp; try with_reducible rfl)
       try simp only [Act.put, sIB, sZB, sSB]
       refine wpAnyH_take (i := 16) (v := ?vb16) rfl (by kernel_rfl) (by kernel_rfl) (by kernel_rfl) (fun _ _ _ h => h) (Or.inl ⟨by rfl, ?hb16⟩) (by assumption) ?rb16
       case hb16 => (intro w hSw; obtain ⟨hSw1, hSw2⟩ := hSw; go_simp; try with_reducible rfl)
       try simp only [Act.put, sIB, sZB, sSB]
       refine wpAnyH_ready (rs := [17]) (by kernel_rfl) (by simp) ?_
       refine AllReadyH.cons rfl (fun K hK => ?_) AllReadyH.nil
       go_simp
       refine hK.out _ _ hS9 ?_
       intro hS10
       clear hK K
       refine wpAnyH_done (by kernel_rfl) ?_ _
       refine LastPost.step rfl (fun K hK => ?_)
       obtain ⟨va, vn, vc, rfl⟩ : ∃ va vn vc, v9 = .slice va vn vc := by
        rcases hR9.2 with ⟨h0, _⟩ | ⟨g, cap, cur, hv, _⟩
        · exact ⟨none, 0, 0, h0⟩
        · exact ⟨_, _, _, hv⟩
       have z9 := fun j => TB9.frozen j
       have lb9 := TB9.lt
       have hs8 : w6.heap.size ≤ w7.heap.size := B8.size
       have h9 := h8.items (w' := w9) (O' := fun b => O3 b ∨ (w7.heap.size ≤ b ∧ b < w9.heap.size)) _ hR9 (Fr.of_grown hG9 (fun g hg => Or.inl hg)) (fun g hg => by
        rcases hat9 with q | ⟨g', q, q1, q2⟩
        · exact Or.inl (q ▸ hg)
        · rw [q] at hg; cases hg; exact Or.inr q1) (fun b hb => Or.inl hb) (fun g hg => by
        rcases hat9 with q | ⟨g', q, q1, q2⟩
        · exact Or.inl (h6.rowO g (q ▸ hg)).1
        · rw [q] at hg; cases hg; exact Or.inr ⟨q1, q2⟩) (fun b hb => hb.elim (fun q => Nat.lt_of_lt_of_le (h8.lt b q) hG9.size) (fun q => q.2))
       have hend : Hid (StPost O w B R.1 (w9.setCell ⟨B, 8, none⟩ (.slice va vn vc))) := by
        rw [E2.out]
        refine ⟨⟨_, ⟨_, _, _, _, h9⟩, fun b hb => hb.elim (ho3w b) fun q => Or.inr (by have := F6.size; omega)⟩, ?_⟩
        exact ((F6.trans (Fr.of_below (O := O3) B8) ho3w).trans (Fr.of_grown (O := O3) hG9 (fun g hg => Or.inl (h6.rowO g hg).1)) ho3w).set 8 _ (ho3w B h3B)
       have hret : R.2 = true := by rw [E2.out]
       go_simp
       refine hK _ _ ?_
       go_wp2_with fail
       go_ret
       exact ⟨by first | rfl | (rw [hret]; rfl), hend.out⟩

/- Plain facts of stores: pushing out, making room, putting an item keep what may be. -/

theorem agoN_hit (l : List ItemR) (c : Int) : ∀ (k m : Nat), agoN l c k = (m : Int) → m < k ∧ hitC l c m = true
 | 0, m, h => by unfold agoN at h; omega
 | k + 1, m, h => by
  unfold agoN at h
  split at h
  · next hh =>
    split at h
    · have e : m = k := by omega
      subst e
      exact ⟨by omega, hh⟩
    · split at h
      · have e : m = k := by omega
        subst e
        exact ⟨by omega, hh⟩
      · have := agoN_hit l c k m h
        exact ⟨by omega, this.2⟩
  · have := agoN_hit l c k m h
    exact ⟨by omega, this.2⟩
theorem hitC_get {l : List ItemR} {c : Int} {i : Nat} (hi : i < l.length) : hitC l c i = hitP c l[i] := by
 unfold hitC hitP
 rw [List.getD_eq_getElem?_getD, List.getElem?_eq_getElem hi]
 rfl
theorem cnt_lt {p q : ItemR → Bool} : ∀ {l : List ItemR} {x : ItemR}, x ∈ l → p x = true → q x = false → (l.filter q).countP p + 1 ≤ l.countP p
 | [], x, h, _, _ => by simp at h
 | y :: r, x, h, hp, hq => by
  have hle : (r.filter q).countP p ≤ r.countP p := List.Sublist.countP_le List.filter_sublist
  by_cases e : x = y
  · subst e
    rw [List.filter_cons_of_neg (by rw [hq]; decide), List.countP_cons_of_pos hp]
    omega
  · have ih := cnt_lt (l := r) (x := x) (by simpa [e] using h) hp hq
    by_cases hy : q y = true
    · rw [List.filter_cons_of_pos hy]
      simp only [List.countP_cons]
      omega
    · rw [List.filter_cons_of_neg hy, List.countP_cons]
      omega
theorem takeN_kept (s : StoreR) (key : ByteArray) : Kept s (takeN s key) := ⟨rfl, rfl, rfl, rfl, rfl, fun it h => ⟨it, (List.mem_filter.1 h).1, rfl⟩⟩

theorem Gd.push {s : StoreR} (h : Gd s) (c : Nat) : Gd (pushS s c).1 ∧ Kept s (pushS s c).1 ∧ (pushS s c).1.items.length ≤ s.items.length ∧ (∀ n, roomN (pushS s c).1 n = roomN s n) ∧ ((pushS s c).2 = true → (pushS s c).1.items.countP (hitP c) + 1 ≤ s.items.countP (hitP c)) := by
 unfold pushS
 have hr := agoN_range s.items c s.items.length
 have hh := agoN_hit s.items c s.items.length
 generalize agoN s.items c s.items.length = G at *
 split
 · exact ⟨h, Kept.refl s, Nat.le_refl _, fun n => rfl, fun e => by cases e⟩
 · next h0 =>
   rcases hr with rfl | ⟨i, hi, rfl⟩
   · omega
   · rw [Int.toNat_natCast]
     have hit := (hh i rfl).2
     rw [hitC_get hi] at hit
     have hget : s.items.getD i default = s.items[i] := by rw [List.getD_eq_getElem?_getD, List.getElem?_eq_getElem hi]; rfl
     split
     · next hm =>
       obtain ⟨k1, k2, k3, k4, k5⟩ := h.move hi hm
       exact ⟨k1, k2, k3, k4, fun _ => k5 _ hit⟩
     · rw [hget]
       refine ⟨h.take _, takeN_kept _ _, List.length_filter_le _ _, fun n => rfl, fun _ => ?_⟩
       exact cnt_lt (List.getElem_mem hi) hit (by simp [keq_iff.2 rfl])
theorem Gd.room {s : StoreR} (h : Gd s) (c : Nat) (hc : c ≤ 3) : Gd (roomS s c).1 ∧ Kept s (roomS s c).1 ∧ ((roomS s c).2 = true → ((roomS s c).1.items.countP (hitP c) : Int) + 1 ≤ roomN (roomS s c).1 c ∧ (roomS s c).1.items.length < 1000) := by
 obtain ⟨h1, h2, h3, a, b, cc, d⟩ := gd_iff.1 h
 unfold roomS
 split
 · next hf =>
   refine ⟨h, Kept.refl s, fun e => ?_⟩
   unfold freeB at hf
   rw [cntC_all] at hf
   simp at hf e
   exact ⟨by show (s.items.countP (hitP c) : Int) + 1 ≤ roomN s c; omega, e⟩
 · split
   · next hb =>
     obtain ⟨k1, k2⟩ := h.hold hb c hc
     refine ⟨k1, holdS_kept s c, fun e => ?_⟩
     simp at e
     have := d c (by omega)
     show ((holdS s c).items.countP (hitP c) : Int) + 1 ≤ roomN (holdS s c) c ∧ (holdS s c).items.length < 1000
     rw [holdS_items]
     exact ⟨by omega, e⟩
   · obtain ⟨k1, k2, k3, k4, k5⟩ := h.push c
     split
     · next hp =>
       refine ⟨k1, k2, fun e => ?_⟩
       simp at e
       have q1 := k5 hp
       have q2 := d c (by omega)
       have q3 := k4 c
       exact ⟨by show ((pushS s c).1.items.countP (hitP c) : Int) + 1 ≤ roomN (pushS s c).1 c; omega, e⟩
     · exact ⟨k1, k2, fun e => by cases e⟩

theorem keys_insL (l : List ItemR) (i : Nat) (it : ItemR) : (insL l i it).map (fun x : ItemR => x.key) = (l.map (fun x : ItemR => x.key)).take i ++ it.key :: (l.map (fun x : ItemR => x.key)).drop i := by
 unfold insL
 simp [List.map_take, List.map_drop]
theorem sorted_ins {l : List ItemR} (h : SortedI l) {it : ItemR} (hk : ∀ jt ∈ l, jt.key ≠ it.key) : SortedI (insL l (placeN l it.key) it) := by
 obtain ⟨f1, f2, f3⟩ := placeN_found l it.key (h.mono it.key)
 have hget : ∀ i (hi : i < l.length), geI l it.key i = !(ltK l[i].key it.key) := fun i hi => by unfold geI; rw [List.getD_eq_getElem?_getD, List.getElem?_eq_getElem hi]; rfl
 generalize placeN l it.key = p at *
 unfold SortedI at *
 rw [keys_insL, List.pairwise_append, List.pairwise_cons]
 have hlt : ∀ x ∈ (l.map (fun x : ItemR => x.key)).take p, ltK x it.key = true := fun x hx => by
  obtain ⟨i, hi, rfl⟩ := List.getElem_of_mem hx
  simp only [List.length_take, List.length_map] at hi
  have := f2 i (by omega)
  rw [hget i (by omega)] at this
  simpa using this
 have hgt : ∀ x ∈ (l.map (fun x : ItemR => x.key)).drop p, ltK it.key x = true := fun x hx => by
  obtain ⟨i, hi, rfl⟩ := List.getElem_of_mem hx
  simp only [List.length_drop, List.length_map] at hi
  have := f3 (p + i) (by omega) (by omega)
  rw [hget (p + i) (by omega)] at this
  have h2 : ltK l[p + i].key it.key = false := by simpa using this
  rcases ltK_total h2 with e | e
  · exact absurd e (hk _ (List.getElem_mem _))
  · simpa using e
 refine ⟨h.sublist (List.take_sublist _ _), ⟨hgt, h.sublist (List.drop_sublist _ _)⟩, fun x hx y hy => ?_⟩
 rcases List.mem_cons.1 hy with rfl | hy
 · exact hlt x hx
 · exact ltK_trans (hlt x hx) (hgt y hy)

theorem Gd.put {s : StoreR} (h : Gd s) {it : ItemR} (hk : ∀ jt ∈ s.items, jt.key ≠ it.key) (hcas : s.cas < 1099511627776) (hus : s.uses < 1099511627776) (hkey : keyB it.key = true) (hfl : inB it.flags 0 65535 = true) (hun : inB it.until_ 0 1099511627776 = true) (hv : it.value.size ≤ 200) (hfar : it.far = false) (hpg : it.page = 0) (hat : it.at_ = 0)
 (hc3 : clsN it ≤ 3) (hcl : classN it.key.size it.value.size = clsN it) (hroom : (s.items.countP (hitP (clsN it)) : Int) + 1 ≤ roomN s (clsN it)) (hlen : s.items.length < 1000) : Gd (putT s it) := by
 obtain ⟨h1, h2, h3, a, b, c, d⟩ := gd_iff.1 h
 obtain ⟨q1, q2, q3, q4, q5, q6, q7, q8⟩ := counts_facts h1
 have hp : placeN s.items it.key ≤ s.items.length := List.findIdx_le_length
 have hmem : ∀ jt, jt ∈ insL s.items (placeN s.items it.key) (putI s it) → jt = putI s it ∨ jt ∈ s.items := fun jt hj => by
  unfold insL at hj
  rcases List.mem_append.1 hj with hj | hj
  · exact Or.inr (List.mem_of_mem_take hj)
  · rcases List.mem_cons.1 hj with rfl | hj
    · exact Or.inl rfl
    · exact Or.inr (List.mem_of_mem_drop hj)
 have hcnt : ∀ n : Int, (insL s.items (placeN s.items it.key) (putI s it)).countP (hitP n) = s.items.countP (hitP n) + (if hitP n (putI s it) = true then 1 else 0) := fun n => by
  have e : s.items.countP (hitP n) = (s.items.take (placeN s.items it.key)).countP (hitP n) + (s.items.drop (placeN s.items it.key)).countP (hitP n) := by rw [← List.countP_append, List.take_append_drop]
  unfold insL
  rw [List.countP_append, List.countP_cons, e]
  omega
 have hks := (key_size hkey)
 refine gd_iff.2 ⟨?_, h2, h3, by show (insL _ _ _).length ≤ 1000; rw [insL_len _ _ _ hp]; omega, sorted_ins (it := putI s it) b hk, fun jt hj => ?_, fun n hn => ?_⟩
 · unfold countsB
   simp only [Bool.and_eq_true, inB_iff]
   exact ⟨⟨q1, q2⟩, ⟨by show 0 ≤ s.cas + 1; omega, by show s.cas + 1 ≤ _; omega⟩, ⟨by show 0 ≤ s.uses + 1; omega, by show s.uses + 1 ≤ _; omega⟩, q7, q8⟩
 · rcases hmem jt hj with rfl | hj
   · refine ⟨?_, ?_, ?_⟩
     · unfold fieldsB
       show (keyB it.key && (inB it.flags 0 65535 && (inB it.until_ 0 1099511627776 && (inB (s.cas + 1) 1 (s.cas + 1) && inB (s.uses + 1) 1 (s.uses + 1))))) = true
       rw [hkey, hfl, hun]
       simp only [Bool.and_eq_true, inB_iff, Bool.true_and]
       omega
     · unfold valueB
       show (if it.far = true then _ else (decide (it.value.size ≤ 200) && (decide (it.page = 0) && decide (it.at_ = 0)))) = true
       rw [hfar, if_neg (by decide), hpg, hat, decide_eq_true hv]
       rfl
     · unfold ItemOk
       show it.key.size ≤ maxLen ∧ it.value.size ≤ maxLen ∧ _ ≤ it.at_ ∧ it.at_ ≤ _
       rw [hat]
       unfold maxLen
       omega
   · obtain ⟨k1, k2, k3⟩ := c jt hj
     refine ⟨?_, k2, k3⟩
     unfold fieldsB at k1 ⊢
     simp only [Bool.and_eq_true, inB_iff] at k1 ⊢
     obtain ⟨r1, r2, r3, r4, r5⟩ := k1
     exact ⟨r1, r2, r3, ⟨r4.1, by show jt.cas ≤ s.cas + 1; omega⟩, r5.1, by show jt.used ≤ s.uses + 1; omega⟩
 · have e := hcnt n
   have k1 := d n hn
   show ((insL s.items (placeN s.items it.key) (putI s it)).countP (hitP n) : Int) ≤ roomN s n
   rw [e]
   by_cases hh : hitP n (putI s it) = true
   · rw [if_pos hh]
     have hn2 : (n : Int) = (clsN it : Int) := by
      unfold hitP at hh
      simp only [Bool.and_eq_true, decide_eq_true_eq] at hh
      have h5 : classN it.key.size it.value.size = n := hh.2
      omega
     have hn3 : n = clsN it := by omega
     subst hn3
     omega
   · rw [if_neg hh]
     omega

/- An item that was asked for, or whose time is another: the store behind it. -/

/-- One cell of an item's row is another. -/
theorem RowIt.cell {w' : World} {g cap i : Nat} {cur : Array Value} {l : List ItemR} (hs : cur.size = cap * 9) (h1 : l.length ≤ cap) (h2 : cap ≤ maxLen) (ht : cur.toList.take (l.length * 9) = l.flatMap itemCells) (hi : i < l.length) (t0 : Nat) (h0 : t0 < 9) (v : Value) (it' : ItemR)
 (hit : ∀ t, t < 9 → (itemCells it')[t]? = if t = t0 then some v else (itemCells (l.getD i default))[t]?) (hc : w'.heap[g]? = some (.cells (cur.setIfInBounds (i * 9 + t0) v) 62 (0, 0))) :
 RowIt w' (.slice (some ⟨g, 0, none⟩) l.length cap) (l.set i it') := by
 have hlen : (l.set i it').length = l.length := List.length_set
 have h := RowIt.of_cells (w := w') (l := l.set i it') hc (by simpa using hs) (by rw [hlen]; exact h1) h2 fun q t hq h9 => by
  rw [hlen] at hq
  have hb := row_cells hs h1 ht q t hq h9
  by_cases hqi : q = i
  · subst hqi
    rw [List.getD_eq_getElem?_getD, List.getElem?_set_self (by omega)]
    show _ = (itemCells it')[t]?
    rw [hit t h9]
    by_cases e : t = t0
    · subst e
      rw [if_pos rfl, Array.getElem?_setIfInBounds_self_of_lt (by omega)]
    · rw [if_neg e, Array.getElem?_setIfInBounds_ne (by omega)]
      exact hb
  · rw [List.getD_eq_getElem?_getD, List.getElem?_set_ne (by omega), ← List.getD_eq_getElem?_getD, Array.getElem?_setIfInBounds_ne (by omega)]
    exact hb
 rwa [hlen] at h

def askS (s : StoreR) (n : Nat) : StoreR := { s with uses := s.uses + 1, items := s.items.set n { s.items.getD n default with used := s.uses + 1 } }
def untilS (s : StoreR) (n : Nat) (u : Int) : StoreR := { s with items := s.items.set n { s.items.getD n default with until_ := u } }

theorem nine_cases {p : Nat → Prop} (h0 : p 0) (h1 : p 1) (h2 : p 2) (h3 : p 3) (h4 : p 4) (h5 : p 5) (h6 : p 6) (h7 : p 7) (h8 : p 8) : ∀ t, t < 9 → p t := by
 intro t ht
 have : t = 0 ∨ t = 1 ∨ t = 2 ∨ t = 3 ∨ t = 4 ∨ t = 5 ∨ t = 6 ∨ t = 7 ∨ t = 8 := by omega
 rcases this with rfl | rfl | rfl | rfl | rfl | rfl | rfl | rfl | rfl <;> assumption

theorem StAt.cell {O : Nat → Prop} {w : World} {B : Nat} {s : StoreR} {g cap : Nat} {pa : Option Addr} {pc : Nat} {Op : Nat → Prop} (h : StAt O w B s (.slice (some ⟨g, 0, none⟩) s.items.length cap) pa pc Op) (n : Nat) (hn : n < s.items.length) (t0 : Nat) (h0 : t0 < 9) (v : Value) (it' : ItemR)
 (hit : ∀ t, t < 9 → (itemCells it')[t]? = if t = t0 then some v else (itemCells (s.items.getD n default))[t]?) :
 StAt O (w.setCell ⟨g, n * 9 + t0, none⟩ v) B { s with items := s.items.set n it' } (.slice (some ⟨g, 0, none⟩) s.items.length cap) pa pc Op := by
 obtain ⟨g2, cap2, e0, cur, hcur, hcap, hcm, hcs, hct⟩ := h.row.block (by omega)
 cases e0
 have hT : TB 62 w g cur := hcur
 exact h.rows _ (RowIt.cell hcs hcap hcm hct hn t0 h0 v it' hit (hT.set (n * 9 + t0) v)) ((Fr.refl _ w).set (n * 9 + t0) v (Or.inl rfl))

theorem StAt.asked {O : Nat → Prop} {w : World} {B : Nat} {s : StoreR} {g cap : Nat} {pa : Option Addr} {pc : Nat} {Op : Nat → Prop} (h : StAt O w B s (.slice (some ⟨g, 0, none⟩) s.items.length cap) pa pc Op) (n : Nat) (hn : n < s.items.length) :
 StAt O ((w.setCell ⟨B, 2, none⟩ (.int .i64 (s.uses + 1))).setCell ⟨g, n * 9 + 4, none⟩ (.int .i64 (s.uses + 1))) B (askS s n) (.slice (some ⟨g, 0, none⟩) s.items.length cap) pa pc Op := by
 have h1 := h.scalar { s with uses := s.uses + 1 } 2 (.int .i64 (s.uses + 1)) rfl rfl rfl
 exact h1.cell n hn 4 (by omega) (.int .i64 (s.uses + 1)) { s.items.getD n default with used := s.uses + 1 } (nine_cases rfl rfl rfl rfl rfl rfl rfl rfl rfl)

theorem StAt.untiled {O : Nat → Prop} {w : World} {B : Nat} {s : StoreR} {g cap : Nat} {pa : Option Addr} {pc : Nat} {Op : Nat → Prop} (h : StAt O w B s (.slice (some ⟨g, 0, none⟩) s.items.length cap) pa pc Op) (n : Nat) (hn : n < s.items.length) (u : Int) :
 StAt O (w.setCell ⟨g, n * 9 + 2, none⟩ (.int .i64 u)) B (untilS s n u) (.slice (some ⟨g, 0, none⟩) s.items.length cap) pa pc Op :=
 h.cell n hn 2 (by omega) (.int .i64 u) { s.items.getD n default with until_ := u } (nine_cases rfl rfl rfl rfl rfl rfl rfl rfl rfl)

theorem StAt.fr_ask {O : Nat → Prop} {w : World} {B : Nat} {s : StoreR} {g cap : Nat} {pa : Option Addr} {pc : Nat} {Op : Nat → Prop} (h : StAt O w B s (.slice (some ⟨g, 0, none⟩) s.items.length cap) pa pc Op) (j : Nat) (v v' : Value) :
 Fr O w ((w.setCell ⟨B, 2, none⟩ v).setCell ⟨g, j, none⟩ v') := ((Fr.refl O w).set 2 v (Or.inl h.boxO)).set j v' (Or.inl (h.rowO g rfl).1)

end Go.Proofs.YtdblegdgmjakfaaGreatDoor
