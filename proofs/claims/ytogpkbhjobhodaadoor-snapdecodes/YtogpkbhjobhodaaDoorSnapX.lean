/- The contract of snap.Decode. -/
import Derived.Test.YtogpkbhjobhodaaDoorSnapW
import Derived.Test.YtogpkbhjobhodaaDoorSChk6
namespace Go.Proofs.YtogpkbhjobhodaaDoor
open Go.ChangeShapes Go.WideShapes Go.ChangeAt Go.RowKit
set_option linter.unusedVariables false
set_option linter.unusedSimpArgs false

theorem itemR_ok (st : RS) : ItemOk (itemR st).2 := by
  have hk := text_le 20 st
  unfold itemR itemHead
  simp only
  have hv := text_le 200 (yesR (numR (numR (numR (numR (textR 20 st).1).1).1).1).1).1
  have hq := numR_lt (numR (yesR (numR (numR (numR (numR (textR 20 st).1).1).1).1).1).1).1
  split
  · refine ⟨?_, ?_, ?_, ?_⟩
    · show (strB _).size ≤ _; rw [strB_size]; unfold maxLen; omega
    · exact Nat.zero_le _
    · simp only; omega
    · simp only; omega
  · refine ⟨?_, ?_, ?_, ?_⟩
    · show (strB _).size ≤ _; rw [strB_size]; unfold maxLen; omega
    · show (strB _).size ≤ _; rw [strB_size]; unfold maxLen; omega
    · simp only; omega
    · simp only; omega

theorem storeR_ok (st : RS) : ItemsOk (storeR st).2.items := by
  intro j hj
  have hs : (storeR st).2.items = (itemsR (countR 1000 (flashR (headR st).1).1).2 (countR 1000 (flashR (headR st).1).1).1).2 := rfl
  rw [hs] at hj ⊢
  rw [itemsR_len] at hj
  rw [itemsR_at _ _ j hj]
  exact itemR_ok _

def nilS : StoreR := ⟨0, 0, 0, 0, 0, 0, 0, 0, [], 0, 0, []⟩
def bodyL (l : List UInt8) : List UInt8 := (l.drop 3).take (l.length - 7)
def endE (p : StoreR × Int) : Int := if p.2 = 0 then codeN (storeB p.1) else p.2
/-- What Decode answers. -/
def decE (l : List UInt8) : Int := if wrapE l = 0 then endE (readR (bodyL l)) else wrapE l
def decS (l : List UInt8) : StoreR := if decE l = 0 then (readR (bodyL l)).1 else nilS

def DecPost (l : List UInt8) (w : World) (e : Ending) (w' : World) : Prop := ∃ ia ic pa pc, e = .returned (.tuple #[storeV (decS l) ia ic pa pc, .int .i64 (decE l)]) ∧ StoreFrom w.heap.size w' (decS l) ia pa ∧ Below w.heap.size w w'

theorem nil_from (n : Nat) (w : World) : StoreFrom n w nilS none none := fun w' _ _ => ⟨items_none _ _, pages_none _ _⟩
theorem dec_bad {l : List UInt8} {w w' : World} {k : Int} (hk : decE l = k) (h0 : k ≠ 0) (hb : Below w.heap.size w w') : DecPost l w (.returned (.tuple #[.agg #[.int .i64 0, .int .i64 0, .int .i64 0, .int .i64 0, .int .i64 0, .int .i64 0, .int .i64 0, .int .i64 0, .slice none 0 0, .int .i64 0, .int .i64 0, .slice none 0 0], .int .i64 k])) w' := by
  have hS : decS l = nilS := by unfold decS; rw [if_neg (by rw [hk]; exact h0)]
  unfold DecPost
  rw [hS, hk]
  exact ⟨none, 0, none, 0, rfl, nil_from _ _, hb⟩

theorem dec_good {l : List UInt8} {w w' : World} {s : StoreR} {ia pa : Option Addr} {ic pc : Nat} (hs : decS l = s) (hk : decE l = 0) (hF : StoreFrom w.heap.size w' s ia pa) (hb : Below w.heap.size w w') : DecPost l w (.returned (.tuple #[storeV s ia ic pa pc, .int .i64 0])) w' := by
  unfold DecPost
  rw [hs, hk]
  exact ⟨ia, ic, pa, pc, rfl, hF, hb⟩
theorem wrap_len (l : List UInt8) (h : wrapE l = 0) : 7 ≤ l.length ∧ l.length ≤ 200000 := by
  unfold wrapE at h
  split at h
  · omega
  · split at h
    · omega
    · omega

set_option maxHeartbeats 2000000 in
set_option maxRecDepth 100000 in
theorem decode_any (l : List UInt8) (a : Option Addr) (c : Nat) (w : World) (hA : BytesAt w a l) (hlc : l.length ≤ c) (hcm : c ≤ maxLen) (hL : LaidC w) :
    Calls Tryd.prog 4 #[.slice a l.length c] w (DecPost l w) := by
  have A1 : Below w.heap.size w (w.alloc (.cells #[.int .i64 0, .int .i64 0, .int .i64 0, .int .i64 0, .int .i64 0, .int .i64 0, .int .i64 0, .int .i64 0, .slice none 0 0, .int .i64 0, .int .i64 0, .slice none 0 0] 29)) := (Below.refl _ _).alloc (Nat.le_refl _) _
  have T1 := TB.new 29 w #[.int .i64 0, .int .i64 0, .int .i64 0, .int .i64 0, .int .i64 0, .int .i64 0, .int .i64 0, .int .i64 0, .slice none 0 0, .int .i64 0, .int .i64 0, .slice none 0 0]
  have c1 := wrapping_any l a c _ (hA.later A1) hlc hcm
  by_cases h0 : wrapE l = 0
  · have hb0 : (wrapE l != 0) = false := by simp [h0]
    obtain ⟨hl7, hl2⟩ := wrap_len l h0
    have hdE : decE l = endE (readR (bodyL l)) := by unfold decE; rw [if_pos h0]
    have hdS : decE l = 0 → decS l = (readR (bodyL l)).1 := fun h => by unfold decS; rw [if_pos h]
    have hok : ItemsOk (readR (bodyL l)).1.items := storeR_ok ⟨bodyL l, 0⟩
    have hmax := hA.1
    have hcm2 := hcm
    unfold maxLen at hmax hcm2
    obtain ⟨_, hm⟩ := hA
    rcases hm with hm | ⟨b, o, rfl, hbl, hc⟩
    · omega
    have hbd := bytes_drop hc hbl (by unfold maxLen; omega) 3 (some ⟨b, o + 3, none⟩) (fun _ => rfl)
    have hbt := bytes_take hbd (l.length - 7) (by rw [List.length_drop]; omega)
    have htl : (bodyL l).length = l.length - 7 := by unfold bodyL; rw [List.length_take, List.length_drop]; omega
    have c2 := fun w1 (hb : Below w.heap.size w w1) => readAll_any (bodyL l) (some ⟨b, o + 3, none⟩) (c - 3) w1 (BytesAt.later (l := bodyL l) hbt hb) (by omega) (by unfold maxLen; omega) (fun x hx => by cases hx; exact Nat.lt_of_lt_of_le hbl hb.size)
    rw [htl] at c2
    rw [h0] at c1 hb0
    have hgood := fun (h : decE l = 0) (w' : World) (ia pa : Option Addr) (ic pc : Nat) hF hb => dec_good (l := l) (w := w) (w' := w') (ia := ia) (pa := pa) (ic := ic) (pc := pc) (hdS h) h hF hb
    have hbad := fun (k : Int) (hk : decE l = k) (h0 : k ≠ 0) (w' : World) (hb : Below w.heap.size w w') => dec_bad (l := l) (w := w) (w' := w') (k := k) hk h0 hb
    have hchk := fun (ia : Option Addr) (ic : Nat) (pa : Option Addr) (pc : Nat) (w1 : World) (hS : StoreIn w1 (readR (bodyL l)).1 ia pa) (hL1 : LaidC w1) => scheck_any (readR (bodyL l)).1 ia ic pa pc w1 hS hok hL1
    unfold ReadPost at c2
    unfold endE at hdE
    clear hdS hok hbd hbt hc
    generalize readR (bodyL l) = P at *
    obtain ⟨s, e2⟩ := P
    simp only at *
    generalize storeB s = sb at *
    obtain ⟨clock, scas, uses, most, h0', h1, h2, h3, items, fm, fx, pages⟩ := s
    generalize decE l = D at *
    generalize DecPost l w = PO at *
    unfold storeV at *
    simp only at *
    have n1 : (3 : Int) ≤ (l.length : Int) - 4 := by omega
    have n2 : (l.length : Int) - 4 ≤ (c : Int) := by omega
    have n3 : ¬ c - 3 = 0 := by omega
    have e7 : (l.length : Int) - 4 = ((l.length - 4 : Nat) : Int) := by omega
    have e8 : l.length - 4 - 3 = l.length - 7 := by omega
    go_enter Tryd.func4, Tryd.ntmps4
    go_wp2_with fail
    refine c1.mono ?_
    rintro e w1 ⟨rfl, hb1⟩
    have T2 := T1.later hb1
    have x2 := fun j => T2.cell j
    have hB1 := A1.trans (hb1.mono A1.size)
    go_wp2_with fail
    refine (c2 _ hB1).mono ?_
    rintro e w2 ⟨ia, ic, pa, pc, rfl, hF2, hb2⟩
    have hB2 := hB1.trans (hb2.mono hB1.size)
    have T3 := T2.later hb2
    have A3 : Below w2.heap.size w2 (w2.alloc (.cells #[.int .i64 clock, .int .i64 scas, .int .i64 uses, .int .i64 most, .int .i64 h0', .int .i64 h1, .int .i64 h2, .int .i64 h3, .slice ia items.length ic, .int .i64 fm, .int .i64 fx, .slice pa pages.length pc] 29)) := (Below.refl _ _).alloc (Nat.le_refl _) _
    have T4 := T3.later A3
    have X4 := TB.new 29 w2 #[.int .i64 clock, .int .i64 scas, .int .i64 uses, .int .i64 most, .int .i64 h0', .int .i64 h1, .int .i64 h2, .int .i64 h3, .slice ia items.length ic, .int .i64 fm, .int .i64 fx, .slice pa pages.length pc]
    have hB3 := hB2.trans (A3.mono hB2.size)
    have hI3 := hF2 _ A3.size (fun b _ hl => A3.block b hl)
    have hW : w.heap.size < w2.heap.size := T3.lt
    have hF3 : ∀ w', w2.heap.size ≤ w'.heap.size → (∀ b, w1.heap.size ≤ b → b < w2.heap.size → w'.heap[b]? = w2.heap[b]?) → StoreFrom w.heap.size w' ⟨clock, scas, uses, most, h0', h1, h2, h3, items, fm, fx, pages⟩ ia pa := fun w' hs hk => from12 hF2 hs hk hB1.size
    have hW1 : w.heap.size < w1.heap.size := T2.lt
    clear c1 c2 hb1 T1 T2 hF2 x2
    by_cases he : e2 = 0
    · subst he
      rw [if_pos rfl] at hdE
      have hck := hchk ia ic pa pc _ hI3 (hL.later hB3)
      clear hchk
      cases sb
      · have hk : D = 8 := hdE
        rw [show codeN false = 8 from rfl] at hck
        go_wp2_with fail
        refine hck.mono ?_
        rintro e w4 ⟨rfl, hb4⟩
        have T5 := T4.later hb4
        have x5 := fun j => T5.cell j
        have f5 := fun j => T5.frozen j
        have l5 := T5.lt
        have hB4 := hB3.trans (hb4.mono hB3.size)
        have hbad8 := hbad 8 hk (by decide)
        clear hk hdE hgood hbad
        go_wp2_with fail
        exact bodyPost_ret (v := .tuple #[.agg #[.int .i64 0, .int .i64 0, .int .i64 0, .int .i64 0, .int .i64 0, .int .i64 0, .int .i64 0, .int .i64 0, .slice none 0 0, .int .i64 0, .int .i64 0, .slice none 0 0], .int .i64 8]) (by simp [results, Tryd.results4, go_sem, l5, x5]) rfl (hbad8 _ ((((((((((((hB4.setCell (Nat.le_refl _) _).setCell (Nat.le_refl _) _).setCell (Nat.le_refl _) _).setCell (Nat.le_refl _) _).setCell (Nat.le_refl _) _).setCell (Nat.le_refl _) _).setCell (Nat.le_refl _) _).setCell (Nat.le_refl _) _).setCell (Nat.le_refl _) _).setCell (Nat.le_refl _) _).setCell (Nat.le_refl _) _).setCell (Nat.le_refl _) _))
      · have hk : D = 0 := hdE
        rw [show codeN true = 0 from rfl] at hck
        go_wp2_with fail
        refine hck.mono ?_
        rintro e w4 ⟨rfl, hb4⟩
        have T5 := T4.later hb4
        have X5 := X4.later hb4
        have x5 := fun j => T5.cell j
        have f5 := fun j => T5.frozen j
        have l5 := T5.lt
        have y5 := fun j => X5.cell j
        have m5 := X5.lt
        have hB4 := hB3.trans (hb4.mono hB3.size)
        have hgood0 := fun w' q1 q2 => hgood hk w' ia pa ic pc q1 q2
        have hz4 : w2.heap.size ≤ w4.heap.size := Nat.le_trans A3.size hb4.size
        have hk4 : ∀ b, w1.heap.size ≤ b → b < w2.heap.size → w4.heap[b]? = w2.heap[b]? := fun b _ hl => by rw [hb4.block b (Nat.lt_of_lt_of_le hl A3.size), A3.block b hl]
        clear hk hdE hgood hbad
        go_wp2_with fail
        refine bodyPost_ret (v := .tuple #[.agg #[.int .i64 clock, .int .i64 scas, .int .i64 uses, .int .i64 most, .int .i64 h0', .int .i64 h1, .int .i64 h2, .int .i64 h3, .slice ia items.length ic, .int .i64 fm, .int .i64 fx, .slice pa pages.length pc], .int .i64 0]) (by simp [results, Tryd.results4, go_sem, l5, x5, m5, y5]) rfl (hgood0 _ ?_ ?_)
        · refine hF3 _ (by simpa [World.setCell] using hz4) (fun b hb hl => ?_)
          rw [set12_heap w4 w.heap.size b _ _ _ _ _ _ _ _ _ _ _ _ (by omega)]
          exact hk4 b hb hl
        · exact ((((((((((((hB4.setCell (Nat.le_refl _) _).setCell (Nat.le_refl _) _).setCell (Nat.le_refl _) _).setCell (Nat.le_refl _) _).setCell (Nat.le_refl _) _).setCell (Nat.le_refl _) _).setCell (Nat.le_refl _) _).setCell (Nat.le_refl _) _).setCell (Nat.le_refl _) _).setCell (Nat.le_refl _) _).setCell (Nat.le_refl _) _).setCell (Nat.le_refl _) _)
    · rw [if_neg he] at hdE
      have heb : (e2 == 0) = false := by simp [he]
      have hen : (e2 != 0) = true := by simp [he]
      have hbad8 := hbad e2 hdE he
      have x5 := fun j => T3.cell j
      have f5 := fun j => T3.frozen j
      have l5 := T3.lt
      clear hdE hgood hbad hchk he
      go_wp2_with fail
      refine bodyPost_ret (v := .tuple #[.agg #[.int .i64 0, .int .i64 0, .int .i64 0, .int .i64 0, .int .i64 0, .int .i64 0, .int .i64 0, .int .i64 0, .slice none 0 0, .int .i64 0, .int .i64 0, .slice none 0 0], .int .i64 e2]) (by simp [results, Tryd.results4, go_sem, l5, x5]) rfl (hbad8 _ ?_)
      have hWle : w.heap.size ≤ w2.heap.size := Nat.le_of_lt hW
      exact ((((((((((((hB2.setCell (Nat.le_refl _) _).setCell (Nat.le_refl _) _).setCell (Nat.le_refl _) _).setCell (Nat.le_refl _) _).setCell (Nat.le_refl _) _).setCell (Nat.le_refl _) _).setCell (Nat.le_refl _) _).setCell (Nat.le_refl _) _).setCell (Nat.le_refl _) _).setCell (Nat.le_refl _) _).setCell (Nat.le_refl _) _).setCell (Nat.le_refl _) _).alloc (by simpa [World.setCell] using hWle) _
  · have hb0 : (wrapE l != 0) = true := by simp [h0]
    have hbad := fun w' (hb : Below w.heap.size w w') => dec_bad (l := l) (w := w) (w' := w') (k := wrapE l) (by unfold decE; rw [if_neg h0]) h0 hb
    generalize DecPost l w = PO at *
    generalize wrapE l = E at *
    clear h0
    go_enter Tryd.func4, Tryd.ntmps4
    go_wp2_with fail
    refine c1.mono ?_
    rintro e w1 ⟨rfl, hb1⟩
    have T2 := T1.later hb1
    have x2 := fun j => T2.cell j
    have f2 := fun j => T2.frozen j
    have l2 := T2.lt
    have hB1 := A1.trans (hb1.mono A1.size)
    go_wp2_with fail
    exact bodyPost_ret (v := .tuple #[.agg #[.int .i64 0, .int .i64 0, .int .i64 0, .int .i64 0, .int .i64 0, .int .i64 0, .int .i64 0, .int .i64 0, .slice none 0 0, .int .i64 0, .int .i64 0, .slice none 0 0], .int .i64 E]) (by simp [results, Tryd.results4, go_sem, l2, x2]) rfl (hbad _ (((((((((((((hB1.setCell (Nat.le_refl _) _).setCell (Nat.le_refl _) _).setCell (Nat.le_refl _) _).setCell (Nat.le_refl _) _).setCell (Nat.le_refl _) _).setCell (Nat.le_refl _) _).setCell (Nat.le_refl _) _).setCell (Nat.le_refl _) _).setCell (Nat.le_refl _) _).setCell (Nat.le_refl _) _).setCell (Nat.le_refl _) _).setCell (Nat.le_refl _) _)))
end Go.Proofs.YtogpkbhjobhodaaDoor
