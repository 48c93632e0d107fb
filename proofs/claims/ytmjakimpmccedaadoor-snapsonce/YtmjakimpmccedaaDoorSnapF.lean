/- The contract of snap.appendFlash. -/
import Derived.Test.YtmjakimpmccedaaDoorSnapI
namespace Go.Proofs.YtmjakimpmccedaaDoor
open Go.ChangeShapes Go.WideShapes Go.ChangeAt Go.RowKit
set_option linter.unusedVariables false
set_option linter.unusedSimpArgs false

/-- The bytes of pages. -/
def pagesX (ps : List PageR) : List UInt8 := ps.flatMap fun p => txt p.bs

theorem pagesX_len (ps : List PageR) (hb : ∀ j, j < ps.length → (ps.getD j default).bs.length ≤ 256) (k : Nat) : (pagesX (ps.take k)).length ≤ ps.length * 265 := by
  induction ps generalizing k with
  | nil => simp [pagesX]
  | cons x r ih =>
    cases k with
    | zero => simp [pagesX]
    | succ k =>
      have h1 := ih (fun j hj => by simpa using hb (j + 1) (by simpa using hj)) k
      have hx : x.bs.length ≤ 256 := by simpa using hb 0 (by simp)
      have h2 := txt_len x.bs (by omega)
      unfold pagesX at *
      simp only [List.take_succ_cons, List.flatMap_cons, List.length_append, List.length_cons]
      omega

theorem pagesX_take (ps : List PageR) (k : Nat) (hk : k < ps.length) : pagesX (ps.take (k + 1)) = pagesX (ps.take k) ++ txt (ps.getD k default).bs := by
  unfold pagesX
  rw [List.getD_eq_getElem?_getD, List.getElem?_eq_getElem hk, ← List.take_append_getElem hk, List.flatMap_append]
  simp

theorem strB_list (l : List UInt8) : (strB l).data.toList = l := rfl
theorem strB_size (l : List UInt8) : (strB l).size = l.length := rfl

set_option maxHeartbeats 2000000 in
set_option maxRecDepth 100000 in
theorem flashX_any (W0 : World) (v : Value) (l : List UInt8) (fm fx : Nat) (ps : List PageR) (pa : Option Addr) (pc : Nat) (w : World) (hR : RowB W0.heap.size w v l) (hB : Below W0.heap.size W0 w) (hP : PagesAt W0 pa ps) (hl : ps.length ≤ 20) (hbs : ∀ j, j < ps.length → (ps.getD j default).bs.length ≤ 256) (hfm : fm < 9223372036854775808) (hfx : fx < 9223372036854775808) (hz : l.length + 6000 ≤ 140737488350000) :
    Calls Tryd.prog 30 #[v, .agg #[.int .i64 (fm : Int), .int .i64 (fx : Int), .slice pa ps.length pc]] w (AppPost W0.heap.size v (l ++ [fm, fx, ps.length].flatMap sev ++ pagesX ps) w) := by
  obtain ⟨hmax, hm⟩ := hP
  generalize hRR : l ++ [fm, fx, ps.length].flatMap sev ++ pagesX ps = R at ⊢
  have E : Hid (R = l ++ [fm, fx, ps.length].flatMap sev ++ pagesX ps) := hRR.symm
  clear hRR
  have B0 : Below w.heap.size w (w.alloc (.cells #[.int .i64 (fm : Int), .int .i64 (fx : Int), .slice pa ps.length pc] 26)) := (Below.refl _ _).alloc (Nat.le_refl _) _
  have T0 := TB.new 26 w #[.int .i64 (fm : Int), .int .i64 (fx : Int), .slice pa ps.length pc]
  have hne0 := hR.ne_new
  have hR0 := hR.below B0
  have hG0 := Grew.of_below v B0
  have hn0 : W0.heap.size ≤ (w.alloc (.cells #[.int .i64 (fm : Int), .int .i64 (fx : Int), .slice pa ps.length pc] 26)).heap.size := Nat.le_trans hB.size B0.size
  have hq : ([fm, fx, ps.length].flatMap sev).length ≤ 27 := by
    have q1 := sev9 fm hfm
    have q2 := sev9 fx hfx
    have q3 := sev9 ps.length (by omega)
    simp
    omega
  have hown : ∀ k, v.ownBlock = some k → W0.heap.size ≤ k := fun k hk => (hR.lt k hk).1
  go_enter Tryd.func30, Tryd.ntmps30
  go_wp2_with fail
  refine (nums_at (w.heap.size + 1) W0.heap.size v l [fm, fx, ps.length] _ 3 _ (by simp) rfl rfl (Or.inl hR0) (by omega) hn0 (by simp; omega) (by omega)).mono ?_
  rintro e w1 ⟨v1, rfl, hR1, hG1⟩
  have T1 := T0.grew hG1 hne0
  have hGw1 := hG0.trans hG1
  clear T0 hG0 hG1 hR0 hne0 hn0 B0
  have x1 := fun j => T1.cell j
  have l1 := T1.lt
  generalize hL1 : l ++ [fm, fx, ps.length].flatMap sev = L1 at *
  have hz1 : L1.length + 5900 ≤ 140737488350000 := by rw [← hL1, List.length_append]; omega
  clear hL1
  go_wp2_with fail
  clear x1 l1 T1
  go_loopw [0, 20] (fun u i wr => ∃ (k : Nat) (uo : Value), k ≤ ps.length ∧ uo = u ∧ i = .int .i64 k ∧ RowB W0.heap.size wr uo (L1 ++ pagesX (ps.take k)) ∧ Grew w v wr uo) (fun _ i _ => ps.length - (intOf i).toNat)
  case atStart => exact ⟨0, _, Nat.zero_le _, rfl, rfl, by simpa [pagesX] using hR1, hGw1⟩
  case round =>
    obtain ⟨k, uo, hk, rfl, rfl, hRk, hG⟩ := hrel
    by_cases hlt : k < ps.length
    · have hltz : (k : Int) < (ps.length : Int) := by omega
      have hk0 : (0 : Int) ≤ (k : Int) := Int.natCast_nonneg _
      have hbr := hG.below hB hown
      rcases hm with hm | ⟨b, o, rfl, hbl, hc⟩
      · omega
      have htk := pagesX_take ps k hlt
      have hlen := pagesX_len ps hbs k
      have hb6 := hbs k hlt
      obtain ⟨p, q, n1, n2, n3, n4, n5⟩ := (hc k hlt).later hbl hbr
      clear hc hbs
      generalize ps.getD k default = P at *
      obtain ⟨num, bs⟩ := P
      simp only at *
      have htk2 : Hid (L1 ++ pagesX (ps.take (k + 1)) = L1 ++ pagesX (ps.take k) ++ txt bs) := by unfold Hid; rw [htk, List.append_assoc]
      have hL : (L1 ++ pagesX (ps.take k)).length + 500 ≤ 140737488350000 := by rw [List.length_append]; omega
      generalize L1 ++ pagesX (ps.take k) = L at *
      clear htk hlen
      have A1 : Below wr.heap.size wr (wr.alloc (.cells #[.int .i64 num, .slice p bs.length q] 45)) := (Below.refl _ _).alloc (Nat.le_refl _) _
      have hcv := conv_bytes (n3.later A1) q
      have hcall := text_any W0.heap.size uo L (strB bs) _ (hRk.below A1) (Nat.le_trans hbr.size A1.size) (by rw [strB_size]; omega)
      rw [strB_list] at hcall
      have hGA := hG.trans (Grew.of_below uo A1)
      go_wp2_with (go_at_call 51; refine hcall.mono ?_; rintro e w2 ⟨v2, rfl, hR2, hG2⟩)
      exact ⟨⟨k + 1, _, hlt, rfl, by simp, by rw [htk2.out]; exact hR2, hGA.trans hG2⟩, by simp [intOf]; omega⟩
    · have hltz : ¬ (k : Int) < (ps.length : Int) := by omega
      have hke : k = ps.length := by omega
      subst hke
      rw [List.take_length] at hRk
      go_wp2
      go_ret
      exact ⟨_, rfl, by rw [E.out]; exact hRk, hG⟩
end Go.Proofs.YtmjakimpmccedaaDoor
