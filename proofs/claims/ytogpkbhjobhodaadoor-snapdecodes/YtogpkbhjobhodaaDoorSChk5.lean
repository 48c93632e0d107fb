/- The contracts of store.inMemory and store.chunksHeld: how many items of each class are in memory, how many may be. -/
import Derived.Test.YtogpkbhjobhodaaDoorSChk4
import Derived.Test.YtogpkbhjobhodaaDoorTB
namespace Go.Proofs.YtogpkbhjobhodaaDoor
open Go.ChangeShapes Go.WideShapes Go.ChangeAt Go.RowKit
set_option linter.unusedVariables false
set_option linter.unusedSimpArgs false

/-- Is the item at j in memory, and of the class c? -/
def hitC (l : List ItemR) (c : Int) (j : Nat) : Bool := !(l.getD j default).far && decide (classN (l.getD j default).key.size (l.getD j default).value.size = c)
/-- How many of the first ones are so. -/
def cntC (l : List ItemR) (c : Int) : Nat → Nat
  | 0 => 0
  | k + 1 => cntC l c k + (if hitC l c k = true then 1 else 0)

theorem cntC_le (l : List ItemR) (c : Int) : ∀ k, cntC l c k ≤ k
  | 0 => Nat.le_refl _
  | k + 1 => by
    have h := cntC_le l c k
    unfold cntC
    split <;> omega
theorem cntC_miss {l : List ItemR} {c : Int} {k : Nat} (h : hitC l c k = false) : cntC l c (k + 1) = cntC l c k := by rw [cntC, h]; simp
theorem cntC_hit {l : List ItemR} {c : Int} {k : Nat} (h : hitC l c k = true) : cntC l c (k + 1) = cntC l c k + 1 := by rw [cntC, h]; simp

def cntV (l : List ItemR) (k : Nat) : Array Value := #[.int .i64 (cntC l 0 k), .int .i64 (cntC l 1 k), .int .i64 (cntC l 2 k), .int .i64 (cntC l 3 k)]

theorem cntV_far {l : List ItemR} {k : Nat} (h : (l.getD k default).far = true) : cntV l k = cntV l (k + 1) := by
  have e : ∀ c, hitC l c k = false := fun c => by unfold hitC; rw [h]; rfl
  unfold cntV
  rw [cntC_miss (e 0), cntC_miss (e 1), cntC_miss (e 2), cntC_miss (e 3)]

theorem hitC_near {l : List ItemR} {k : Nat} (h : (l.getD k default).far = false) (c : Int) : hitC l c k = decide (classN (l.getD k default).key.size (l.getD k default).value.size = c) := by unfold hitC; rw [h]; rfl

theorem cntV_near {l : List ItemR} {k : Nat} (h : (l.getD k default).far = false) (n : Nat) (hn : n ≤ 3) (hc : classN (l.getD k default).key.size (l.getD k default).value.size = n) :
    (cntV l k).setIfInBounds n (.int .i64 ((cntC l n k : Int) + 1)) = cntV l (k + 1) := by
  have e : ∀ c : Int, c ≠ n → cntC l c (k + 1) = cntC l c k := fun c hcn => cntC_miss (by rw [hitC_near h, hc]; simp; omega)
  have e1 : cntC l n (k + 1) = cntC l n k + 1 := cntC_hit (by rw [hitC_near h, hc]; simp)
  have hn : n = 0 ∨ n = 1 ∨ n = 2 ∨ n = 3 := by omega
  unfold cntV
  rcases hn with rfl | rfl | rfl | rfl
  · rw [e 1 (by decide), e 2 (by decide), e 3 (by decide), show ((0 : Nat) : Int) = 0 from rfl] at *
    rw [e1]; rfl
  · rw [e 0 (by decide), e 2 (by decide), e 3 (by decide), show ((1 : Nat) : Int) = 1 from rfl] at *
    rw [e1]; rfl
  · rw [e 0 (by decide), e 1 (by decide), e 3 (by decide), show ((2 : Nat) : Int) = 2 from rfl] at *
    rw [e1]; rfl
  · rw [e 0 (by decide), e 1 (by decide), e 2 (by decide), show ((3 : Nat) : Int) = 3 from rfl] at *
    rw [e1]; rfl

set_option maxHeartbeats 2000000 in
set_option maxRecDepth 100000 in
theorem inMemory_any (l : List ItemR) (a : Option Addr) (c : Nat) (w : World) (hI : ItemsAt w a l) (hok : ItemsOk l) (hL : LaidC w) (hlen : l.length ≤ 1000)
    (hcl : ∀ j, j < l.length → (l.getD j default).far = false → ∃ n : Nat, n ≤ 3 ∧ classN (l.getD j default).key.size (l.getD j default).value.size = n) :
    Calls Tryd.prog 43 #[.slice a l.length c] w fun e w' => e = .returned (.agg (cntV l l.length)) ∧ Below w.heap.size w w' := by
  obtain ⟨hmax, hmm⟩ := hI
  unfold maxLen at hmax
  have hB0 : ∀ o1 o2, Below w.heap.size w ((w.alloc o1).alloc o2) := fun o1 o2 => ((Below.refl _ _).alloc (Nat.le_refl _) _).alloc (by simp) _
  go_enter Tryd.func43, Tryd.ntmps43
  go_wp2_with fail
  go_loopw [8] (fun i wr => ∃ k : Nat, k ≤ l.length ∧ i = .int .i64 k ∧ Below w.heap.size w wr ∧ TB 23 wr w.heap.size #[.int .i64 0, .int .i64 0, .int .i64 0, .int .i64 0] ∧ TB 23 wr (w.heap.size + 1) (cntV l k)) (fun i _ => l.length - (intOf i).toNat)
  case atStart => exact ⟨0, Nat.zero_le _, rfl, hB0 _ _, (TB.new _ _ _).alloc _, (by simpa [cntV, cntC] using TB.new 23 (w.alloc (.cells #[.int .i64 0, .int .i64 0, .int .i64 0, .int .i64 0] 23)) #[.int .i64 0, .int .i64 0, .int .i64 0, .int .i64 0])⟩
  case round =>
    obtain ⟨k, hk, rfl, hb, t0, t1⟩ := hrel
    have hz0 := t0.lt
    have hz1 := t1.lt
    by_cases hlt : k < l.length
    · have hltz : (k : Int) < (l.length : Int) := by omega
      have hk0 : (0 : Int) ≤ (k : Int) := Int.natCast_nonneg _
      rcases hmm with hmm | ⟨b, o, rfl, hbl, hc⟩
      · omega
      obtain ⟨n0, n1, n2, n3, n4, n5, n6, n7, n8⟩ := (hc k hlt).later hbl hb
      have hlb : b < wr.heap.size := Nat.lt_of_lt_of_le hbl hb.size
      have okk := hok k hlt
      have hclk := hcl k hlt
      have hfarV : Hid ((l.getD k default).far = true → cntV l k = cntV l (k + 1)) := cntV_far
      have hnearV : Hid ((l.getD k default).far = false → ∀ n : Nat, n ≤ 3 → classN (l.getD k default).key.size (l.getD k default).value.size = n → (cntV l k).setIfInBounds n (.int .i64 ((cntC l n k : Int) + 1)) = cntV l (k + 1)) := fun h n hn hc => cntV_near h n hn hc
      have hsc := fun w1 hb => sclassOf_any (l.getD k default) w1 (hL.later hb) okk
      have hA1 : ∀ o, Below wr.heap.size wr (wr.alloc o) := fun o => (Below.refl _ _).alloc (Nat.le_refl _) _
      clear hc hcl hok
      generalize l.getD k default = it at *
      generalize hCN : classN it.key.size it.value.size = C at *
      clear hCN
      obtain ⟨key, flags, until_, cas, used, value, far, page, at_⟩ := it
      simp only at *
      cases far
      · obtain ⟨n, hn, rfl⟩ := hclk rfl
        have hV := hnearV.out rfl n hn rfl
        have hcnt := cntC_le l n k
        have hn0 : (0 : Int) ≤ (n : Int) := Int.natCast_nonneg _
        have hn4 : (n : Int) < 4 := by omega
        have hcell : (cntV l k)[n]? = some (.int .i64 (cntC l n k)) := by
          have hn : n = 0 ∨ n = 1 ∨ n = 2 ∨ n = 3 := by omega
          rcases hn with rfl | rfl | rfl | rfl <;> rfl
        generalize hK : cntC l n k = K at *
        go_wp2_with fail
        refine (hsc _ (hb.trans ((hA1 _).mono hb.size))).mono ?_
        rintro e w2 ⟨rfl, hb2⟩
        have hBr : Below wr.heap.size wr w2 := (hA1 _).trans (hb2.mono (by simp))
        have t0' := t0.later hBr
        have t1' := t1.later hBr
        have f1 := t1'.frozen n
        have g1 : w2.cell? ⟨w.heap.size + 1, n, none⟩ = some (.int .i64 K) := by rw [t1'.cell n]; exact hcell
        have hz2 := t1'.lt
        clear hsc hb2 n0 n1 n2 n3 n4 n5 n6 n7 n8
        go_wp2_with fail
        go_roundw
        case rel => exact ⟨k + 1, by omega, by go_num, (hb.trans (hBr.mono hb.size)).setCell (by show _ ≤ w.heap.size + 1; omega) _, t0'.far _ _ (by show w.heap.size ≠ w.heap.size + 1; omega), (by have h := t1'.set n (.int .i64 ((K : Int) + 1)); rw [hV] at h; exact h)⟩
        case measure => simp [intOf]; omega
      · have hV := hfarV.out rfl
        clear hsc
        go_wp2
        go_roundw
        case rel => exact ⟨k + 1, by omega, by go_num, hb.trans ((hA1 _).mono hb.size), t0.alloc _, by rw [← hV]; exact t1.alloc _⟩
        case measure => simp [intOf]; omega
    · have hltz : ¬ (k : Int) < (l.length : Int) := by omega
      have hke : k = l.length := by omega
      subst hke
      have q0 := fun j => t0.cell j
      have q1 := fun j => t1.cell j
      have f0 := fun j => t0.frozen j
      unfold cntV at *
      have e0 : wr.cell? ⟨w.heap.size, 0, none⟩ = some (.int .i64 0) := q0 0
      have e1 : wr.cell? ⟨w.heap.size, 1, none⟩ = some (.int .i64 0) := q0 1
      have e2 : wr.cell? ⟨w.heap.size, 2, none⟩ = some (.int .i64 0) := q0 2
      have e3 : wr.cell? ⟨w.heap.size, 3, none⟩ = some (.int .i64 0) := q0 3
      go_wp2_with fail
      refine bodyPost_ret (v := .agg #[.int .i64 (cntC l 0 l.length), .int .i64 (cntC l 1 l.length), .int .i64 (cntC l 2 l.length), .int .i64 (cntC l 3 l.length)]) (by simp [results, Tryd.results43, go_sem, e0, e1, e2, e3, hz0]) rfl ⟨rfl, ?_⟩
      exact (((hb.setCell (Nat.le_refl _) _).setCell (Nat.le_refl _) _).setCell (Nat.le_refl _) _).setCell (Nat.le_refl _) _

theorem idx4_at (a b c d : Int) (n : Nat) (v : Int) (hn : n ≤ 3) (hv : (#[Value.int .i64 a, .int .i64 b, .int .i64 c, .int .i64 d] : Array Value)[n]? = some (.int .i64 v)) (w : World) : (Instr.index 23 (.agg #[.int .i64 a, .int .i64 b, .int .i64 c, .int .i64 d]) (.int .i64 n)).run Tryd.prog w = .ok (.int .i64 v) w := by
  obtain ⟨i0, i1, i2, i3⟩ := idx4 a b c d w
  have hn : n = 0 ∨ n = 1 ∨ n = 2 ∨ n = 3 := by omega
  rcases hn with rfl | rfl | rfl | rfl
  · cases hv; exact i0
  · cases hv; exact i1
  · cases hv; exact i2
  · cases hv; exact i3

def heldN (s : StoreR) (n : Nat) : Int := [s.h0, s.h1, s.h2, s.h3].getD n 0
def perN (n : Nat) : Int := [8, 4, 2, 1].getD n 0
def roomN (s : StoreR) (n : Nat) : Int := heldN s n * perN n

set_option maxHeartbeats 1000000 in
set_option maxRecDepth 100000 in
theorem chunksHeld_any (s : StoreR) (ia : Option Addr) (ic : Nat) (pa : Option Addr) (pc : Nat) (n : Nat) (hn : n ≤ 3) (w : World) (hL : LaidC w) (hr : ∀ m, m ≤ 3 → 0 ≤ heldN s m ∧ heldN s m ≤ 40) :
    Calls Tryd.prog 44 #[storeV s ia ic pa pc, .int .i64 n] w fun e w' => e = .returned (.int .i64 (roomN s n)) ∧ Below w.heap.size w w' := by
  have E : Hid (roomN s n = heldN s n * perN n) := rfl
  have r := hr n hn
  have hB0 : ∀ o, Below w.heap.size w (w.alloc o) := fun o => (Below.refl _ _).alloc (Nat.le_refl _) _
  have hL2 := fun o => hL.later (hB0 o)
  obtain ⟨hC, c0, c1, c2, c3⟩ := hL
  generalize roomN s n = R at *
  obtain ⟨clock, scas, uses, most, h0, h1, h2, h3, items, fm, fx, pages⟩ := s
  unfold storeV heldN at *
  simp only at *
  clear hr hL2
  have hn : n = 0 ∨ n = 1 ∨ n = 2 ∨ n = 3 := by omega
  rcases hn with rfl | rfl | rfl | rfl
  · obtain ⟨r1, r2⟩ : 0 ≤ h0 ∧ h0 ≤ 40 := r
    have E2 : Hid (R = h0 * 8) := E.out
    clear E
    go_enter Tryd.func44, Tryd.ntmps44
    go_wp2_with fail
    go_quiet (fail)
    go_wp2
    go_ret
    exact ⟨ret_i64 (by rw [E2.out]), (hB0 _).trans ((drewN_below _ nq).mono (hB0 _).size)⟩
  · obtain ⟨r1, r2⟩ : 0 ≤ h1 ∧ h1 ≤ 40 := r
    have E2 : Hid (R = h1 * 4) := E.out
    clear E
    go_enter Tryd.func44, Tryd.ntmps44
    go_wp2_with fail
    go_quiet (fail)
    go_wp2
    go_ret
    exact ⟨ret_i64 (by rw [E2.out]), (hB0 _).trans ((drewN_below _ nq).mono (hB0 _).size)⟩
  · obtain ⟨r1, r2⟩ : 0 ≤ h2 ∧ h2 ≤ 40 := r
    have E2 : Hid (R = h2 * 2) := E.out
    clear E
    go_enter Tryd.func44, Tryd.ntmps44
    go_wp2_with fail
    go_quiet (fail)
    go_wp2
    go_ret
    exact ⟨ret_i64 (by rw [E2.out]), (hB0 _).trans ((drewN_below _ nq).mono (hB0 _).size)⟩
  · obtain ⟨r1, r2⟩ : 0 ≤ h3 ∧ h3 ≤ 40 := r
    have E2 : Hid (R = h3 * 1) := E.out
    clear E
    go_enter Tryd.func44, Tryd.ntmps44
    go_wp2_with fail
    go_quiet (fail)
    go_wp2
    go_ret
    exact ⟨ret_i64 (by rw [E2.out]; simp), (hB0 _).trans ((drewN_below _ nq).mono (hB0 _).size)⟩

def chunksB (s : StoreR) : Bool := (List.range 4).all fun n => decide ((cntC s.items n s.items.length : Int) ≤ roomN s n)

theorem chunks_no (s : StoreR) (n : Nat) (hn : n < 4) (h : ¬ (cntC s.items n s.items.length : Int) ≤ roomN s n) : chunksB s = false := List.all_eq_false.2 ⟨n, List.mem_range.2 hn, by simp; omega⟩
theorem chunks_yes (s : StoreR) (h : ∀ n : Nat, n < 4 → (cntC s.items n s.items.length : Int) ≤ roomN s n) : chunksB s = true := List.all_eq_true.2 fun n hn => by simpa using h n (List.mem_range.1 hn)

set_option maxHeartbeats 2000000 in
set_option maxRecDepth 100000 in
theorem chunks_any (s : StoreR) (ia : Option Addr) (ic : Nat) (pa : Option Addr) (pc : Nat) (w : World) (hI : ItemsAt w ia s.items) (hok : ItemsOk s.items) (hL : LaidC w) (hlen : s.items.length ≤ 1000)
    (hcl : ∀ j, j < s.items.length → (s.items.getD j default).far = false → ∃ n : Nat, n ≤ 3 ∧ classN (s.items.getD j default).key.size (s.items.getD j default).value.size = n) (hr : ∀ m, m ≤ 3 → 0 ≤ heldN s m ∧ heldN s m ≤ 40) :
    Calls Tryd.prog 25 #[storeV s ia ic pa pc] w fun e w' => e = .returned (.bool (chunksB s)) ∧ Below w.heap.size w w' := by
  have hin := fun w1 hb => inMemory_any s.items ia ic w1 (hI.later hb) hok (hL.later hb) hlen hcl
  have hch := fun n hn w1 hb => chunksHeld_any s ia ic pa pc n hn w1 (hL.later hb) hr
  have CNo : Hid (∀ n : Nat, n < 4 → ¬ (cntC s.items n s.items.length : Int) ≤ roomN s n → chunksB s = false) := fun n hn h => chunks_no s n hn h
  have CYes : Hid ((∀ n : Nat, n < 4 → (cntC s.items n s.items.length : Int) ≤ roomN s n) → chunksB s = true) := chunks_yes s
  generalize chunksB s = R at *
  generalize roomN s = RM at *
  have hcv : ∀ n : Nat, n ≤ 3 → (cntV s.items s.items.length)[n]? = some (.int .i64 (cntC s.items n s.items.length)) := fun n hn => by
    have hn : n = 0 ∨ n = 1 ∨ n = 2 ∨ n = 3 := by omega
    rcases hn with rfl | rfl | rfl | rfl <;> rfl
  clear hr hcl hok hI
  obtain ⟨clock, scas, uses, most, h0, h1, h2, h3, items, fm, fx, pages⟩ := s
  unfold storeV at *
  simp only at *
  have hB0 : ∀ o, Below w.heap.size w (w.alloc o) := fun o => (Below.refl _ _).alloc (Nat.le_refl _) _
  go_enter Tryd.func25, Tryd.ntmps25
  go_wp2_with fail
  refine (hin _ (hB0 _)).mono ?_
  rintro e w1 ⟨rfl, hb1⟩
  have bs : ∀ j, w1.cell? ⟨w.heap.size, j, none⟩ = (#[.int .i64 clock, .int .i64 scas, .int .i64 uses, .int .i64 most, .int .i64 h0, .int .i64 h1, .int .i64 h2, .int .i64 h3, .slice ia items.length ic, .int .i64 fm, .int .i64 fx, .slice pa pages.length pc] : Array Value)[j]? := fun j => by rw [hb1.cell (p := ⟨w.heap.size, j, none⟩) (by simp)]; simp [go_sem]
  have hz := bsize hb1
  have hB1 : Below w.heap.size w w1 := (hB0 _).trans (hb1.mono (by simp))
  clear hb1 hin
  have hix : ∀ n : Nat, n ≤ 3 → ∀ w2, (Instr.index 23 (.agg (cntV items items.length)) (.int .i64 n)).run Tryd.prog w2 = .ok (.int .i64 (cntC items n items.length)) w2 := fun n hn w2 => idx4_at _ _ _ _ n _ hn (hcv n hn) w2
  clear hcv
  generalize cntV items items.length = V at *
  go_wp2_with fail
  go_loopw [8] (fun i wr => ∃ n : Nat, n ≤ 4 ∧ i = .int .i64 n ∧ Hid (∀ m : Nat, m < n → (cntC items m items.length : Int) ≤ RM m) ∧ Below w1.heap.size w1 wr) (fun i _ => 4 - (intOf i).toNat)
  case atStart => exact ⟨0, Nat.zero_le _, rfl, fun j hj => absurd hj (Nat.not_lt_zero _), Below.refl _ _⟩
  case round =>
    obtain ⟨n, hn, rfl, A, hb⟩ := hrel
    have hbw : Below w.heap.size w wr := hB1.trans (hb.mono hB1.size)
    have br : ∀ j, wr.cell? ⟨w.heap.size, j, none⟩ = (#[.int .i64 clock, .int .i64 scas, .int .i64 uses, .int .i64 most, .int .i64 h0, .int .i64 h1, .int .i64 h2, .int .i64 h3, .slice ia items.length ic, .int .i64 fm, .int .i64 fx, .slice pa pages.length pc] : Array Value)[j]? := fun j => by rw [hb.cell (p := ⟨w.heap.size, j, none⟩) hz]; exact bs j
    by_cases hlt : n < 4
    · have hltz : (n : Int) < 4 := by omega
      have hi := hix n (by omega)
      have hc := hch n (by omega) wr hbw
      have hno := CNo.out n hlt
      generalize hQ : cntC items n items.length = Q at *
      generalize hM : RM n = M at *
      clear hix hch CNo
      by_cases hle : (Q : Int) ≤ M
      · go_wp2_with (go_at_call 44; refine hc.mono ?_; rintro e w2 ⟨rfl, hb2⟩)
        go_roundw
        case rel => exact ⟨n + 1, by omega, by go_num, (show Hid _ from fun m hm => by
          by_cases e : m = n
          · subst e; rw [hQ, hM]; exact hle
          · exact A.out m (by omega)), hb.trans (hb2.mono hb.size)⟩
        case measure => simp [intOf]; omega
      · have E2 : Hid (R = false) := hno (by omega)
        have hle2 : ¬ (Q : Int) ≤ M := hle
        go_wp2_with (go_at_call 44; refine hc.mono ?_; rintro e w2 ⟨rfl, hb2⟩)
        go_ret
        exact ⟨ret_bool E2.out.symm, hbw.trans (hb2.mono hbw.size)⟩
    · have hltz : ¬ (n : Int) < 4 := by omega
      have E2 : Hid (R = true) := CYes.out (fun m hm => A.out m (by omega))
      clear hix hch CNo CYes
      go_wp2
      go_ret
      exact ⟨ret_bool E2.out.symm, hbw⟩
end Go.Proofs.YtogpkbhjobhodaaDoor
