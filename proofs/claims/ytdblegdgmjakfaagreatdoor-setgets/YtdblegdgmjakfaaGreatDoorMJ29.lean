/- Parts of the proof. -/
import Derived.Test.YtdblegdgmjakfaaGreatDoorMJ28
import Derived.Test.YtdblegdgmjakfaaGreatDoorMJ19
import Derived.Test.YtdblegdgmjakfaaGreatDoorMJ27
import Derived.Test.YtdblegdgmjakfaaGreatDoorMJ00
import Derived.Test.YtdblegdgmjakfaaGreatDoorMJ05
import Derived.Test.YtdblegdgmjakfaaGreatDoorMJ09
import Derived.Test.YtdblegdgmjakfaaGreatDoorMJ20
import Derived.Test.YtdblegdgmjakfaaGreatDoorMJ26
import Derived.ChangeSlices
import Derived.SizedLaws
namespace Go.Proofs.YtdblegdgmjakfaaGreatDoor
open Go.ChangeShapes Go.WideShapes Go.ChangeAt Go.RowKit
set_option linter.unusedVariables false
set_option linter.unusedSimpArgs false

/- dovecotekeep.Request, where it makes another request than a Get. -/

/-- One way out of a region: this frame, this world. -/
def OncePost (A : Act) (W : World) : Exit → Act → World → Prop
 | .panic _, _, _ => False
 | e, a, w => e = Exit.normal ∧ a = A ∧ w = W
theorem once_normal {A : Act} {W : World} {a : Act} {w : World} (h1 : a = A) (h2 : w = W) : OncePost A W Exit.normal a w := ⟨rfl, h1, h2⟩
theorem region_once {P : Program} {c : Code} {Q : Exit → Act → World → Prop} {a : Act} {w : World} {A : Act} {W : World} (h1 : c.wp P (OncePost A W) a w) (h2 : Q Exit.normal A W) : c.wp P Q a w :=
 Code.wp_mono (fun e a' w' h => by cases e <;> first | exact (h : False).elim | (obtain ⟨h3, h4, h5⟩ := h; first | (subst h4 h5; exact h2) | cases h3)) h1
theorem two_at (p : Nat) (hp : p < 2) : (#[.int .i64 9, .int .i64 10] : Array Value)[p]? = some (.int .i64 (9 + (p : Int))) := by
 match p, hp with
 | 0, _ => rfl
 | 1, _ => rfl
 | p + 2, h => omega
theorem keepDr {w w1 : World} (h : Below w.heap.size w w1) : Below w.heap.size w w1.drew := h.drew
theorem RqT.set1 {W : World} {R : Nat} {rk ra rb rc : Value} {w : World} (h : RqT W R rk ra rb rc w) (p : Addr) (v : Value) (h1 : W.heap.size ≤ p.block) (h2 : R ≠ p.block) : RqT W R rk ra rb rc (w.setCell p v) := (h.1.set p v h1 h2).three

/-- incr -/
def incrX (ra rb rc : Int) : RqR := ⟨9 + pickN rb 2, keyS ra, [], 0, 0, pickN rc 12, ⟨#[]⟩, pickN rb 7 == 0⟩

set_option maxHeartbeats 8000000 in
set_option maxRecDepth 100000 in
theorem request_incr (rk ra rb rc : Int) (w : World) (hk : i64In rk) (ha : i64In ra) (hb : i64In rb) (hc : i64In rc) (h5 : 13 ≤ pickN rk 20) (h6 : pickN rk 20 < 17) :
 Calls Tryz.prog 24 #[.agg #[.int .i64 rk, .int .i64 ra, .int .i64 rb, .int .i64 rc]] w fun e w' => RqPost (incrX ra rb rc) w e w' := by
 have hk1 := fun w1 => keepKey_any ra w1 ha.1 ha.2
 have hp1 := fun w1 => picked_any rk 20 w1 hk.1 hk.2 (by decide) (by decide)
 have hp2 := fun w1 => picked_any rb 2 w1 hb.1 hb.2 (by decide) (by decide)
 have hp3 := fun w1 => picked_any rc 12 w1 hc.1 hc.2 (by decide) (by decide)
 have hpq := fun w1 => picked_any rb 7 w1 hb.1 hb.2 (by decide) (by decide)
 unfold incrX
 obtain ⟨q0, q1⟩ := pickN_range rb 2 (by decide)
 obtain ⟨q, hq⟩ : ∃ q : Nat, pickN rb 2 = (q : Int) := ⟨(pickN rb 2).toNat, by omega⟩
 simp only [hq] at *
 have hx := two_at q (by omega)
 have hq0 : (0 : Int) ≤ (q : Int) := q0
 generalize (9 : Int) + (q : Int) = kd at *
 clear hq
 generalize pickN rb 2 = B2 at *
 generalize pickN rc 12 = C at *
 generalize pickN rb 7 = B at *
 generalize pickN rk 20 = K at *
 generalize keyS ra = ka at *
 clear hk ha hb hc
 go_enter Tryz.func24, Tryz.ntmps24
 go_wp2_with fail
 refine (hk1 _).mono ?_
 rintro e w1 ⟨rfl, hb1⟩
 obtain ⟨p1, p2⟩ := bcell hb1
 obtain ⟨hz, hz', hbw⟩ := rq_size hb1
 go_wp2_with (go_at_call_of 13 (Value.int .i64 rk); refine (hp1 _).mono ?_; rintro e w' ⟨rfl, rfl⟩)
 apply region_once
 · go_region_with (first
    | (go_at_call_of 13 (Value.int .i64 rb); refine (hp2 _).mono ?_; rintro e wa ⟨rfl, rfl⟩)
    | (go_at_call_of 13 (Value.int .i64 rc); refine (hp3 _).mono ?_; rintro e wa ⟨rfl, rfl⟩))
   all_goals exact once_normal rfl rfl
 · go_wp2_with (go_at_call_of 13 (Value.int .i64 rb); refine (hpq _).mono ?_; rintro e wa ⟨rfl, rfl⟩)
   exact bodyPost_ret (by simp [results, Tryz.results24, go_sem, hz, hz', p1]) rfl (rq_post kd ka 0 0 C ⟨#[]⟩ (B == 0) rfl (by repeat (first | (with_reducible exact hbw) | (with_reducible refine keepDr ?_) | (with_reducible refine keepAl ?_ _) | (with_reducible refine keepSet ?_ (by first | exact Nat.le_succ _ | exact hbw.size)))))

/- dovecotekeep.Request: what it answers, and that wire.Check takes it. -/

def getX (ra rb rc : Int) : RqR := ⟨1, ⟨#[]⟩, getKeys ra rb rc, 0, 0, 0, ⟨#[]⟩, false⟩

def reqR (rk ra rb rc : Int) : RqR :=
 if pickN rk 20 < 5 then getX ra rb rc
 else if pickN rk 20 < 11 then stoX ra rb rc
 else if pickN rk 20 = 11 then casX ra rb rc
 else if pickN rk 20 = 12 then delX ra rb rc
 else if pickN rk 20 < 17 then incrX ra rb rc
 else if pickN rk 20 = 17 then touchX ra rb rc
 else if pickN rk 20 = 18 ∧ pickN rc 6 = 0 then flushX ra rb rc
 else setX ra rb rc

theorem request_any (rk ra rb rc : Int) (w : World) (hk : i64In rk) (ha : i64In ra) (hb : i64In rb) (hc : i64In rc) :
 Calls Tryz.prog 24 #[.agg #[.int .i64 rk, .int .i64 ra, .int .i64 rb, .int .i64 rc]] w fun e w' => RqPost (reqR rk ra rb rc) w e w' := by
 obtain ⟨r0, r1⟩ := pickN_range rk 20 (by decide)
 unfold reqR
 by_cases h1 : pickN rk 20 < 5
 · rw [if_pos h1]
   exact request_get rk ra rb rc w hk ha hb hc h1
 rw [if_neg h1]
 by_cases h2 : pickN rk 20 < 11
 · rw [if_pos h2]
   exact request_sto rk ra rb rc w hk ha hb hc (by omega) h2
 rw [if_neg h2]
 by_cases h3 : pickN rk 20 = 11
 · rw [if_pos h3]
   exact request_cas rk ra rb rc w hk ha hb hc h3
 rw [if_neg h3]
 by_cases h4 : pickN rk 20 = 12
 · rw [if_pos h4]
   exact request_del rk ra rb rc w hk ha hb hc h4
 rw [if_neg h4]
 by_cases h5 : pickN rk 20 < 17
 · rw [if_pos h5]
   exact request_incr rk ra rb rc w hk ha hb hc (by omega) h5
 rw [if_neg h5]
 by_cases h6 : pickN rk 20 = 17
 · rw [if_pos h6]
   exact request_touch rk ra rb rc w hk ha hb hc h6
 rw [if_neg h6]
 by_cases h7 : pickN rk 20 = 18 ∧ pickN rc 6 = 0
 · rw [if_pos h7]
   exact request_flush rk ra rb rc w hk ha hb hc h7.1 h7.2
 rw [if_neg h7]
 by_cases h8 : pickN rk 20 = 18
 · exact request_set18 rk ra rb rc w hk ha hb hc h8 (fun h => h7 ⟨h8, h⟩)
 · exact request_set rk ra rb rc w hk ha hb hc (by omega)

/-- What wire.Check asks. -/
theorem check_zero (kind : Int) (key : ByteArray) (keys : List ByteArray) (flags exp nn : Int) (value : ByteArray) (quiet : Bool) (h1 : inB kind 1 13 = true) (h2 : keysOK kind keys = true) (h3 : keyBad kind key = false) (h4 : fieldsBad kind flags exp value = false) (h5 : nBad kind nn = false) (h6 : quietBad kind quiet = false) (h7 : rangeBad flags exp nn = false) (h8 : value.size ≤ 200) :
 checkN kind key keys flags exp nn value quiet = 0 := by
 rw [check_eq, h1, h2, h3, h4, h5, h6, h7]
 simp
 omega

def RqOk (X : RqR) : Prop := checkN X.kind X.key X.keys X.flags X.exp X.nn X.value X.quiet = 0 ∧ X.kind ≠ 13

theorem emp : (⟨#[]⟩ : ByteArray).toList.isEmpty = true := by rw [isEmpty_of]; rfl
theorem key_good (kind : Int) (n : Int) (h : inB kind 2 11 = true) : keyBad kind (keyS n) = false := by
 unfold keyBad
 rw [h, keyS_ok]
 rfl
theorem in_range (n m : Int) (h0 : 0 ≤ n) (h1 : n ≤ m) : inB n 0 m = true := by
 unfold inB
 simp
 omega
theorem range_good (flags exp nn : Int) (h0 : 0 ≤ flags ∧ flags ≤ 65535) (h1 : 0 ≤ exp ∧ exp ≤ 1099511627776) (h2 : 0 ≤ nn ∧ nn ≤ 1099511627776) : rangeBad flags exp nn = false := by
 unfold rangeBad
 rw [in_range _ _ h0.1 h0.2, in_range _ _ h1.1 h1.2, in_range _ _ h2.1 h2.2]
 rfl

theorem keys_good (ra rb rc : Int) : keysOK 1 (getKeys ra rb rc) = true := by
 obtain ⟨r0, r1⟩ := pickN_range rc 2 (by decide)
 have hc : pickN rc 2 = 0 ∨ pickN rc 2 = 1 := by omega
 have k1 := keyS_ok ra
 have k2 := keyS_ok rb
 unfold keysOK getKeys noKeyIn
 rcases hc with h | h
 · rw [h]
   simp [inB, k1]
 · rw [h]
   simp [inB, k1, k2]

theorem ok_get (ra rb rc : Int) : RqOk (getX ra rb rc) := by
 refine ⟨check_zero _ _ _ _ _ _ _ _ rfl (keys_good ra rb rc) ?_ ?_ rfl rfl rfl (by show 0 ≤ 200; decide), by show (1 : Int) ≠ 13; decide⟩
 · show keyBad 1 ⟨#[]⟩ = false
   unfold keyBad
   rw [emp]
   rfl
 · show fieldsBad 1 0 0 ⟨#[]⟩ = false
   unfold fieldsBad
   rw [emp]
   rfl
theorem ok_flush (ra rb rc : Int) : RqOk (flushX ra rb rc) := by
 refine ⟨check_zero _ _ _ _ _ _ _ _ rfl rfl ?_ ?_ rfl ?_ rfl (by show 0 ≤ 200; decide), by show (12 : Int) ≠ 13; decide⟩
 · show keyBad 12 ⟨#[]⟩ = false
   unfold keyBad
   rw [emp]
   rfl
 · show fieldsBad 12 0 0 ⟨#[]⟩ = false
   unfold fieldsBad
   rw [emp]
   rfl
 · show quietBad 12 _ = false
   unfold quietBad
   simp
theorem quiet_good (kind : Int) (q : Bool) (h1 : kind ≠ 1) (h2 : kind ≠ 13) : quietBad kind q = false := by
 unfold quietBad
 simp [h1, h2]
theorem ok_del (ra rb rc : Int) : RqOk (delX ra rb rc) := by
 refine ⟨check_zero _ _ _ _ _ _ _ _ rfl rfl (key_good 8 ra rfl) ?_ rfl (quiet_good 8 _ (by decide) (by decide)) rfl (by show 0 ≤ 200; decide), by show (8 : Int) ≠ 13; decide⟩
 show fieldsBad 8 0 0 ⟨#[]⟩ = false
 unfold fieldsBad
 rw [emp]
 rfl
theorem ok_touch (ra rb rc : Int) : RqOk (touchX ra rb rc) := by
 obtain ⟨r0, r1⟩ := pickN_range rc 30 (by decide)
 refine ⟨check_zero _ _ _ _ _ _ _ _ rfl rfl (key_good 11 ra rfl) ?_ rfl (quiet_good 11 _ (by decide) (by decide)) (range_good _ _ _ (show (0 : Int) ≤ 0 ∧ (0 : Int) ≤ 65535 by decide) ⟨r0, by show pickN rc 30 ≤ _; omega⟩ (show (0 : Int) ≤ 0 ∧ (0 : Int) ≤ 1099511627776 by decide)) (by show 0 ≤ 200; decide), by show (11 : Int) ≠ 13; decide⟩
 show fieldsBad 11 0 (pickN rc 30) ⟨#[]⟩ = false
 unfold fieldsBad
 rw [emp]
 rfl
theorem ok_cas (ra rb rc : Int) : RqOk (casX ra rb rc) := by
 obtain ⟨r0, r1⟩ := pickN_range rc 20 (by decide)
 exact ⟨check_zero _ _ _ _ _ _ _ _ rfl rfl (key_good 7 ra rfl) rfl rfl (quiet_good 7 _ (by decide) (by decide)) (range_good _ _ _ (show (0 : Int) ≤ 1 ∧ (1 : Int) ≤ 65535 by decide) (show (0 : Int) ≤ 0 ∧ (0 : Int) ≤ 1099511627776 by decide) ⟨r0, by show pickN rc 20 ≤ _; omega⟩) (by show 9 ≤ 200; decide), by show (7 : Int) ≠ 13; decide⟩
theorem ok_set (ra rb rc : Int) : RqOk (setX ra rb rc) := by
 have hv := valS_size rc
 exact ⟨check_zero _ _ _ _ _ _ _ _ rfl rfl (key_good 2 ra rfl) rfl rfl (quiet_good 2 _ (by decide) (by decide)) rfl (by show (valS rc).size ≤ 200; omega), by show (2 : Int) ≠ 13; decide⟩
theorem ok_sto (ra rb rc : Int) : RqOk (stoX ra rb rc) := by
 have hv := valS_size rb
 obtain ⟨r0, r1⟩ := pickN_range rc 7 (by decide)
 obtain ⟨f0, f1⟩ := pickN_range rc 9 (by decide)
 obtain ⟨b0, b1⟩ := pickN_range rb 8 (by decide)
 obtain ⟨c0, c1⟩ := pickN_range rc 30 (by decide)
 obtain ⟨_, k1, k2⟩ := sto_at (pickN rc 7).toNat (by omega)
 have hd : (pickN rb 8).tdiv 5 = 0 ∨ (pickN rb 8).tdiv 5 = 1 := by
  rw [Int.tdiv_eq_ediv_of_nonneg b0]
  omega
 have he : 0 ≤ (pickN rb 8).tdiv 5 * pickN rc 30 ∧ (pickN rb 8).tdiv 5 * pickN rc 30 ≤ 1099511627776 := by
  rcases hd with h | h <;> rw [h] <;> omega
 unfold RqOk stoX
 simp only
 generalize stoL.getD (pickN rc 7).toNat 0 = kd at *
 have i1 : inB kd 1 13 = true := by unfold inB; simp; omega
 have i2 : inB kd 2 11 = true := by unfold inB; simp; omega
 have i3 : inB kd 2 7 = true := by unfold inB; simp; omega
 refine ⟨check_zero _ _ _ _ _ _ _ _ i1 ?_ (key_good kd ra i2) ?_ ?_ (quiet_good kd _ (by omega) (by omega)) (range_good _ _ _ ⟨f0, by omega⟩ he (by decide)) (by omega), by omega⟩
 · unfold keysOK
   rw [if_neg (by omega)]
   rfl
 · unfold fieldsBad
   rw [i3]
   rfl
 · unfold nBad
   simp
theorem ok_incr (ra rb rc : Int) : RqOk (incrX ra rb rc) := by
 obtain ⟨r0, r1⟩ := pickN_range rb 2 (by decide)
 obtain ⟨f0, f1⟩ := pickN_range rc 12 (by decide)
 unfold RqOk incrX
 simp only
 have h : pickN rb 2 = 0 ∨ pickN rb 2 = 1 := by omega
 rcases h with h | h
 · rw [h]
   refine ⟨check_zero _ _ _ _ _ _ _ _ rfl rfl (key_good 9 ra rfl) ?_ rfl (quiet_good 9 _ (by decide) (by decide)) (range_good _ _ _ (by decide) (by decide) ⟨f0, by omega⟩) (by decide), by decide⟩
   show fieldsBad 9 0 0 ⟨#[]⟩ = false
   unfold fieldsBad
   rw [emp]
   rfl
 · rw [h]
   refine ⟨check_zero _ _ _ _ _ _ _ _ rfl rfl (key_good 10 ra rfl) ?_ rfl (quiet_good 10 _ (by decide) (by decide)) (range_good _ _ _ (by decide) (by decide) ⟨f0, by omega⟩) (by decide), by decide⟩
   show fieldsBad 10 0 0 ⟨#[]⟩ = false
   unfold fieldsBad
   rw [emp]
   rfl

theorem reqR_ok (rk ra rb rc : Int) : RqOk (reqR rk ra rb rc) := by
 unfold reqR
 split
 · exact ok_get ra rb rc
 split
 · exact ok_sto ra rb rc
 split
 · exact ok_cas ra rb rc
 split
 · exact ok_del ra rb rc
 split
 · exact ok_incr ra rb rc
 split
 · exact ok_touch ra rb rc
 split
 · exact ok_flush ra rb rc
 · exact ok_set ra rb rc

/- A flash that came in, opened: its two numbers, and its pages in memory. -/

theorem cellsInt : Tryz.prog.cellsOf 3 = 1 := by kernel_rfl
theorem cellsByte : Tryz.prog.cellsOf 5 = 1 := by kernel_rfl
/-- A field of one cell of a struct by value, read. -/
theorem fieldAt {H : Type} {enc : TypeId × Value → H} {P : Program} {W : World} {base n : Nat} {sp : Nat → Bool} {hd : Bool} {fs : Array Field} {cs : List Value} {xs : List (DataW H × List MemPlace)}
 (hx : ∀ (i : Nat) (f : Field), fs[i]? = some f → DataW.trod enc P W base sp hd n f.type ((cs.drop f.offset).take (P.cellsOf f.type)) = xs[i]?) (i : Nat) (f : Field) (hf : fs[i]? = some f) (c : Value) (hc : cs[f.offset]? = some c)
 (h1 : P.cellsOf f.type = 1) (hi : i < xs.length) : DataW.trod enc P W base sp hd n f.type [c] = some xs[i] := by
 have h := hx i f hf
 rw [List.getElem?_eq_getElem hi, h1] at h
 rw [← h]
 obtain ⟨hlt, he⟩ := List.getElem?_eq_some_iff.1 hc
 rw [List.drop_eq_getElem_cons hlt, he]
 rfl

theorem block_lt {W : World} {b o : Nat} {v : Value} (h : W.cell? ⟨b, o, none⟩ = some v) : b < W.heap.size := by
 rcases Nat.lt_or_ge b W.heap.size with h' | h'
 · exact h'
 · simp [World.cell?, Array.getElem?_eq_none h'] at h

/- A store that came in, opened; its items' numbers and texts are what the types allow. -/

theorem wf_i64O {n : Int} (h : (Lit.int .i64 n).wf = true) : -9223372036854775808 ≤ n ∧ n ≤ 9223372036854775807 := by
 have h' : IntKind.i64.min ≤ n ∧ n ≤ IntKind.i64.max := by simpa [Lit.wf] using h
 exact h'

/- Rows of raw things that came in. -/

structure RawR where
 k : Int
 a : Int
 b : Int
 c : Int
instance : Inhabited RawR := ⟨⟨0, 0, 0, 0⟩⟩
def RawOk (r : RawR) : Prop := i64In r.k ∧ i64In r.a ∧ i64In r.b ∧ i64In r.c
def RawAt (w : World) (b o : Nat) (r : RawR) : Prop := w.cell? ⟨b, o, none⟩ = some (.int .i64 r.k) ∧ w.cell? ⟨b, o + 1, none⟩ = some (.int .i64 r.a) ∧ w.cell? ⟨b, o + 2, none⟩ = some (.int .i64 r.b) ∧ w.cell? ⟨b, o + 3, none⟩ = some (.int .i64 r.c)
def RawsAt (w : World) (a : Option Addr) (l : List RawR) : Prop := l.length ≤ maxLen ∧ (l.length = 0 ∨ ∃ b o, a = some ⟨b, o, none⟩ ∧ b < w.heap.size ∧ ∀ j, j < l.length → RawAt w b (o + j * 4) (l.getD j default))
def RawsOk (l : List RawR) : Prop := ∀ j, j < l.length → RawOk (l.getD j default)
theorem RawAt.later {w w' : World} {b o : Nat} {r : RawR} (h : RawAt w b o r) (hlt : b < w.heap.size) (hb : Below w.heap.size w w') : RawAt w' b o r := by
 obtain ⟨h0, h1, h2, h3⟩ := h
 exact ⟨by rw [hb.cell (p := ⟨b, o, none⟩) hlt]; exact h0, by rw [hb.cell (p := ⟨b, o + 1, none⟩) hlt]; exact h1, by rw [hb.cell (p := ⟨b, o + 2, none⟩) hlt]; exact h2, by rw [hb.cell (p := ⟨b, o + 3, none⟩) hlt]; exact h3⟩
theorem RawsAt.later {w w' : World} {a : Option Addr} {l : List RawR} (h : RawsAt w a l) (hb : Below w.heap.size w w') : RawsAt w' a l := by
 obtain ⟨h0, h1⟩ := h
 refine ⟨h0, h1.imp id ?_⟩
 rintro ⟨b, o, ha, hl, hc⟩
 exact ⟨b, o, ha, Nat.lt_of_lt_of_le hl hb.size, fun j hj => (hc j hj).later hl hb⟩

theorem cellsRaw : Tryz.prog.cellsOf 38 = 4 := by kernel_rfl

set_option maxHeartbeats 1000000 in
set_option maxRecDepth 100000 in
theorem raw_cells {H : Type} {enc : TypeId × Value → H} {W : World} {n : Nat} {c0 c1 c2 c3 : Value} {y : DataW H × List MemPlace}
 (h : DataW.trod enc Tryz.prog W 0 (fun _ => true) true n 38 [c0, c1, c2, c3] = some y) : ∃ r : RawR, RawOk r ∧ c0 = .int .i64 r.k ∧ c1 = .int .i64 r.a ∧ c2 = .int .i64 r.b ∧ c3 = .int .i64 r.c := by
 obtain ⟨xs, k, _, _, _, hxl, hf⟩ := DataW.trod_struct Tryz.underlying38 h
 have hxl' : xs.length = 4 := hxl
 have h0 := fieldAt hf 0 _ rfl c0 rfl cellsInt (by omega)
 have h1 := fieldAt hf 1 _ rfl c1 rfl cellsInt (by omega)
 have h2 := fieldAt hf 2 _ rfl c2 rfl cellsInt (by omega)
 have h3 := fieldAt hf 3 _ rfl c3 rfl cellsInt (by omega)
 obtain ⟨z0, e0, _, w0⟩ := DataW.trod_int Tryz.underlying3 h0
 obtain ⟨z1, e1, _, w1⟩ := DataW.trod_int Tryz.underlying3 h1
 obtain ⟨z2, e2, _, w2⟩ := DataW.trod_int Tryz.underlying3 h2
 obtain ⟨z3, e3, _, w3⟩ := DataW.trod_int Tryz.underlying3 h3
 simp at e0 e1 e2 e3
 exact ⟨⟨z0, z1, z2, z3⟩, ⟨wf_i64O w0, wf_i64O w1, wf_i64O w2, wf_i64O w3⟩, e0, e1, e2, e3⟩

set_option maxHeartbeats 1000000 in
set_option maxRecDepth 100000 in
theorem open_raw1 {H : Type} {enc : TypeId × Value → H} {W : World} {base : Nat} {v : Value} {d : DataW H} {p : List MemPlace}
 (hv : Value.okWide Tryz.prog W .any base 38 v) (h : DataW.Trod enc Tryz.prog W 0 (fun _ => true) true 38 v d p) :
 ∃ r : RawR, v = .agg #[.int .i64 r.k, .int .i64 r.a, .int .i64 r.b, .int .i64 r.c] ∧ RawOk r := by
 obtain ⟨cs, rfl, hsz⟩ := okWide_struct Tryz.underlying38 hv
 have hsz' : cs.size = 4 := hsz.trans cellsRaw
 obtain ⟨c0, c1, c2, c3, rfl⟩ : ∃ c0 c1 c2 c3, cs = #[c0, c1, c2, c3] := by
  obtain ⟨l⟩ := cs
  match l, hsz' with
  | [c0, c1, c2, c3], _ => exact ⟨c0, c1, c2, c3, rfl⟩
 obtain ⟨fuel, hf⟩ := h
 obtain ⟨r, hr, e0, e1, e2, e3⟩ := raw_cells (c0 := c0) (c1 := c1) (c2 := c2) (c3 := c3) hf
 subst e0 e1 e2 e3
 exact ⟨r, rfl, hr⟩

set_option maxHeartbeats 1000000 in
set_option maxRecDepth 100000 in
theorem open_raws {H : Type} {enc : TypeId × Value → H} {W : World} {base : Nat} {v : Value} {d : DataW H} {p : List MemPlace}
 (hv : Value.okWide Tryz.prog W .any base 22 v) (h : DataW.Trod enc Tryz.prog W 0 (fun _ => true) true 22 v d p) :
 ∃ a l cap, v = .slice a (l : List RawR).length cap ∧ RawsAt W a l ∧ RawsOk l := by
 obtain ⟨fuel, hf⟩ := h
 obtain ⟨a0, len0, cap0, rfl⟩ := Go.WideShapes.okWide_slice Tryz.underlying22 hv
 have hf : DataW.trod enc Tryz.prog W 0 (fun _ => true) true fuel 22 [.slice a0 len0 cap0] = some (d, p) := hf
 rcases Go.Deep.open_slice Tryz.underlying22 hf with ⟨hcs, _⟩ | ⟨a, len, cap, m, n', D, Pl, hcs, _, hl, hm, hmm, hy, hx⟩
 · simp at hcs
   exact ⟨none, [], 0, by rw [hcs.1, hcs.2.1, hcs.2.2]; rfl, ⟨Nat.zero_le _, Or.inl rfl⟩, fun j hj => by simp at hj⟩
 · simp at hcs hmm
   have each : ∀ i, i < len → ∃ p : RawR, RawOk p ∧ W.cell? (a.add (i * 4)) = some (.int .i64 p.k) ∧ W.cell? (a.add (i * 4 + 1)) = some (.int .i64 p.a) ∧ W.cell? (a.add (i * 4 + 2)) = some (.int .i64 p.b) ∧ W.cell? (a.add (i * 4 + 3)) = some (.int .i64 p.c) := by
    intro i hi
    obtain ⟨cs', h1, h2⟩ := hx i (by omega)
    rw [cellsRaw] at h1
    obtain ⟨_, hlen, hcell⟩ := World.cells?_some h1
    match cs', hlen with
    | [c0, c1, c2, c3], _ =>
     obtain ⟨r, hr, e0, e1, e2, e3⟩ := raw_cells (c0 := c0) (c1 := c1) (c2 := c2) (c3 := c3) h2
     subst e0 e1 e2 e3
     have g0 := hcell 0 (by omega)
     have g1 := hcell 1 (by omega)
     have g2 := hcell 2 (by omega)
     have g3 := hcell 3 (by omega)
     rw [Go.Deep.add_add] at g0 g1 g2 g3
     exact ⟨r, hr, by simpa using g0, by simpa using g1, by simpa using g2, by simpa using g3⟩
   obtain ⟨f, hf⟩ := Go.Deep.choose_lt (α := RawR) each
   have hlen : ((List.range len).map f).length = len := by simp
   have hget : ∀ j, j < len → ((List.range len).map f).getD j default = f j := fun j hj => by
    rw [List.getD_eq_getElem?_getD, List.getElem?_eq_getElem (by rw [hlen]; exact hj)]
    simp
   refine ⟨some a, (List.range len).map f, cap, by rw [hlen, hcs.1, hcs.2.1, hcs.2.2], ⟨by rw [hlen]; omega, ?_⟩, ?_⟩
   · rw [hlen]
     by_cases h0 : len = 0
     · exact Or.inl h0
     · obtain ⟨b, off, spot⟩ := a
       obtain ⟨_, g0, _⟩ := hf 0 (by omega)
       have hspot : spot = none := by simpa [Addr.add] using World.cell?_spot g0
       subst hspot
       refine Or.inr ⟨b, off, rfl, ?_, fun j hj => ?_⟩
       · rw [add_plain] at g0
         exact block_lt g0
       · obtain ⟨_, g0, g1, g2, g3⟩ := hf j hj
         rw [add_plain] at g0 g1 g2 g3
         rw [hget j hj]
         exact ⟨g0, g1, g2, g3⟩
   · intro j hj
     rw [hlen] at hj
     rw [hget j hj]
     exact (hf j hj).1

/- What played plays, plain: the store behind requests and ticks stays one that may be; its clock and uses are small. -/

/-- What a request leaves as it was, or raises a little. -/
structure Aft (s s' : StoreR) (u : Int) : Prop where
 clock : s'.clock = s.clock
 uses : s'.uses ≤ s.uses + u
 most : s'.most = s.most
 fm : s'.fm = s.fm
theorem Kept.aft {s s' : StoreR} (h : Kept s s') : Aft s s' 0 := ⟨h.clock, by rw [h.uses]; omega, h.most, h.fm⟩
theorem Aft.trans {s s1 s2 : StoreR} {u v : Int} (h : Aft s s1 u) (k : Aft s1 s2 v) : Aft s s2 (u + v) := ⟨k.clock.trans h.clock, by have := h.uses; have := k.uses; omega, k.most.trans h.most, k.fm.trans h.fm⟩
theorem Aft.le {s s' : StoreR} {u v : Int} (h : Aft s s' u) (hv : u ≤ v) : Aft s s' v := ⟨h.clock, by have := h.uses; omega, h.most, h.fm⟩
theorem aft_putS {s : StoreR} (h : Gd s) {it : ItemR} (hkey : keyB it.key = true) (hv : it.value.size ≤ 200) : Aft s (putS s it).1 1 := by
 obtain ⟨c3, hcl⟩ := clsN_ok hkey hv
 have ht := h.take it.key
 obtain ⟨g1, k1, g2⟩ := ht.room (clsN it) c3
 have kt := takeN_kept s it.key
 unfold putS
 split
 · exact kt.aft.le (by omega)
 · split
   · refine (kt.aft.trans (k1.aft.trans (?_ : Aft _ _ 1))).le (by omega)
     exact ⟨rfl, Int.le_refl _, rfl, rfl⟩
   · exact (kt.aft.trans k1.aft).le (by omega)
theorem ask_aft (s : StoreR) (n : Nat) : Aft s (askS s n) 1 := ⟨rfl, Int.le_refl _, rfl, rfl⟩
theorem aft_oneF {F : StoreR} (h : Gd F) {i : Int} {q : RqR} (hq : QOk q) : Aft F (oneF F i q).1 1 := by
 have h0 : Aft F F 1 := (Kept.refl F).aft.le (by omega)
 unfold oneF
 split
 · exact h0
 split
 · unfold joinN
   split
   · exact h0
   · next hz => exact aft_putS h (it := mkI _ _ _) hq.key (by show (joinV F q _).size ≤ 200; omega)
 split
 · exact h0
 split
 · exact (takeN_kept F q.key).aft.le (by omega)
 split
 · unfold countN
   split
   · next hz =>
     have hr := numV_range hz
     have hr2 := countV_range hq hr.1 hr.2
     exact aft_putS h (it := mkI _ _ _) hq.key (decS_le hr2.1 hr2.2)
   · exact h0
 split
 · exact ⟨rfl, Int.le_refl _, rfl, rfl⟩
 · exact aft_putS h (it := mkI _ _ _) hq.key hq.vl
theorem getK_aft {s : StoreR} (keys : List ByteArray) : ∀ k : Nat, Aft s (getK s keys k).1 k
 | 0 => by
  refine ⟨rfl, ?_, rfl, rfl⟩
  show (getK s keys 0).1.uses ≤ s.uses + ((0 : Nat) : Int)
  simp [getK]
 | k + 1 => by
  have ih := getK_aft (s := s) keys k
  by_cases hk : k < keys.length
  · rw [getK_succ s keys k hk]
    generalize getK s keys k = P at *
    generalize keys.getD k ByteArray.empty = key
    have hF := (found_kept P.1 key).aft
    unfold gstep
    split
    · exact ((ih.trans hF).trans (ask_aft _ _)).le (by omega)
    · exact (ih.trans hF).le (by omega)
  · have e : getK s keys (k + 1) = getK s keys k := by unfold getK; rw [List.take_of_length_le (by omega), List.take_of_length_le (by omega)]
    rw [e]
    exact ih.le (by omega)
theorem aft_ansN {s : StoreR} (h : Gd s) {q : RqR} (hf : QFit q) : Aft s (ansN s q).1 10 := by
 obtain ⟨f1, f2, _, _⟩ := fit_facts hf
 unfold ansN
 split
 · next hk => exact (getK_aft q.keys _).le (by have := f2 hk; omega)
 split
 · exact ⟨rfl, by show s.uses ≤ _; omega, rfl, rfl⟩
 split
 · exact (Kept.refl s).aft.le (by omega)
 · next h1 h2 h3 =>
   have hq := f1 h1 h2 h3
   exact (((found_kept s q.key).aft).trans (aft_oneF (h.found q.key) hq)).le (by omega)

/-- Ticks ahead of a raw thing's request. -/
def tickB (r : RawR) : Bool := decide (pickN (r.k.tdiv 7) 6 = 0)
def tickR (s : StoreR) (r : RawR) : StoreR := if tickB r = true then { s with clock := s.clock + pickN r.a 9 } else s
def rawQ (r : RawR) : RqR := reqR r.k r.a r.b r.c
def playR (s : StoreR) (r : RawR) : StoreR := (ansN (tickR s r) (rawQ r)).1
def play (s : StoreR) (l : List RawR) (k : Nat) : StoreR := (l.take k).foldl playR s
theorem play_succ (s : StoreR) (l : List RawR) (k : Nat) (hk : k < l.length) : play s l (k + 1) = playR (play s l k) (l.getD k default) := by
 unfold play
 rw [List.take_succ_eq_append_getElem hk, List.foldl_append, List.getD_eq_getElem?_getD, List.getElem?_eq_getElem hk]
 rfl
theorem rawQ_fit (r : RawR) : QFit (rawQ r) := (reqR_ok r.k r.a r.b r.c).1

theorem Gd.clock {s : StoreR} (h : Gd s) {n : Int} (h0 : 0 ≤ n) (h1 : s.clock + n ≤ 1099511627776) : Gd { s with clock := s.clock + n } := by
 obtain ⟨q1, q2, q3, a, b, c, d⟩ := gd_iff.1 h
 obtain ⟨c1, c2, c3, c4, c5, c6, c7, c8⟩ := counts_facts q1
 refine gd_iff.2 ⟨?_, q2, q3, a, b, c, d⟩
 unfold countsB
 simp only [Bool.and_eq_true, inB_iff]
 exact ⟨⟨by show 0 ≤ s.clock + n; omega, h1⟩, ⟨c3, c4⟩, ⟨c5, c6⟩, c7, c8⟩

/-- A store that is played on. -/
structure Pl (s : StoreR) (k : Nat) (p m : Int) : Prop where
 gd : Gd s
 clock : s.clock ≤ 8 * k
 uses : s.uses ≤ 10 * k
 most : s.most = p
 fm : s.fm = m
theorem Pl.tick {s : StoreR} {k : Nat} {p m : Int} (h : Pl s k p m) (hk : k ≤ 1000) (r : RawR) : Gd (tickR s r) ∧ (tickR s r).clock ≤ 8 * k + 8 ∧ (tickR s r).uses = s.uses ∧ (tickR s r).most = p ∧ (tickR s r).fm = m := by
 obtain ⟨r0, r1⟩ := pickN_range r.a 9 (by decide)
 have hc := h.clock
 unfold tickR
 split
 · exact ⟨h.gd.clock r0 (by omega), by show s.clock + _ ≤ _; omega, rfl, h.most, h.fm⟩
 · exact ⟨h.gd, by omega, rfl, h.most, h.fm⟩
theorem Pl.step {s : StoreR} {k : Nat} {p m : Int} (h : Pl s k p m) (hk : k ≤ 1000) (r : RawR) : Pl (playR s r) (k + 1) p m := by
 obtain ⟨t1, t2, t3, t4, t5⟩ := h.tick hk r
 have hf := rawQ_fit r
 obtain ⟨f1, f2, _, _⟩ := fit_facts hf
 have hu := h.uses
 have ha := aft_ansN t1 hf
 refine ⟨t1.ansN f1 f2 (by omega), ?_, ?_, ?_, ?_⟩
 · have := ha.clock; show (ansN (tickR s r) (rawQ r)).1.clock ≤ _; omega
 · have := ha.uses; show (ansN (tickR s r) (rawQ r)).1.uses ≤ _; omega
 · exact ha.most.trans t4
 · exact ha.fm.trans t5
theorem pl_play {s : StoreR} {p m : Int} (h : Pl s 0 p m) (l : List RawR) : ∀ k : Nat, k ≤ l.length → k ≤ 1000 → Pl (play s l k) k p m
 | 0, _, _ => by simpa [play] using h
 | k + 1, hk, hm => by
  rw [play_succ s l k (by omega)]
  exact (pl_play h l k (by omega) (by omega)).step (by omega) _

/-- The new store. -/
def newS (p m : Int) : StoreR := ⟨0, 0, 0, p, 0, 0, 0, 0, [], m, 1, []⟩
theorem newS_pl {p m : Int} (hp : 0 ≤ p) (hp2 : p ≤ 40) (hm : 0 ≤ m) (hm2 : m ≤ 20) : Pl (newS p m) 0 p m := by
 refine ⟨gd_iff.2 ⟨?_, ?_, mayB_facts.2 ⟨⟨hm, hm2⟩, ⟨by show (1 : Int) ≤ 1; omega, by show (1 : Int) ≤ _; omega⟩, (show ((0 : Nat) : Int) ≤ m by omega), (show (1 : Int) ≤ 1 - ((0 : Nat) : Int) by omega), rfl⟩, Nat.zero_le _, List.Pairwise.nil, (fun it hit => nomatch hit), fun n hn => ?_⟩, by show (0 : Int) ≤ _; omega, by show (0 : Int) ≤ _; omega, rfl, rfl⟩
 · unfold countsB newS
   simp only [Bool.and_eq_true, inB_iff]
   omega
 · unfold newS
   rw [heldB_iff]
   simp only
   omega
 · show ((0 : Nat) : Int) ≤ roomN (newS p m) n
   have : n = 0 ∨ n = 1 ∨ n = 2 ∨ n = 3 := by omega
   rcases this with rfl | rfl | rfl | rfl <;> simp [roomN, heldN, newS]

end Go.Proofs.YtdblegdgmjakfaaGreatDoor
