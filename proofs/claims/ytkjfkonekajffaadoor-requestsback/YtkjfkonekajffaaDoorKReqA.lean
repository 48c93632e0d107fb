/- dovecotekeep.Request: what it answers, and that wire.Check takes it. -/
import Derived.Test.YtkjfkonekajffaaDoorKReqS
import Derived.Test.YtkjfkonekajffaaDoorKReqI
namespace Go.Proofs.YtkjfkonekajffaaDoor
open Go.ChangeShapes Go.WideShapes Go.ChangeAt Go.RowKit
set_option linter.unusedVariables false
set_option linter.unusedSimpArgs false

def getX (ra rb rc : Int) : RqR := ⟨1, ⟨#[]⟩, getKeys ra rb rc, 0, 0, 0, ⟨#[]⟩, false⟩

def reqR (rk ra rb rc : Int) : RqR :=
  if pickN rk 20 < 5 then getX ra rb rc
  else if pickN rk 20 < 11 then stoX ra rb rc
  else if pickN rk 20 = 11 then casX ra rb rc
  else if pickN rk 20 = 12 then delX ra rb rc
  else if pickN rk 20 < 17 then incrX ra rb rc
  else if pickN rk 20 = 17 then touchX ra rb rc
  else if pickN rk 20 = 18 ∧ pickN rc 6 = 0 then flushX ra rb rc
  else setX ra rb rc

theorem request_any (rk ra rb rc : Int) (w : World) (hk : i64In rk) (ha : i64In ra) (hb : i64In rb) (hc : i64In rc) :
    Calls Tryd.prog 12 #[.agg #[.int .i64 rk, .int .i64 ra, .int .i64 rb, .int .i64 rc]] w fun e w' => RqPost (reqR rk ra rb rc) w e w' := by
  obtain ⟨r0, r1⟩ := pickN_range rk 20 (by decide)
  unfold reqR
  by_cases h1 : pickN rk 20 < 5
  · rw [if_pos h1]
    exact request_get rk ra rb rc w hk ha hb hc h1
  rw [if_neg h1]
  by_cases h2 : pickN rk 20 < 11
  · rw [if_pos h2]
    exact request_sto rk ra rb rc w hk ha hb hc (by omega) h2
  rw [if_neg h2]
  by_cases h3 : pickN rk 20 = 11
  · rw [if_pos h3]
    exact request_cas rk ra rb rc w hk ha hb hc h3
  rw [if_neg h3]
  by_cases h4 : pickN rk 20 = 12
  · rw [if_pos h4]
    exact request_del rk ra rb rc w hk ha hb hc h4
  rw [if_neg h4]
  by_cases h5 : pickN rk 20 < 17
  · rw [if_pos h5]
    exact request_incr rk ra rb rc w hk ha hb hc (by omega) h5
  rw [if_neg h5]
  by_cases h6 : pickN rk 20 = 17
  · rw [if_pos h6]
    exact request_touch rk ra rb rc w hk ha hb hc h6
  rw [if_neg h6]
  by_cases h7 : pickN rk 20 = 18 ∧ pickN rc 6 = 0
  · rw [if_pos h7]
    exact request_flush rk ra rb rc w hk ha hb hc h7.1 h7.2
  rw [if_neg h7]
  by_cases h8 : pickN rk 20 = 18
  · exact request_set18 rk ra rb rc w hk ha hb hc h8 (fun h => h7 ⟨h8, h⟩)
  · exact request_set rk ra rb rc w hk ha hb hc (by omega)

/-- What wire.Check asks. -/
theorem check_zero (kind : Int) (key : ByteArray) (keys : List ByteArray) (flags exp nn : Int) (value : ByteArray) (quiet : Bool) (h1 : inB kind 1 13 = true) (h2 : keysOK kind keys = true) (h3 : keyBad kind key = false) (h4 : fieldsBad kind flags exp value = false) (h5 : nBad kind nn = false) (h6 : quietBad kind quiet = false) (h7 : rangeBad flags exp nn = false) (h8 : value.size ≤ 200) :
    checkN kind key keys flags exp nn value quiet = 0 := by
  rw [check_eq, h1, h2, h3, h4, h5, h6, h7]
  simp
  omega

def RqOk (X : RqR) : Prop := checkN X.kind X.key X.keys X.flags X.exp X.nn X.value X.quiet = 0 ∧ X.kind ≠ 13

theorem emp : (⟨#[]⟩ : ByteArray).toList.isEmpty = true := by rw [isEmpty_of]; rfl
theorem key_good (kind : Int) (n : Int) (h : inB kind 2 11 = true) : keyBad kind (keyS n) = false := by
  unfold keyBad
  rw [h, keyS_ok]
  rfl
theorem in_range (n m : Int) (h0 : 0 ≤ n) (h1 : n ≤ m) : inB n 0 m = true := by
  unfold inB
  simp
  omega
theorem range_good (flags exp nn : Int) (h0 : 0 ≤ flags ∧ flags ≤ 65535) (h1 : 0 ≤ exp ∧ exp ≤ 1099511627776) (h2 : 0 ≤ nn ∧ nn ≤ 1099511627776) : rangeBad flags exp nn = false := by
  unfold rangeBad
  rw [in_range _ _ h0.1 h0.2, in_range _ _ h1.1 h1.2, in_range _ _ h2.1 h2.2]
  rfl

theorem keys_good (ra rb rc : Int) : keysOK 1 (getKeys ra rb rc) = true := by
  obtain ⟨r0, r1⟩ := pickN_range rc 2 (by decide)
  have hc : pickN rc 2 = 0 ∨ pickN rc 2 = 1 := by omega
  have k1 := keyS_ok ra
  have k2 := keyS_ok rb
  unfold keysOK getKeys noKeyIn
  rcases hc with h | h
  · rw [h]
    simp [inB, k1]
  · rw [h]
    simp [inB, k1, k2]

theorem ok_get (ra rb rc : Int) : RqOk (getX ra rb rc) := by
  refine ⟨check_zero _ _ _ _ _ _ _ _ rfl (keys_good ra rb rc) ?_ ?_ rfl rfl rfl (by show 0 ≤ 200; decide), by show (1 : Int) ≠ 13; decide⟩
  · show keyBad 1 ⟨#[]⟩ = false
    unfold keyBad
    rw [emp]
    rfl
  · show fieldsBad 1 0 0 ⟨#[]⟩ = false
    unfold fieldsBad
    rw [emp]
    rfl
theorem ok_flush (ra rb rc : Int) : RqOk (flushX ra rb rc) := by
  refine ⟨check_zero _ _ _ _ _ _ _ _ rfl rfl ?_ ?_ rfl ?_ rfl (by show 0 ≤ 200; decide), by show (12 : Int) ≠ 13; decide⟩
  · show keyBad 12 ⟨#[]⟩ = false
    unfold keyBad
    rw [emp]
    rfl
  · show fieldsBad 12 0 0 ⟨#[]⟩ = false
    unfold fieldsBad
    rw [emp]
    rfl
  · show quietBad 12 _ = false
    unfold quietBad
    simp
theorem quiet_good (kind : Int) (q : Bool) (h1 : kind ≠ 1) (h2 : kind ≠ 13) : quietBad kind q = false := by
  unfold quietBad
  simp [h1, h2]
theorem ok_del (ra rb rc : Int) : RqOk (delX ra rb rc) := by
  refine ⟨check_zero _ _ _ _ _ _ _ _ rfl rfl (key_good 8 ra rfl) ?_ rfl (quiet_good 8 _ (by decide) (by decide)) rfl (by show 0 ≤ 200; decide), by show (8 : Int) ≠ 13; decide⟩
  show fieldsBad 8 0 0 ⟨#[]⟩ = false
  unfold fieldsBad
  rw [emp]
  rfl
theorem ok_touch (ra rb rc : Int) : RqOk (touchX ra rb rc) := by
  obtain ⟨r0, r1⟩ := pickN_range rc 30 (by decide)
  refine ⟨check_zero _ _ _ _ _ _ _ _ rfl rfl (key_good 11 ra rfl) ?_ rfl (quiet_good 11 _ (by decide) (by decide)) (range_good _ _ _ (show (0 : Int) ≤ 0 ∧ (0 : Int) ≤ 65535 by decide) ⟨r0, by show pickN rc 30 ≤ _; omega⟩ (show (0 : Int) ≤ 0 ∧ (0 : Int) ≤ 1099511627776 by decide)) (by show 0 ≤ 200; decide), by show (11 : Int) ≠ 13; decide⟩
  show fieldsBad 11 0 (pickN rc 30) ⟨#[]⟩ = false
  unfold fieldsBad
  rw [emp]
  rfl
theorem ok_cas (ra rb rc : Int) : RqOk (casX ra rb rc) := by
  obtain ⟨r0, r1⟩ := pickN_range rc 20 (by decide)
  exact ⟨check_zero _ _ _ _ _ _ _ _ rfl rfl (key_good 7 ra rfl) rfl rfl (quiet_good 7 _ (by decide) (by decide)) (range_good _ _ _ (show (0 : Int) ≤ 1 ∧ (1 : Int) ≤ 65535 by decide) (show (0 : Int) ≤ 0 ∧ (0 : Int) ≤ 1099511627776 by decide) ⟨r0, by show pickN rc 20 ≤ _; omega⟩) (by show 9 ≤ 200; decide), by show (7 : Int) ≠ 13; decide⟩
theorem ok_set (ra rb rc : Int) : RqOk (setX ra rb rc) := by
  have hv := valS_size rc
  exact ⟨check_zero _ _ _ _ _ _ _ _ rfl rfl (key_good 2 ra rfl) rfl rfl (quiet_good 2 _ (by decide) (by decide)) rfl (by show (valS rc).size ≤ 200; omega), by show (2 : Int) ≠ 13; decide⟩
theorem ok_sto (ra rb rc : Int) : RqOk (stoX ra rb rc) := by
  have hv := valS_size rb
  obtain ⟨r0, r1⟩ := pickN_range rc 7 (by decide)
  obtain ⟨f0, f1⟩ := pickN_range rc 9 (by decide)
  obtain ⟨b0, b1⟩ := pickN_range rb 8 (by decide)
  obtain ⟨c0, c1⟩ := pickN_range rc 30 (by decide)
  obtain ⟨_, k1, k2⟩ := sto_at (pickN rc 7).toNat (by omega)
  have hd : (pickN rb 8).tdiv 5 = 0 ∨ (pickN rb 8).tdiv 5 = 1 := by
    rw [Int.tdiv_eq_ediv_of_nonneg b0]
    omega
  have he : 0 ≤ (pickN rb 8).tdiv 5 * pickN rc 30 ∧ (pickN rb 8).tdiv 5 * pickN rc 30 ≤ 1099511627776 := by
    rcases hd with h | h <;> rw [h] <;> omega
  unfold RqOk stoX
  simp only
  generalize stoL.getD (pickN rc 7).toNat 0 = kd at *
  have i1 : inB kd 1 13 = true := by unfold inB; simp; omega
  have i2 : inB kd 2 11 = true := by unfold inB; simp; omega
  have i3 : inB kd 2 7 = true := by unfold inB; simp; omega
  refine ⟨check_zero _ _ _ _ _ _ _ _ i1 ?_ (key_good kd ra i2) ?_ ?_ (quiet_good kd _ (by omega) (by omega)) (range_good _ _ _ ⟨f0, by omega⟩ he (by decide)) (by omega), by omega⟩
  · unfold keysOK
    rw [if_neg (by omega)]
    rfl
  · unfold fieldsBad
    rw [i3]
    rfl
  · unfold nBad
    simp
theorem ok_incr (ra rb rc : Int) : RqOk (incrX ra rb rc) := by
  obtain ⟨r0, r1⟩ := pickN_range rb 2 (by decide)
  obtain ⟨f0, f1⟩ := pickN_range rc 12 (by decide)
  unfold RqOk incrX
  simp only
  have h : pickN rb 2 = 0 ∨ pickN rb 2 = 1 := by omega
  rcases h with h | h
  · rw [h]
    refine ⟨check_zero _ _ _ _ _ _ _ _ rfl rfl (key_good 9 ra rfl) ?_ rfl (quiet_good 9 _ (by decide) (by decide)) (range_good _ _ _ (by decide) (by decide) ⟨f0, by omega⟩) (by decide), by decide⟩
    show fieldsBad 9 0 0 ⟨#[]⟩ = false
    unfold fieldsBad
    rw [emp]
    rfl
  · rw [h]
    refine ⟨check_zero _ _ _ _ _ _ _ _ rfl rfl (key_good 10 ra rfl) ?_ rfl (quiet_good 10 _ (by decide) (by decide)) (range_good _ _ _ (by decide) (by decide) ⟨f0, by omega⟩) (by decide), by decide⟩
    show fieldsBad 10 0 0 ⟨#[]⟩ = false
    unfold fieldsBad
    rw [emp]
    rfl

theorem reqR_ok (rk ra rb rc : Int) : RqOk (reqR rk ra rb rc) := by
  unfold reqR
  split
  · exact ok_get ra rb rc
  split
  · exact ok_sto ra rb rc
  split
  · exact ok_cas ra rb rc
  split
  · exact ok_del ra rb rc
  split
  · exact ok_incr ra rb rc
  split
  · exact ok_touch ra rb rc
  split
  · exact ok_flush ra rb rc
  · exact ok_set ra rb rc
end Go.Proofs.YtkjfkonekajffaaDoor
