/- The contracts of dovecoteref.sevens and withText. -/
import Derived.Test.YtmjakimpmccedaaDoorSnapT
namespace Go.Proofs.YtmjakimpmccedaaDoor
open Go.ChangeShapes Go.WideShapes Go.ChangeAt Go.RowKit
set_option linter.unusedVariables false
set_option linter.unusedSimpArgs false

/-- A new row of bytes. -/
def NewPost (l : List UInt8) (w : World) (e : Ending) (w' : World) : Prop := ∃ v', e = .returned v' ∧ RowB w.heap.size w' v' l ∧ Below w.heap.size w w'

theorem row_new (W : World) (ys : List UInt8) (cs : Array Value) (k : Nat) (hk : ys.length = k) (hm : k ≤ maxLen) (hcs : cs.toList = cellsOf ys) : RowB W.heap.size (W.alloc (.cells cs 5)) (.slice (some ⟨W.heap.size, 0, none⟩) k k) ys := by
  subst hk
  refine ⟨by simp [cellsOf], Or.inr ⟨W.heap.size, ys.length, cs, rfl, Nat.le_refl _, heap_alloc_new W _, Nat.le_refl _, hm, ?_, ?_⟩⟩
  · rw [← Array.length_toList, hcs]; simp [cellsOf]
  · rw [hcs, Nat.mul_one, List.take_of_length_le (by simp [cellsOf])]

theorem sev_pos (n : Nat) : 0 < (sev n).length := by rw [sev]; split <;> simp

theorem Grew.below {w0 w w' : World} {v v' : Value} (h : Grew w v w' v') (hb : Below w0.heap.size w0 w) (hv : ∀ k, v.ownBlock = some k → w0.heap.size ≤ k) : Below w0.heap.size w0 w' := hb.grown h.1 hb.size hv

set_option maxHeartbeats 1000000 in
theorem sevens_any : ∀ (k n : Nat) (w : World), n < 128 ^ (k + 1) → k ≤ 8 → n < 9223372036854775808 → Calls Tryd.prog 15 #[.int .i64 (n : Int)] w (NewPost (sev n) w)
  | k, n, w, hn, hk, hz => by
    by_cases hlt : n < 128
    · have hlz : (n : Int) < 128 := by omega
      have ey : (n : Int) = ((UInt8.ofNat n).toNat : Int) := by
        have : (UInt8.ofNat n).toNat = n := by simp; omega
        omega
      have hc : (#[Value.int .u8 (n : Int)] : Array Value).toList = cellsOf [UInt8.ofNat n] := by
        unfold cellsOf
        rw [List.map_cons, ← ey]; rfl
      have hrow := row_new w [UInt8.ofNat n] #[.int .u8 (n : Int)] 1 rfl (by unfold maxLen; omega) hc
      clear ey hc
      rw [sev_small hlt]
      go_enter Tryd.func15, Tryd.ntmps15
      go_wp2
      go_ret
      exact ⟨_, rfl, hrow, (Below.refl _ _).alloc (Nat.le_refl _) _⟩
    · have hlz : ¬ (n : Int) < 128 := by omega
      match k, hn with
      | 0, hn => omega
      | k + 1, hn =>
        have hd : n / 128 < 128 ^ (k + 1) := Nat.div_lt_of_lt_mul (by rw [Nat.pow_succ] at hn; omega)
        have ih := fun w1 => sevens_any k (n / 128) w1 hd (by omega) (by omega)
        have hl9 := sev_len 8 (n / 128) (by omega)
        have hp := sev_pos (n / 128)
        have ey : 128 + (n : Int) % 128 = ((UInt8.ofNat (n % 128 + 128)).toNat : Int) := by
          have : (UInt8.ofNat (n % 128 + 128)).toNat = n % 128 + 128 := by simp; omega
          omega
        have hc : (#[Value.int .u8 (128 + (n : Int) % 128)] : Array Value).toList = cellsOf [UInt8.ofNat (n % 128 + 128)] := by
          unfold cellsOf
          rw [List.map_cons, ← ey]; rfl
        have hrow := row_new w [UInt8.ofNat (n % 128 + 128)] #[.int .u8 (128 + (n : Int) % 128)] 1 rfl (by unfold maxLen; omega) hc
        clear ey hc
        rw [sev_more hlt]
        have hq : ((n / 128 : Nat) : Int) = (n : Int) / 128 := by omega
        rw [hq] at ih
        have hb0 : Below w.heap.size w (w.alloc (.cells #[.int .u8 (128 + (n : Int) % 128)] 5)) := (Below.refl _ _).alloc (Nat.le_refl _) _
        clear hq
        go_enter Tryd.func15, Tryd.ntmps15
        go_wp2_with fail
        refine (ih _).mono ?_
        rintro e w1 ⟨v1, rfl, hR1, hb1⟩
        have hbw := hb0.trans (hb1.mono hb0.size)
        have hrow1 := hrow.below hb1
        clear ih hrow hb0
        go_wp2_with (at_builtin; refine append_row _ rfl (.tmp 12) (.tmp 15) rfl w.heap.size _ [UInt8.ofNat (n % 128 + 128)] rfl hrow1 _ v1 (sev (n / 128)) rfl hR1 hp hbw.size (by simp; omega) ?_; intro v2 w2 hR2 hG2)
        go_ret
        exact ⟨_, rfl, hR2, hG2.below hbw (fun k hk => (hrow1.lt k hk).1)⟩

theorem sevens_fit (n : Nat) (w : World) (hz : n < 9223372036854775808) : Calls Tryd.prog 15 #[.int .i64 (n : Int)] w (NewPost (sev n) w) := sevens_any 8 n w (by omega) (by omega) hz

set_option maxHeartbeats 400000 in
theorem with_any (n : Nat) (v : Value) (l : List UInt8) (s : ByteArray) (w : World) (hR : RowB n w v l) (hn : n ≤ w.heap.size) (hz : l.length + s.size + 9 ≤ 140737488350000) :
    Calls Tryd.prog 16 #[v, .string s] w (AppPost n v (l ++ txt s.data.toList) w) := by
  have hl9 : (sev s.size).length ≤ 9 := sev_len 8 s.size (by omega)
  have hp := sev_pos s.size
  go_enter Tryd.func16, Tryd.ntmps16
  go_wp2_with fail
  refine (sevens_fit s.size w (by omega)).mono ?_
  rintro e w1 ⟨v1, rfl, hR1, hb1⟩
  have hRa := hR.below hb1
  have hG1 := Grew.of_below v hb1
  have hn1 : n ≤ w1.heap.size := Nat.le_trans hn hb1.size
  go_wp2_with (first | (at_builtin; refine append_row _ rfl (.tmp 5) (.tmp 8) rfl n v l rfl hRa _ v1 (sev s.size) rfl hR1 hp hn1 (by omega) ?_; intro v2 w2 hR2 hG2) | (at_builtin; refine append_str _ rfl (.tmp 10) (.tmp 11) rfl n v2 (l ++ sev s.size) rfl hR2 s rfl (Nat.le_trans hn1 hG2.1.size) (by simp; omega) ?_; intro v3 w3 hR3 hG3))
  go_ret
  refine ⟨_, rfl, ?_, hG1.trans (hG2.trans hG3)⟩
  unfold txt
  rw [str_len, ← List.append_assoc]
  exact hR3
end Go.Proofs.YtmjakimpmccedaaDoor
