/- The contract of dovecoteref.parted: the words of a line, in new memory. -/
import Derived.Test.YtkjfkonekajffaaDoorNext3
namespace Go.Proofs.YtkjfkonekajffaaDoor
open Go.ChangeShapes Go.WideShapes Go.ChangeAt Go.RowKit
set_option linter.unusedVariables false

/-- The pieces from byte f on, seen from byte i on. -/
def pcs (s : ByteArray) : Nat → Nat → Nat → List ByteArray
  | 0, f, i => [s.extract f i]
  | k + 1, f, i => if s.data.toList.getD i 0 = 32 then s.extract f i :: pcs s k (i + 1) (i + 1) else pcs s k f (i + 1)

theorem extract_data (s : ByteArray) (f i : Nat) : (s.extract f i).data.toList = (s.data.toList.take i).drop f := by
  rw [ByteArray.data_extract, Array.toList_extract, List.extract_eq_take_drop, List.drop_take]

theorem pcs_data (s : ByteArray) : ∀ (k f i : Nat), i + k = s.size → f ≤ i → ∃ x xs, splitP 32 (s.data.toList.drop i) = x :: xs ∧ (pcs s k f i).map (·.data.toList) = ((s.data.toList.take i).drop f ++ x) :: xs
  | 0, f, i, h, hf => by
    refine ⟨[], [], ?_, ?_⟩
    · rw [List.drop_eq_nil_of_le (show s.data.toList.length ≤ i from by show s.size ≤ i; omega)]
      rfl
    · simp only [pcs, List.map_cons, List.map_nil, List.append_nil]
      rw [extract_data]
  | k + 1, f, i, h, hf => by
    have hi : i < s.data.toList.length := by show i < s.size; omega
    have hd : s.data.toList.drop i = s.data.toList.getD i 0 :: s.data.toList.drop (i + 1) := by
      rw [List.drop_eq_getElem_cons hi, List.getD_eq_getElem?_getD, List.getElem?_eq_getElem hi]; rfl
    have ht : s.data.toList.take (i + 1) = s.data.toList.take i ++ [s.data.toList.getD i 0] := by
      rw [List.take_succ_eq_append_getElem hi, List.getD_eq_getElem?_getD, List.getElem?_eq_getElem hi]; rfl
    rw [hd]
    unfold splitP pcs
    by_cases hb : s.data.toList.getD i 0 = 32
    · obtain ⟨x, xs, h1, h2⟩ := pcs_data s k (i + 1) (i + 1) (by omega) (Nat.le_refl _)
      rw [if_pos hb, if_pos hb, h1]
      refine ⟨[], x :: xs, rfl, ?_⟩
      rw [List.map_cons, h2, extract_data, List.append_nil]
      rw [List.drop_eq_nil_of_le (show (s.data.toList.take (i + 1)).length ≤ i + 1 by rw [List.length_take]; omega)]
      rfl
    · obtain ⟨x, xs, h1, h2⟩ := pcs_data s k f (i + 1) (by omega) (by omega)
      rw [if_neg hb, if_neg hb, h1]
      refine ⟨_ :: x, xs, rfl, ?_⟩
      rw [h2, ht, List.drop_append_of_le_length (by simp; omega), List.append_assoc]
      rfl

theorem texts_inj (a b : List ByteArray) (h : a.map (·.data.toList) = b.map (·.data.toList)) : a = b := by
  apply List.map_inj_right (f := fun x : ByteArray => x.data.toList) ?_ |>.1 h
  intro x y hxy
  apply ByteArray.ext
  exact Array.toList_inj.1 hxy

theorem pcs_line (s : ByteArray) : pcs s s.size 0 0 = lineWs s := by
  apply texts_inj
  obtain ⟨x, xs, h1, h2⟩ := pcs_data s s.size 0 0 (by omega) (Nat.le_refl _)
  rw [h2, lineWs_data]
  rw [List.drop_zero] at h1
  rw [h1]
  simp

/-- What is still to come. -/
def pcsR (s : ByteArray) (f i : Nat) : List ByteArray := if i ≤ s.size then pcs s (s.size - i) f i else []

set_option maxHeartbeats 1000000 in
set_option maxRecDepth 100000 in
theorem parted_any (s : ByteArray) (w : World) (hs : s.size ≤ 300) :
    Calls Tryd.prog 50 #[.string s, .int .u8 32] w fun e w' => ∃ v, e = .returned v ∧ WordsAt w w' v (lineWs s) := by
  go_enter Tryd.func50, Tryd.ntmps50
  go_wp2_with fail
  go_loopw [5, 6, 7] (fun v fr i wr => ∃ (k f : Nat) (l : List ByteArray), k ≤ s.size + 1 ∧ f ≤ k ∧ i = .int .i64 k ∧ fr = .int .i64 f ∧ l.length ≤ k ∧ Hid (l ++ pcsR s f k = lineWs s) ∧ WordsAt w wr v l) (fun _ _ i _ => s.size + 1 - (intOf i).toNat)
  case atStart =>
    refine ⟨0, 0, [], Nat.zero_le _, Nat.le_refl _, rfl, rfl, Nat.le_refl _, ?_, World.ownsRow_nil _ _ _ _, Below.refl _ _⟩
    show [] ++ pcsR s 0 0 = lineWs s
    unfold pcsR
    rw [if_pos (Nat.zero_le _)]
    exact pcs_line s
  case round =>
    obtain ⟨k, f, l, hk, hf, rfl, rfl, hll, D, hW⟩ := hrel
    have hs1 : (s.size : Int) ≤ 300 := by omega
    have hm : l.length + 1 ≤ 1000000 := by omega
    have hsl : ∀ wx : World, f ≤ k → k ≤ s.size → (Instr.slice 9 (.string s) (some (.int .i64 (f : Int))) (some (.int .i64 (k : Int))) none).run Tryd.prog wx = .ok (.string (s.extract f k)) wx := fun wx h1 h2 =>
      run_slice_string (P := Tryd.prog) wx 9 s .i64 .i64 (f : Int) (k : Int) Tryd.underlying9 (by omega) (by omega) (by omega)
    by_cases hle : k ≤ s.size
    · have hlez : (k : Int) ≤ (s.size : Int) := by omega
      have D2 := D.out
      unfold pcsR at D2
      rw [if_pos hle] at D2
      have hsl2 := fun wx => hsl wx hf hle
      clear hsl
      by_cases he : k = s.size
      · have D3 : Hid ((l ++ [s.extract f k]) ++ pcsR s (k + 1) (k + 1) = lineWs s) := by
          show _ = _
          unfold pcsR
          rw [if_neg (by omega), List.append_nil]
          rw [show s.size - k = 0 by omega] at D2
          exact D2
        clear D2 D
        generalize s.extract f k = pc at *
        subst he
        go_wp2_with (at_builtin; refine append_words _ rfl (.tmp 25) (.tmp 30) rfl w _ l rfl (hW.alloc _) _ 1 1 [pc] rfl rfl (one_new _ _) (by omega) hm ?_; intro g2 cap2 w2 hI2)
        go_roundw
        case rel => exact ⟨s.size + 1, s.size + 1, l ++ [pc], by omega, Nat.le_refl _, by go_num, by go_num, by simp; omega, D3, hI2⟩
        case measure => simp [intOf]
      · have hlt : k < s.size := by omega
        have hez : ((k : Int) == (s.size : Int)) = false := by rw [beq_eq_false_iff_ne]; omega
        have hltz : (k : Int) < (s.size : Int) := by omega
        have hba := byteAt s k hlt
        rw [show s.size - k = (s.size - (k + 1)) + 1 by omega] at D2
        unfold pcs at D2
        by_cases hb : s.data.toList.getD k 0 = 32
        · have hbz : ((s[k].toNat : Int) == 32) = true := by rw [hba, hb]; rfl
          have D3 : Hid ((l ++ [s.extract f k]) ++ pcsR s (k + 1) (k + 1) = lineWs s) := by
            show _ = _
            unfold pcsR
            rw [if_pos (by omega), List.append_assoc]
            rw [if_pos hb] at D2
            exact D2
          clear D2 D hba hb
          generalize s.extract f k = pc at *
          go_wp2_with (at_builtin; refine append_words _ rfl (.tmp 25) (.tmp 30) rfl w _ l rfl (hW.alloc _) _ 1 1 [pc] rfl rfl (one_new _ _) (by omega) hm ?_; intro g2 cap2 w2 hI2)
          go_roundw
          case rel => exact ⟨k + 1, k + 1, l ++ [pc], by omega, Nat.le_refl _, by go_num, by go_num, by simp; omega, D3, hI2⟩
          case measure => simp [intOf]; omega
        · have hbz : ((s[k].toNat : Int) == 32) = false := by
            rw [hba, beq_eq_false_iff_ne]
            intro g3
            apply hb
            apply UInt8.toNat_inj.1
            have : (32 : UInt8).toNat = 32 := rfl
            omega
          have D3 : Hid (l ++ pcsR s f (k + 1) = lineWs s) := by
            show _ = _
            unfold pcsR
            rw [if_pos (by omega)]
            rw [if_neg hb] at D2
            exact D2
          clear D2 D hba hb
          go_wp2
          go_roundw
          case rel => exact ⟨k + 1, f, l, by omega, by omega, by go_num, rfl, by omega, D3, hW⟩
          case measure => simp [intOf]; omega
    · have hlez : ¬ (k : Int) ≤ (s.size : Int) := by omega
      have D3 : Hid (l = lineWs s) := by
        have := D.out
        unfold pcsR at this
        rw [if_neg hle, List.append_nil] at this
        exact this
      clear D hsl
      go_wp2
      go_ret
      exact ⟨_, rfl, by rw [← D3.out]; exact hW⟩
end Go.Proofs.YtkjfkonekajffaaDoor
