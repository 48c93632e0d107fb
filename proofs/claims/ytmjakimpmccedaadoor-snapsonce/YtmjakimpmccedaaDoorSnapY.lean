/- What is read without fault is what is written: plain lists. -/
import Derived.Test.YtmjakimpmccedaaDoorSnapX
import Derived.Test.YtmjakimpmccedaaDoorSnapH
namespace Go.Proofs.YtmjakimpmccedaaDoor
set_option linter.unusedVariables false
set_option linter.unusedSimpArgs false

theorem refuse_ne (c : Int) (st : RS) (hc : c ≠ 0) : (refuseR c st).e ≠ 0 := by
  unfold refuseR
  simp only
  split
  · exact hc
  · assumption

theorem byte_hi (b : UInt8) (h : ¬ b.toNat < 128) : UInt8.ofNat (b.toNat % 128 + 128) = b := by
  have hb := b.toNat_lt
  have : b.toNat % 128 + 128 = b.toNat := by omega
  rw [this]
  simp

theorem numF_back : ∀ (f i acc : Nat) (st : RS), i + f = 7 → (numF f i acc st).1.e = 0 → st.e = 0 ∧ ∃ m, (numF f i acc st).2 = acc + m * 128 ^ i ∧ st.left = sev m ++ (numF f i acc st).1.left ∧ (0 < i → 0 < m)
  | 0, i, acc, st, h, he => by
    rw [numF] at he
    exact absurd he (refuse_ne 4 st (by decide))
  | f + 1, i, acc, st, h, he => by
    rw [numF] at he ⊢
    cases hl : st.left with
    | nil =>
      rw [hl] at he
      exact absurd he (refuse_ne 5 st (by decide))
    | cons b r =>
      rw [hl] at he
      simp only at he ⊢
      by_cases hbad : i = 6 ∨ b.toNat = 0 ∧ 0 < i
      · rw [if_pos hbad] at he
        exact absurd he (refuse_ne 4 _ (by decide))
      · rw [if_neg hbad] at he ⊢
        by_cases hb : b.toNat < 128
        · rw [if_pos hb] at he ⊢
          refine ⟨he, b.toNat, ?_, ?_, fun hi => by omega⟩
          · simp only; rw [Nat.mod_eq_of_lt hb]
          · rw [sev_small hb]; simp
        · rw [if_neg hb] at he ⊢
          obtain ⟨h1, m, h2, h3, h4⟩ := numF_back f (i + 1) (acc + b.toNat % 128 * 128 ^ i) ⟨r, st.e⟩ (by omega) he
          have hm : 0 < m := h4 (by omega)
          refine ⟨h1, b.toNat % 128 + 128 * m, ?_, ?_, fun _ => by omega⟩
          · rw [h2, Nat.pow_succ, Nat.add_mul, Nat.add_assoc]
            congr 2
            rw [Nat.mul_comm (128 ^ i) 128, ← Nat.mul_assoc, Nat.mul_comm m 128]
          · have hbm : (b.toNat % 128 + 128 * m) % 128 = b.toNat % 128 := by omega
            have hdv : (b.toNat % 128 + 128 * m) / 128 = m := by omega
            rw [sev_more (by omega), hbm, hdv, byte_hi b hb]
            simp only [List.cons_append, List.cons.injEq, true_and]
            exact h3

theorem num_back (st : RS) (h : (numR st).1.e = 0) : st.e = 0 ∧ st.left = sev (numR st).2 ++ (numR st).1.left := by
  obtain ⟨h1, m, h2, h3, _⟩ := numF_back 7 0 0 st rfl h
  refine ⟨h1, ?_⟩
  unfold numR
  rw [h2]
  simpa using h3

theorem take_back (n : Nat) (st : RS) (h : (takeR n st).1.e = 0) : st.e = 0 ∧ st.left = (takeR n st).2 ++ (takeR n st).1.left ∧ (takeR n st).2.length = n := by
  unfold takeR at h ⊢
  split at h
  · exact absurd h (refuse_ne 5 st (by decide))
  · rename_i hl
    rw [if_neg hl]
    refine ⟨h, ?_, ?_⟩
    · simp
    · simp only; rw [List.length_take]; omega

theorem count_back (most : Nat) (st : RS) (h : (countR most st).1.e = 0) : st.e = 0 ∧ st.left = sev (countR most st).2 ++ (countR most st).1.left := by
  unfold countR at h ⊢
  split at h
  · exact absurd h (refuse_ne 1 _ (by decide))
  · rename_i hl
    rw [if_neg hl]
    exact num_back st h

theorem text_back (most : Nat) (st : RS) (h : (textR most st).1.e = 0) : st.e = 0 ∧ st.left = txt (textR most st).2 ++ (textR most st).1.left := by
  unfold textR at h ⊢
  obtain ⟨h1, h2, h3⟩ := take_back _ _ h
  obtain ⟨k1, k2⟩ := count_back most st h1
  refine ⟨k1, ?_⟩
  unfold txt
  rw [h3, k2, h2]
  simp

theorem yes_back (st : RS) (h : (yesR st).1.e = 0) : st.e = 0 ∧ st.left = sev (if (yesR st).2 = true then 1 else 0) ++ (yesR st).1.left := by
  unfold yesR at h ⊢
  simp only at h ⊢
  split at h
  · exact absurd h (refuse_ne 4 _ (by decide))
  · rename_i hl
    rw [if_neg hl]
    obtain ⟨h1, h2⟩ := num_back st h
    refine ⟨h1, ?_⟩
    rw [h2]
    congr 2
    by_cases h3 : (numR st).2 = 1
    · rw [decide_eq_true h3, if_pos rfl, h3]
    · rw [decide_eq_false h3, if_neg (by decide)]; omega

theorem item_back (st : RS) (h : (itemR st).1.e = 0) : st.e = 0 ∧ st.left = itemB (itemR st).2 ++ (itemR st).1.left := by
  unfold itemR itemHead at h ⊢
  simp only at h ⊢
  have c1 := text_back 20 st
  generalize textR 20 st = K at *
  obtain ⟨s1, kl⟩ := K
  simp only at *
  have c2 := num_back s1
  generalize numR s1 = N2 at *
  obtain ⟨s2, n2⟩ := N2
  simp only at *
  have c3 := num_back s2
  generalize numR s2 = N3 at *
  obtain ⟨s3, n3⟩ := N3
  simp only at *
  have c4 := num_back s3
  generalize numR s3 = N4 at *
  obtain ⟨s4, n4⟩ := N4
  simp only at *
  have c5 := num_back s4
  generalize numR s4 = N5 at *
  obtain ⟨s5, n5⟩ := N5
  simp only at *
  have c6 := yes_back s5
  generalize yesR s5 = Y at *
  obtain ⟨s6, far⟩ := Y
  simp only at *
  cases far
  · rw [if_neg (by decide)] at h ⊢
    have c7 := text_back 200 s6
    generalize textR 200 s6 = V at *
    obtain ⟨s7, vl⟩ := V
    simp only at *
    obtain ⟨e6, l6⟩ := c7 h
    obtain ⟨e5, l5⟩ := c6 e6
    obtain ⟨e4, l4⟩ := c5 e5
    obtain ⟨e3, l3⟩ := c4 e4
    obtain ⟨e2, l2⟩ := c3 e3
    obtain ⟨e1, l1⟩ := c2 e2
    obtain ⟨e0, l0⟩ := c1 e1
    refine ⟨e0, ?_⟩
    rw [l0, l1, l2, l3, l4, l5, l6]
    unfold itemB
    simp only [strB_list, Int.toNat_natCast]
    simp
  · rw [if_pos rfl] at h ⊢
    have c7 := num_back s6
    generalize numR s6 = N7 at *
    obtain ⟨s7, n7⟩ := N7
    simp only at *
    have c8 := num_back s7
    generalize numR s7 = N8 at *
    obtain ⟨s8, n8⟩ := N8
    simp only at *
    obtain ⟨e7, l7⟩ := c8 h
    obtain ⟨e6, l6⟩ := c7 e7
    obtain ⟨e5, l5⟩ := c6 e6
    obtain ⟨e4, l4⟩ := c5 e5
    obtain ⟨e3, l3⟩ := c4 e4
    obtain ⟨e2, l2⟩ := c3 e3
    obtain ⟨e1, l1⟩ := c2 e2
    obtain ⟨e0, l0⟩ := c1 e1
    refine ⟨e0, ?_⟩
    rw [l0, l1, l2, l3, l4, l5, l6, l7]
    unfold itemB
    simp only [strB_list, Int.toNat_natCast]
    simp

theorem items_back : ∀ (k : Nat) (st : RS), (itemsR k st).1.e = 0 → st.e = 0 ∧ st.left = itemsX (itemsR k st).2 ++ (itemsR k st).1.left
  | 0, st, h => ⟨h, by simp [itemsR, itemsX]⟩
  | k + 1, st, h => by
    obtain ⟨h1, h2⟩ := item_back _ h
    obtain ⟨k1, k2⟩ := items_back k st h1
    refine ⟨k1, ?_⟩
    rw [k2, h2]
    simp [itemsR, itemsX]

theorem pages_back : ∀ (k : Nat) (x : Int) (st : RS), (pagesR k x st).1.e = 0 → st.e = 0 ∧ st.left = pagesX (pagesR k x st).2 ++ (pagesR k x st).1.left
  | 0, x, st, h => ⟨h, by simp [pagesR, pagesX]⟩
  | k + 1, x, st, h => by
    obtain ⟨h1, h2⟩ := text_back 256 _ h
    obtain ⟨k1, k2⟩ := pages_back k x st h1
    refine ⟨k1, ?_⟩
    rw [k2, h2]
    simp [pagesR, pagesX]

theorem flash_back (st : RS) (h : (flashR st).1.e = 0) : st.e = 0 ∧ st.left = [(flashR st).2.1, (flashR st).2.2.1, (flashR st).2.2.2.length].flatMap sev ++ pagesX (flashR st).2.2.2 ++ (flashR st).1.left := by
  unfold flashR at h ⊢
  simp only at h ⊢
  obtain ⟨h1, h2⟩ := pages_back _ _ _ h
  obtain ⟨k1, k2⟩ := count_back _ _ h1
  obtain ⟨j1, j2⟩ := num_back _ k1
  obtain ⟨i1, i2⟩ := num_back _ j1
  refine ⟨i1, ?_⟩
  rw [pagesR_len, i2, j2, k2, h2]
  simp

theorem head_back (st : RS) (h : (headR st).1.e = 0) : st.e = 0 ∧ st.left = [(headR st).2.1, (headR st).2.2.1, (headR st).2.2.2.1, (headR st).2.2.2.2.1].flatMap sev ++ [(headR st).2.2.2.2.2.1, (headR st).2.2.2.2.2.2.1, (headR st).2.2.2.2.2.2.2.1, (headR st).2.2.2.2.2.2.2.2].flatMap sev ++ (headR st).1.left := by
  unfold headR at h ⊢
  simp only at h ⊢
  obtain ⟨e7, l7⟩ := num_back _ h
  obtain ⟨e6, l6⟩ := num_back _ e7
  obtain ⟨e5, l5⟩ := num_back _ e6
  obtain ⟨e4, l4⟩ := num_back _ e5
  obtain ⟨e3, l3⟩ := num_back _ e4
  obtain ⟨e2, l2⟩ := num_back _ e3
  obtain ⟨e1, l1⟩ := num_back _ e2
  obtain ⟨e0, l0⟩ := num_back _ e1
  refine ⟨e0, ?_⟩
  rw [l0, l1, l2, l3, l4, l5, l6, l7]
  simp

theorem store_back (st : RS) (h : (storeR st).1.e = 0) : st.e = 0 ∧ st.left = storeX (storeR st).2 ++ (storeR st).1.left := by
  unfold storeR at h ⊢
  simp only at h ⊢
  obtain ⟨h1, h2⟩ := items_back _ _ h
  obtain ⟨k1, k2⟩ := count_back _ _ h1
  obtain ⟨j1, j2⟩ := flash_back _ k1
  obtain ⟨i1, i2⟩ := head_back _ j1
  refine ⟨i1, ?_⟩
  rw [i2, j2, k2, h2]
  unfold storeX
  simp only [itemsR_len, Int.toNat_natCast]
  simp

/-- What is read without fault is the store's bytes. -/
theorem read_back (l : List UInt8) (h : (readR l).2 = 0) : storeX (readR l).1 = l := by
  unfold readR endR at h
  simp only at h
  split at h
  · exact absurd h (refuse_ne 4 _ (by decide))
  · rename_i hl
    obtain ⟨_, h2⟩ := store_back ⟨l, 0⟩ h
    have h0 : (storeR ⟨l, 0⟩).1.left = [] := List.length_eq_zero_iff.1 (by omega)
    rw [h0] at h2
    show storeX (storeR ⟨l, 0⟩).2 = l
    simpa using h2.symm

theorem dec_back (l : List UInt8) (h : decE l = 0) : storeB (decS l) = true ∧ encS (decS l) = l := by
  have hS : decS l = (readR (bodyL l)).1 := by unfold decS; rw [if_pos h]
  unfold decE at h
  split at h
  · rename_i hw
    obtain ⟨hl7, _⟩ := wrap_len l hw
    unfold endE at h
    split at h
    · rename_i hr
      have hb : storeB (readR (bodyL l)).1 = true := by
        unfold codeN at h
        split at h
        · assumption
        · exact absurd h (by decide)
      refine ⟨by rw [hS]; exact hb, ?_⟩
      unfold encS
      rw [hS, read_back _ hr]
      unfold wrapE at hw
      split at hw
      · exact absurd hw (by decide)
      · split at hw
        · exact absurd hw (by decide)
        · split at hw
          · exact absurd hw (by decide)
          · split at hw
            · exact absurd hw (by decide)
            · rename_i _ _ hm hs
              have hm' : l.take 3 = mark3 := by
                have : (l.take 3 == mark3) = true := by cases h : (l.take 3 == mark3) with
                  | true => rfl
                  | false => exact absurd h hm
                exact eq_of_beq this
              have hs' : l.drop (l.length - 4) = sealB (l.take (l.length - 4)) := by
                have : (l.drop (l.length - 4) == sealB (l.take (l.length - 4))) = true := by cases h : (l.drop (l.length - 4) == sealB (l.take (l.length - 4))) with
                  | true => rfl
                  | false => exact absurd h hs
                exact eq_of_beq this
              have hmid : mark3 ++ bodyL l = l.take (l.length - 4) := by
                rw [← hm']
                unfold bodyL
                rw [show l.length - 4 = 3 + (l.length - 7) by omega, List.take_add]
              rw [hmid, ← hs', List.take_append_drop]
    · rename_i hr
      exact absurd h hr
  · rename_i hw
    exact absurd h hw
end Go.Proofs.YtmjakimpmccedaaDoor
