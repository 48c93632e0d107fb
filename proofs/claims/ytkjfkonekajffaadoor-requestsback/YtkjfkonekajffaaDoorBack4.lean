/- wire.Next at what wire.Encode wrote: the request, whatever follows; nothing yet where the end is cut off. -/
import Derived.Test.YtkjfkonekajffaaDoorBack3
namespace Go.Proofs.YtkjfkonekajffaaDoor
open Go.ChangeShapes Go.WideShapes Go.ChangeAt Go.RowKit
set_option linter.unusedVariables false
set_option linter.unusedSimpArgs false

theorem getD_left (a r : List UInt8) (j : Nat) (h : j < a.length) : (a ++ r).getD j 0 = a.getD j 0 := by
  rw [List.getD_eq_getElem?_getD, List.getElem?_append_left h, ← List.getD_eq_getElem?_getD]
theorem getD_right (a r : List UInt8) (j : Nat) : (a ++ r).getD (a.length + j) 0 = r.getD j 0 := by
  rw [List.getD_eq_getElem?_getD, List.getElem?_append_right (by omega), ← List.getD_eq_getElem?_getD]
  congr 1
  omega

theorem getD_mem (a : List UInt8) (j : Nat) (h : j < a.length) : a.getD j 0 ∈ a := by
  rw [List.getD_eq_getElem?_getD, List.getElem?_eq_getElem h]
  exact List.getElem_mem h

/-- The first end of line. -/
theorem index_line (s : ByteArray) (a r : List UInt8) (hs : s.data.toList = a ++ 10 :: r) (ha : ∀ b ∈ a, b ≠ 10) : Lib.indexByte s.data.toList 10 = (a.length : Int) := by
  symm
  apply firstNl_index
  refine Or.inr ⟨a.length, rfl, Nat.zero_le _, ?_, ?_, fun k _ hk => ?_⟩
  · show a.length < s.data.toList.length
    rw [hs]
    simp
  · rw [hs]
    exact getD_right a (10 :: r) 0
  · rw [hs, getD_left a _ k hk]
    exact ha _ (getD_mem a k hk)

theorem index_none (s : ByteArray) (ha : ∀ b ∈ s.data.toList, b ≠ 10) : Lib.indexByte s.data.toList 10 = -1 := by
  symm
  apply firstNl_index
  exact Or.inl ⟨rfl, fun k _ hk => ha _ (getD_mem _ k hk)⟩

theorem extract_line (s ln : ByteArray) (r : List UInt8) (hs : s.data.toList = ln.data.toList ++ r) : s.extract 0 ln.size = ln := by
  apply ByteArray.ext
  apply Array.toList_inj.1
  rw [extract_data, hs, List.drop_zero]
  exact List.take_left' rfl

/-- The request that wire.Next answers. -/
def nextRof (kind : Int) (key : ByteArray) (keys : List ByteArray) (flags exp nn : Int) (value : ByteArray) (quiet : Bool) (n : Int) : NextR := { kind := kind, key := key, keys := keys, flags := flags, exp := exp, nn := nn, value := value, quiet := quiet, n := n }

theorem next_enc (kind : Int) (key : ByteArray) (keys : List ByteArray) (flags exp nn : Int) (value : ByteArray) (quiet : Bool) (h : checkN kind key keys flags exp nn value quiet = 0) (h13 : kind ≠ 13) (s more : ByteArray) (hs : s = textS kind key keys flags exp nn value quiet ++ more) :
    nextD s = nextRof kind key keys flags exp nn value quiet ((textS kind key keys flags exp nn value quiet).size : Int) := by
  obtain ⟨f1, f2, f3, f4, f5, f6, f7, f8⟩ := check_facts kind key keys flags exp nn value quiet h
  obtain ⟨tp, tl⟩ := tail_plain kind key keys flags exp nn value quiet h
  have hk : kind.toNat ≤ 12 := by unfold inB at f1; simp at f1; omega
  obtain ⟨np, nl⟩ := name_plain kind.toNat hk
  have hall : ∀ y ∈ nameS kind.toNat :: tailL kind key keys flags exp nn value quiet, plainW y := by
    intro y hy
    rw [List.mem_cons] at hy
    rcases hy with rfl | hy
    · exact np
    · exact (tp y hy).1
  have hlw := words_line _ _ hall
  have hno := words_no10 _ _ hall
  have hsz := wordsS_size (tailL kind key keys flags exp nn value quiet) (nameS kind.toNat) (fun x hx => (tp x hx).2)
  have hLD := lineD_enc kind key keys flags exp nn value quiet h h13
  rw [← hlw] at hLD
  have hts : textS kind key keys flags exp nn value quiet = if inB kind 2 7 = true then (wordsS (nameS kind.toNat) (tailL kind key keys flags exp nn value quiet) ++ nlS) ++ (value ++ nlS) else wordsS (nameS kind.toNat) (tailL kind key keys flags exp nn value quiet) ++ nlS := rfl
  generalize wordsS (nameS kind.toNat) (tailL kind key keys flags exp nn value quiet) = ln at *
  have hl300 : ln.size ≤ 300 := by omega
  cases h7 : inB kind 2 7
  · rw [h7, if_neg (by decide)] at hts
    rw [hts] at hs ⊢
    have hd : s.data.toList = ln.data.toList ++ 10 :: more.data.toList := by
      rw [hs, append_data, append_data]
      simp [nlS]
    have hix := index_line s _ _ hd hno
    rw [show (ln.data.toList.length : Int) = (ln.size : Int) from rfl] at hix
    have hex := extract_line s ln _ hd
    have hve : value = ⟨#[]⟩ := by
      unfold fieldsBad at f4
      rw [h7] at f4
      simp at f4
      exact empty_of value (by simpa using f4.1.2)
    unfold nextD
    rw [hix, if_neg (by omega), Int.toNat_natCast, if_neg (by omega)]
    unfold restD
    rw [hex, hLD]
    simp only [lineRof, h7]
    rw [if_neg (by decide)]
    unfold chkD nextRof
    rw [← hve, if_pos h]
    rw [ByteArray.size_append]
    rfl
  · rw [h7, if_pos rfl] at hts
    rw [hts] at hs ⊢
    have hd : s.data.toList = ln.data.toList ++ 10 :: (value.data.toList ++ 10 :: more.data.toList) := by
      rw [hs, append_data, append_data, append_data, append_data]
      simp [nlS]
    have hix := index_line s _ _ hd hno
    rw [show (ln.data.toList.length : Int) = (ln.size : Int) from rfl] at hix
    have hex := extract_line s ln _ hd
    have hd2 : s.data.toList = (ln.data.toList ++ [10]) ++ (value.data.toList ++ 10 :: more.data.toList) := by rw [hd]; simp
    have hd3 : s.data.toList = ((ln.data.toList ++ [10]) ++ value.data.toList) ++ 10 :: more.data.toList := by rw [hd]; simp
    have hl2 : ((ln.data.toList ++ [10]) ++ value.data.toList).length = ln.size + 1 + value.size := by
      rw [List.length_append, List.length_append]
      rfl
    have hbt : s.data.toList.getD (ln.size + 1 + value.size) 0 = 10 := by
      rw [hd3, ← hl2]
      exact getD_right _ (10 :: more.data.toList) 0
    have hsl : ln.size + 1 + value.size < s.size := by
      show _ < s.data.toList.length
      rw [hd3, List.length_append, hl2]
      simp
    have hev : s.extract (ln.size + 1) (ln.size + 1 + value.size) = value := by
      apply ByteArray.ext
      apply Array.toList_inj.1
      rw [extract_data, hd3, ← hl2, List.take_left' rfl]
      exact List.drop_left' (by rw [List.length_append]; rfl)
    unfold nextD
    rw [hix, if_neg (by omega), Int.toNat_natCast, if_neg (by omega)]
    unfold restD
    rw [hex, hLD]
    simp only [lineRof, h7, if_true]
    rw [Int.toNat_natCast]
    unfold valD
    rw [if_neg (by omega), if_neg (by omega), if_pos hbt, hev]
    simp only
    unfold chkD nextRof
    rw [if_pos h]
    rw [ByteArray.size_append, ByteArray.size_append, ByteArray.size_append]
    have : nlS.size = 1 := rfl
    congr 1

/-- What is cut off its end is not whole yet. -/
theorem next_cut (kind : Int) (key : ByteArray) (keys : List ByteArray) (flags exp nn : Int) (value : ByteArray) (quiet : Bool) (h : checkN kind key keys flags exp nn value quiet = 0) (h13 : kind ≠ 13) (m : Nat) (hm : m < (textS kind key keys flags exp nn value quiet).size) :
    nextD ((textS kind key keys flags exp nn value quiet).extract 0 m) = zeroN := by
  obtain ⟨f1, f2, f3, f4, f5, f6, f7, f8⟩ := check_facts kind key keys flags exp nn value quiet h
  obtain ⟨tp, tl⟩ := tail_plain kind key keys flags exp nn value quiet h
  have hk : kind.toNat ≤ 12 := by unfold inB at f1; simp at f1; omega
  obtain ⟨np, nl⟩ := name_plain kind.toNat hk
  have hall : ∀ y ∈ nameS kind.toNat :: tailL kind key keys flags exp nn value quiet, plainW y := by
    intro y hy
    rw [List.mem_cons] at hy
    rcases hy with rfl | hy
    · exact np
    · exact (tp y hy).1
  have hlw := words_line _ _ hall
  have hno := words_no10 _ _ hall
  have hsz := wordsS_size (tailL kind key keys flags exp nn value quiet) (nameS kind.toNat) (fun x hx => (tp x hx).2)
  have hLD := lineD_enc kind key keys flags exp nn value quiet h h13
  rw [← hlw] at hLD
  have hts : textS kind key keys flags exp nn value quiet = if inB kind 2 7 = true then (wordsS (nameS kind.toNat) (tailL kind key keys flags exp nn value quiet) ++ nlS) ++ (value ++ nlS) else wordsS (nameS kind.toNat) (tailL kind key keys flags exp nn value quiet) ++ nlS := rfl
  generalize wordsS (nameS kind.toNat) (tailL kind key keys flags exp nn value quiet) = ln at *
  have hl300 : ln.size ≤ 300 := by omega
  generalize textS kind key keys flags exp nn value quiet = T at *
  have hn1 : nlS.size = 1 := rfl
  have hdT : ∃ r, T.data.toList = ln.data.toList ++ 10 :: r := by
    rw [hts]
    split
    · refine ⟨value.data.toList ++ [10], ?_⟩
      rw [append_data, append_data, append_data]
      simp [nlS]
    · refine ⟨[], ?_⟩
      rw [append_data]
      rfl
  obtain ⟨r, hdT⟩ := hdT
  have hdm : (T.extract 0 m).data.toList = (ln.data.toList ++ 10 :: r).take m := by rw [extract_data, hdT, List.drop_zero]
  have hsm : (T.extract 0 m).size = m := by rw [ByteArray.size_extract]; omega
  generalize T.extract 0 m = s at *
  have hll : ln.data.toList.length = ln.size := rfl
  by_cases hle : m ≤ ln.size
  · rw [List.take_append_of_le_length (by omega)] at hdm
    have hix := index_none s (fun b hb => hno b (List.mem_of_mem_take (by rw [← hdm]; exact hb)))
    unfold nextD
    rw [hix, if_pos (by decide), if_neg (by omega)]
  · obtain ⟨j, rfl⟩ : ∃ j, m = ln.size + (j + 1) := ⟨m - ln.size - 1, by omega⟩
    have hd : s.data.toList = ln.data.toList ++ 10 :: r.take j := by
      rw [hdm, ← hll, List.take_length_add_append]
      rfl
    have hix := index_line s _ _ hd hno
    rw [show (ln.data.toList.length : Int) = (ln.size : Int) from rfl] at hix
    have hex := extract_line s ln _ hd
    cases h7 : inB kind 2 7
    · rw [h7, if_neg (by decide)] at hts
      rw [hts, ByteArray.size_append] at hm
      omega
    · rw [h7, if_pos rfl] at hts
      rw [hts, ByteArray.size_append, ByteArray.size_append, ByteArray.size_append] at hm
      unfold nextD
      rw [hix, if_neg (by omega), Int.toNat_natCast, if_neg (by omega)]
      unfold restD
      rw [hex, hLD]
      simp only [lineRof, h7, if_true]
      rw [Int.toNat_natCast]
      unfold valD
      rw [if_neg (by omega), if_pos (by omega)]
end Go.Proofs.YtkjfkonekajffaaDoor
