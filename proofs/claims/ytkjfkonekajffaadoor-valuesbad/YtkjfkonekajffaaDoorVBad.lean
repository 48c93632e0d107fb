/- What wire.Next answers at lines of Set whose value is too long, does not end, or whose flags are too great. -/
import Derived.Test.YtkjfkonekajffaaDoorTells
namespace Go.Proofs.YtkjfkonekajffaaDoor
open Go.ChangeShapes Go.WideShapes Go.ChangeAt Go.RowKit
set_option linter.unusedVariables false
set_option linter.unusedSimpArgs false

/-- The line 'set a f 0 k'. -/
def setW (f k : Int) : ByteArray := wordsS (nameS 2) [aS, decS f, decS 0, decS k]

theorem set_plain (f k : Int) (hf : 0 ≤ f) (hk : 0 ≤ k) : ∀ y ∈ nameS 2 :: [aS, decS f, decS 0, decS k], plainW y := by
  intro y hy
  simp only [List.mem_cons, List.not_mem_nil, or_false] at hy
  rcases hy with rfl | rfl | rfl | rfl | rfl
  · exact (name_plain 2 (by decide)).1
  · unfold plainW aS; decide
  · exact dec_plain f hf
  · exact dec_plain 0 (by decide)
  · exact dec_plain k hk

theorem set_lineD (f k : Int) (hf : 0 ≤ f) (hf2 : f ≤ 1099511627776) (hk : 0 ≤ k) (hk2 : k ≤ 1099511627776) :
    lineD (lineWs (setW f k)) = some { kind := 2, key := aS, keys := [], flags := f, exp := 0, nn := 0, quiet := false, size := k } := by
  unfold setW
  rw [words_line _ _ (set_plain f k hf hk)]
  have h2 : kindD (nameS 2) = 2 := kind_name 2 (by decide) (by decide)
  have hr := lineRest_of 2 [aS, decS f, decS 0, decS k] false (by rfl)
  have hn : numsD [decS f, decS 0, decS k] = some [f, 0, k] := numsD_cons f _ _ hf hf2 (numsD_cons 0 _ _ (by decide) (by decide) (numsD_one k hk hk2))
  unfold lineD
  rw [show (nameS 2 :: [aS, decS f, decS 0, decS k]).getD 0 ByteArray.empty = nameS 2 from rfl, h2, if_neg (by decide), if_neg (by decide)]
  rw [show (nameS 2 :: [aS, decS f, decS 0, decS k]).tail = [aS, decS f, decS 0, decS k] ++ (if false = true then [quietS] else []) from rfl, hr]
  rw [if_pos (show inB ((2 : Nat) : Int) 2 11 = true from rfl), show [aS, decS f, decS 0, decS k].tail = [decS f, decS 0, decS k] from rfl, hn]
  rfl

theorem set_size (f k : Int) (hf : 0 ≤ f) (hf2 : f ≤ 1099511627776) (hk : 0 ≤ k) (hk2 : k ≤ 1099511627776) : (setW f k).size ≤ 300 := by
  have h := wordsS_size [aS, decS f, decS 0, decS k] (nameS 2) (fun x hx => by
    simp only [List.mem_cons, List.not_mem_nil, or_false] at hx
    rcases hx with rfl | rfl | rfl | rfl
    · decide
    · exact decS_size f (by omega) (by omega)
    · exact decS_size 0 (by decide) (by decide)
    · exact decS_size k (by omega) (by omega))
  have h2 := (name_plain 2 (by decide)).2
  simp only [List.length_cons, List.length_nil] at h
  unfold setW
  omega

/-- wire.Next at such a line and what follows it. -/
theorem next_set (f k : Int) (hf : 0 ≤ f) (hf2 : f ≤ 1099511627776) (hk : 0 ≤ k) (hk2 : k ≤ 1099511627776) (s : ByteArray) (r : ByteArray) (hs : s = (setW f k ++ nlS) ++ r) :
    nextD s = valD { kind := 2, key := aS, keys := [], flags := f, exp := 0, nn := 0, quiet := false, size := k } s ((setW f k).size + 1) k.toNat := by
  have hd : s.data.toList = (setW f k).data.toList ++ 10 :: r.data.toList := by
    rw [hs, append_data, append_data]
    simp [nlS]
  have hno := words_no10 _ _ (set_plain f k hf hk)
  have hix := index_line s _ _ hd hno
  rw [show ((setW f k).data.toList.length : Int) = ((setW f k).size : Int) from rfl] at hix
  have hex := extract_line s _ _ hd
  have hz := set_size f k hf hf2 hk hk2
  unfold nextD
  rw [hix, if_neg (by omega), Int.toNat_natCast, if_neg (by omega)]
  unfold restD
  rw [hex, set_lineD f k hf hf2 hk hk2]
  rfl

theorem set_check (v : ByteArray) (hv : v.size ≤ 200) : checkN 2 aS [] 0 0 0 v false = 0 := by
  rw [check_value 2 aS [] 0 0 0 v false rfl hv, check_eq]
  have he : (⟨#[]⟩ : ByteArray).toList.isEmpty = true := by rw [isEmpty_of]; rfl
  unfold keyBad fieldsBad
  rw [he]
  decide

theorem set_check70 (v : ByteArray) (hv : v.size ≤ 200) : checkN 2 aS [] 70000 0 0 v false ≠ 0 := by
  rw [check_value 2 aS [] 70000 0 0 v false rfl hv, check_eq]
  have he : (⟨#[]⟩ : ByteArray).toList.isEmpty = true := by rw [isEmpty_of]; rfl
  unfold keyBad fieldsBad
  rw [he]
  decide

theorem byte_behind (a v : ByteArray) (c : UInt8) : ((a ++ v) ++ ⟨#[c]⟩).data.toList.getD (a.size + v.size) 0 = c := by
  rw [append_data, append_data]
  have h : (a.data.toList ++ v.data.toList).length = a.size + v.size := by rw [List.length_append]; rfl
  rw [← h]
  exact getD_right _ [c] 0

theorem extract_mid (a v : ByteArray) (c : ByteArray) : ((a ++ v) ++ c).extract a.size (a.size + v.size) = v := by
  apply ByteArray.ext
  apply Array.toList_inj.1
  rw [extract_data, append_data, append_data, List.take_left' (by rw [List.length_append]; rfl)]
  exact List.drop_left' rfl

theorem nl_size (f k : Int) : (setW f k ++ nlS).size = (setW f k).size + 1 := by rw [ByteArray.size_append]; rfl

/-- A value of at most 200 bytes, with its end. -/
theorem vb_good (k : Nat) (v : ByteArray) (hv : v.size = k) (hk : k ≤ 200) : nextD (((setW 0 k ++ nlS) ++ v) ++ nlS) = { kind := 2, key := aS, keys := [], flags := 0, exp := 0, nn := 0, value := v, quiet := false, n := (((setW 0 k ++ nlS).size + k + 1 : Nat) : Int) } := by
  rw [next_set 0 k (by decide) (by decide) (by omega) (by omega) _ (v ++ nlS) (by rw [ByteArray.append_assoc])]
  have h1 : (((setW 0 k ++ nlS) ++ v) ++ nlS).data.toList.getD ((setW 0 k ++ nlS).size + v.size) 0 = 10 := byte_behind (setW 0 k ++ nlS) v 10
  have h2 := extract_mid (setW 0 k ++ nlS) v nlS
  have h3 : (((setW 0 k ++ nlS) ++ v) ++ nlS).size = (setW 0 k).size + 1 + k + 1 := by rw [ByteArray.size_append, ByteArray.size_append, nl_size, hv]; rfl
  rw [nl_size, hv] at h1 h2
  unfold valD
  rw [Int.toNat_natCast, if_neg (by omega), if_neg (by omega), if_pos h1, h2]
  unfold chkD
  rw [if_pos (set_check v (by omega)), nl_size]

/-- .. without it. -/
theorem vb_open (k : Nat) (v : ByteArray) (hv : v.size = k) (hk : k ≤ 200) : nextD (((setW 0 k ++ nlS) ++ v) ++ ⟨#[118]⟩) = badN ((setW 0 k ++ nlS).size : Int) := by
  rw [next_set 0 k (by decide) (by decide) (by omega) (by omega) _ (v ++ ⟨#[118]⟩) (by rw [ByteArray.append_assoc])]
  have h1 := byte_behind (setW 0 k ++ nlS) v 118
  have h3 : (((setW 0 k ++ nlS) ++ v) ++ ⟨#[118]⟩).size = (setW 0 k).size + 1 + k + 1 := by rw [ByteArray.size_append, ByteArray.size_append, nl_size, hv]; rfl
  rw [nl_size, hv] at h1
  unfold valD
  rw [Int.toNat_natCast, if_neg (by omega), if_neg (by omega), if_neg (by rw [h1]; decide), nl_size]

/-- One that is too long. -/
theorem vb_long (k : Nat) (hk : 200 < k) (hk2 : k ≤ 1000) : nextD (setW 0 k ++ nlS) = badN ((setW 0 k ++ nlS).size : Int) := by
  rw [next_set 0 k (by decide) (by decide) (by omega) (by omega) _ ByteArray.empty (by simp)]
  unfold valD
  rw [Int.toNat_natCast, if_pos (by omega), nl_size]

/-- Flags that are too great. -/
theorem vb_flags (k : Nat) (v : ByteArray) (hv : v.size = k) (hk : k ≤ 200) : nextD (((setW 70000 k ++ nlS) ++ v) ++ nlS) = badN (((setW 70000 k ++ nlS).size + k + 1 : Nat) : Int) := by
  rw [next_set 70000 k (by decide) (by decide) (by omega) (by omega) _ (v ++ nlS) (by rw [ByteArray.append_assoc])]
  have h1 : (((setW 70000 k ++ nlS) ++ v) ++ nlS).data.toList.getD ((setW 70000 k ++ nlS).size + v.size) 0 = 10 := byte_behind (setW 70000 k ++ nlS) v 10
  have h2 := extract_mid (setW 70000 k ++ nlS) v nlS
  have h3 : (((setW 70000 k ++ nlS) ++ v) ++ nlS).size = (setW 70000 k).size + 1 + k + 1 := by rw [ByteArray.size_append, ByteArray.size_append, nl_size, hv]; rfl
  rw [nl_size, hv] at h1 h2
  unfold valD
  rw [Int.toNat_natCast, if_neg (by omega), if_neg (by omega), if_pos h1, h2]
  unfold chkD
  rw [if_neg (set_check70 v (by omega)), nl_size]

theorem dec0 : (decS 0).data.toList = [48] := by
  rw [decS_nat 0 (by decide)]
  simp [Lib.decDigits]
theorem dec70 : (decS 70000).data.toList = [55, 48, 48, 48, 48] := by
  rw [decS_nat 70000 (by decide)]
  simp [Lib.decDigits]
theorem set_text (k : Int) : (⟨#[115, 101, 116, 32, 97, 32, 48, 32, 48, 32]⟩ : ByteArray) ++ decS k = setW 0 k := by
  apply ByteArray.ext
  apply Array.toList_inj.1
  unfold setW
  rw [words_data, append_data]
  simp only [List.map_cons, List.map_nil, dec0]
  simp [Lib.joinTail, nameS, nameL, aS]
theorem set_text70 (k : Int) : (⟨#[115, 101, 116, 32, 97, 32, 55, 48, 48, 48, 48, 32, 48, 32]⟩ : ByteArray) ++ decS k = setW 70000 k := by
  apply ByteArray.ext
  apply Array.toList_inj.1
  unfold setW
  rw [words_data, append_data]
  simp only [List.map_cons, List.map_nil, dec0, dec70]
  simp [Lib.joinTail, nameS, nameL, aS]
theorem repS_size (x : ByteArray) (c : Nat) : (repS x c).size = c * x.size := Lib.repeatL_length x.data.toList c
end Go.Proofs.YtkjfkonekajffaaDoor
