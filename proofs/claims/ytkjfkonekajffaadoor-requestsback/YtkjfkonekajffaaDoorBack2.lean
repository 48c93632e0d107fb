/- What a line says that wire.Encode wrote: the request. -/
import Derived.Test.YtkjfkonekajffaaDoorBack
import Derived.Test.YtkjfkonekajffaaDoorFault
namespace Go.Proofs.YtkjfkonekajffaaDoor
open Go.ChangeShapes Go.WideShapes Go.ChangeAt Go.RowKit
set_option linter.unusedVariables false
set_option linter.unusedSimpArgs false

theorem check_facts (kind : Int) (key : ByteArray) (keys : List ByteArray) (flags exp nn : Int) (value : ByteArray) (quiet : Bool) (h : checkN kind key keys flags exp nn value quiet = 0) : inB kind 1 13 = true ∧ keysOK kind keys = true ∧ keyBad kind key = false ∧ fieldsBad kind flags exp value = false ∧ nBad kind nn = false ∧ quietBad kind quiet = false ∧ rangeBad flags exp nn = false ∧ value.size ≤ 200 := by
  rw [check_eq] at h
  cases h1 : inB kind 1 13 <;> rw [h1] at h
  · simp at h
  cases h2 : keysOK kind keys <;> rw [h2] at h
  · simp at h
  cases h3 : keyBad kind key <;> rw [h3] at h
  case true => simp at h
  cases h4 : fieldsBad kind flags exp value <;> rw [h4] at h
  case true => simp at h
  cases h5 : nBad kind nn <;> rw [h5] at h
  case true => simp at h
  cases h6 : quietBad kind quiet <;> rw [h6] at h
  case true => simp at h
  cases h7 : rangeBad flags exp nn <;> rw [h7] at h
  case true => simp at h
  simp at h
  exact ⟨rfl, rfl, rfl, rfl, rfl, rfl, rfl, h⟩

theorem lineRest_of (k : Nat) (L : List ByteArray) (quiet : Bool) (hL : L.length = mustN k) : lineRest k (L ++ (if quiet = true then [quietS] else [])) = match numsD (if inB k 2 11 = true then L.tail else L) with
    | none => none
    | some vs => some (fillD k (if inB k 2 11 = true then L.getD 0 ByteArray.empty else ByteArray.empty) quiet vs) := by
  have hq : lineQ k (L ++ (if quiet = true then [quietS] else [])) = quiet := by
    unfold lineQ
    cases quiet
    · simp [hL]
    · have e1 : (L ++ [quietS]).length = mustN k + 1 := by simp [hL]
      have e2 : (L ++ [quietS]).getD (mustN k) ByteArray.empty = quietS := by rw [← hL]; simp [List.getD_eq_getElem?_getD]
      simp only [if_true, e1, e2, decide_true, Bool.and_true]
  have hu : lineU k (L ++ (if quiet = true then [quietS] else [])) = L := by
    unfold lineU
    rw [hq]
    cases quiet
    · simp
    · simp only [if_true]
      rw [← hL]
      simp
  unfold lineRest
  rw [hu, hq, if_pos hL]
  cases numsD (if inB k 2 11 = true then L.tail else L) <;> rfl

theorem kind_name (k : Nat) (h1 : 1 ≤ k) (h2 : k ≤ 12) : kindD (nameS k) = k := by
  have : ∀ k : Fin 13, 1 ≤ k.val → kindD (nameS k.val) = k.val := by decide
  exact this ⟨k, by omega⟩ h1

/-- The request that a line says. -/
def lineRof (kind : Int) (key : ByteArray) (keys : List ByteArray) (flags exp nn : Int) (value : ByteArray) (quiet : Bool) : LineR := { kind := kind, key := key, keys := keys, flags := flags, exp := exp, nn := nn, quiet := quiet, size := if inB kind 2 7 = true then (value.size : Int) else 0 }

theorem range_facts (flags exp nn : Int) (h : rangeBad flags exp nn = false) : 0 ≤ flags ∧ flags ≤ 65535 ∧ 0 ≤ exp ∧ exp ≤ 1099511627776 ∧ 0 ≤ nn ∧ nn ≤ 1099511627776 := by
  unfold rangeBad inB at h
  simp at h
  omega

theorem numsD_one (a : Int) (h0 : 0 ≤ a) (h1 : a ≤ 1099511627776) : numsD [decS a] = some [a] := by
  simp only [numsD]
  rw [numD_dec a h0 h1]
theorem numsD_cons (a : Int) (r : List ByteArray) (vs : List Int) (h0 : 0 ≤ a) (h1 : a ≤ 1099511627776) (h : numsD r = some vs) : numsD (decS a :: r) = some (a :: vs) := by
  rw [numsD, numD_dec a h0 h1, h]

theorem empty_of (s : ByteArray) (h : s.toList.isEmpty = true) : s = ⟨#[]⟩ := by
  rw [isEmpty_of] at h
  have h2 : s.size = 0 := by simpa using h
  apply ByteArray.ext
  apply Array.eq_empty_of_size_eq_zero
  exact h2

set_option maxHeartbeats 1000000 in
theorem lineD_enc (kind : Int) (key : ByteArray) (keys : List ByteArray) (flags exp nn : Int) (value : ByteArray) (quiet : Bool) (h : checkN kind key keys flags exp nn value quiet = 0) (h13 : kind ≠ 13) : lineD (nameS kind.toNat :: tailL kind key keys flags exp nn value quiet) = some (lineRof kind key keys flags exp nn value quiet) := by
  obtain ⟨f1, f2, f3, f4, f5, f6, f7, f8⟩ := check_facts kind key keys flags exp nn value quiet h
  obtain ⟨r1, r2, r3, r4, r5, r6⟩ := range_facts flags exp nn f7
  have hk : 1 ≤ kind ∧ kind ≤ 12 := by unfold inB at f1; simp at f1; omega
  obtain ⟨k, rfl⟩ : ∃ k : Nat, kind = (k : Int) := ⟨kind.toNat, by omega⟩
  have hkn := kind_name k (by omega) (by omega)
  rw [Int.toNat_natCast]
  unfold lineD
  rw [show (nameS k :: tailL (k : Int) key keys flags exp nn value quiet).getD 0 ByteArray.empty = nameS k from rfl, hkn, if_neg (by omega), List.tail_cons]
  by_cases h1 : k = 1
  · subst h1
    rw [if_pos rfl]
    have hq : quiet = false := by unfold quietBad at f6; simpa using f6
    have hky : key = ⟨#[]⟩ := by
      unfold keyBad at f3
      have : inB ((1 : Nat) : Int) 2 11 = false := by decide
      rw [this] at f3
      exact empty_of key (by simpa using f3)
    have hfe : flags = 0 ∧ exp = 0 := by
      unfold fieldsBad at f4
      have : inB ((1 : Nat) : Int) 2 7 = false := by decide
      rw [this] at f4
      simp at f4
      omega
    have hn : nn = 0 := by unfold nBad at f5; simpa using f5
    subst hq hky hn
    obtain ⟨rfl, rfl⟩ := hfe
    unfold tailL lineRof
    simp [show inB 1 2 11 = false by decide, show inB 1 2 7 = false by decide, show hasNB 1 = false by decide]
    rfl
  · rw [if_neg h1]
    have hks : keys = [] := by
      unfold keysOK at f2
      rw [if_neg (by omega)] at f2
      simpa using f2
    subst hks
    have kk : k = 2 ∨ k = 3 ∨ k = 4 ∨ k = 5 ∨ k = 6 ∨ k = 7 ∨ k = 8 ∨ k = 9 ∨ k = 10 ∨ k = 11 ∨ k = 12 := by omega
    rcases kk with rfl | rfl | rfl | rfl | rfl | rfl | rfl | rfl | rfl | rfl | rfl
    · -- kind 2
      have c1 : inB ((2 : Nat) : Int) 2 7 = true := by decide
      have c2 : inB ((2 : Nat) : Int) 2 11 = true := by decide
      have c3 : hasNB ((2 : Nat) : Int) = false := by decide
      have c4 : (((2 : Nat) : Int) = 11) = False := by simp
      have hnz : nn = 0 := by unfold nBad at f5; simpa using f5
      subst hnz
      have et : tailL ((2 : Nat) : Int) key [] flags exp 0 value quiet = [key, decS flags, decS exp, decS value.size] ++ (if quiet = true then [quietS] else []) := by
        unfold tailL
        simp only [c1, c2, c3, c4, if_true, if_false, Bool.false_eq_true, List.nil_append, List.append_nil, List.cons_append, List.append_assoc]
      rw [et, lineRest_of 2 [key, decS flags, decS exp, decS value.size] quiet rfl, c2]
      have en : numsD [decS flags, decS exp, decS value.size] = some [flags, exp, (value.size : Int)] := numsD_cons flags _ _ r1 (by omega) (numsD_cons exp _ _ r3 r4 (numsD_one value.size (Int.natCast_nonneg _) (by omega)))
      simp only [if_true, List.tail_cons, en, Bool.false_eq_true, if_false]
      unfold lineRof
      rw [c1]
      rfl
    · -- kind 3
      have c1 : inB ((3 : Nat) : Int) 2 7 = true := by decide
      have c2 : inB ((3 : Nat) : Int) 2 11 = true := by decide
      have c3 : hasNB ((3 : Nat) : Int) = false := by decide
      have c4 : (((3 : Nat) : Int) = 11) = False := by simp
      have hnz : nn = 0 := by unfold nBad at f5; simpa using f5
      subst hnz
      have et : tailL ((3 : Nat) : Int) key [] flags exp 0 value quiet = [key, decS flags, decS exp, decS value.size] ++ (if quiet = true then [quietS] else []) := by
        unfold tailL
        simp only [c1, c2, c3, c4, if_true, if_false, Bool.false_eq_true, List.nil_append, List.append_nil, List.cons_append, List.append_assoc]
      rw [et, lineRest_of 3 [key, decS flags, decS exp, decS value.size] quiet rfl, c2]
      have en : numsD [decS flags, decS exp, decS value.size] = some [flags, exp, (value.size : Int)] := numsD_cons flags _ _ r1 (by omega) (numsD_cons exp _ _ r3 r4 (numsD_one value.size (Int.natCast_nonneg _) (by omega)))
      simp only [if_true, List.tail_cons, en, Bool.false_eq_true, if_false]
      unfold lineRof
      rw [c1]
      rfl
    · -- kind 4
      have c1 : inB ((4 : Nat) : Int) 2 7 = true := by decide
      have c2 : inB ((4 : Nat) : Int) 2 11 = true := by decide
      have c3 : hasNB ((4 : Nat) : Int) = false := by decide
      have c4 : (((4 : Nat) : Int) = 11) = False := by simp
      have hnz : nn = 0 := by unfold nBad at f5; simpa using f5
      subst hnz
      have et : tailL ((4 : Nat) : Int) key [] flags exp 0 value quiet = [key, decS flags, decS exp, decS value.size] ++ (if quiet = true then [quietS] else []) := by
        unfold tailL
        simp only [c1, c2, c3, c4, if_true, if_false, Bool.false_eq_true, List.nil_append, List.append_nil, List.cons_append, List.append_assoc]
      rw [et, lineRest_of 4 [key, decS flags, decS exp, decS value.size] quiet rfl, c2]
      have en : numsD [decS flags, decS exp, decS value.size] = some [flags, exp, (value.size : Int)] := numsD_cons flags _ _ r1 (by omega) (numsD_cons exp _ _ r3 r4 (numsD_one value.size (Int.natCast_nonneg _) (by omega)))
      simp only [if_true, List.tail_cons, en, Bool.false_eq_true, if_false]
      unfold lineRof
      rw [c1]
      rfl
    · -- kind 5
      have c1 : inB ((5 : Nat) : Int) 2 7 = true := by decide
      have c2 : inB ((5 : Nat) : Int) 2 11 = true := by decide
      have c3 : hasNB ((5 : Nat) : Int) = false := by decide
      have c4 : (((5 : Nat) : Int) = 11) = False := by simp
      have hnz : nn = 0 := by unfold nBad at f5; simpa using f5
      subst hnz
      have et : tailL ((5 : Nat) : Int) key [] flags exp 0 value quiet = [key, decS flags, decS exp, decS value.size] ++ (if quiet = true then [quietS] else []) := by
        unfold tailL
        simp only [c1, c2, c3, c4, if_true, if_false, Bool.false_eq_true, List.nil_append, List.append_nil, List.cons_append, List.append_assoc]
      rw [et, lineRest_of 5 [key, decS flags, decS exp, decS value.size] quiet rfl, c2]
      have en : numsD [decS flags, decS exp, decS value.size] = some [flags, exp, (value.size : Int)] := numsD_cons flags _ _ r1 (by omega) (numsD_cons exp _ _ r3 r4 (numsD_one value.size (Int.natCast_nonneg _) (by omega)))
      simp only [if_true, List.tail_cons, en, Bool.false_eq_true, if_false]
      unfold lineRof
      rw [c1]
      rfl
    · -- kind 6
      have c1 : inB ((6 : Nat) : Int) 2 7 = true := by decide
      have c2 : inB ((6 : Nat) : Int) 2 11 = true := by decide
      have c3 : hasNB ((6 : Nat) : Int) = false := by decide
      have c4 : (((6 : Nat) : Int) = 11) = False := by simp
      have hnz : nn = 0 := by unfold nBad at f5; simpa using f5
      subst hnz
      have et : tailL ((6 : Nat) : Int) key [] flags exp 0 value quiet = [key, decS flags, decS exp, decS value.size] ++ (if quiet = true then [quietS] else []) := by
        unfold tailL
        simp only [c1, c2, c3, c4, if_true, if_false, Bool.false_eq_true, List.nil_append, List.append_nil, List.cons_append, List.append_assoc]
      rw [et, lineRest_of 6 [key, decS flags, decS exp, decS value.size] quiet rfl, c2]
      have en : numsD [decS flags, decS exp, decS value.size] = some [flags, exp, (value.size : Int)] := numsD_cons flags _ _ r1 (by omega) (numsD_cons exp _ _ r3 r4 (numsD_one value.size (Int.natCast_nonneg _) (by omega)))
      simp only [if_true, List.tail_cons, en, Bool.false_eq_true, if_false]
      unfold lineRof
      rw [c1]
      rfl
    · -- kind 7
      have c1 : inB ((7 : Nat) : Int) 2 7 = true := by decide
      have c2 : inB ((7 : Nat) : Int) 2 11 = true := by decide
      have c3 : hasNB ((7 : Nat) : Int) = true := by decide
      have c4 : (((7 : Nat) : Int) = 11) = False := by simp
      have et : tailL ((7 : Nat) : Int) key [] flags exp nn value quiet = [key, decS flags, decS exp, decS value.size, decS nn] ++ (if quiet = true then [quietS] else []) := by
        unfold tailL
        simp only [c1, c2, c3, c4, if_true, if_false, Bool.false_eq_true, List.nil_append, List.append_nil, List.cons_append, List.append_assoc]
      rw [et, lineRest_of 7 [key, decS flags, decS exp, decS value.size, decS nn] quiet rfl, c2]
      have en : numsD [decS flags, decS exp, decS value.size, decS nn] = some [flags, exp, (value.size : Int), nn] := numsD_cons flags _ _ r1 (by omega) (numsD_cons exp _ _ r3 r4 (numsD_cons value.size _ _ (Int.natCast_nonneg _) (by omega) (numsD_one nn r5 r6)))
      simp only [if_true, List.tail_cons, en, Bool.false_eq_true, if_false]
      unfold lineRof
      rw [c1]
      rfl
    · -- kind 8
      have c1 : inB ((8 : Nat) : Int) 2 7 = false := by decide
      have c2 : inB ((8 : Nat) : Int) 2 11 = true := by decide
      have c3 : hasNB ((8 : Nat) : Int) = false := by decide
      have c4 : (((8 : Nat) : Int) = 11) = False := by simp
      have hfl : flags = 0 := by unfold fieldsBad at f4; rw [c1] at f4; simp at f4; omega
      have hex : exp = 0 := by unfold fieldsBad at f4; rw [c1] at f4; simp at f4; omega
      have hnz : nn = 0 := by unfold nBad at f5; simpa using f5
      subst hfl hex hnz
      have et : tailL ((8 : Nat) : Int) key [] 0 0 0 value quiet = [key] ++ (if quiet = true then [quietS] else []) := by
        unfold tailL
        simp only [c1, c2, c3, c4, if_true, if_false, Bool.false_eq_true, List.nil_append, List.append_nil, List.cons_append, List.append_assoc]
      rw [et, lineRest_of 8 [key] quiet rfl, c2]
      have en : numsD [] = some [] := rfl
      simp only [if_true, List.tail_cons, en, Bool.false_eq_true, if_false]
      unfold lineRof
      rw [c1]
      rfl
    · -- kind 9
      have c1 : inB ((9 : Nat) : Int) 2 7 = false := by decide
      have c2 : inB ((9 : Nat) : Int) 2 11 = true := by decide
      have c3 : hasNB ((9 : Nat) : Int) = true := by decide
      have c4 : (((9 : Nat) : Int) = 11) = False := by simp
      have hfl : flags = 0 := by unfold fieldsBad at f4; rw [c1] at f4; simp at f4; omega
      have hex : exp = 0 := by unfold fieldsBad at f4; rw [c1] at f4; simp at f4; omega
      subst hfl hex
      have et : tailL ((9 : Nat) : Int) key [] 0 0 nn value quiet = [key, decS nn] ++ (if quiet = true then [quietS] else []) := by
        unfold tailL
        simp only [c1, c2, c3, c4, if_true, if_false, Bool.false_eq_true, List.nil_append, List.append_nil, List.cons_append, List.append_assoc]
      rw [et, lineRest_of 9 [key, decS nn] quiet rfl, c2]
      have en : numsD [decS nn] = some [nn] := numsD_one nn r5 r6
      simp only [if_true, List.tail_cons, en, Bool.false_eq_true, if_false]
      unfold lineRof
      rw [c1]
      rfl
    · -- kind 10
      have c1 : inB ((10 : Nat) : Int) 2 7 = false := by decide
      have c2 : inB ((10 : Nat) : Int) 2 11 = true := by decide
      have c3 : hasNB ((10 : Nat) : Int) = true := by decide
      have c4 : (((10 : Nat) : Int) = 11) = False := by simp
      have hfl : flags = 0 := by unfold fieldsBad at f4; rw [c1] at f4; simp at f4; omega
      have hex : exp = 0 := by unfold fieldsBad at f4; rw [c1] at f4; simp at f4; omega
      subst hfl hex
      have et : tailL ((10 : Nat) : Int) key [] 0 0 nn value quiet = [key, decS nn] ++ (if quiet = true then [quietS] else []) := by
        unfold tailL
        simp only [c1, c2, c3, c4, if_true, if_false, Bool.false_eq_true, List.nil_append, List.append_nil, List.cons_append, List.append_assoc]
      rw [et, lineRest_of 10 [key, decS nn] quiet rfl, c2]
      have en : numsD [decS nn] = some [nn] := numsD_one nn r5 r6
      simp only [if_true, List.tail_cons, en, Bool.false_eq_true, if_false]
      unfold lineRof
      rw [c1]
      rfl
    · -- kind 11
      have c1 : inB ((11 : Nat) : Int) 2 7 = false := by decide
      have c2 : inB ((11 : Nat) : Int) 2 11 = true := by decide
      have c3 : hasNB ((11 : Nat) : Int) = false := by decide
      have c4 : (((11 : Nat) : Int) = 11) = True := by simp
      have hfl : flags = 0 := by unfold fieldsBad at f4; rw [c1] at f4; simp at f4; omega
      have hnz : nn = 0 := by unfold nBad at f5; simpa using f5
      subst hfl hnz
      have et : tailL ((11 : Nat) : Int) key [] 0 exp 0 value quiet = [key, decS exp] ++ (if quiet = true then [quietS] else []) := by
        unfold tailL
        simp only [c1, c2, c3, c4, if_true, if_false, Bool.false_eq_true, List.nil_append, List.append_nil, List.cons_append, List.append_assoc]
      rw [et, lineRest_of 11 [key, decS exp] quiet rfl, c2]
      have en : numsD [decS exp] = some [exp] := numsD_one exp r3 r4
      simp only [if_true, List.tail_cons, en, Bool.false_eq_true, if_false]
      unfold lineRof
      rw [c1]
      rfl
    · -- kind 12
      have c1 : inB ((12 : Nat) : Int) 2 7 = false := by decide
      have c2 : inB ((12 : Nat) : Int) 2 11 = false := by decide
      have c3 : hasNB ((12 : Nat) : Int) = false := by decide
      have c4 : (((12 : Nat) : Int) = 11) = False := by simp
      have hfl : flags = 0 := by unfold fieldsBad at f4; rw [c1] at f4; simp at f4; omega
      have hex : exp = 0 := by unfold fieldsBad at f4; rw [c1] at f4; simp at f4; omega
      have hnz : nn = 0 := by unfold nBad at f5; simpa using f5
      have hkz : key = ⟨#[]⟩ := by unfold keyBad at f3; rw [c2] at f3; exact empty_of key (by simpa using f3)
      subst hfl hex hnz hkz
      have et : tailL ((12 : Nat) : Int) ⟨#[]⟩ [] 0 0 0 value quiet = [] ++ (if quiet = true then [quietS] else []) := by
        unfold tailL
        simp only [c1, c2, c3, c4, if_true, if_false, Bool.false_eq_true, List.nil_append, List.append_nil, List.cons_append, List.append_assoc]
      rw [et, lineRest_of 12 [] quiet rfl, c2]
      have en : numsD [] = some [] := rfl
      simp only [if_true, List.tail_cons, en, Bool.false_eq_true, if_false]
      unfold lineRof
      rw [c1]
      rfl
end Go.Proofs.YtkjfkonekajffaaDoor
