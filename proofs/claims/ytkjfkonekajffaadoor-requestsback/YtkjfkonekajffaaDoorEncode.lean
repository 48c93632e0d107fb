/- The contract of wire.Encode: the text of a request, or why there is none. -/
import Derived.Test.YtkjfkonekajffaaDoorLineWords
import Derived.Test.YtkjfkonekajffaaDoorFault
namespace Go.Proofs.YtkjfkonekajffaaDoor
open Go.ChangeShapes Go.WideShapes Go.ChangeAt Go.RowKit
set_option linter.unusedVariables false

def blankS : ByteArray := ⟨#[32]⟩
def nlS : ByteArray := ⟨#[10]⟩

/-- Words behind a text, a blank ahead of each. -/
def wordsS : ByteArray → List ByteArray → ByteArray
  | s, [] => s
  | s, x :: r => wordsS ((s ++ blankS) ++ x) r

theorem wordsS_append : ∀ (a b : List ByteArray) (s : ByteArray), wordsS s (a ++ b) = wordsS (wordsS s a) b
  | [], _, _ => rfl
  | x :: r, b, s => by
    show wordsS ((s ++ blankS) ++ x) (r ++ b) = _
    rw [wordsS_append r b]
    rfl

theorem wordsS_size : ∀ (l : List ByteArray) (s : ByteArray), (∀ x ∈ l, x.size ≤ 20) → (wordsS s l).size ≤ s.size + l.length * 21
  | [], s, _ => by simp [wordsS]
  | x :: r, s, h => by
    have h1 := h x (by simp)
    have := wordsS_size r ((s ++ blankS) ++ x) (fun y hy => h y (by simp [hy]))
    show (wordsS ((s ++ blankS) ++ x) r).size ≤ _
    simp [ByteArray.size_append] at this ⊢
    have hb : blankS.size = 1 := rfl
    rw [hb] at this
    rw [Nat.add_mul]
    omega

theorem join_words : ∀ (r : List ByteArray) (x : ByteArray), (⟨(Lib.join ((x :: r).map (·.data.toList)) blankS.data.toList).toArray⟩ : ByteArray) = wordsS x r
  | [], x => by
    simp [Lib.join_one, wordsS]
  | y :: r, x => by
    have ih := join_words r ((x ++ blankS) ++ y)
    show _ = wordsS ((x ++ blankS) ++ y) r
    rw [← ih]
    simp only [List.map_cons, Lib.join_cons]
    have e : ((x ++ blankS) ++ y).data.toList = x.data.toList ++ (blankS.data.toList ++ y.data.toList) := by simp
    rw [e]
    simp [Lib.joinTail]

/-- What wire.Check lets by. -/
theorem check_ok (kind : Int) (key : ByteArray) (keys : List ByteArray) (flags exp nn : Int) (value : ByteArray) (quiet : Bool) (h : checkN kind key keys flags exp nn value quiet = 0) :
    1 ≤ kind ∧ kind ≤ 13 ∧ keysFitB kind key keys = true ∧ fieldsFitB kind flags exp nn value quiet = true ∧ 0 ≤ flags ∧ flags ≤ 65535 ∧ 0 ≤ exp ∧ exp ≤ 1099511627776 ∧ 0 ≤ nn ∧ nn ≤ 1099511627776 ∧ value.size ≤ 200 := by
  unfold checkN at h
  by_cases h1 : inB kind 1 13 = false
  · rw [if_pos h1] at h; omega
  rw [if_neg h1] at h
  by_cases h2 : keysFitB kind key keys = false
  · rw [if_pos h2] at h; omega
  rw [if_neg h2] at h
  by_cases h3 : fieldsFitB kind flags exp nn value quiet = false
  · rw [if_pos h3] at h; omega
  rw [if_neg h3] at h
  by_cases h4 : (outB flags 65535 || (outB exp 1099511627776 || outB nn 1099511627776)) = true
  · rw [if_pos h4] at h; omega
  rw [if_neg h4] at h
  by_cases h5 : 200 < value.size
  · rw [if_pos h5] at h; omega
  unfold inB at h1
  unfold outB at h4
  simp at h1 h2 h3 h4
  exact ⟨h1.1, h1.2, h2, h3, by omega, by omega, by omega, by omega, by omega, by omega, by omega⟩

theorem keyB_size (s : ByteArray) (h : keyB s = true) : s.size ≤ 20 ∧ 1 ≤ s.size := by
  unfold keyB inB at h
  simp at h
  omega

theorem keys_ok (kind : Int) (key : ByteArray) (keys : List ByteArray) (h : keysFitB kind key keys = true) : keys.length ≤ 10 ∧ (∀ x ∈ keys, x.size ≤ 20) ∧ key.size ≤ 20 := by
  rw [keysFit_eq] at h
  simp at h
  obtain ⟨h1, h2⟩ := h
  unfold keysOK at h1
  unfold keyBad at h2
  refine ⟨?_, ?_, ?_⟩
  · split at h1
    · unfold inB at h1; simp at h1; omega
    · simp at h1; simp [h1]
  · split at h1
    · simp at h1
      intro x hx
      have := List.any_eq_false.1 h1.2 x hx
      simp at this
      exact (keyB_size x this).1
    · simp at h1; simp [h1]
  · cases hh : inB kind 2 11
    · rw [hh] at h2
      simp at h2
      have : key.toList.length = 0 := by simp [h2]
      have e : key.toList.length = key.size := by rw [ByteArray.toList_eq]; rfl
      omega
    · rw [hh] at h2
      simp at h2
      exact (keyB_size key h2).1

theorem name_size (k : Nat) : (nameS k).size ≤ 20 := by
  by_cases h : k < 13
  · have : ∀ k : Fin 13, (nameS k.val).size ≤ 20 := by decide +kernel
    exact this ⟨k, h⟩
  · unfold nameS
    rw [List.getD_eq_getElem?_getD, List.getElem?_eq_none (by simp [nameL]; omega)]
    exact Nat.zero_le _

/-- The words behind a line's name. -/
def tailL (kind : Int) (key : ByteArray) (keys : List ByteArray) (flags exp nn : Int) (value : ByteArray) (quiet : Bool) : List ByteArray :=
  keys ++ (if inB kind 2 11 = true then [key] else []) ++ (if inB kind 2 7 = true then [decS flags, decS exp, decS value.size] else []) ++ (if hasNB kind = true then [decS nn] else []) ++
    (if kind = 11 then [decS exp] else []) ++ (if quiet = true then [quietS] else [])

theorem lineL_eq (kind : Int) (key : ByteArray) (keys : List ByteArray) (flags exp nn : Int) (value : ByteArray) (quiet : Bool) : lineL kind key keys flags exp nn value quiet = nameS kind.toNat :: tailL kind key keys flags exp nn value quiet := by
  unfold lineL tailL
  simp

theorem tail_sizes (kind : Int) (key : ByteArray) (keys : List ByteArray) (flags exp nn : Int) (value : ByteArray) (quiet : Bool) (h : checkN kind key keys flags exp nn value quiet = 0) : (tailL kind key keys flags exp nn value quiet).length ≤ 20 ∧ ∀ x ∈ tailL kind key keys flags exp nn value quiet, x.size ≤ 20 := by
  obtain ⟨_, _, hk, _, h1, h2, h3, h4, h5, h6, h7⟩ := check_ok _ _ _ _ _ _ _ _ h
  obtain ⟨k1, k2, k3⟩ := keys_ok _ _ _ hk
  have d1 := decS_size flags (by omega) (by omega)
  have d2 := decS_size exp (by omega) (by omega)
  have d3 := decS_size nn (by omega) (by omega)
  have d4 := decS_size (value.size : Int) (by omega) (by omega)
  unfold tailL
  constructor
  · simp only [List.length_append]
    have a1 : (if inB kind 2 11 = true then [key] else []).length ≤ 1 := by split <;> simp
    have a2 : (if inB kind 2 7 = true then [decS flags, decS exp, decS value.size] else []).length ≤ 3 := by split <;> simp
    have a3 : (if hasNB kind = true then [decS nn] else []).length ≤ 1 := by split <;> simp
    have a4 : (if kind = 11 then [decS exp] else []).length ≤ 1 := by split <;> simp
    have a5 : (if quiet = true then [quietS] else []).length ≤ 1 := by split <;> simp
    omega
  · intro x hx
    simp only [List.mem_append] at hx
    rcases hx with ((((hx | hx) | hx) | hx) | hx) | hx
    · exact k2 x hx
    · split at hx
      · simp at hx; subst hx; exact k3
      · simp at hx
    · split at hx
      · simp at hx; rcases hx with rfl | rfl | rfl <;> assumption
      · simp at hx
    · split at hx
      · simp at hx; subst hx; exact d3
      · simp at hx
    · split at hx
      · simp at hx; subst hx; exact d2
      · simp at hx
    · split at hx
      · simp at hx; subst hx; decide
      · simp at hx

/-- The text of a request that may be, and is none of Bad. -/
def textS (kind : Int) (key : ByteArray) (keys : List ByteArray) (flags exp nn : Int) (value : ByteArray) (quiet : Bool) : ByteArray :=
  if inB kind 2 7 = true then (wordsS (nameS kind.toNat) (tailL kind key keys flags exp nn value quiet) ++ nlS) ++ (value ++ nlS) else wordsS (nameS kind.toNat) (tailL kind key keys flags exp nn value quiet) ++ nlS

/-- The number that wire.Encode answers. -/
def encN (kind : Int) (key : ByteArray) (keys : List ByteArray) (flags exp nn : Int) (value : ByteArray) (quiet : Bool) : Int :=
  if checkN kind key keys flags exp nn value quiet = 0 then (if kind = 13 then 3 else 0) else checkN kind key keys flags exp nn value quiet
def encS (kind : Int) (key : ByteArray) (keys : List ByteArray) (flags exp nn : Int) (value : ByteArray) (quiet : Bool) : ByteArray :=
  if encN kind key keys flags exp nn value quiet = 0 then textS kind key keys flags exp nn value quiet else ⟨#[]⟩

theorem ret_tuple {a b : ByteArray} {n m : Int} (h1 : a = b) (h2 : n = m) : Ending.returned (.tuple #[.string a, .int .i64 n]) = .returned (.tuple #[.string b, .int .i64 m]) := by rw [h1, h2]

set_option maxHeartbeats 2000000 in
set_option maxRecDepth 100000 in
theorem encode_any (kind : Int) (key : ByteArray) (ka : Option Addr) (kn kc : Nat) (keys : List ByteArray) (flags exp nn : Int) (value : ByteArray) (quiet : Bool) (w : World) (hL : LaidW w) (hK : StrsAt w ka kn keys) (hk : key.size ≤ maxLen) (hv : value.size ≤ maxLen) :
    Calls Tryd.prog 13 #[.agg #[.int .i64 kind, .string key, .slice ka kn kc, .int .i64 flags, .int .i64 exp, .int .i64 nn, .string value, .bool quiet]] w fun e w' => e = .returned (.tuple #[.string (encS kind key keys flags exp nn value quiet), .int .i64 (encN kind key keys flags exp nn value quiet)]) ∧ Below w.heap.size w w' := by
  obtain rfl : keys.length = kn := hK.1
  have hc1 := fun (w1 : World) (hb : Below w.heap.size w w1) => check_any kind key ka keys.length kc keys flags exp nn value quiet w1 (hK.later hb) hk hv
  have hB0 : Below w.heap.size w (w.alloc (.cells #[.int .i64 kind, .string key, .slice ka keys.length kc, .int .i64 flags, .int .i64 exp, .int .i64 nn, .string value, .bool quiet] 24)) := (Below.refl _ _).alloc (Nat.le_refl _) _
  by_cases h0 : checkN kind key keys flags exp nn value quiet = 0
  · obtain ⟨r1, r2, r3, r4, f0, f1, e0, e1, n0, n1, v1⟩ := check_ok _ _ _ _ _ _ _ _ h0
    obtain ⟨k1, k2, k3⟩ := keys_ok _ _ _ r3
    obtain ⟨t1, t2⟩ := tail_sizes _ _ _ _ _ _ _ _ h0
    by_cases h13 : kind = 13
    · have EN : Hid (encN kind key keys flags exp nn value quiet = 3) := by unfold Hid encN; rw [if_pos h0, if_pos h13]
      have ES : Hid (encS kind key keys flags exp nn value quiet = ⟨#[]⟩) := by unfold Hid encS; rw [EN.out, if_neg (by decide)]
      have h13' : (kind == 13) = true := by simp [h13]
      rw [h0] at hc1
      clear h13 h0 r3 r4 t1 t2 k1 k2 k3
      go_enter Tryd.func13, Tryd.ntmps13
      go_wp2_with fail
      refine (hc1 _ hB0).mono ?_
      rintro e w1 ⟨rfl, hb⟩
      obtain ⟨q1, q2⟩ := bcell hb
      have hz := bsize hb
      go_wp2
      go_ret2
      exact ⟨ret_tuple ES.out.symm EN.out.symm, hB0.trans (hb.mono (by simp))⟩
    · have EN : Hid (encN kind key keys flags exp nn value quiet = 0) := by unfold Hid encN; rw [if_pos h0, if_neg h13]
      have ES : encS kind key keys flags exp nn value quiet = textS kind key keys flags exp nn value quiet := by unfold encS; rw [EN.out, if_pos rfl]
      have h13' : (kind == 13) = false := by simp [h13]
      have hlw := fun (w1 : World) (hb : Below w.heap.size w w1) => lineWords_any kind key ka keys.length kc keys flags exp nn value quiet w1 (hL.later hb) r1 (by omega) (hK.later hb) (by omega) f0 f1 e0 e1 n0 n1 hv
      have LE := lineL_eq kind key keys flags exp nn value quiet
      have WS := wordsS_size (tailL kind key keys flags exp nn value quiet) (nameS kind.toNat) t2
      have NS := name_size kind.toNat
      have JW := join_words (tailL kind key keys flags exp nn value quiet) (nameS kind.toNat)
      have TX : Hid (textS kind key keys flags exp nn value quiet = if inB kind 2 7 = true then (wordsS (nameS kind.toNat) (tailL kind key keys flags exp nn value quiet) ++ nlS) ++ (value ++ nlS) else wordsS (nameS kind.toNat) (tailL kind key keys flags exp nn value quiet) ++ nlS) := rfl
      rw [← LE] at JW
      rw [ES]
      rw [h0] at hc1
      have hll : (lineL kind key keys flags exp nn value quiet).length ≤ 21 := by rw [LE]; simp; omega
      generalize lineL kind key keys flags exp nn value quiet = LL at *
      generalize wordsS (nameS kind.toNat) (tailL kind key keys flags exp nn value quiet) = TT at *
      have zT : TT.size ≤ 1000 := by omega
      generalize textS kind key keys flags exp nn value quiet = TS at *
      have hjo := fun (bk c : Nat) (w1 : World) (hcells : ∀ (j : Nat) x, LL[j]? = some x → w1.cell? ⟨bk, 0 + j, none⟩ = some (.string x)) (hbk : bk < w1.heap.size) (hcap : LL.length ≤ c) =>
        Tryd.strings_Join bk 0 c LL blankS w1 hcells hbk (by omega) hcap (by
          have : (⟨(Lib.join (LL.map (·.data.toList)) blankS.data.toList).toArray⟩ : ByteArray).size = TT.size := by rw [JW]
          have e2 : (⟨(Lib.join (LL.map (·.data.toList)) blankS.data.toList).toArray⟩ : ByteArray).size = (Lib.join (LL.map (·.data.toList)) blankS.data.toList).length := by simp [ByteArray.size]
          omega)
      rw [JW] at hjo
      have hbv := bringsV_any kind
      clear h13 h0 r3 r4 t1 t2 k1 k2 k3 LE WS NS JW ES
      go_enter Tryd.func13, Tryd.ntmps13
      go_wp2_with fail
      refine (hc1 _ hB0).mono ?_
      rintro e w1 ⟨rfl, hb⟩
      obtain ⟨q1, q2⟩ := bcell hb
      have hz := bsize hb
      have hB1 := hB0.trans (hb.mono (by simp))
      go_wp2_with fail
      refine (hlw _ hB1).mono ?_
      rintro e w2 ⟨g, cap, rfl, hW⟩
      have hb2 : Below w1.heap.size w1 w2 := hW.2
      obtain ⟨s1, s2⟩ := bcell hb2
      have hz2 : w.heap.size < w2.heap.size := Nat.lt_of_lt_of_le hz hb2.size
      have hgl : g < w2.heap.size := (hW.1.lt g rfl).2
      have hcp : LL.length ≤ cap := by
        rcases hW.1.2 with ⟨h, _⟩ | ⟨g', cap', cur, hv', _, _, hle, _⟩
        · cases h
        · cases hv'; exact hle
      have hcl : ∀ (j : Nat) x, LL[j]? = some x → w2.cell? ⟨g, 0 + j, none⟩ = some (.string x) := fun j x hj => by
        have := hW.1.cells (g := g) rfl j (.string x) (by simp [hj])
        rw [WideShapes.add_plain] at this
        exact this
      unfold blankS at hjo
      go_wp2_with fail
      refine (hjo g cap w2 hcl hgl hcp).mono ?_
      rintro e w3 ⟨rfl, hb3⟩
      obtain ⟨p1, p2⟩ := bcell hb3
      have hB3 : Below w.heap.size w w3 := (hB1.trans (hb2.mono hB1.size)).trans (hb3.mono (by have := hB1.size; omega))
      clear hjo hcl hlw hc1
      cases hq : inB kind 2 7
      · rw [hq] at hbv
        have TY : Hid (TS = TT ++ ⟨#[10]⟩) := by have := TX.out; rw [if_neg (by simp [hq])] at this; exact this
        clear hq TX
        go_wp2_with (go_at_call 23; refine (hbv _).mono ?_; rintro e w' ⟨rfl, rfl⟩)
        go_ret2
        exact ⟨ret_tuple TY.out.symm EN.out.symm, hB3⟩
      · rw [hq] at hbv
        have TY : Hid (TS = (TT ++ ⟨#[10]⟩) ++ (value ++ ⟨#[10]⟩)) := by have := TX.out; rw [if_pos hq] at this; exact this
        clear hq TX
        go_wp2_with (go_at_call 23; refine (hbv _).mono ?_; rintro e w' ⟨rfl, rfl⟩)
        go_ret2
        exact ⟨ret_tuple TY.out.symm EN.out.symm, hB3⟩
  · have EN : Hid (encN kind key keys flags exp nn value quiet = checkN kind key keys flags exp nn value quiet) := by unfold Hid encN; rw [if_neg h0]
    have ES : Hid (encS kind key keys flags exp nn value quiet = ⟨#[]⟩) := by unfold Hid encS; rw [EN.out, if_neg h0]
    generalize checkN kind key keys flags exp nn value quiet = C at *
    have hn : (C != 0) = true := by simp [h0]
    clear h0
    go_enter Tryd.func13, Tryd.ntmps13
    go_wp2_with fail
    refine (hc1 _ hB0).mono ?_
    rintro e w1 ⟨rfl, hb⟩
    go_wp2
    go_ret2
    exact ⟨ret_tuple ES.out.symm EN.out.symm, hB0.trans (hb.mono (by simp))⟩
end Go.Proofs.YtkjfkonekajffaaDoor
