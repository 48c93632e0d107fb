/- What wire.Next answers at what wire.Encode wrote, and more behind it. -/
import Derived.Test.YtkjfkonekajffaaDoorBack2
import Derived.Test.YtkjfkonekajffaaDoorNextOf
namespace Go.Proofs.YtkjfkonekajffaaDoor
open Go.ChangeShapes Go.WideShapes Go.ChangeAt Go.RowKit
set_option linter.unusedVariables false
set_option linter.unusedSimpArgs false

/-- A word: no blank, no end of line. -/
def plainW (x : ByteArray) : Prop := ∀ b ∈ x.data.toList, b ≠ 32 ∧ b ≠ 10

theorem append_data (a b : ByteArray) : (a ++ b).data.toList = a.data.toList ++ b.data.toList := by
  rw [ByteArray.data_append, Array.toList_append]

theorem dec_plain (n : Int) (h : 0 ≤ n) : plainW (decS n) := by
  rw [decS_nat n h]
  exact dec_bytes n.toNat

theorem quiet_plain : plainW quietS := by unfold plainW quietS; decide

theorem name_plain (k : Nat) (h : k ≤ 12) : plainW (nameS k) ∧ (nameS k).size ≤ 7 := by
  have : ∀ k : Fin 13, (∀ b ∈ (nameS k.val).data.toList, b ≠ 32 ∧ b ≠ 10) ∧ (nameS k.val).size ≤ 7 := by decide
  exact this ⟨k, by omega⟩

theorem key_plain (x : ByteArray) (h : keyB x = true) : plainW x := by
  unfold keyB anyBad at h
  rw [Bool.and_eq_true] at h
  have h2 : x.data.toList.any badB = false := by simpa using h.2
  rw [List.any_eq_false] at h2
  intro b hb
  have h3 := h2 b hb
  unfold badB at h3
  have h32 : (32 : UInt8).toNat = 32 := rfl
  have h10 : (10 : UInt8).toNat = 10 := rfl
  refine ⟨fun e => ?_, fun e => ?_⟩
  · rw [e] at h3
    exact h3 (by decide)
  · rw [e] at h3
    exact h3 (by decide)

theorem words_data : ∀ (r : List ByteArray) (x : ByteArray), (wordsS x r).data.toList = x.data.toList ++ Lib.joinTail [32] (r.map (·.data.toList))
  | [], x => by simp [wordsS, Lib.joinTail]
  | y :: r, x => by
    show (wordsS ((x ++ blankS) ++ y) r).data.toList = _
    rw [words_data r, append_data, append_data]
    simp [Lib.joinTail, blankS]

theorem words_line (x : ByteArray) (r : List ByteArray) (h : ∀ y ∈ x :: r, plainW y) : lineWs (wordsS x r) = x :: r := by
  apply texts_inj
  rw [lineWs_data, words_data]
  rw [splitP_join 32 x.data.toList (r.map (·.data.toList))]
  · rfl
  · intro y hy b hb
    rw [← List.map_cons (f := fun z : ByteArray => z.data.toList)] at hy
    obtain ⟨z, hz, rfl⟩ := List.mem_map.1 hy
    exact (h z hz b hb).1

theorem words_no10 : ∀ (r : List ByteArray) (x : ByteArray), (∀ y ∈ x :: r, plainW y) → ∀ b ∈ (wordsS x r).data.toList, b ≠ 10
  | [], x, h, b, hb => (h x (by simp) b hb).2
  | y :: r, x, h, b, hb => by
    rw [words_data] at hb
    rw [List.mem_append] at hb
    rcases hb with hb | hb
    · exact (h x (by simp) b hb).2
    · unfold Lib.joinTail at hb
      rw [List.mem_flatten] at hb
      obtain ⟨l, hl, hbl⟩ := hb
      rw [List.mem_map] at hl
      obtain ⟨z, hz, rfl⟩ := hl
      rw [List.mem_map] at hz
      obtain ⟨u, hu, rfl⟩ := hz
      rw [List.mem_append] at hbl
      rcases hbl with hbl | hbl
      · rw [List.mem_singleton] at hbl
        rw [hbl]
        decide
      · exact (h u (List.mem_cons_of_mem _ hu) b hbl).2

theorem tail_plain (kind : Int) (key : ByteArray) (keys : List ByteArray) (flags exp nn : Int) (value : ByteArray) (quiet : Bool) (h : checkN kind key keys flags exp nn value quiet = 0) : (∀ x ∈ tailL kind key keys flags exp nn value quiet, plainW x ∧ x.size ≤ 20) ∧ (tailL kind key keys flags exp nn value quiet).length ≤ 10 := by
  obtain ⟨f1, f2, f3, f4, f5, f6, f7, f8⟩ := check_facts kind key keys flags exp nn value quiet h
  obtain ⟨r1, r2, r3, r4, r5, r6⟩ := range_facts flags exp nn f7
  have hd : ∀ n : Int, 0 ≤ n → n ≤ 1099511627776 → plainW (decS n) ∧ (decS n).size ≤ 20 := fun n h0 h1 => ⟨dec_plain n h0, decS_size n (by omega) (by omega)⟩
  have hq : plainW quietS ∧ quietS.size ≤ 20 := ⟨quiet_plain, by decide⟩
  have hvz := hd (value.size : Int) (by omega) (by omega)
  have hkeys : ∀ x ∈ keys, plainW x ∧ x.size ≤ 20 := by
    intro x hx
    unfold keysOK at f2
    split at f2
    · simp only [Bool.and_eq_true, Bool.not_eq_true'] at f2
      have hn := f2.2
      unfold noKeyIn at hn
      rw [List.any_eq_false] at hn
      have hk : keyB x = true := by have := hn x hx; simpa using this
      exact ⟨key_plain x hk, (keyB_size x hk).1⟩
    · have : keys = [] := by simpa using f2
      rw [this] at hx
      cases hx
  have hkey : inB kind 2 11 = true → plainW key ∧ key.size ≤ 20 := by
    intro h2
    unfold keyBad at f3
    rw [h2] at f3
    have hk : keyB key = true := by simpa using f3
    exact ⟨key_plain key hk, (keyB_size key hk).1⟩
  refine ⟨?_, ?_⟩
  · intro x hx
    unfold tailL at hx
    simp only [List.mem_append] at hx
    rcases hx with ((((hx | hx) | hx) | hx) | hx) | hx
    · exact hkeys x hx
    · split at hx
      · rename_i h2
        rw [List.mem_singleton] at hx
        rw [hx]
        exact hkey h2
      · cases hx
    · split at hx
      · simp only [List.mem_cons, List.not_mem_nil, or_false] at hx
        rcases hx with rfl | rfl | rfl
        · exact hd flags r1 (by omega)
        · exact hd exp r3 r4
        · exact hvz
      · cases hx
    · split at hx
      · rw [List.mem_singleton] at hx
        rw [hx]
        exact hd nn r5 r6
      · cases hx
    · split at hx
      · rw [List.mem_singleton] at hx
        rw [hx]
        exact hd exp r3 r4
      · cases hx
    · split at hx
      · rw [List.mem_singleton] at hx
        rw [hx]
        exact hq
      · cases hx
  · unfold tailL
    unfold keysOK at f2
    by_cases h1 : kind = 1
    · subst h1
      have hqf : quiet = false := by unfold quietBad at f6; simpa using f6
      rw [if_pos rfl] at f2
      simp only [Bool.and_eq_true] at f2
      have hl : keys.length ≤ 10 := by have := f2.1; unfold inB at this; simp at this; omega
      rw [hqf]
      simp [show inB 1 2 11 = false by decide, show inB 1 2 7 = false by decide, show hasNB 1 = false by decide]
      exact hl
    · rw [if_neg h1] at f2
      have : keys = [] := by simpa using f2
      rw [this]
      simp only [List.length_append, List.length_nil]
      split <;> split <;> split <;> split <;> split <;> simp
end Go.Proofs.YtkjfkonekajffaaDoor
