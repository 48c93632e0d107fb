/- The contract of dovecoteref.lineOf: what a line says. -/
import Derived.Test.YtkjfkonekajffaaDoorNextOf
import Derived.Test.YtkjfkonekajffaaDoorReqText
import Derived.Deep.RegionHeld3
namespace Go.Proofs.YtkjfkonekajffaaDoor
open Go.ChangeShapes Go.WideShapes Go.ChangeAt Go.RowKit
set_option linter.unusedVariables false

theorem words_form {W0 w : World} {v : Value} {l : List ByteArray} (h : WordsAt W0 w v l) (hp : 0 < l.length) : ∃ g cap, v = .slice (some ⟨g, 0, none⟩) l.length cap ∧ W0.heap.size ≤ g ∧ g < w.heap.size ∧ l.length ≤ cap ∧ ∀ j, j < l.length → w.cell? ⟨g, j, none⟩ = some (.string (l.getD j ByteArray.empty)) := by
  rcases h.1.2 with ⟨_, h0⟩ | ⟨g, cap, cur, hv, hb, hg, hle, _⟩
  · omega
  · refine ⟨g, cap, hv, hb, ?_, hle, fun j hj => ?_⟩
    · rcases Nat.lt_or_ge g w.heap.size with hlt | hge
      · exact hlt
      · rw [Array.getElem?_eq_none hge] at hg; cases hg
    · have := h.1.cells (g := g) (by rw [hv]; rfl) j (.string (l.getD j ByteArray.empty)) (by
        rw [List.getElem?_map, List.getElem?_eq_getElem hj, List.getD_eq_getElem?_getD, List.getElem?_eq_getElem hj]; rfl)
      rw [WideShapes.add_plain] at this
      simpa using this

/-- The block b of the world w is a request with these cells. -/
def RB (w : World) (b : Nat) (cs : Array Value) : Prop := w.heap[b]? = some (.cells cs 24 (0, 0))

theorem RB.lt {w : World} {b : Nat} {cs : Array Value} (h : RB w b cs) : b < w.heap.size := by
  rcases Nat.lt_or_ge b w.heap.size with h' | h'
  · exact h'
  · unfold RB at h; rw [Array.getElem?_eq_none h'] at h; cases h
theorem RB.cell {w : World} {b : Nat} {cs : Array Value} (h : RB w b cs) (j : Nat) : w.cell? ⟨b, j, none⟩ = cs[j]? := by
  unfold RB at h
  simp [World.cell?, h]
theorem RB.frozen {w : World} {b : Nat} {cs : Array Value} (h : RB w b cs) (j : Nat) : w.frozen? ⟨b, j, none⟩ = false := frozen_of_row w b j cs 24 h
theorem RB.later {w w1 : World} {b : Nat} {cs : Array Value} (h : RB w b cs) (hb : Below w.heap.size w w1) : RB w1 b cs := by
  unfold RB
  rw [hb.block b h.lt]
  exact h
theorem RB.set {w : World} {b : Nat} {cs : Array Value} (h : RB w b cs) (j : Nat) (v : Value) : RB (w.setCell ⟨b, j, none⟩ v) b (cs.setIfInBounds j v) := heap_setCell_same w b j cs 24 v h
theorem RB.far {w : World} {b : Nat} {cs : Array Value} (h : RB w b cs) (a : Addr) (v : Value) (hne : b ≠ a.block) : RB (w.setCell a v) b cs := by
  unfold RB
  rw [heap_setCell_other w a b v hne]
  exact h
theorem RB.new (w : World) (cs : Array Value) : RB (w.alloc (.cells cs 24)) w.heap.size cs := by
  show (w.heap.push _)[w.heap.size]? = _
  exact Array.getElem?_push_size

theorem StrsAt.far {w : World} {a : Option Addr} {n : Nat} {l : List ByteArray} (h : StrsAt w a n l) (p : Addr) (v : Value) (hp : ∀ x, a = some x → p.block ≠ x.block) : StrsAt (w.setCell p v) a n l := by
  obtain ⟨h1, h2, h3, h4⟩ := h
  refine ⟨h1, h2, h3, ?_⟩
  rcases h4 with h4 | ⟨b, off, ha, hlt, hc⟩
  · exact Or.inl h4
  · refine Or.inr ⟨b, off, ha, by simp [World.setCell]; omega, fun j hj => ?_⟩
    rw [World.cell?_setCell_far w p ⟨b, off + j, none⟩ v (show p.block ≠ b from hp _ ha)]
    exact hc j hj

theorem LOPost.ok {ws : List ByteArray} {w w' : World} {e : Ending} (R : LineR) (a : Option Addr) (c : Nat) (h : lineD ws = some R) (hc : checkN R.kind R.key R.keys R.flags R.exp R.nn ⟨#[]⟩ R.quiet = 0)
    (he : e = .returned (.tuple #[.agg #[.int .i64 R.kind, .string R.key, .slice a R.keys.length c, .int .i64 R.flags, .int .i64 R.exp, .int .i64 R.nn, .string ⟨#[]⟩, .bool R.quiet], .int .i64 (szOf R)])) (hS : StrsAt w' a R.keys.length R.keys) (hf : ∀ x, a = some x → w.heap.size < x.block) (hB : Below w.heap.size w w') : LOPost ws w e w' := by
  unfold LOPost
  rw [h]
  simp only [if_pos hc]
  exact ⟨a, c, he, hS, hf, hB⟩
theorem LOPost.bad {ws : List ByteArray} {w w' : World} {e : Ending} (R : LineR) (h : lineD ws = some R) (hc : ¬ checkN R.kind R.key R.keys R.flags R.exp R.nn ⟨#[]⟩ R.quiet = 0)
    (he : e = .returned (.tuple #[.agg #[.int .i64 13, .string ⟨#[]⟩, .slice none 0 0, .int .i64 0, .int .i64 0, .int .i64 0, .string ⟨#[]⟩, .bool false], .int .i64 (szOf R)])) (hB : Below w.heap.size w w') : LOPost ws w e w' := by
  unfold LOPost
  rw [h]
  simp only [if_neg hc]
  exact ⟨he, hB⟩
theorem LOPost.none {ws : List ByteArray} {w w' : World} {e : Ending} (h : lineD ws = none) (he : e = .returned (.tuple #[.agg #[.int .i64 13, .string ⟨#[]⟩, .slice none 0 0, .int .i64 0, .int .i64 0, .int .i64 0, .string ⟨#[]⟩, .bool false], .int .i64 (-1)])) (hB : Below w.heap.size w w') : LOPost ws w e w' := by
  unfold LOPost
  rw [h]
  exact ⟨he, hB⟩

/-- Where the search for a line's kind stands in front of the kind k: m is the one that was met. -/
def seenK (s : ByteArray) (m k n : Nat) : Prop := (m = 0 ∧ kindFrom s n k = kindD s) ∨ (1 ≤ m ∧ m < k ∧ nameS m = s ∧ m = kindD s)

theorem names_apart : ∀ i j : Fin 13, nameS i = nameS j → i = j := by decide

theorem seenK_hit (s : ByteArray) (m k n : Nat) (hk : k < 13) (hn : k + n + 1 = 13) (h1 : 1 ≤ k) (h : seenK s m k (n + 1)) (hq : nameS k = s) : seenK s k (k + 1) n := by
  rcases h with ⟨h0, h2⟩ | ⟨h0, h2, h3, h4⟩
  · unfold kindFrom at h2
    rw [if_pos hq] at h2
    exact Or.inr ⟨h1, by omega, hq, h2⟩
  · have := names_apart ⟨m, by omega⟩ ⟨k, hk⟩ (by show nameS m = nameS k; rw [h3, hq])
    have : m = k := by simpa using this
    omega

theorem seenK_miss (s : ByteArray) (m k n : Nat) (h : seenK s m k (n + 1)) (hq : nameS k ≠ s) : seenK s m (k + 1) n := by
  rcases h with ⟨h0, h2⟩ | ⟨h0, h2, h3, h4⟩
  · unfold kindFrom at h2
    rw [if_neg hq] at h2
    exact Or.inl ⟨h0, h2⟩
  · exact Or.inr ⟨h0, by omega, h3, h4⟩

theorem seenK_end (s : ByteArray) (m k : Nat) (h : seenK s m k 0) : m = kindD s := by
  rcases h with ⟨h0, h2⟩ | ⟨h0, h2, h3, h4⟩
  · unfold kindFrom at h2; omega
  · exact h4

set_option maxHeartbeats 4000000 in
set_option maxRecDepth 100000 in
theorem lineOf_zero (s : ByteArray) (w : World) (hs : s.size ≤ 300) (h0 : kindD ((lineWs s).getD 0 ByteArray.empty) = 0) :
    Calls Tryd.prog 26 #[.string s] w fun e w' => e = .returned (.tuple #[.agg #[.int .i64 13, .string ⟨#[]⟩, .slice none 0 0, .int .i64 0, .int .i64 0, .int .i64 0, .string ⟨#[]⟩, .bool false], .int .i64 (-1)]) ∧ Below w.heap.size w w' := by
  have hB0 : Below w.heap.size w ((w.alloc (.cells #[.int .i64 0, .string ⟨#[]⟩, .slice none 0 0, .int .i64 0, .int .i64 0, .int .i64 0, .string ⟨#[]⟩, .bool false] 24)).alloc (.cells #[.int .i64 13, .string ⟨#[]⟩, .slice none 0 0, .int .i64 0, .int .i64 0, .int .i64 0, .string ⟨#[]⟩, .bool false] 24)) := ((Below.refl _ _).alloc (Nat.le_refl _) _).alloc (by simp) _
  have hR0 : RB ((w.alloc (.cells #[.int .i64 0, .string ⟨#[]⟩, .slice none 0 0, .int .i64 0, .int .i64 0, .int .i64 0, .string ⟨#[]⟩, .bool false] 24)).alloc (.cells #[.int .i64 13, .string ⟨#[]⟩, .slice none 0 0, .int .i64 0, .int .i64 0, .int .i64 0, .string ⟨#[]⟩, .bool false] 24)) w.heap.size #[.int .i64 0, .string ⟨#[]⟩, .slice none 0 0, .int .i64 0, .int .i64 0, .int .i64 0, .string ⟨#[]⟩, .bool false] := (RB.new w #[.int .i64 0, .string ⟨#[]⟩, .slice none 0 0, .int .i64 0, .int .i64 0, .int .i64 0, .string ⟨#[]⟩, .bool false]).later ((Below.refl _ _).alloc (Nat.le_refl _) _)
  have hR1 : RB ((w.alloc (.cells #[.int .i64 0, .string ⟨#[]⟩, .slice none 0 0, .int .i64 0, .int .i64 0, .int .i64 0, .string ⟨#[]⟩, .bool false] 24)).alloc (.cells #[.int .i64 13, .string ⟨#[]⟩, .slice none 0 0, .int .i64 0, .int .i64 0, .int .i64 0, .string ⟨#[]⟩, .bool false] 24)) (w.heap.size + 1) #[.int .i64 13, .string ⟨#[]⟩, .slice none 0 0, .int .i64 0, .int .i64 0, .int .i64 0, .string ⟨#[]⟩, .bool false] := by have := RB.new (w.alloc (.cells #[.int .i64 0, .string ⟨#[]⟩, .slice none 0 0, .int .i64 0, .int .i64 0, .int .i64 0, .string ⟨#[]⟩, .bool false] 24)) #[.int .i64 13, .string ⟨#[]⟩, .slice none 0 0, .int .i64 0, .int .i64 0, .int .i64 0, .string ⟨#[]⟩, .bool false]; simpa using this
  have hpt := fun w1 => parted_any s w1 hs
  have hln := lineWs_length s
  obtain ⟨hz1, hz2⟩ := lineWs_sizes s
  generalize lineWs s = ws at *
  have hpos : 0 < ws.length := by omega
  clear hln
  go_enter Tryd.func26, Tryd.ntmps26
  go_wp2_with fail
  refine (hpt _).mono ?_
  rintro e w1 ⟨v, rfl, hW⟩
  obtain ⟨g, cap, rfl, hg0, hg1, hcap, hcw⟩ := words_form hW hpos
  have hw0 := hcw 0 hpos
  have hposz : (0 : Int) < (ws.length : Int) := by omega
  have hBw1 := hB0.trans (hW.2.mono hB0.size)
  have hR0w := hR0.later hW.2
  have hR1w := hR1.later hW.2
  have hz3 : w.heap.size + 1 < w1.heap.size := hR1w.lt
  have hg0' : w.heap.size + 2 ≤ g := by simpa using hg0
  clear hpt hR0 hR1
  obtain ⟨w0, hw0e⟩ : ∃ y, Hid (y = ws.getD 0 ByteArray.empty) := ⟨_, rfl⟩
  rw [← hw0e.out] at hw0
  go_wp2_with fail
  go_loopw [7] (fun i wr => ∃ (k n m : Nat), k + n = 13 ∧ 1 ≤ k ∧ i = .int .i64 k ∧ Hid (seenK w0 m k n) ∧ Below w1.heap.size w1 wr ∧ RB wr w1.heap.size #[.int .i64 (m : Nat), .string ⟨#[]⟩, .slice none 0 0, .int .i64 0, .int .i64 0, .int .i64 0, .string ⟨#[]⟩, .bool false]) (fun i _ => 13 - (intOf i).toNat)
  case atStart => exact ⟨1, 12, 0, rfl, Nat.le_refl _, rfl, Or.inl ⟨rfl, rfl⟩, (Below.refl _ _).alloc (Nat.le_refl _) _, RB.new _ _⟩
  case round =>
    obtain ⟨k, n, m, hkn, hk1, rfl, D, hbr, hRB⟩ := hrel
    by_cases hlt : k < 13
    · obtain ⟨n, rfl⟩ : ∃ n', n = n' + 1 := ⟨n - 1, by omega⟩
      have b1 : (k : Int) ≤ 12 := by omega
      have b0 : (0 : Int) ≤ (k : Int) := Int.natCast_nonneg _
      have hnm := fun w2 => nameOf_any (k : Int) w2 b0 b1
      rw [Int.toNat_natCast] at hnm
      have hS : wr.cell? ⟨g, 0, none⟩ = some (.string w0) := by rw [hbr.cell (p := ⟨g, 0, none⟩) hg1]; exact hw0
      have hgr : g < wr.heap.size := Nat.lt_of_lt_of_le hg1 hbr.size
      have hkn2 : Hid (k + 1 + n = 13) := by show _ = _; omega
      have hbq := beq_texts (nameS k) w0
      by_cases hq : nameS k = w0
      · have D2 : Hid (seenK w0 k (k + 1) n) := seenK_hit w0 m k n hlt (by omega) hk1 D.out hq
        rw [decide_eq_true hq] at hbq
        generalize nameS k = nk at *
        clear hq D hkn
        go_wp2_with fail
        go_region_held3 (fun w' => w'.cell? ⟨g, 0, none⟩ = some (.string w0)) (first | go_keep | exact hSa) ((go_at_call 51; refine (hnm _).mono ?_; rintro e wa ⟨rfl, hba⟩; have hSa : wa.cell? ⟨g, 0, none⟩ = some (.string w0) := (hba.cell (p := ⟨g, 0, none⟩) hgr).trans hS))
        have hRBa : RB wa w1.heap.size #[.int .i64 (m : Nat), .string ⟨#[]⟩, .slice none 0 0, .int .i64 0, .int .i64 0, .int .i64 0, .string ⟨#[]⟩, .bool false] := RB.later (w := wr.drew) hRB hba
        have c0 : wa.cell? ⟨w1.heap.size, 0, none⟩ = some (.int .i64 (m : Nat)) := hRBa.cell 0
        have f0 := hRBa.frozen 0
        have hbra : Below w1.heap.size w1 wa := hbr.drew.trans (hba.mono hbr.drew.size)
        clear hnm
        go_wp2
        go_roundw
        case rel => exact ⟨k + 1, n, k, hkn2.out, by omega, by go_num, D2, hbra.setCell (Nat.le_refl _) _, hRBa.set 0 _⟩
        case measure => simp [intOf]; omega
      · have D2 : Hid (seenK w0 m (k + 1) n) := seenK_miss w0 m k n D.out hq
        rw [decide_eq_false hq] at hbq
        generalize nameS k = nk at *
        clear hq D hkn
        go_wp2_with fail
        go_region_held3 (fun w' => w'.cell? ⟨g, 0, none⟩ = some (.string w0)) (first | go_keep | exact hSa) ((go_at_call 51; refine (hnm _).mono ?_; rintro e wa ⟨rfl, hba⟩; have hSa : wa.cell? ⟨g, 0, none⟩ = some (.string w0) := (hba.cell (p := ⟨g, 0, none⟩) hgr).trans hS))
        have hRBa : RB wa w1.heap.size #[.int .i64 (m : Nat), .string ⟨#[]⟩, .slice none 0 0, .int .i64 0, .int .i64 0, .int .i64 0, .string ⟨#[]⟩, .bool false] := RB.later (w := wr.drew) hRB hba
        have c0 : wa.cell? ⟨w1.heap.size, 0, none⟩ = some (.int .i64 (m : Nat)) := hRBa.cell 0
        have f0 := hRBa.frozen 0
        have hbra : Below w1.heap.size w1 wa := hbr.drew.trans (hba.mono hbr.drew.size)
        clear hnm
        go_wp2
        go_roundw
        case rel => exact ⟨k + 1, n, m, hkn2.out, by omega, by go_num, D2, hbra, hRBa⟩
        case measure => simp [intOf]; omega
    · obtain rfl : n = 0 := by omega
      have b1 : ¬ (k : Int) ≤ 12 := by omega
      have hm : m = kindD w0 := seenK_end w0 m k D.out
      clear D
      rw [hw0e.out, h0] at hm
      subst hm
      have q0 : wr.cell? ⟨w1.heap.size, 0, none⟩ = some (.int .i64 (0 : Nat)) := hRB.cell 0
      have hR0r := hR0w.later (hbr.mono (Nat.le_refl _))
      have hR1r := hR1w.later hbr
      have k1 := fun j => hR0r.cell j
      have k2 := fun j => hR0r.frozen j
      have k3 := fun j => hR1r.cell j
      have hBr := hBw1.trans (hbr.mono hBw1.size)
      clear hR0w hR1w hW
      go_wp2
      exact bodyPost_ret (v := .tuple #[.agg #[.int .i64 13, .string ⟨#[]⟩, .slice none 0 0, .int .i64 0, .int .i64 0, .int .i64 0, .string ⟨#[]⟩, .bool false], .int .i64 (-1)]) (by simp [results, Tryd.results26, go_sem, k1]) rfl ⟨rfl, ((((((((hBr.setCell (Nat.le_refl _) _).setCell (Nat.le_refl _) _).setCell (Nat.le_refl _) _).setCell (Nat.le_refl _) _).setCell (Nat.le_refl _) _).setCell (Nat.le_refl _) _).setCell (Nat.le_refl _) _).setCell (Nat.le_refl _) _)⟩
end Go.Proofs.YtkjfkonekajffaaDoor
