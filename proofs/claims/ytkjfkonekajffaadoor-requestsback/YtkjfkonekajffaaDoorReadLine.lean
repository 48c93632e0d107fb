/- The contract of wire.readLine. -/
import Derived.Test.YtkjfkonekajffaaDoorLine
import Derived.Test.YtkjfkonekajffaaDoorWithNum
namespace Go.Proofs.YtkjfkonekajffaaDoor
open Go.ChangeShapes Go.WideShapes Go.ChangeAt Go.RowKit
set_option linter.unusedVariables false

theorem split_any (s : ByteArray) (w : World) (hL : LaidN w) (hs : s.size ≤ 300) :
    Calls Tryd.prog 44 #[.string s, .string ⟨#[32]⟩] w fun e w' => e = .returned (.slice (some ⟨w.heap.size, 0, none⟩) (lineWs s).length (lineWs s).length) ∧ w' = w.alloc (.cells ((lineWs s).map Value.string).toArray 9) := by
  obtain ⟨_, _, _, m, hm⟩ := hL
  have h := Tryd.strings_Split s blankS m w (by omega) hm (Nat.le_refl 1)
  rw [← lineWs_length] at h
  exact h

/-- The words, where strings.Split has laid them. -/
def RowAt (W0 w : World) (B : Nat) (ws : List ByteArray) : Prop :=
  W0.heap.size ≤ B ∧ B < w.heap.size ∧ (∀ j, j < ws.length → w.cell? ⟨B, j, none⟩ = some (.string (ws.getD j ByteArray.empty))) ∧ Below W0.heap.size W0 w

theorem RowAt.later {W0 w w1 : World} {B : Nat} {ws : List ByteArray} (h : RowAt W0 w B ws) (hb : Below w.heap.size w w1) : RowAt W0 w1 B ws := by
  obtain ⟨h1, h2, h3, h4⟩ := h
  refine ⟨h1, Nat.lt_of_lt_of_le h2 hb.size, fun j hj => ?_, h4.trans (hb.mono h4.size)⟩
  rw [hb.cell (p := ⟨B, j, none⟩) h2]
  exact h3 j hj

theorem split_row (s : ByteArray) (w : World) (hL : LaidN w) (hs : s.size ≤ 300) :
    Calls Tryd.prog 44 #[.string s, .string ⟨#[32]⟩] w fun e w' => ∃ B, e = .returned (.slice (some ⟨B, 0, none⟩) (lineWs s).length (lineWs s).length) ∧ RowAt w w' B (lineWs s) := by
  refine (split_any s w hL hs).mono fun e w' ⟨he, hw⟩ => ⟨w.heap.size, he, Nat.le_refl _, by rw [hw]; simp, fun j hj => ?_, by rw [hw]; exact (Below.refl _ _).alloc (Nat.le_refl _) _⟩
  rw [hw]
  simp [List.getD_eq_getElem?_getD, List.getElem?_eq_getElem hj]

def LinePost (ws : List ByteArray) (w : World) (e : Ending) (w' : World) : Prop :=
  match lineD ws with
  | none => e = .returned (.tuple #[.agg #[.int .i64 0, .string ⟨#[]⟩, .slice none 0 0, .int .i64 0, .int .i64 0, .int .i64 0, .string ⟨#[]⟩, .bool false], .int .i64 0, .bool false]) ∧ Below w.heap.size w w'
  | some R => ∃ a c, e = .returned (.tuple #[.agg #[.int .i64 R.kind, .string R.key, .slice a R.keys.length c, .int .i64 R.flags, .int .i64 R.exp, .int .i64 R.nn, .string ⟨#[]⟩, .bool R.quiet], .int .i64 R.size, .bool true]) ∧ StrsAt w' a R.keys.length R.keys ∧ (∀ x, a = some x → w.heap.size < x.block) ∧ Below w.heap.size w w'

theorem RowAt.strs {W0 w : World} {B : Nat} {ws : List ByteArray} (h : RowAt W0 w B ws) (hs : ∀ x ∈ ws, x.size ≤ maxLen) (hn : ws.length ≤ 1000) (j : Nat) : StrsAt w (some ⟨B, j, none⟩) (ws.drop j).length (ws.drop j) := by
  refine ⟨rfl, by unfold maxLen; simp; omega, fun x hx => hs x (List.mem_of_mem_drop hx), Or.inr ⟨B, j, rfl, h.2.1, fun i hi => ?_⟩⟩
  simp at hi
  rw [h.2.2.1 (j + i) (by omega)]
  simp [List.getD_eq_getElem?_getD]

set_option maxHeartbeats 4000000 in
set_option maxRecDepth 100000 in
theorem readLine_zero (s : ByteArray) (w : World) (hL : LaidN w) (hs : s.size ≤ 300) (h0 : kindD ((lineWs s).getD 0 ByteArray.empty) = 0) :
    Calls Tryd.prog 21 #[.string s] w fun e w' => e = .returned (.tuple #[.agg #[.int .i64 0, .string ⟨#[]⟩, .slice none 0 0, .int .i64 0, .int .i64 0, .int .i64 0, .string ⟨#[]⟩, .bool false], .int .i64 0, .bool false]) ∧ Below w.heap.size w w' := by
  have hsp := fun (w1 : World) (hb : Below w.heap.size w w1) => split_row s w1 (hL.later hb) hs
  have hln := lineWs_length s
  obtain ⟨hz1, hz2⟩ := lineWs_sizes s
  generalize lineWs s = ws at *
  have hpos : 0 < ws.length := by omega
  have hko := fun (w1 : World) (hb : Below w.heap.size w w1) => kindOf_any (ws.getD 0 ByteArray.empty) w1 (hL.later hb)
  rw [h0] at hko
  have hB0 : Below w.heap.size w (w.alloc (.cells #[.int .i64 0, .string ⟨#[]⟩, .slice none 0 0, .int .i64 0, .int .i64 0, .int .i64 0, .string ⟨#[]⟩, .bool false] 24)) := (Below.refl _ _).alloc (Nat.le_refl _) _
  clear h0 hln
  go_enter Tryd.func21, Tryd.ntmps21
  go_wp2_with fail
  refine (hsp _ hB0).mono ?_
  rintro e w2 ⟨B, rfl, hR⟩
  have hB2 := hB0.trans (hR.2.2.2.mono hB0.size)
  obtain ⟨q1, q2⟩ := bcell hR.2.2.2
  have hz := bsize hR.2.2.2
  have hw0 := hR.2.2.1 0 hpos
  have hposz : (0 : Int) < (ws.length : Int) := by omega
  generalize ws.getD 0 ByteArray.empty = w0 at *
  go_wp2_with fail
  refine (hko _ hB2).mono ?_
  rintro e w3 ⟨rfl, rfl⟩
  clear hko hsp
  go_wp2
  all_goals exact bodyPost_ret (v := .tuple #[.agg #[.int .i64 0, .string ⟨#[]⟩, .slice none 0 0, .int .i64 0, .int .i64 0, .int .i64 0, .string ⟨#[]⟩, .bool false], .int .i64 0, .bool false]) (by simp [results, Tryd.results21, go_sem, q1, hz]) rfl ⟨rfl, ((((((((hB2.setCell (Nat.le_refl _) _).setCell (Nat.le_refl _) _).setCell (Nat.le_refl _) _).setCell (Nat.le_refl _) _).setCell (Nat.le_refl _) _).setCell (Nat.le_refl _) _).setCell (Nat.le_refl _) _).setCell (Nat.le_refl _) _).alloc (by simp; omega) _⟩

theorem heap8 (w : World) (R b : Nat) (v0 v1 v2 v3 v4 v5 v6 v7 : Value) (o : Obj) (hb : b ≠ R) (hlt : b < w.heap.size) : (((((((((w.setCell ⟨R, 0, none⟩ v0).setCell ⟨R, 1, none⟩ v1).setCell ⟨R, 2, none⟩ v2).setCell ⟨R, 3, none⟩ v3).setCell ⟨R, 4, none⟩ v4).setCell ⟨R, 5, none⟩ v5).setCell ⟨R, 6, none⟩ v6).setCell ⟨R, 7, none⟩ v7).alloc o).heap[b]? = w.heap[b]? := by
  rw [Below.heap_alloc _ _ _ (by simp [World.setCell]; omega), Below.heap_setCell _ _ _ _ (by simpa using hb), Below.heap_setCell _ _ _ _ (by simpa using hb), Below.heap_setCell _ _ _ _ (by simpa using hb), Below.heap_setCell _ _ _ _ (by simpa using hb), Below.heap_setCell _ _ _ _ (by simpa using hb), Below.heap_setCell _ _ _ _ (by simpa using hb), Below.heap_setCell _ _ _ _ (by simpa using hb), Below.heap_setCell _ _ _ _ (by simpa using hb)]

theorem cell8 (w : World) (R b j : Nat) (v0 v1 v2 v3 v4 v5 v6 v7 : Value) (o : Obj) (hb : b ≠ R) (hlt : b < w.heap.size) : (((((((((w.setCell ⟨R, 0, none⟩ v0).setCell ⟨R, 1, none⟩ v1).setCell ⟨R, 2, none⟩ v2).setCell ⟨R, 3, none⟩ v3).setCell ⟨R, 4, none⟩ v4).setCell ⟨R, 5, none⟩ v5).setCell ⟨R, 6, none⟩ v6).setCell ⟨R, 7, none⟩ v7).alloc o).cell? ⟨b, j, none⟩ = w.cell? ⟨b, j, none⟩ :=
  World.cell?_of_block (heap8 w R b v0 v1 v2 v3 v4 v5 v6 v7 o hb hlt)

theorem strs8 {w : World} {a : Option Addr} {n : Nat} {l : List ByteArray} (R : Nat) (v0 v1 v2 v3 v4 v5 v6 v7 : Value) (o : Obj) (h : StrsAt w a n l) (hR : ∀ x, a = some x → x.block ≠ R) : StrsAt (((((((((w.setCell ⟨R, 0, none⟩ v0).setCell ⟨R, 1, none⟩ v1).setCell ⟨R, 2, none⟩ v2).setCell ⟨R, 3, none⟩ v3).setCell ⟨R, 4, none⟩ v4).setCell ⟨R, 5, none⟩ v5).setCell ⟨R, 6, none⟩ v6).setCell ⟨R, 7, none⟩ v7).alloc o) a n l := by
  obtain ⟨h1, h2, h3, h4⟩ := h
  refine ⟨h1, h2, h3, ?_⟩
  rcases h4 with h4 | ⟨b, off, ha, hlt, hc⟩
  · exact Or.inl h4
  · refine Or.inr ⟨b, off, ha, by simp [World.setCell]; omega, fun j hj => ?_⟩
    rw [cell8 w R b (off + j) v0 v1 v2 v3 v4 v5 v6 v7 o (hR _ ha) hlt]
    exact hc j hj

theorem tail_len (ws : List ByteArray) : ws.tail.length = ws.length - 1 := by simp

set_option maxHeartbeats 4000000 in
set_option maxRecDepth 100000 in
theorem readLine_get (s : ByteArray) (w : World) (hL : LaidN w) (hs : s.size ≤ 300) (h0 : kindD ((lineWs s).getD 0 ByteArray.empty) = 1) :
    Calls Tryd.prog 21 #[.string s] w fun e w' => ∃ a c, e = .returned (.tuple #[.agg #[.int .i64 1, .string ⟨#[]⟩, .slice a (lineWs s).tail.length c, .int .i64 0, .int .i64 0, .int .i64 0, .string ⟨#[]⟩, .bool false], .int .i64 0, .bool true]) ∧ StrsAt w' a (lineWs s).tail.length (lineWs s).tail ∧ (∀ x, a = some x → w.heap.size < x.block) ∧ Below w.heap.size w w' := by
  have hsp := fun (w1 : World) (hb : Below w.heap.size w w1) => split_row s w1 (hL.later hb) hs
  have hln := lineWs_length s
  obtain ⟨hz1, hz2⟩ := lineWs_sizes s
  generalize lineWs s = ws at *
  have hpos : 0 < ws.length := by omega
  have hko := fun (w1 : World) (hb : Below w.heap.size w w1) => kindOf_any (ws.getD 0 ByteArray.empty) w1 (hL.later hb)
  rw [h0] at hko
  have hB0 : Below w.heap.size w (w.alloc (.cells #[.int .i64 0, .string ⟨#[]⟩, .slice none 0 0, .int .i64 0, .int .i64 0, .int .i64 0, .string ⟨#[]⟩, .bool false] 24)) := (Below.refl _ _).alloc (Nat.le_refl _) _
  clear h0 hln
  go_enter Tryd.func21, Tryd.ntmps21
  go_wp2_with fail
  refine (hsp _ hB0).mono ?_
  rintro e w2 ⟨B, rfl, hR⟩
  have hB2 := hB0.trans (hR.2.2.2.mono hB0.size)
  obtain ⟨q1, q2⟩ := bcell hR.2.2.2
  have hz := bsize hR.2.2.2
  have hw0 := hR.2.2.1 0 hpos
  have hposz : (0 : Int) < (ws.length : Int) := by omega
  generalize ws.getD 0 ByteArray.empty = w0 at *
  go_wp2_with fail
  refine (hko _ hB2).mono ?_
  rintro e w3 ⟨rfl, rfl⟩
  clear hko hsp
  have hRB := hR.2.1
  have hRA : w.heap.size + 1 ≤ B := by have := hR.1; simpa using this
  have hbm : ∀ x ∈ ws, x.size ≤ maxLen := fun x hx => by have := hz2 x hx; unfold maxLen; omega
  have hst := hR.strs hbm (by omega) 1
  rw [List.drop_one] at hst
  clear hz2 hbm
  by_cases hl : ws.length = 1
  · have hl1 : (ws.length : Int) = 1 := by omega
    have ht : ws.tail.length = 0 := by simp; omega
    have hst0 : StrsAt w3 (some ⟨B, 0, none⟩) ws.tail.length ws.tail := ⟨hst.1, hst.2.1, hst.2.2.1, Or.inl ht⟩
    have HT : Hid (ws.tail.length = 0) := ht
    have hl0 : ws.length - 1 = 0 := by omega
    clear hst ht hl hpos hposz
    go_wp2
    all_goals exact bodyPost_ret (v := .tuple #[.agg #[.int .i64 1, .string ⟨#[]⟩, .slice (some ⟨B, 0, none⟩) 0 0, .int .i64 0, .int .i64 0, .int .i64 0, .string ⟨#[]⟩, .bool false], .int .i64 0, .bool true]) (by simp [results, Tryd.results21, go_sem, q1, hz]) rfl ⟨_, _, by rw [HT.out], strs8 w.heap.size _ _ _ _ _ _ _ _ _ hst0 (fun x hx => by cases hx; simp; omega), fun x hx => (by cases hx; exact hRA), ((((((((hB2.setCell (Nat.le_refl _) _).setCell (Nat.le_refl _) _).setCell (Nat.le_refl _) _).setCell (Nat.le_refl _) _).setCell (Nat.le_refl _) _).setCell (Nat.le_refl _) _).setCell (Nat.le_refl _) _).setCell (Nat.le_refl _) _).alloc (by simp; omega) _⟩
  · have HT : Hid (ws.tail.length = ws.length - 1) := by show _ = _; simp
    have hl1 : 1 < (ws.length : Int) := by omega
    have hl2 : ¬ (ws.length : Int) = 1 := by omega
    have hl3 : ¬ ws.length = 1 := hl
    go_wp2
    all_goals exact bodyPost_ret (v := .tuple #[.agg #[.int .i64 1, .string ⟨#[]⟩, .slice (some ⟨B, 1, none⟩) (ws.length - 1) (ws.length - 1), .int .i64 0, .int .i64 0, .int .i64 0, .string ⟨#[]⟩, .bool false], .int .i64 0, .bool true]) (by simp [results, Tryd.results21, go_sem, q1, hz]) rfl ⟨_, _, by rw [HT.out], strs8 w.heap.size _ _ _ _ _ _ _ _ _ hst (fun x hx => by cases hx; simp; omega), fun x hx => (by cases hx; exact hRA), ((((((((hB2.setCell (Nat.le_refl _) _).setCell (Nat.le_refl _) _).setCell (Nat.le_refl _) _).setCell (Nat.le_refl _) _).setCell (Nat.le_refl _) _).setCell (Nat.le_refl _) _).setCell (Nat.le_refl _) _).setCell (Nat.le_refl _) _).alloc (by simp; omega) _⟩
end Go.Proofs.YtkjfkonekajffaaDoor
