/- The contracts of wire.badOf, wire.checked, wire.withValue and wire.Next. -/
import Derived.Test.YtkjfkonekajffaaDoorReadRest
namespace Go.Proofs.YtkjfkonekajffaaDoor
open Go.ChangeShapes Go.WideShapes Go.ChangeAt Go.RowKit
set_option linter.unusedVariables false

theorem readLine_any (s : ByteArray) (w : World) (hL : LaidN w) (hs : s.size ≤ 300) :
    Calls Tryd.prog 21 #[.string s] w fun e w' => LinePost (lineWs s) w e w' := by
  have hk := kindD_le ((lineWs s).getD 0 ByteArray.empty)
  by_cases h0 : kindD ((lineWs s).getD 0 ByteArray.empty) = 0
  · have E : lineD (lineWs s) = none := by unfold lineD; rw [if_pos h0]
    refine (readLine_zero s w hL hs h0).mono fun e w' h => ?_
    unfold LinePost
    rw [E]
    exact h
  by_cases h1 : kindD ((lineWs s).getD 0 ByteArray.empty) = 1
  · have E : lineD (lineWs s) = some { kind := 1, key := ByteArray.empty, keys := (lineWs s).tail, flags := 0, exp := 0, nn := 0, quiet := false, size := 0 } := by unfold lineD; rw [if_neg h0, if_pos h1]
    refine (readLine_get s w hL hs h1).mono fun e w' h => ?_
    unfold LinePost
    rw [E]
    exact h
  · have E : lineD (lineWs s) = lineRest (kindD ((lineWs s).getD 0 ByteArray.empty)) (lineWs s).tail := by unfold lineD; rw [if_neg h0, if_neg h1]
    refine (readLine_rest s _ w hL hs rfl (by omega) hk).mono fun e w' h => ?_
    unfold LinePost
    rw [E]
    rcases h with ⟨h2, h3⟩ | ⟨R, h2, h3, h4, h5, h6⟩
    · rw [h2]
      exact h3
    · rw [h2]
      refine ⟨none, 0, ?_, ?_, ?_, h6⟩
      · rw [h5, h3, h4]
        rfl
      · rw [h4]
        exact ⟨rfl, Nat.zero_le _, fun x hx => by simp at hx, Or.inl rfl⟩
      · intro x hx
        cases hx

/-- What wire.Next answers. -/
structure NextR where
  kind : Int
  key : ByteArray
  keys : List ByteArray
  flags : Int
  exp : Int
  nn : Int
  value : ByteArray
  quiet : Bool
  n : Int

def badN (n : Int) : NextR := { kind := 13, key := ⟨#[]⟩, keys := [], flags := 0, exp := 0, nn := 0, value := ⟨#[]⟩, quiet := false, n := n }
def zeroN : NextR := { kind := 0, key := ⟨#[]⟩, keys := [], flags := 0, exp := 0, nn := 0, value := ⟨#[]⟩, quiet := false, n := 0 }

def NextPost (X : NextR) (w : World) (e : Ending) (w' : World) : Prop :=
  ∃ a c, e = .returned (.tuple #[.agg #[.int .i64 X.kind, .string X.key, .slice a X.keys.length c, .int .i64 X.flags, .int .i64 X.exp, .int .i64 X.nn, .string X.value, .bool X.quiet], .int .i64 X.n]) ∧ StrsAt w' a X.keys.length X.keys ∧ Below w.heap.size w w'

theorem NextPost.down {X : NextR} {w w1 : World} {e : Ending} {w' : World} (h : NextPost X w1 e w') (hb : Below w.heap.size w w1) : NextPost X w e w' := by
  obtain ⟨a, c, h1, h2, h3⟩ := h
  exact ⟨a, c, h1, h2, hb.trans (h3.mono hb.size)⟩

/-- The same, where the keys are those that came, or none. -/
def CheckPost (X : NextR) (ka : Option Addr) (keys : List ByteArray) (w : World) (e : Ending) (w' : World) : Prop :=
  ∃ a c, e = .returned (.tuple #[.agg #[.int .i64 X.kind, .string X.key, .slice a X.keys.length c, .int .i64 X.flags, .int .i64 X.exp, .int .i64 X.nn, .string X.value, .bool X.quiet], .int .i64 X.n]) ∧ (a = ka ∧ X.keys = keys ∨ a = none ∧ X.keys = []) ∧ Below w.heap.size w w'

theorem strs_none (w : World) : StrsAt w none 0 [] := ⟨rfl, Nat.zero_le _, fun x hx => by simp at hx, Or.inl rfl⟩

set_option maxRecDepth 100000 in
theorem badOf_any (n : Int) (w : World) : Calls Tryd.prog 20 #[.int .i64 n] w fun e w' => e = .returned (.tuple #[.agg #[.int .i64 13, .string ⟨#[]⟩, .slice none 0 0, .int .i64 0, .int .i64 0, .int .i64 0, .string ⟨#[]⟩, .bool false], .int .i64 n]) ∧ Below w.heap.size w w' := by
  go_enter Tryd.func20, Tryd.ntmps20
  go_wp2
  exact bodyPost_ret (v := .tuple #[.agg #[.int .i64 13, .string ⟨#[]⟩, .slice none 0 0, .int .i64 0, .int .i64 0, .int .i64 0, .string ⟨#[]⟩, .bool false], .int .i64 n]) (by simp [results, Tryd.results20, go_sem]) rfl ⟨rfl, (Below.refl _ _).alloc (Nat.le_refl _) _⟩

def chkD (kind : Int) (key : ByteArray) (keys : List ByteArray) (flags exp nn : Int) (value : ByteArray) (quiet : Bool) (n : Int) : NextR :=
  if checkN kind key keys flags exp nn value quiet = 0 then { kind := kind, key := key, keys := keys, flags := flags, exp := exp, nn := nn, value := value, quiet := quiet, n := n } else badN n

set_option maxHeartbeats 2000000 in
set_option maxRecDepth 100000 in
theorem checked_any (kind : Int) (key : ByteArray) (ka : Option Addr) (kn kc : Nat) (keys : List ByteArray) (flags exp nn : Int) (value : ByteArray) (quiet : Bool) (n : Int) (w : World) (hK : StrsAt w ka keys.length keys) (hk : key.size ≤ maxLen) (hv : value.size ≤ maxLen) :
    Calls Tryd.prog 25 #[.agg #[.int .i64 kind, .string key, .slice ka keys.length kc, .int .i64 flags, .int .i64 exp, .int .i64 nn, .string value, .bool quiet], .int .i64 n] w fun e w' => CheckPost (chkD kind key keys flags exp nn value quiet n) ka keys w e w' := by
  have hB0 : Below w.heap.size w ((w.alloc (.cells #[.int .i64 kind, .string key, .slice ka keys.length kc, .int .i64 flags, .int .i64 exp, .int .i64 nn, .string value, .bool quiet] 24)).alloc (.cells #[.int .i64 0, .string ⟨#[]⟩, .slice none 0 0, .int .i64 0, .int .i64 0, .int .i64 0, .string ⟨#[]⟩, .bool false] 24)) := ((Below.refl _ _).alloc (Nat.le_refl _) _).alloc (by simp) _
  have hc1 := fun (w1 : World) (hb : Below w.heap.size w w1) => check_any kind key ka keys.length kc keys flags exp nn value quiet w1 (hK.later hb) hk hv
  by_cases h0 : checkN kind key keys flags exp nn value quiet = 0
  · have E : Hid (chkD kind key keys flags exp nn value quiet n = { kind := kind, key := key, keys := keys, flags := flags, exp := exp, nn := nn, value := value, quiet := quiet, n := n }) := by unfold Hid chkD; rw [if_pos h0]
    rw [h0] at hc1
    clear h0
    go_enter Tryd.func25, Tryd.ntmps25
    go_wp2_with fail
    refine (hc1 _ hB0).mono ?_
    rintro e w1 ⟨rfl, hb⟩
    obtain ⟨q1, q2⟩ := bcell hb
    have hB1 : Below w.heap.size w w1 := hB0.trans (hb.mono hB0.size)
    go_wp2
    exact bodyPost_ret (v := .tuple #[.agg #[.int .i64 kind, .string key, .slice ka keys.length kc, .int .i64 flags, .int .i64 exp, .int .i64 nn, .string value, .bool quiet], .int .i64 n]) (by simp [results, Tryd.results25, go_sem, q1]) rfl ⟨ka, kc, by rw [E.out], Or.inl ⟨rfl, by rw [E.out]⟩, ((((((((hB1.setCell (Nat.le_succ _) _).setCell (Nat.le_succ _) _).setCell (Nat.le_succ _) _).setCell (Nat.le_succ _) _).setCell (Nat.le_succ _) _).setCell (Nat.le_succ _) _).setCell (Nat.le_succ _) _).setCell (Nat.le_succ _) _)⟩
  · have E : Hid (chkD kind key keys flags exp nn value quiet n = badN n) := by unfold Hid chkD; rw [if_neg h0]
    generalize checkN kind key keys flags exp nn value quiet = C at *
    have hn : (C != 0) = true := by simp [h0]
    have hbo := badOf_any n
    clear h0
    go_enter Tryd.func25, Tryd.ntmps25
    go_wp2_with fail
    refine (hc1 _ hB0).mono ?_
    rintro e w1 ⟨rfl, hb⟩
    obtain ⟨q1, q2⟩ := bcell hb
    have hB1 : Below w.heap.size w w1 := hB0.trans (hb.mono hB0.size)
    have hz : w.heap.size + 1 < w1.heap.size := by have := hb.size; simp at this; omega
    go_wp2_with fail
    refine (hbo _).mono ?_
    rintro e w2 ⟨rfl, hb2⟩
    obtain ⟨p1, p2⟩ := bcell hb2
    have hB2 : Below w.heap.size w w2 := hB1.trans (hb2.mono hB1.size)
    go_wp2
    exact bodyPost_ret (v := .tuple #[.agg #[.int .i64 13, .string ⟨#[]⟩, .slice none 0 0, .int .i64 0, .int .i64 0, .int .i64 0, .string ⟨#[]⟩, .bool false], .int .i64 n]) (by simp [results, Tryd.results25, go_sem, q1, p1, hz]) rfl ⟨none, 0, by rw [E.out]; rfl, Or.inr ⟨rfl, by rw [E.out]; rfl⟩, ((((((((hB2.setCell (Nat.le_succ _) _).setCell (Nat.le_succ _) _).setCell (Nat.le_succ _) _).setCell (Nat.le_succ _) _).setCell (Nat.le_succ _) _).setCell (Nat.le_succ _) _).setCell (Nat.le_succ _) _).setCell (Nat.le_succ _) _)⟩
end Go.Proofs.YtkjfkonekajffaaDoor
