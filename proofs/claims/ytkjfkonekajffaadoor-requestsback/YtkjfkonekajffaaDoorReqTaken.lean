/- The walk of dovecotekeep.RequestsTaken. -/
import Derived.Test.YtkjfkonekajffaaDoorTells
namespace Go.Proofs.YtkjfkonekajffaaDoor
open Go.ChangeShapes Go.WideShapes Go.ChangeAt Go.RowKit
set_option linter.unusedVariables false

theorem check_sizes (kind : Int) (key : ByteArray) (keys : List ByteArray) (flags exp nn : Int) (value : ByteArray) (quiet : Bool) (h : checkN kind key keys flags exp nn value quiet = 0) : key.size ≤ 20 ∧ value.size ≤ 200 := by
  obtain ⟨f1, f2, f3, f4, f5, f6, f7, f8⟩ := check_facts kind key keys flags exp nn value quiet h
  refine ⟨?_, f8⟩
  unfold keyBad at f3
  cases hk : inB kind 2 11
  · rw [hk] at f3
    have := empty_of key (by simpa using f3)
    rw [this]
    exact Nat.zero_le _
  · rw [hk] at f3
    have h2 : keyB key = true := by simpa using f3
    unfold keyB inB at h2
    simp at h2
    omega

set_option maxHeartbeats 2000000 in
set_option maxRecDepth 100000 in
theorem taken_walk (s more : ByteArray) (w : World) (hL : LaidA w) (hs : s.size ≤ 140737488351232) (hm : more.size ≤ 140737488351232) :
    Calls Tryd.prog 5 #[.string s, .string more] w fun e w' => e = .returned (.bool true) ∧ Below w.heap.size w w' := by
  have hts := tells_any w hL
  have hc1 := fun (w1 : World) (hb : Below w.heap.size w w1) => next_any s w1 (hL.1.later hb) (by unfold maxLen; omega)
  have hc2 := fun (w1 : World) (hb : Below w.heap.size w w1) => next_any (s ++ more) w1 (hL.1.later hb) (by unfold maxLen; rw [ByteArray.size_append]; omega)
  obtain ⟨t1, t2⟩ := next_taken s
  have t3 := next_more s more
  generalize nextD (s ++ more) = Y at *
  generalize nextD s = X at *
  go_enter Tryd.func5, Tryd.ntmps5
  go_wp2_with fail
  refine hts.mono ?_
  rintro e w0 ⟨rfl, hb0⟩
  go_wp2_with fail
  refine (hc1 _ hb0).mono ?_
  rintro e w1 ⟨a, c, rfl, hS1, hb1⟩
  have hb01 := hb0.trans (hb1.mono hb0.size)
  by_cases hz : X.n = 0
  · have hk := t1 hz
    obtain ⟨xk, xy, xs, xf, xe, xn, xv, xq, xm⟩ := X
    simp only at *
    subst hz hk
    clear t2 t3 hc2 hc1
    go_wp2
    go_ret
    exact ⟨rfl, hb01.alloc hb01.size _⟩
  · obtain ⟨t5, t6, t7, t8⟩ := t2 hz
    have hi := fun w1 => Tryd.strings_IndexByte s 10 w1
    rw [show (10 : Int).toNat.toUInt8 = 10 from rfl] at hi
    have hix : -1 ≤ Lib.indexByte s.data.toList 10 := Lib.indexByte_ge _ _
    have hbY : Below w1.heap.size w1 (w1.alloc (.cells #[.int .i64 X.kind, .string X.key, .slice a X.keys.length c, .int .i64 X.flags, .int .i64 X.exp, .int .i64 X.nn, .string X.value, .bool X.quiet] 24)) := (Below.refl _ _).alloc (Nat.le_refl _) _
    have hb1Y := hb01.trans (hbY.mono hb01.size)
    have hTX := TB.new 24 w1 #[.int .i64 X.kind, .string X.key, .slice a X.keys.length c, .int .i64 X.flags, .int .i64 X.exp, .int .i64 X.nn, .string X.value, .bool X.quiet]
    have hnz : (X.n == 0) = false := by simpa using hz
    have hkz : (X.kind != 0) = true := by simpa using t7
    have hle : X.n ≤ (s.size : Int) := t6
    obtain ⟨xk, xy, xs, xf, xe, xn, xv, xq, xm⟩ := X
    simp only at *
    clear t1 t2 hc1 hts hz t7 t6
    have hbad : xk = 13 ∨ (xk == 13) = false := by by_cases h : xk = 13; exact Or.inl h; exact Or.inr (by simpa using h)
    by_cases hline : Lib.indexByte s.data.toList 10 < 0
    · have hl0 : (0 ≤ Lib.indexByte s.data.toList 10) = False := by simp; omega
      generalize Lib.indexByte s.data.toList 10 = I at *
      clear t3
      obtain ⟨yk, yy, ys, yf, ye, yn, yv, yq, ym⟩ := Y
      go_wp2_with fail
      refine (hi _).mono ?_
      rintro e w' ⟨rfl, rfl⟩
      go_wp2_with fail
      refine (hc2 _ hb1Y).mono ?_
      rintro e w2 ⟨a2, c2, rfl, hS2, hb2⟩
      simp only at *
      have hb2Y := hb1Y.trans (hb2.mono hb1Y.size)
      have hb3Y := hb2Y.alloc hb2Y.size (.cells #[.int .i64 yk, .string yy, .slice a2 ys.length c2, .int .i64 yf, .int .i64 ye, .int .i64 yn, .string yv, .bool yq] 24)
      have hTX2 := hTX.later hb2
      have k1 := fun j => hTX2.cell j
      have hlt := hTX2.lt
      rcases hbad with rfl | hk13
      · go_wp2
        go_ret
        exact ⟨rfl, hb3Y⟩
      · have t9 : checkN xk xy xs xf xe xn xv xq = 0 := by
          rcases t8 with h | h
          · simp [h] at hk13
          · exact h
        obtain ⟨z1, z2⟩ := check_sizes _ _ _ _ _ _ _ _ t9
        have hA : StrsAt (w2.alloc (.cells #[.int .i64 yk, .string yy, .slice a2 ys.length c2, .int .i64 yf, .int .i64 ye, .int .i64 yn, .string yv, .bool yq] 24)) a xs.length xs := ((hS1.later hbY).later hb2).later ((Below.refl _ _).alloc (Nat.le_refl _) _)
        have hck := check_any xk xy a xs.length c xs xf xe xn xv xq _ hA (by unfold maxLen; omega) (by unfold maxLen; omega)
        rw [t9] at hck
        go_wp2_with fail
        refine hck.mono ?_
        rintro e w4 ⟨rfl, hb4⟩
        go_wp2
        go_ret
        exact ⟨rfl, hb3Y.trans (hb4.mono hb3Y.size)⟩
    · have hl0 : (0 ≤ Lib.indexByte s.data.toList 10) = True := by simp; omega
      have hYX := t3 (by omega) (by simpa using hnz)
      subst hYX
      clear t3
      generalize Lib.indexByte s.data.toList 10 = I at *
      have hmm : (xm == xm) = true := by simp
      go_wp2_with fail
      refine (hi _).mono ?_
      rintro e w' ⟨rfl, rfl⟩
      go_wp2_with fail
      refine (hc2 _ hb1Y).mono ?_
      rintro e w2 ⟨a2, c2, rfl, hS2, hb2⟩
      simp only at *
      have hb2Y := hb1Y.trans (hb2.mono hb1Y.size)
      have hb3Y := hb2Y.alloc hb2Y.size (.cells #[.int .i64 xk, .string xy, .slice a2 xs.length c2, .int .i64 xf, .int .i64 xe, .int .i64 xn, .string xv, .bool xq] 24)
      have hTX2 := hTX.later hb2
      have k1 := fun j => hTX2.cell j
      have hlt := hTX2.lt
      have hA : StrsAt (w2.alloc (.cells #[.int .i64 xk, .string xy, .slice a2 xs.length c2, .int .i64 xf, .int .i64 xe, .int .i64 xn, .string xv, .bool xq] 24)) a xs.length xs := ((hS1.later hbY).later hb2).later ((Below.refl _ _).alloc (Nat.le_refl _) _)
      have hA2 : StrsAt (w2.alloc (.cells #[.int .i64 xk, .string xy, .slice a2 xs.length c2, .int .i64 xf, .int .i64 xe, .int .i64 xn, .string xv, .bool xq] 24)) a2 xs.length xs := hS2.later ((Below.refl _ _).alloc (Nat.le_refl _) _)
      rcases hbad with rfl | hk13
      · have hsm := keepSame_same 13 xy xs xf xe xn xv xq a a2 c c2 _ hA hA2
        go_wp2_with fail
        refine hsm.mono ?_
        rintro e w4 ⟨rfl, hb4⟩
        go_wp2
        go_ret
        exact ⟨rfl, hb3Y.trans (hb4.mono hb3Y.size)⟩
      · have t9 : checkN xk xy xs xf xe xn xv xq = 0 := by
          rcases t8 with h | h
          · simp [h] at hk13
          · exact h
        obtain ⟨z1, z2⟩ := check_sizes _ _ _ _ _ _ _ _ t9
        have hck := check_any xk xy a xs.length c xs xf xe xn xv xq _ hA (by unfold maxLen; omega) (by unfold maxLen; omega)
        rw [t9] at hck
        have hTY := TB.new 24 w2 #[.int .i64 xk, .string xy, .slice a2 xs.length c2, .int .i64 xf, .int .i64 xe, .int .i64 xn, .string xv, .bool xq]
        go_wp2_with fail
        refine hck.mono ?_
        rintro e w4 ⟨rfl, hb4⟩
        have hTX4 := (hTX2.alloc (.cells #[.int .i64 xk, .string xy, .slice a2 xs.length c2, .int .i64 xf, .int .i64 xe, .int .i64 xn, .string xv, .bool xq] 24)).later hb4
        have hTY4 := hTY.later hb4
        have k2 := fun j => hTX4.cell j
        have k3 := fun j => hTY4.cell j
        have hsm := keepSame_same xk xy xs xf xe xn xv xq a a2 c c2 w4 (hA.later hb4) (hA2.later hb4)
        go_wp2_with fail
        refine hsm.mono ?_
        rintro e w5 ⟨rfl, hb5⟩
        go_wp2
        go_ret
        exact ⟨rfl, (hb3Y.trans (hb4.mono hb3Y.size)).trans (hb5.mono (hb3Y.trans (hb4.mono hb3Y.size)).size)⟩
end Go.Proofs.YtkjfkonekajffaaDoor
