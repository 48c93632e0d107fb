/- The walk of dovecotekeep.RequestsBack. -/
import Derived.Test.YtkjfkonekajffaaDoorKReqB
import Derived.Test.YtkjfkonekajffaaDoorTells
import Derived.Test.YtkjfkonekajffaaDoorReqTaken
namespace Go.Proofs.YtkjfkonekajffaaDoor
open Go.ChangeShapes Go.WideShapes Go.ChangeAt Go.RowKit
set_option linter.unusedVariables false

theorem text_size (kind : Int) (key : ByteArray) (keys : List ByteArray) (flags exp nn : Int) (value : ByteArray) (quiet : Bool) (h : checkN kind key keys flags exp nn value quiet = 0) (h13 : kind ≠ 13) :
    1 ≤ (textS kind key keys flags exp nn value quiet).size ∧ (textS kind key keys flags exp nn value quiet).size ≤ 600 := by
  obtain ⟨f1, f2, f3, f4, f5, f6, f7, f8⟩ := check_facts kind key keys flags exp nn value quiet h
  obtain ⟨tp, tl⟩ := tail_plain kind key keys flags exp nn value quiet h
  have hk : kind.toNat ≤ 12 := by unfold inB at f1; simp at f1; omega
  obtain ⟨np, nl⟩ := name_plain kind.toNat hk
  have hsz := wordsS_size (tailL kind key keys flags exp nn value quiet) (nameS kind.toNat) (fun x hx => (tp x hx).2)
  have hts : textS kind key keys flags exp nn value quiet = if inB kind 2 7 = true then (wordsS (nameS kind.toNat) (tailL kind key keys flags exp nn value quiet) ++ nlS) ++ (value ++ nlS) else wordsS (nameS kind.toNat) (tailL kind key keys flags exp nn value quiet) ++ nlS := rfl
  generalize wordsS (nameS kind.toNat) (tailL kind key keys flags exp nn value quiet) = ln at *
  have hn1 : nlS.size = 1 := rfl
  rw [hts]
  split
  · rw [ByteArray.size_append, ByteArray.size_append, ByteArray.size_append]
    omega
  · rw [ByteArray.size_append]
    omega

set_option maxHeartbeats 4000000 in
set_option maxRecDepth 100000 in
theorem back_walk (X : RqR) (rk ra rb rc cut : Int) (more : ByteArray) (w : World) (hL : LaidA w) (hm : more.size ≤ 140737488351232) (hcut : i64In cut)
    (hreq : ∀ w1, Calls Tryd.prog 12 #[.agg #[.int .i64 rk, .int .i64 ra, .int .i64 rb, .int .i64 rc]] w1 fun e w' => RqPost X w1 e w')
    (hck : checkN X.kind X.key X.keys X.flags X.exp X.nn X.value X.quiet = 0) (h13 : X.kind ≠ 13) :
    Calls Tryd.prog 4 #[.agg #[.int .i64 rk, .int .i64 ra, .int .i64 rb, .int .i64 rc], .string more, .int .i64 cut] w fun e w' => e = .returned (.bool true) ∧ Below w.heap.size w w' := by
  have hts := fun (w1 : World) (hb : Below w.heap.size w w1) => tells_any w1 (hL.later hb)
  obtain ⟨xk, xy, xs, xf, xe, xn, xv, xq⟩ := X
  simp only at *
  obtain ⟨z1, z2⟩ := check_sizes _ _ _ _ _ _ _ _ hck
  obtain ⟨t1, t2⟩ := text_size _ _ _ _ _ _ _ _ hck h13
  have eN : encN xk xy xs xf xe xn xv xq = 0 := by unfold encN; rw [if_pos hck, if_neg h13]
  have eS : encS xk xy xs xf xe xn xv xq = textS xk xy xs xf xe xn xv xq := by unfold encS; rw [if_pos eN]
  have n1 := next_enc xk xy xs xf xe xn xv xq hck h13 (textS xk xy xs xf xe xn xv xq ++ more) more rfl
  have n2 := next_cut xk xy xs xf xe xn xv xq hck h13
  have henc := fun (a : Option Addr) (c : Nat) (w1 : World) (hL1 : LaidW w1) (hK : StrsAt w1 a xs.length xs) => encode_any xk xy a xs.length c xs xf xe xn xv xq w1 hL1 hK (by unfold maxLen; omega) (by unfold maxLen; omega)
  have hchk := fun (a : Option Addr) (c : Nat) (w1 : World) (hK : StrsAt w1 a xs.length xs) => check_any xk xy a xs.length c xs xf xe xn xv xq w1 hK (by unfold maxLen; omega) (by unfold maxLen; omega)
  rw [eN, eS] at henc
  rw [hck] at hchk
  generalize textS xk xy xs xf xe xn xv xq = T at *
  obtain ⟨m, hmT, hmE⟩ : ∃ m : Nat, pickN cut T.size = (m : Int) ∧ m < T.size := by
    obtain ⟨r0, r1⟩ := pickN_range cut T.size (by omega)
    exact ⟨(pickN cut T.size).toNat, by omega, by omega⟩
  have hpk := fun w1 => picked_any cut T.size w1 hcut.1 hcut.2 (by omega) (by omega)
  rw [hmT] at hpk
  have hn1 := fun (w1 : World) (hb : Below w.heap.size w w1) => next_any (T ++ more) w1 (hL.1.later hb) (by rw [ByteArray.size_append]; unfold maxLen; omega)
  have hn2 := fun (w1 : World) (hb : Below w.heap.size w w1) => next_any (T.extract 0 m) w1 (hL.1.later hb) (by rw [ByteArray.size_extract]; unfold maxLen; omega)
  rw [n1] at hn1
  rw [n2 m hmE] at hn2
  have hm0 : (0 : Int) ≤ (m : Int) := Int.natCast_nonneg _
  have hmI : (m : Int) ≤ (T.size : Int) := by omega
  clear n1 n2 eN eS hmT
  have hbA : Below w.heap.size w (w.alloc (.cells #[.int .i64 rk, .int .i64 ra, .int .i64 rb, .int .i64 rc] 30)) := (Below.refl _ _).alloc (Nat.le_refl _) _
  have TR := TB.new 30 w #[.int .i64 rk, .int .i64 ra, .int .i64 rb, .int .i64 rc]
  go_enter Tryd.func4, Tryd.ntmps4
  go_wp2_with fail
  refine (hts _ hbA).mono ?_
  rintro e w1 ⟨rfl, hb1⟩
  have hb01 := hbA.trans (hb1.mono hbA.size)
  have TR1 := TR.later hb1
  have k0 := fun j => TR1.cell j
  go_wp2_with fail
  refine (hreq _).mono ?_
  rintro e w2 ⟨a, c, rfl, hS, hb2⟩
  have hb02 := hb01.trans (hb2.mono hb01.size)
  have hA2 := (Below.refl w2.heap.size w2).alloc (Nat.le_refl _) (.cells #[.int .i64 xk, .string xy, .slice a xs.length c, .int .i64 xf, .int .i64 xe, .int .i64 xn, .string xv, .bool xq] 24)
  have hb02A := hb02.trans (hA2.mono hb02.size)
  have TQ := TB.new 24 w2 #[.int .i64 xk, .string xy, .slice a xs.length c, .int .i64 xf, .int .i64 xe, .int .i64 xn, .string xv, .bool xq]
  have hSA := hS.later hA2
  simp only at *
  clear k0 TR1 TR
  go_wp2_with fail
  refine (henc a c _ (hL.2.later hb02A) hSA).mono ?_
  rintro e w3 ⟨rfl, hb3⟩
  have hb03 := hb02A.trans (hb3.mono hb02A.size)
  have TQ3 := TQ.later hb3
  have hS3 := hSA.later hb3
  clear TQ
  go_wp2_with fail
  refine (hn1 _ hb03).mono ?_
  rintro e w4 ⟨a4, c4, rfl, hS4, hb4⟩
  simp only [nextRof] at *
  have hb04 := hb03.trans (hb4.mono hb03.size)
  have hA4 := (Below.refl w4.heap.size w4).alloc (Nat.le_refl _) (.cells #[.int .i64 xk, .string xy, .slice a4 xs.length c4, .int .i64 xf, .int .i64 xe, .int .i64 xn, .string xv, .bool xq] 24)
  have hb04A := hb04.trans (hA4.mono hb04.size)
  have TQ4 := (TQ3.later hb4).alloc (.cells #[.int .i64 xk, .string xy, .slice a4 xs.length c4, .int .i64 xf, .int .i64 xe, .int .i64 xn, .string xv, .bool xq] 24)
  have TA4 := TB.new 24 w4 #[.int .i64 xk, .string xy, .slice a4 xs.length c4, .int .i64 xf, .int .i64 xe, .int .i64 xn, .string xv, .bool xq]
  have hSq4 := (hS3.later hb4).later hA4
  have hSa4 := hS4.later hA4
  clear TQ3 hS3
  go_wp2_with fail
  refine (hpk _).mono ?_
  rintro e w' ⟨rfl, rfl⟩
  go_wp2_with fail
  refine (hn2 _ hb04A).mono ?_
  rintro e w5 ⟨a5, c5, rfl, _, hb5⟩
  simp only [zeroN, List.length_nil] at *
  have hb05 := hb04A.trans (hb5.mono hb04A.size)
  have hA5 := (Below.refl w5.heap.size w5).alloc (Nat.le_refl _) (.cells #[.int .i64 0, .string ⟨#[]⟩, .slice a5 0 c5, .int .i64 0, .int .i64 0, .int .i64 0, .string ⟨#[]⟩, .bool false] 24)
  have hb05A := hb05.trans (hA5.mono hb05.size)
  have TQ5 := TQ4.later hb5
  have TA5 := TA4.later hb5
  have TZ5 := TB.new 24 w5 #[.int .i64 0, .string ⟨#[]⟩, .slice a5 0 c5, .int .i64 0, .int .i64 0, .int .i64 0, .string ⟨#[]⟩, .bool false]
  have g1 := fun j => TQ5.cell j
  have l1 := TQ5.lt
  have g2 := fun j => TA5.cell j
  have l2 := TA5.lt
  have hSq5 := (hSq4.later hb5).later hA5
  have hSa5 := (hSa4.later hb5).later hA5
  have hTT : ((T.size : Int) == T.size) = true := by simp
  clear TQ4 TA4
  go_wp2_with fail
  refine (hchk a c _ hSq5).mono ?_
  rintro e w6 ⟨rfl, hb6⟩
  have hb06 := hb05A.trans (hb6.mono hb05A.size)
  have TQ6 := (TQ5.alloc (.cells #[.int .i64 0, .string ⟨#[]⟩, .slice a5 0 c5, .int .i64 0, .int .i64 0, .int .i64 0, .string ⟨#[]⟩, .bool false] 24)).later hb6
  have TA6 := (TA5.alloc (.cells #[.int .i64 0, .string ⟨#[]⟩, .slice a5 0 c5, .int .i64 0, .int .i64 0, .int .i64 0, .string ⟨#[]⟩, .bool false] 24)).later hb6
  have TZ6 := TZ5.later hb6
  have f1 := fun j => TQ6.cell j
  have f2 := fun j => TA6.cell j
  have hsame := keepSame_same xk xy xs xf xe xn xv xq a4 a c4 c w6 (hSa5.later hb6) (hSq5.later hb6)
  clear g1 g2 TQ5 TA5
  go_wp2_with fail
  refine hsame.mono ?_
  rintro e w7 ⟨rfl, hb7⟩
  have hb07 := hb06.trans (hb7.mono hb06.size)
  have TZ7 := TZ6.later hb7
  have f3 := TZ7.cell 0
  simp at f3
  go_wp2
  go_ret
  exact ⟨rfl, hb07⟩
end Go.Proofs.YtkjfkonekajffaaDoor
