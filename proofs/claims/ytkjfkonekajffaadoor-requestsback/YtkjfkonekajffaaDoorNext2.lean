/- The contracts of strings.Clone, wire.withValue and wire.Next. -/
import Derived.Test.YtkjfkonekajffaaDoorNext
namespace Go.Proofs.YtkjfkonekajffaaDoor
open Go.ChangeShapes Go.WideShapes Go.ChangeAt Go.RowKit
set_option linter.unusedVariables false

theorem clone_any (s : ByteArray) (w : World) (hs : s.size ≤ 300) :
    Calls Tryd.prog 22 #[.string s] w fun e w' => e = .returned (.string s) ∧ Below w.heap.size w w' := by
  have hc := fun w1 => Tryd.stringslite_Clone s w1 (by omega)
  go_enter Tryd.func22, Tryd.ntmps22
  go_wp2_with (refine (hc _).mono ?_; rintro e w' ⟨rfl, hb⟩)
  go_ret
  exact ⟨rfl, hb⟩

/-- A line's request behind its value's bytes. -/
def valD (R : LineR) (s : ByteArray) (st sz : Nat) : NextR :=
  if 200 < sz then badN st
  else if s.size ≤ st + sz then zeroN
  else if s.data.toList.getD (st + sz) 0 = 10 then chkD R.kind R.key R.keys R.flags R.exp R.nn (s.extract st (st + sz)) R.quiet ((st + sz + 1 : Nat) : Int)
  else badN st

set_option maxHeartbeats 400000 in
set_option maxRecDepth 100000 in
theorem withValue_any (R : LineR) (ka : Option Addr) (kc : Nat) (s : ByteArray) (st sz : Nat) (w : World) (hK : StrsAt w ka R.keys.length R.keys) (hk : R.key.size ≤ maxLen) (hs : s.size ≤ maxLen) (hst : st ≤ s.size) (hst2 : st ≤ 301) (hsz : sz ≤ 1099511627776) :
    Calls Tryd.prog 24 #[.agg #[.int .i64 R.kind, .string R.key, .slice ka R.keys.length kc, .int .i64 R.flags, .int .i64 R.exp, .int .i64 R.nn, .string ⟨#[]⟩, .bool R.quiet], .string s, .int .i64 st, .int .i64 sz] w fun e w' => CheckPost (valD R s st sz) ka R.keys w e w' := by
  have hs' := hs
  unfold maxLen at hs'
  obtain ⟨kind, key, keys, flags, exp, nn, quiet, size⟩ := R
  simp only at *
  have hB0 : Below w.heap.size w ((w.alloc (.cells #[.int .i64 kind, .string key, .slice ka keys.length kc, .int .i64 flags, .int .i64 exp, .int .i64 nn, .string ⟨#[]⟩, .bool quiet] 24)).alloc (.cells #[.int .i64 0, .string ⟨#[]⟩, .slice none 0 0, .int .i64 0, .int .i64 0, .int .i64 0, .string ⟨#[]⟩, .bool false] 24)) := ((Below.refl _ _).alloc (Nat.le_refl _) _).alloc (by simp) _
  by_cases h1 : 200 < sz
  · have E : Hid (valD ⟨kind, key, keys, flags, exp, nn, quiet, size⟩ s st sz = badN st) := by unfold Hid valD; rw [if_pos h1]
    have h1' : (200 : Int) < (sz : Int) := by omega
    have hbo := badOf_any (st : Int)
    go_enter Tryd.func24, Tryd.ntmps24
    go_wp2_with fail
    refine (hbo _).mono ?_
    rintro e w2 ⟨rfl, hb2⟩
    obtain ⟨p1, p2⟩ := bcell hb2
    have hz : w.heap.size + 1 < w2.heap.size := by have := bsize hb2; simpa using this
    have hz' : w.heap.size < w2.heap.size := by omega
    have hBb := hB0.trans (hb2.mono hB0.size)
    go_wp2
    exact bodyPost_ret (v := .tuple #[.agg #[.int .i64 13, .string ⟨#[]⟩, .slice none 0 0, .int .i64 0, .int .i64 0, .int .i64 0, .string ⟨#[]⟩, .bool false], .int .i64 st]) (by simp [results, Tryd.results24, go_sem, p1]) rfl ⟨none, 0, by rw [E.out]; rfl, Or.inr ⟨rfl, by rw [E.out]; rfl⟩, ((((((((hBb.setCell (Nat.le_succ _) _).setCell (Nat.le_succ _) _).setCell (Nat.le_succ _) _).setCell (Nat.le_succ _) _).setCell (Nat.le_succ _) _).setCell (Nat.le_succ _) _).setCell (Nat.le_succ _) _).setCell (Nat.le_succ _) _)⟩
  have h1' : ¬ (200 : Int) < (sz : Int) := by omega
  by_cases h2 : s.size ≤ st + sz
  · have E : Hid (valD ⟨kind, key, keys, flags, exp, nn, quiet, size⟩ s st sz = zeroN) := by unfold Hid valD; rw [if_neg h1, if_pos h2]
    have h2' : (s.size : Int) ≤ (st : Int) + (sz : Int) := by omega
    go_enter Tryd.func24, Tryd.ntmps24
    go_wp2
    exact bodyPost_ret (v := .tuple #[.agg #[.int .i64 0, .string ⟨#[]⟩, .slice none 0 0, .int .i64 0, .int .i64 0, .int .i64 0, .string ⟨#[]⟩, .bool false], .int .i64 0]) (by simp [results, Tryd.results24, go_sem]) rfl ⟨none, 0, by rw [E.out]; rfl, Or.inr ⟨rfl, by rw [E.out]; rfl⟩, hB0⟩
  have h2' : ¬ (s.size : Int) ≤ (st : Int) + (sz : Int) := by omega
  have hlt : st + sz < s.size := by omega
  have hba := byteAt s (st + sz) hlt
  by_cases h3 : s.data.toList.getD (st + sz) 0 = 10
  · have E : Hid (valD ⟨kind, key, keys, flags, exp, nn, quiet, size⟩ s st sz = chkD kind key keys flags exp nn (s.extract st (st + sz)) quiet ((st + sz + 1 : Nat) : Int)) := by unfold Hid valD; rw [if_neg h1, if_neg h2, if_pos h3]
    have hb : ((s.data[st + sz].toNat : Int) != 10) = false := by show ((s[st + sz].toNat : Int) != 10) = false; rw [hba, h3]; rfl
    have hsl : ∀ wx : World, (Instr.slice 9 (.string s) (some (.int .i64 (st : Int))) (some (.int .i64 ((st : Int) + (sz : Int)))) none).run Tryd.prog wx = .ok (.string (s.extract st (st + sz))) wx := fun wx => by
      have := run_slice_string (P := Tryd.prog) wx 9 s .i64 .i64 (st : Int) ((st : Int) + (sz : Int)) Tryd.underlying9 (by omega) (by omega) (by omega)
      rw [show ((st : Int) + (sz : Int)).toNat = st + sz by omega] at this
      exact this
    have hcl := fun w1 => clone_any (s.extract st (st + sz)) w1 (by simp only [ByteArray.size_extract]; omega)
    have hch := fun (w1 : World) (hb1 : Below w.heap.size w w1) => checked_any kind key ka keys.length kc keys flags exp nn (s.extract st (st + sz)) quiet ((st + sz + 1 : Nat) : Int) w1 (hK.later hb1) hk (by simp only [ByteArray.size_extract]; unfold maxLen; omega)
    rw [show ((st + sz + 1 : Nat) : Int) = (st : Int) + (sz : Int) + 1 by omega] at hch E
    generalize s.extract st (st + sz) = value at *
    go_enter Tryd.func24, Tryd.ntmps24
    go_wp2_with fail
    refine (hcl _).mono ?_
    rintro e w2 ⟨rfl, hb2⟩
    obtain ⟨p1, p2⟩ := bcell hb2
    have hz : w.heap.size + 1 < w2.heap.size := by have := bsize hb2; simpa using this
    have hz' : w.heap.size < w2.heap.size := by omega
    have hBb := hB0.trans (hb2.mono hB0.size)
    have c6 : w2.cell? ⟨w.heap.size, 6, none⟩ = some (.string ⟨#[]⟩) := by rw [p1 _ _ (by simp; omega)]; simp
    have c6b : (w2.setCell ⟨w.heap.size, 6, none⟩ (.string value)).cell? ⟨w.heap.size, 6, none⟩ = some (.string value) := World.cell?_setCell_same _ _ _ c6
    go_wp2_with fail
    refine (hch _ ?hB).mono ?_
    case hB => exact hBb.setCell (Nat.le_refl _) _
    rintro e w3 ⟨a, c, rfl, ha, hb3⟩
    have hB2' : Below w.heap.size w (w2.setCell ⟨w.heap.size, 6, none⟩ (.string value)) := hBb.setCell (Nat.le_refl _) _
    have hB3 := hB2'.trans (hb3.mono hB2'.size)
    obtain ⟨r1, r2⟩ := bcell hb3
    have hz3 : w.heap.size + 1 < w3.heap.size := by have := hb3.size; simp [World.setCell] at this; omega
    generalize chkD kind key keys flags exp nn value quiet ((st : Int) + (sz : Int) + 1) = X at *
    obtain ⟨xk, xy, xs, xf, xe, xn, xv, xq, xm⟩ := X
    simp only at *
    go_wp2
    exact bodyPost_ret (v := .tuple #[.agg #[.int .i64 xk, .string xy, .slice a xs.length c, .int .i64 xf, .int .i64 xe, .int .i64 xn, .string xv, .bool xq], .int .i64 xm]) (by simp [results, Tryd.results24, go_sem, r1, p1, hz]) rfl ⟨a, c, by rw [E.out], by rw [E.out]; exact ha, ((((((((hB3.setCell (Nat.le_succ _) _).setCell (Nat.le_succ _) _).setCell (Nat.le_succ _) _).setCell (Nat.le_succ _) _).setCell (Nat.le_succ _) _).setCell (Nat.le_succ _) _).setCell (Nat.le_succ _) _).setCell (Nat.le_succ _) _)⟩
  · have E : Hid (valD ⟨kind, key, keys, flags, exp, nn, quiet, size⟩ s st sz = badN st) := by unfold Hid valD; rw [if_neg h1, if_neg h2, if_neg h3]
    have hb : ((s.data[st + sz].toNat : Int) != 10) = true := by
      show ((s[st + sz].toNat : Int) != 10) = true
      rw [hba, bne_iff_ne]
      intro g3
      apply h3
      apply UInt8.toNat_inj.1
      have : (10 : UInt8).toNat = 10 := rfl
      omega
    have hbo := badOf_any (st : Int)
    go_enter Tryd.func24, Tryd.ntmps24
    go_wp2_with fail
    refine (hbo _).mono ?_
    rintro e w2 ⟨rfl, hb2⟩
    obtain ⟨p1, p2⟩ := bcell hb2
    have hz : w.heap.size + 1 < w2.heap.size := by have := bsize hb2; simpa using this
    have hz' : w.heap.size < w2.heap.size := by omega
    have hBb := hB0.trans (hb2.mono hB0.size)
    go_wp2
    exact bodyPost_ret (v := .tuple #[.agg #[.int .i64 13, .string ⟨#[]⟩, .slice none 0 0, .int .i64 0, .int .i64 0, .int .i64 0, .string ⟨#[]⟩, .bool false], .int .i64 st]) (by simp [results, Tryd.results24, go_sem, p1]) rfl ⟨none, 0, by rw [E.out]; rfl, Or.inr ⟨rfl, by rw [E.out]; rfl⟩, ((((((((hBb.setCell (Nat.le_succ _) _).setCell (Nat.le_succ _) _).setCell (Nat.le_succ _) _).setCell (Nat.le_succ _) _).setCell (Nat.le_succ _) _).setCell (Nat.le_succ _) _).setCell (Nat.le_succ _) _).setCell (Nat.le_succ _) _)⟩
end Go.Proofs.YtkjfkonekajffaaDoor
