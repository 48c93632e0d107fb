/- The walk of dovecotelaw.FlashCopies, given the sizes. -/
import Derived.Test.YtidkdkdibkapoabFCopyW
namespace Go.Proofs.Ytidkdkdibkapoab.FlashCopies
open Go.ChangeShapes Go.WideShapes Go.ChangeAt Go.RowKit
set_option linter.unusedVariables false
set_option linter.unusedSimpArgs false

set_option maxHeartbeats 1000000 in
theorem walk (m x : Int) (ps : List PageR) (a : Option Addr) (c : Nat) (w : World) (hA : PagesAt w a ps) (hn : ps.length * 32 ≤ 140737488351232) (hbs : ∀ j, j < ps.length → (ps.getD j default).bs.length ≤ 140737488351232) :
    Calls Try.prog 5 #[.agg #[.int .i64 m, .int .i64 x, .slice a ps.length c]] w fun e w' => e = .returned (.bool true) ∧ Below w.heap.size w w' := by
  have hc1 := fun (w1 : World) (hb : Below w.heap.size w w1) => copy_any m x ps a c w1 (hA.later hb) hn hbs
  have hB0 : Below w.heap.size w (w.alloc (.cells #[.int .i64 m, .int .i64 x, .slice a ps.length c] 24)) := (Below.refl _ _).alloc (Nat.le_refl _) _
  go_enter Try.func5, Try.ntmps5
  go_wp2_with fail
  refine (hc1 _ hB0).mono ?_
  rintro e w1 ⟨a', c', rfl, hP', hb1⟩
  obtain ⟨q1, q2⟩ := bcell hb1
  have hz := bsize hb1
  have hB1 := hB0.trans (hb1.mono hB0.size)
  have hs1 := fun (w2 : World) (hb : Below w1.heap.size w1 w2) => sameFlash_same m x ps a' a c' c w2 (hP'.later hb) ((hA.later hB1).later hb)
  have hB2 : Below w1.heap.size w1 (w1.alloc (.cells #[.int .i64 m, .int .i64 x, .slice a' ps.length c'] 24)) := (Below.refl _ _).alloc (Nat.le_refl _) _
  go_wp2_with fail
  refine (hs1 _ hB2).mono ?_
  rintro e w2 ⟨rfl, hb2⟩
  go_wp2
  go_ret
  exact ⟨rfl, hB1.trans ((hB2.trans (hb2.mono hB2.size)).mono hB1.size)⟩
end Go.Proofs.Ytidkdkdibkapoab.FlashCopies
