/- dovecotekeep.wireTells answers true. -/
import Derived.Test.YtkjfkonekajffaaDoorKReq
import Derived.Test.YtkjfkonekajffaaDoorTaken
namespace Go.Proofs.YtkjfkonekajffaaDoor
open Go.ChangeShapes Go.WideShapes Go.ChangeAt Go.RowKit
set_option linter.unusedVariables false

def aS : ByteArray := ⟨#[97]⟩
theorem zero_keys : getKeys 0 0 0 = [aS] := by decide
theorem zero_check : checkN 1 ⟨#[]⟩ [aS] 0 0 0 ⟨#[]⟩ false = 0 := by
  have he : (⟨#[]⟩ : ByteArray).toList.isEmpty = true := by rw [isEmpty_of]; rfl
  rw [check_eq]
  unfold keyBad fieldsBad
  rw [he]
  decide
theorem zero_enc : encN 1 ⟨#[]⟩ [aS] 0 0 0 ⟨#[]⟩ false = 0 := by
  unfold encN
  rw [if_pos zero_check]
  rfl
theorem zero_text : encS 1 ⟨#[]⟩ [aS] 0 0 0 ⟨#[]⟩ false = textS 1 ⟨#[]⟩ [aS] 0 0 0 ⟨#[]⟩ false := by
  unfold encS
  rw [if_pos zero_enc]

def LaidA (w : World) : Prop := LaidN w ∧ LaidW w
theorem LaidA.later {w w' : World} (h : LaidA w) (hb : Below w.heap.size w w') : LaidA w' := ⟨h.1.later hb, h.2.later hb⟩

set_option maxHeartbeats 1000000 in
set_option maxRecDepth 100000 in
theorem tells_any (w : World) (hL : LaidA w) : Calls Tryd.prog 11 #[] w fun e w' => e = .returned (.bool true) ∧ Below w.heap.size w w' := by
  have hr := request_get 0 0 0 0 w ⟨by decide, by decide⟩ ⟨by decide, by decide⟩ ⟨by decide, by decide⟩ ⟨by decide, by decide⟩ (by decide)
  rw [zero_keys] at hr
  have hn := next_enc 1 ⟨#[]⟩ [aS] 0 0 0 ⟨#[]⟩ false zero_check (by decide) (textS 1 ⟨#[]⟩ [aS] 0 0 0 ⟨#[]⟩ false) ByteArray.empty (by simp)
  have hT : (textS 1 ⟨#[]⟩ [aS] 0 0 0 ⟨#[]⟩ false).size = 6 := by decide
  have hne : (textS 1 ⟨#[]⟩ [aS] 0 0 0 ⟨#[]⟩ false).toList.isEmpty = false := by
    rw [isEmpty_of, hT]
    rfl
  have henc := fun (a : Option Addr) (c : Nat) (w1 : World) (hL1 : LaidW w1) (hK : StrsAt w1 a 1 [aS]) => encode_any 1 ⟨#[]⟩ a 1 c [aS] 0 0 0 ⟨#[]⟩ false w1 hL1 hK (Nat.zero_le _) (Nat.zero_le _)
  rw [zero_enc, zero_text] at henc
  generalize textS 1 ⟨#[]⟩ [aS] 0 0 0 ⟨#[]⟩ false = T at *
  have hnx := fun (w1 : World) (hL1 : LaidN w1) => next_any T w1 hL1 (by rw [hT]; decide)
  rw [hn] at hnx
  have hT2 : ((T.size : Int) == (T.size : Int)) = true := by simp
  go_enter Tryd.func11, Tryd.ntmps11
  go_wp2_with fail
  refine hr.mono ?_
  rintro e w1 ⟨a, c, rfl, hS, hb1⟩
  go_wp2_with fail
  refine (henc a c _ (hL.2.later hb1) hS).mono ?_
  rintro e w2 ⟨rfl, hb2⟩
  have hb12 := hb1.trans (hb2.mono hb1.size)
  go_wp2_with fail
  refine (hnx _ (hL.1.later hb12)).mono ?_
  rintro e w3 ⟨a3, c3, rfl, hS3, hb3⟩
  have hb13 := hb12.trans (hb3.mono hb12.size)
  simp only [nextRof] at *
  go_wp2
  go_ret
  exact ⟨rfl, hb13.alloc hb13.size _⟩
end Go.Proofs.YtkjfkonekajffaaDoor
