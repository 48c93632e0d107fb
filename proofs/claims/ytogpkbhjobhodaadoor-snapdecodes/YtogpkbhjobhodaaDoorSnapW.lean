/- The contracts of bytes.Equal, bytes.HasPrefix and snap.wrapping. -/
import Derived.Test.YtogpkbhjobhodaaDoorSnapV
import Derived.Test.YtogpkbhjobhodaaDoorSnapL
import Derived.Lib.SlBytesConst
import Derived.Deep.RegionHeld3
namespace Go.Proofs.YtogpkbhjobhodaaDoor
open Go.ChangeShapes Go.WideShapes Go.ChangeAt Go.RowKit
set_option linter.unusedVariables false
set_option linter.unusedSimpArgs false

theorem strB_toList (l : List UInt8) : (strB l).toList = l := by rw [ByteArray.toList_eq]; rfl

set_option maxHeartbeats 400000 in
theorem bequal_any (l r : List UInt8) (a b : Option Addr) (c d : Nat) (w : World) (hA : BytesAt w a l) (hB : BytesAt w b r) :
    Calls Tryd.prog 17 #[.slice a l.length c, .slice b r.length d] w fun e w' => e = .returned (.bool (l == r)) ∧ w' = w := by
  have v1 := conv_bytes hA c
  have v2 := conv_bytes hB d
  have e1 : Hid (((strB l).toList == (strB r).toList) = (l == r)) := by unfold Hid; rw [strB_toList, strB_toList]
  generalize strB l = L at *
  generalize strB r = R at *
  generalize (l == r) = T at *
  go_enter Tryd.func17, Tryd.ntmps17
  go_wp2
  go_ret
  exact ⟨ret_bool e1.out, rfl⟩

set_option maxHeartbeats 400000 in
theorem bprefix_any (l p : List UInt8) (a b : Option Addr) (c d : Nat) (w : World) (hA : BytesAt w a l) (hB : BytesAt w b p) (hlc : l.length ≤ c) (hcm : c ≤ maxLen) (hle : p.length ≤ l.length) :
    Calls Tryd.prog 16 #[.slice a l.length c, .slice b p.length d] w fun e w' => e = .returned (.bool (l.take p.length == p)) ∧ w' = w := by
  have htl : (l.take p.length).length = p.length := by rw [List.length_take]; omega
  have hc := fun c' => bequal_any (l.take p.length) p a b c' d w (bytes_take hA p.length hle) hB
  rw [htl] at hc
  have hmax := hA.1
  unfold maxLen at hmax hcm
  have hz : (p.length : Int) ≤ (l.length : Int) := by omega
  have hz2 : (p.length : Int) ≤ (c : Int) := by omega
  generalize (l.take p.length == p) = T at *
  go_enter Tryd.func16, Tryd.ntmps16
  go_wp2_with (go_at_call 17; refine (hc _).mono ?_; rintro e w1 ⟨rfl, rfl⟩)
  go_ret
  exact ⟨rfl, rfl⟩

/-- What is wrong with how bytes begin and end. -/
def wrapE (l : List UInt8) : Int := if 200000 < l.length then 1 else if l.length < 7 then 5 else if (l.take 3 == mark3) = false then 4 else if (l.drop (l.length - 4) == sealB (l.take (l.length - 4))) = false then 9 else 0

theorem mark_at (w : World) : BytesAt (w.alloc (.cells #[.int .u8 100, .int .u8 99, .int .u8 49] 5 (3, 4))) (some ⟨w.heap.size, 0, none⟩) mark3 := by
  refine ⟨by decide, Or.inr ⟨w.heap.size, 0, rfl, by simp, fun j hj => ?_⟩⟩
  have h1 : (w.alloc (.cells #[.int .u8 100, .int .u8 99, .int .u8 49] 5 (3, 4))).heap[w.heap.size]? = some (.cells #[.int .u8 100, .int .u8 99, .int .u8 49] 5 (3, 4)) := heap_alloc_new w _
  have h2 : ∀ o, (w.alloc (.cells #[.int .u8 100, .int .u8 99, .int .u8 49] 5 (3, 4))).cell? ⟨w.heap.size, o, none⟩ = (#[.int .u8 100, .int .u8 99, .int .u8 49] : Array Value)[o]? := fun o => by simp only [World.cell?]; rw [h1]; rfl
  have hj3 : j = 0 ∨ j = 1 ∨ j = 2 := by simp [mark3] at hj; omega
  rcases hj3 with rfl | rfl | rfl <;> (rw [h2]; rfl)

set_option maxHeartbeats 2000000 in
set_option maxRecDepth 100000 in
theorem wrapping_any (l : List UInt8) (a : Option Addr) (c : Nat) (w : World) (hA : BytesAt w a l) (hlc : l.length ≤ c) (hcm : c ≤ maxLen) :
    Calls Tryd.prog 7 #[.slice a l.length c] w fun e w' => e = .returned (.int .i64 (wrapE l)) ∧ Below w.heap.size w w' := by
  have hmax := hA.1
  have hcm2 := hcm
  unfold maxLen at hmax hcm2
  have EW : Hid (wrapE l = if 200000 < l.length then 1 else if l.length < 7 then 5 else if (l.take 3 == mark3) = false then 4 else if (l.drop (l.length - 4) == sealB (l.take (l.length - 4))) = false then 9 else 0) := rfl
  generalize wrapE l = R at *
  by_cases h1 : 200000 < l.length
  · have h1z : (200000 : Int) < (l.length : Int) := by omega
    rw [if_pos h1] at EW
    go_enter Tryd.func7, Tryd.ntmps7
    go_wp2
    go_ret
    exact ⟨ret_i64 EW.out.symm, Below.refl _ _⟩
  have h1z : ¬ (200000 : Int) < (l.length : Int) := by omega
  rw [if_neg h1] at EW
  by_cases h2 : l.length < 7
  · have h2z : (l.length : Int) < 7 := by omega
    rw [if_pos h2] at EW
    go_enter Tryd.func7, Tryd.ntmps7
    go_wp2
    go_ret
    exact ⟨ret_i64 EW.out.symm, Below.refl _ _⟩
  have h2z : ¬ (l.length : Int) < 7 := by omega
  rw [if_neg h2] at EW
  have hcv : (convert 22 22 (.slice (some ⟨w.heap.size, 0, none⟩) 3 3)).run Tryd.prog (w.alloc (.cells #[.int .u8 100, .int .u8 99, .int .u8 49] 5)) = .ok (.slice (some ⟨w.heap.size, 0, none⟩) 3 3) (w.alloc (.cells #[.int .u8 100, .int .u8 99, .int .u8 49] 5 (3, 4))) :=
    Lib.run_convert_bytes_const (P := Tryd.prog) w 22 5 #[.int .u8 100, .int .u8 99, .int .u8 49] 3 3 Tryd.underlying22 Tryd.underlying5
  have A1 : Below w.heap.size w (w.alloc (.cells #[.int .u8 100, .int .u8 99, .int .u8 49] 5 (3, 4))) := (Below.refl _ _).alloc (Nat.le_refl _) _
  have hpre := bprefix_any l mark3 a (some ⟨w.heap.size, 0, none⟩) c 3 _ (hA.later A1) (mark_at w) hlc hcm (by show 3 ≤ l.length; omega)
  rw [show mark3.length = 3 from rfl] at hpre
  cases hp : (l.take 3 == mark3)
  · rw [if_pos hp] at EW
    rw [hp] at hpre
    go_enter Tryd.func7, Tryd.ntmps7
    go_wp2_with (go_at_call 16; refine hpre.mono ?_; rintro e w1 ⟨rfl, rfl⟩)
    go_ret
    exact ⟨ret_i64 EW.out.symm, A1⟩
  · rw [if_neg (by rw [hp]; decide)] at EW
    rw [hp] at hpre
    have hT := bytes_take (hA.later A1) (l.length - 4) (by omega)
    have htl : (l.take (l.length - 4)).length = l.length - 4 := by rw [List.length_take]; omega
    have hdl : (l.drop (l.length - 4)).length = 4 := by rw [List.length_drop]; omega
    generalize hN : l.length - 4 = N at *
    have e4 : (l.length : Int) - 4 = (N : Int) := by omega
    have n0 : (0 : Int) ≤ (N : Int) := by omega
    have n1 : (N : Int) ≤ (l.length : Int) := by omega
    have n2 : (N : Int) ≤ (c : Int) := by omega
    have n3 : l.length - N = 4 := by omega
    have n4 : ¬ c - N = 0 := by omega
    obtain ⟨_, hm⟩ := hA
    rcases hm with hm | ⟨b, o, rfl, hbl, hc⟩
    · omega
    have hD := bytes_drop hc hbl (by unfold maxLen; omega) N (some ⟨b, o + N, none⟩) (fun _ => rfl)
    have hd1 : Below (w.alloc (.cells #[.int .u8 100, .int .u8 99, .int .u8 49] 5 (3, 4))).heap.size (w.alloc (.cells #[.int .u8 100, .int .u8 99, .int .u8 49] 5 (3, 4))) (w.alloc (.cells #[.int .u8 100, .int .u8 99, .int .u8 49] 5 (3, 4))).drew := drewN_below _ 1
    have hseal : Calls Tryd.prog 18 #[.slice (some ⟨b, o, none⟩) N c] (w.alloc (.cells #[.int .u8 100, .int .u8 99, .int .u8 49] 5 (3, 4))).drew (NewPost (sealB (l.take N)) (w.alloc (.cells #[.int .u8 100, .int .u8 99, .int .u8 49] 5 (3, 4))).drew) := by
      have := seal_any (l.take N) (some ⟨b, o, none⟩) c _ (hT.later hd1)
      rw [htl] at this
      exact this
    have hAd := A1.trans (hd1.mono A1.size)
    have hsl : (sealB (l.take N)).length = 4 := seal_len _
    have hEq : ∀ (w2 : World) (a2 : Option Addr) (c2 : Nat), BytesAt w2 a2 (sealB (l.take N)) → Below w.heap.size w w2 → Calls Tryd.prog 17 #[.slice (some ⟨b, o + N, none⟩) 4 (c - N), .slice a2 4 c2] w2 fun e w' => e = .returned (.bool (l.drop N == sealB (l.take N))) ∧ w' = w2 := fun w2 a2 c2 h2 hb => by
      have := bequal_any (l.drop N) (sealB (l.take N)) (some ⟨b, o + N, none⟩) a2 (c - N) c2 w2 (hD.later hb) h2
      rw [hdl, hsl] at this
      exact this
    unfold NewPost at hseal
    generalize sealB (l.take N) = SB at *
    generalize (l.drop N == SB) = TT at *
    clear hT hD hc
    cases TT
    · rw [if_pos rfl] at EW
      go_enter Tryd.func7, Tryd.ntmps7
      go_wp2_with (go_at_call 16; refine hpre.mono ?_; rintro e w1 ⟨rfl, rfl⟩)
      go_region_held3 (fun _ => True) (trivial) (first | (go_at_call 18; refine hseal.mono ?_; rintro e w2 ⟨v2, rfl, hR2, hb2⟩; obtain ⟨a2, c2, rfl, hA2⟩ := hR2.bytes (by unfold maxLen; omega); have hbw2 := hAd.trans (hb2.mono hAd.size); rw [hsl]) | (go_at_call 17; refine (hEq _ _ _ hA2 hbw2).mono ?_; rintro e w3 ⟨rfl, rfl⟩))
      go_wp2
      go_ret
      exact ⟨ret_i64 EW.out.symm, hbw2⟩
    · rw [if_neg (by decide)] at EW
      go_enter Tryd.func7, Tryd.ntmps7
      go_wp2_with (go_at_call 16; refine hpre.mono ?_; rintro e w1 ⟨rfl, rfl⟩)
      go_region_held3 (fun _ => True) (trivial) (first | (go_at_call 18; refine hseal.mono ?_; rintro e w2 ⟨v2, rfl, hR2, hb2⟩; obtain ⟨a2, c2, rfl, hA2⟩ := hR2.bytes (by unfold maxLen; omega); have hbw2 := hAd.trans (hb2.mono hAd.size); rw [hsl]) | (go_at_call 17; refine (hEq _ _ _ hA2 hbw2).mono ?_; rintro e w3 ⟨rfl, rfl⟩))
      go_wp2
      go_ret
      exact ⟨ret_i64 EW.out.symm, hbw2⟩
end Go.Proofs.YtogpkbhjobhodaaDoor
