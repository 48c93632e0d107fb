/- The contract of record.Of. -/
import Derived.Test.YtbabiandegianaaFConv
namespace Go.Proofs.Ytbabiandegianaa
open Go.ChangeShapes Go.WideShapes Go.ChangeAt Go.RowKit
set_option linter.unusedVariables false
set_option linter.unusedSimpArgs false

set_option maxHeartbeats 1000000 in
theorem recOf_any (s : ByteArray) (w : World) (hs : s.size ≤ 200) :
    Calls Try.prog 14 #[.string s] w fun e w' => BytesPost (recOf s.data.toList) w e w' := by
  obtain ⟨s0, s1⟩ := sumF_range s.data.toList 7 (by decide) (by decide)
  have hR : recOf s.data.toList = [UInt8.ofNat s.size, UInt8.ofNat (sumF s.data.toList 7 / 256).toNat, UInt8.ofNat (sumF s.data.toList 7 % 256).toNat] ++ s.data.toList := rfl
  have hlen : s.data.toList.length = s.size := rfl
  have hst : strB s.data.toList = s := rfl
  have hB := (bytes_of w s.data.toList (by unfold maxLen; omega)).1
  have hb1 := bytes_below w (strB s.data.toList)
  have kc : (convert 9 38 (.string s)).run Try.prog w = .ok (.slice (some ⟨w.heap.size, 0, none⟩) s.size (grownCap w s.size 0 5)) (Lib.bytesWorld w 5 s) := Lib.run_convert_string_bytes (P := Try.prog) w 9 38 5 s Try.underlying9 Try.underlying38 Try.underlying5
  rw [hst] at hB hb1
  have hsm := sum_any s.data.toList (some ⟨w.heap.size, 0, none⟩) (grownCap w s.size 0 5) (Lib.bytesWorld w 5 s) hB
  rw [hlen] at hsm
  generalize Lib.bytesWorld w 5 s = w1 at *
  generalize grownCap w s.size 0 5 = cap0 at *
  generalize recOf s.data.toList = R at *
  generalize sumF s.data.toList 7 = S at *
  have hO := fun w1 => own_new w1 [UInt8.ofNat s.size, UInt8.ofNat (S / 256).toNat, UInt8.ofNat (S % 256).toNat] (by show 3 ≤ 1000; omega)
  simp only [List.map_cons, List.map_nil, u8_nat s.size (by omega), u8_nat (S / 256).toNat (by omega), u8_nat (S % 256).toNat (by omega)] at hO
  rw [show (((S / 256).toNat : Nat) : Int) = S / 256 by omega, show (((S % 256).toNat : Nat) : Int) = S % 256 by omega] at hO
  have h3 : [UInt8.ofNat s.size, UInt8.ofNat (S / 256).toNat, UInt8.ofNat (S % 256).toNat].length = 3 := rfl
  have hl3 : ([UInt8.ofNat s.size, UInt8.ofNat (S / 256).toNat, UInt8.ofNat (S % 256).toNat] ++ s.data.toList).length = 3 + s.size := by rw [List.length_append, h3]; rfl
  generalize [UInt8.ofNat s.size, UInt8.ofNat (S / 256).toNat, UInt8.ofNat (S % 256).toNat] = H at *
  rw [h3] at hO
  have e1 : IntKind.u8.wrap (s.size : Int) = (s.size : Int) := by simp only [IntKind.wrap_u8]; omega
  have e2 : IntKind.u8.wrap (S / 256) = S / 256 := by simp only [IntKind.wrap_u8]; omega
  have e3 : IntKind.u8.wrap S = S % 256 := by simp only [IntKind.wrap_u8]
  go_enter Try.func14, Try.ntmps14
  go_wp2_with (first | (go_at_call 24; refine hsm.mono ?_; rintro e w1 ⟨rfl, rfl⟩) | (at_builtin; refine append_text _ rfl (.tmp 15) (.tmp 16) rfl _ _ H rfl (hO _) (by omega) s rfl (by omega) ?_; intro g2 cap2 w2 hW2))
  go_ret
  subst hR
  obtain ⟨g3, cap3, e3, hge, hB3, _⟩ := hW2.form (by omega)
  cases e3
  exact ⟨g2, cap2, by rw [hl3]; rfl, hB3, Nat.le_trans hb1.size hge, hb1.trans (hW2.2.mono hb1.size)⟩
end Go.Proofs.Ytbabiandegianaa
