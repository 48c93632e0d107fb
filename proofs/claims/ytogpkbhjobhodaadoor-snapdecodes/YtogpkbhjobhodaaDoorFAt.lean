/- The contract of record.At: the value of the record that begins at a place. -/
import Derived.Test.YtogpkbhjobhodaaDoorFValD
namespace Go.Proofs.YtogpkbhjobhodaaDoor
open Go.ChangeShapes Go.WideShapes Go.ChangeAt Go.RowKit
set_option linter.unusedVariables false
set_option linter.unusedSimpArgs false

def AtPost (l : List UInt8) (p : Int) (w : World) (e : Ending) (w' : World) : Prop :=
  e = .returned (.tuple #[.string ((valO (valsAt 0 l) p).getD ⟨#[]⟩), .bool (valO (valsAt 0 l) p).isSome]) ∧ w' = w

theorem at_no {l : List UInt8} {p : Int} {w : World} (h : valO (valsAt 0 l) p = none) : AtPost l p w (.returned (.tuple #[.string ⟨#[]⟩, .bool false])) w := by
  refine ⟨?_, rfl⟩
  rw [h]
  rfl
theorem at_yes {l : List UInt8} {p : Int} {w : World} {s : ByteArray} (h : valO (valsAt 0 l) p = some s) : AtPost l p w (.returned (.tuple #[.string s, .bool true])) w := by
  refine ⟨?_, rfl⟩
  rw [h]
  rfl

set_option maxHeartbeats 2000000 in
set_option maxRecDepth 100000 in
theorem at_any (l : List UInt8) (p : Int) (a : Option Addr) (c : Nat) (w : World) (hA : BytesAt w a l) (h1 : 1 ≤ l.length) (hlc : l.length ≤ c) (hcm : c ≤ maxLen) (hp0 : -9223372036854775808 ≤ p) (hp1 : p ≤ 9223372036854775807) :
    Calls Tryd.prog 66 #[.slice a l.length c, .int .i64 p] w (AtPost l p w) := by
  have hmax := hA.1
  unfold maxLen at hmax hcm
  go_enter Tryd.func66, Tryd.ntmps66
  go_wp2_with fail
  go_loopw [6] (fun i wr => ∃ k : Nat, k ≤ l.length ∧ i = .int .i64 k ∧ wr = w ∧ Hid (valO (valsAt 0 l) p = valO (valsAt k (l.drop k)) p)) (fun i _ => l.length - (intOf i).toNat)
  case atStart => exact ⟨0, Nat.zero_le _, rfl, rfl, rfl⟩
  case round =>
    obtain ⟨k, hk, rfl, rfl, E⟩ := hrel
    by_cases hle : (k : Int) ≤ p
    · obtain ⟨_, hm⟩ := hA
      rcases hm with hm | ⟨b, o, rfl, hbl, hc⟩
      · omega
      have hsz := fun (a' : Option Addr) (c' : Nat) (h : k < l.length → a' = some ⟨b, o + k, none⟩) => size_any (l.drop k) a' c' wr (bytes_drop hc hbl (by unfold maxLen; omega) k a' h)
      have hdl : (l.drop k).length = l.length - k := List.length_drop
      rw [hdl] at hsz
      have k0 : (0 : Int) ≤ (k : Int) := Int.natCast_nonneg _
      have k1 : (k : Int) ≤ (l.length : Int) := by omega
      have k2 : (k : Int) ≤ (c : Int) := by omega
      have hrl := recN_le (l.drop k)
      by_cases hz : recN (l.drop k) = 0
      · have E2 : Hid (valO (valsAt 0 l) p = none) := by unfold Hid; rw [E.out]; exact valO_none k _ p hz
        rw [hz] at hsz
        clear hc E hz hrl
        by_cases hck : c = k
        · go_wp2_with (go_at_call 61; refine (hsz _ _ (fun h => by first | rfl | omega | (simp; omega))).mono ?_; rintro e w1 ⟨rfl, rfl⟩)
          go_ret2
          exact at_no E2.out
        · go_wp2_with (go_at_call 61; refine (hsz _ _ (fun h => by first | rfl | omega | (simp; omega))).mono ?_; rintro e w1 ⟨rfl, rfl⟩)
          go_ret2
          exact at_no E2.out
      · have hr3 := recN_three _ hz
        have hck : ¬ c = k := by omega
        have hzb : ((recN (l.drop k) : Int) == 0) = false := by simp; omega
        by_cases hkp : (k : Int) = p
        · have E2 : Hid (valO (valsAt 0 l) p = some (strB (((l.drop k).take (recN (l.drop k))).drop 3))) := by unfold Hid; rw [E.out, ← hkp]; exact valO_here k _ hz
          have hBk : BytesAt wr (some ⟨b, o + k, none⟩) (l.drop k) := bytes_drop hc hbl (by unfold maxLen; omega) k _ (fun _ => rfl)
          have hBr : BytesAt wr (some ⟨b, o + k, none⟩) ((l.drop k).take (recN (l.drop k))) := bytes_take hBk _ hrl
          have hsl : ((l.drop k).take (recN (l.drop k))).length = recN (l.drop k) := by rw [List.length_take]; omega
          have hBv : ∀ a', (3 < recN (l.drop k) → a' = some ⟨b, o + (k + 3), none⟩) → BytesAt wr a' (((l.drop k).take (recN (l.drop k))).drop 3) := by
            intro a' ha
            obtain ⟨g1, g2⟩ := hBr
            rcases g2 with g2 | ⟨b2, o2, g3, g4, g5⟩
            · omega
            · cases g3
              refine bytes_drop g5 g4 g1 3 a' (fun h => ?_)
              rw [ha (by omega), Nat.add_assoc]
          have hvl : (((l.drop k).take (recN (l.drop k))).drop 3).length = recN (l.drop k) - 3 := by rw [List.length_drop, hsl]
          have cvV := fun (a' : Option Addr) (h : 3 < recN (l.drop k) → a' = some ⟨b, o + (k + 3), none⟩) (c' : Nat) => conv_bytes (hBv a' h) c'
          rw [hvl] at cvV
          have hkpb : ((k : Int) == p) = true := by simp [hkp]
          generalize ((l.drop k).take (recN (l.drop k))).drop 3 = V at *
          generalize recN (l.drop k) = R at *
          have a1 : IntKind.i64.wrap ((k : Int) + 3) = (k : Int) + 3 := by simp only [IntKind.wrap_i64]; omega
          have a2 : IntKind.i64.wrap ((k : Int) + (R : Int)) = (k : Int) + (R : Int) := by simp only [IntKind.wrap_i64]; omega
          have a3 : (0 : Int) ≤ (k : Int) + 3 := by omega
          have a4 : (k : Int) + 3 ≤ (k : Int) + (R : Int) := by omega
          have a5 : (k : Int) + (R : Int) ≤ (c : Int) := by omega
          have a6 : k + R - (k + 3) = R - 3 := by omega
          have a7 : ((k : Int) + (R : Int)).toNat = k + R := by omega
          have a8 : ((k : Int) + 3).toNat = k + 3 := by omega
          clear hc E hz hBk hBr hBv hsl hvl hkp
          by_cases hcc : c = k + 3
          · have cv1 := cvV (some ⟨b, o, none⟩) (fun h => absurd h (by omega)) 0
            subst hcc
            go_wp2_with (go_at_call 61; refine (hsz _ _ (fun h => by first | rfl | omega | (simp; omega))).mono ?_; rintro e w1 ⟨rfl, rfl⟩)
            go_ret2
            exact at_yes E2.out
          · have cv1 := cvV (some ⟨b, o + (k + 3), none⟩) (fun _ => rfl) (c - (k + 3))
            go_wp2_with (go_at_call 61; refine (hsz _ _ (fun h => by first | rfl | omega | (simp; omega))).mono ?_; rintro e w1 ⟨rfl, rfl⟩)
            go_ret2
            exact at_yes E2.out
        · have hdd : (l.drop k).drop (recN (l.drop k)) = l.drop (k + recN (l.drop k)) := by rw [List.drop_drop]
          have E2 : Hid (valO (valsAt 0 l) p = valO (valsAt (k + recN (l.drop k)) (l.drop (k + recN (l.drop k)))) p) := by unfold Hid; rw [E.out, valO_next k _ p hz hkp, hdd]
          have hkpb : ((k : Int) == p) = false := by simp [hkp]
          generalize recN (l.drop k) = R at *
          have a2 : IntKind.i64.wrap ((k : Int) + (R : Int)) = (k : Int) + (R : Int) := by simp only [IntKind.wrap_i64]; omega
          clear hc E hz hkp hdd
          go_wp2_with (go_at_call 61; refine (hsz _ _ (fun h => by first | rfl | omega | (simp; omega))).mono ?_; rintro e w1 ⟨rfl, rfl⟩)
          go_roundw
          case rel => exact ⟨k + R, by omega, by go_num, trivial, E2⟩
          case measure => simp [intOf]; omega
    · have E2 : Hid (valO (valsAt 0 l) p = none) := by unfold Hid; rw [E.out]; exact valO_below k _ p (by omega)
      go_wp2
      go_ret2
      exact at_no E2.out
end Go.Proofs.YtogpkbhjobhodaaDoor
