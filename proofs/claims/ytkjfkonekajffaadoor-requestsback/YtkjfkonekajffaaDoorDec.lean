/- The contract of dovecoteref.dec: the decimal numeral of a number, at every number of 64 bits. -/
import Derived.Test.YtkjfkonekajffaaDoorRows
import Derived.WalkKit
import Derived.ProofKit
import Derived.Below
import Derived.Lib.ItoaNum
import Derived.Laws.IdiomStrings
namespace Go.Proofs.YtkjfkonekajffaaDoor
open Go.ChangeShapes Go.WideShapes Go.ChangeAt Go.RowKit

theorem digit_cell (n : Int) (w : World) (h0 : 0 ≤ n) (h : n < 10) :
    (convert 60 9 (.slice (some ⟨w.heap.size, 0, none⟩) 1 1)).run Tryd.prog (w.alloc (.cells #[.int .u8 (48 + n)] 5)) = .ok (.string ⟨(Lib.decDigits n.toNat).toArray⟩) (w.alloc (.cells #[.int .u8 (48 + n)] 5)) := by
  rw [Lib.decDigits_one (show n.toNat < 10 by omega)]
  refine run_convert_bytes_back (P := Tryd.prog) (w.alloc (.cells #[.int .u8 (48 + n)] 5)) 60 9 5 ⟨w.heap.size, 0, none⟩ 1 [UInt8.ofNat (48 + n.toNat)] Tryd.underlying60 Tryd.underlying5 Tryd.underlying9 ?_
  intro j hj
  simp at hj
  subst hj
  have e : ((UInt8.ofNat (48 + n.toNat)).toNat : Int) = 48 + n := by
    rw [UInt8.toNat_ofNat']
    omega
  show (w.alloc (.cells #[.int .u8 (48 + n)] 5)).cell? (Addr.add ⟨w.heap.size, 0, none⟩ 0) = some (.int .u8 ((UInt8.ofNat (48 + n.toNat)).toNat : Int))
  rw [e]
  simp [Addr.add]

/-- The decimal numeral, as a text. -/
def decS (n : Int) : ByteArray := ⟨(Lib.itoa n).toArray⟩

theorem decS_nat (n : Int) (h : 0 ≤ n) : decS n = ⟨(Lib.decDigits n.toNat).toArray⟩ := by
  unfold decS Lib.itoa
  rw [if_neg (by omega)]

theorem nDigits_le : ∀ (k u : Nat), u < 10 ^ (k + 1) → Lib.nDigits u ≤ k + 1
  | 0, u, h => by rw [Lib.nDigits_small (by simpa using h)]; exact Nat.le_refl _
  | k + 1, u, h => by
    by_cases h2 : u < 10
    · rw [Lib.nDigits_small h2]; omega
    · rw [Lib.nDigits_big h2]
      have := nDigits_le k (u / 10) (by rw [Nat.pow_succ] at h; omega)
      omega

theorem decS_size (n : Int) (h0 : -9223372036854775808 ≤ n) (h1 : n ≤ 9223372036854775807) : (decS n).size ≤ 20 := by
  unfold decS Lib.itoa
  have h := nDigits_le 18 n.natAbs (by omega)
  split
  · show (45 :: Lib.decDigits n.natAbs).toArray.size ≤ 20
    simp [Lib.decDigits_length]
    omega
  · show (Lib.decDigits n.toNat).toArray.size ≤ 20
    rw [show n.toNat = n.natAbs by omega]
    simp [Lib.decDigits_length]
    omega

theorem dec_split (n : Int) (h0 : 10 ≤ n) : decS (n / 10) ++ decS (n % 10) = decS n := by
  rw [decS_nat _ (by omega), decS_nat _ (by omega), decS_nat _ (by omega), Lib.decDigits_one (show (n % 10).toNat < 10 by omega)]
  have e : Lib.decDigits n.toNat = Lib.decDigits (n.toNat / 10) ++ [UInt8.ofNat (48 + n.toNat % 10)] := by
    rw [Lib.decDigits, dif_neg (by omega)]
  rw [e, show (n / 10).toNat = n.toNat / 10 by omega, show (n % 10).toNat = n.toNat % 10 by omega]
  apply ByteArray.ext
  simp

theorem dec_minus (n : Int) (h0 : n < 0) : (⟨#[45]⟩ : ByteArray) ++ decS (-n) = decS n := by
  rw [decS_nat _ (by omega)]
  unfold decS Lib.itoa
  rw [if_pos h0, show n.natAbs = (-n).toNat by omega]
  apply ByteArray.ext
  simp

theorem dec_splitNeg (n : Int) (h0 : n ≤ -10) : decS (n.tdiv 10) ++ decS (-(n.tmod 10)) = decS n := by
  obtain ⟨m, rfl⟩ : ∃ m, n = -m := ⟨-n, by omega⟩
  rw [Int.neg_tdiv, Int.neg_tmod, Int.neg_neg, Int.tdiv_eq_ediv_of_nonneg (by omega), Int.tmod_eq_emod_of_nonneg (by omega)]
  have h1 := dec_minus (-(m / 10)) (by omega)
  have h2 := dec_minus (-m) (by omega)
  rw [Int.neg_neg] at h1 h2
  rw [← h1, ← h2, ByteArray.append_assoc, dec_split m (by omega)]

end Go.Proofs.YtkjfkonekajffaaDoor
