/- What dovecotekeep.value answers, in plain words; strings.Repeat. -/
import Derived.Test.YtkjfkonekajffaaDoorKeepSame
import Derived.Test.YtkjfkonekajffaaDoorShelf2
import Derived.Deep.RegionHeld3
namespace Go.Proofs.YtkjfkonekajffaaDoor
open Go.ChangeShapes Go.WideShapes Go.ChangeAt Go.RowKit
set_option linter.unusedVariables false

def val1L : List ByteArray := [⟨#[]⟩, ⟨#[55]⟩, ⟨#[111, 110, 101]⟩, ⟨#[48, 49, 50, 51, 52, 53, 54, 55, 56, 57]⟩, ⟨#[49, 48]⟩, ⟨#[49, 48, 57, 57, 53, 49, 49, 54, 50, 55, 55, 55, 53]⟩, ⟨#[97, 10, 98]⟩, ⟨#[118, 97, 108, 117, 101, 32, 111, 102, 32, 115, 111, 109, 101, 32, 98, 121, 116, 101, 115, 44, 32, 116, 104, 97, 116, 32, 103, 111, 32, 116, 111, 32, 102, 108, 97, 115, 104]⟩]
def val2L : List ByteArray := [⟨#[]⟩, ⟨#[]⟩, ⟨#[120, 121]⟩, ⟨#[97, 32, 118, 97, 108, 117, 101, 32, 116, 104, 97, 116, 32, 105, 115, 32, 108, 111, 110, 103]⟩]
def repS (x : ByteArray) (c : Nat) : ByteArray := ⟨(Lib.repeatL x.data.toList c).toArray⟩
def valS (n : Int) : ByteArray := val1L.getD (pickN n 8).toNat ByteArray.empty ++ repS (val2L.getD (pickN (n.tdiv 8) 4).toNat ByteArray.empty) (pickN (n.tdiv 32) 8).toNat

theorem repeat_any (x : ByteArray) (c : Nat) (w : World) (hx : x.size ≤ 100) (hc : c ≤ 8) :
    Calls Tryd.prog 18 #[.string x, .int .i64 c] w fun e w' => e = .returned (.string (repS x c)) ∧ Below w.heap.size w w' :=
  Tryd.strings_Repeat x c w (by omega) (Nat.le_trans (Nat.mul_le_mul hx hc) (by decide))

theorem tdiv_range (n k : Int) (hk : 1 ≤ k) (h0 : -9223372036854775808 ≤ n) (h1 : n ≤ 9223372036854775807) : -9223372036854775808 ≤ n.tdiv k ∧ n.tdiv k ≤ 9223372036854775807 := by
  by_cases h : 0 ≤ n
  · rw [Int.tdiv_eq_ediv_of_nonneg h]
    have := Int.ediv_nonneg h (by omega : 0 ≤ k)
    have := Int.ediv_le_self k h
    omega
  · have e : n.tdiv k = -((-n).tdiv k) := by rw [Int.neg_tdiv, Int.neg_neg]
    have hn : 0 ≤ -n := by omega
    rw [e, Int.tdiv_eq_ediv_of_nonneg hn]
    have := Int.ediv_nonneg hn (by omega : 0 ≤ k)
    have := Int.ediv_le_self k hn
    omega

end Go.Proofs.YtkjfkonekajffaaDoor
