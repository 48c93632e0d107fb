/- What wire.Next answers at lines that are no requests. -/
import Derived.Test.YtkjfkonekajffaaDoorVBad
namespace Go.Proofs.YtkjfkonekajffaaDoor
open Go.ChangeShapes Go.WideShapes Go.ChangeAt Go.RowKit
set_option linter.unusedVariables false
set_option linter.unusedSimpArgs false

def getAS : ByteArray := ⟨#[103, 101, 116, 32, 97, 10]⟩

/-- A line that is none: with another one behind it, it is taken as a Bad; without its end it is not whole yet, or too long. -/
def OddOk (x : ByteArray) : Prop :=
  x.size ≤ 400 ∧ nextD ((x ++ nlS) ++ getAS) = badN ((x.size + 1 : Nat) : Int) ∧ nextD x = if 300 < x.size then badN x.size else zeroN

def lineBad (ws : List ByteArray) : Bool := match lineD ws with
  | none => true
  | some R => decide (R.kind = 1) && !(keysOK 1 R.keys)

theorem lineWs_eq (x : ByteArray) : lineWs x = (splitP 32 x.data.toList).map fun l => (⟨l.toArray⟩ : ByteArray) := by
  apply texts_inj
  rw [lineWs_data, List.map_map]
  exact ((List.map_congr_left (g := id) fun l _ => by simp).trans (List.map_id _)).symm

theorem odd_data (x : ByteArray) : ((x ++ nlS) ++ getAS).data.toList = x.data.toList ++ 10 :: getAS.data.toList := by
  rw [append_data, append_data]
  simp [nlS]

theorem odd_short (x : ByteArray) (hno : x.data.toList.all (fun b => b != 10) = true) (hsz : x.size ≤ 300) (hb : lineBad ((splitP 32 x.data.toList).map fun l => (⟨l.toArray⟩ : ByteArray)) = true) : OddOk x := by
  have hno' : ∀ b ∈ x.data.toList, b ≠ 10 := fun b h => by simpa using List.all_eq_true.1 hno b h
  rw [← lineWs_eq] at hb
  have hd := odd_data x
  have hix := index_line _ _ _ hd hno'
  rw [show (x.data.toList.length : Int) = (x.size : Int) from rfl] at hix
  have hex := extract_line _ x _ hd
  refine ⟨by omega, ?_, ?_⟩
  · unfold nextD
    rw [hix, if_neg (by omega), Int.toNat_natCast, if_neg (by omega)]
    unfold restD
    rw [hex]
    unfold lineBad at hb
    cases hl : lineD (lineWs x) with
    | none => rfl
    | some R =>
      rw [hl] at hb
      simp only [Bool.and_eq_true, decide_eq_true_eq] at hb
      obtain ⟨h1, h2⟩ := hb
      simp only [h1]
      rw [if_neg (by decide)]
      unfold chkD
      rw [if_neg]
      rw [check_eq, if_neg (by decide), if_pos (by simpa using h2)]
      decide
  · unfold nextD
    rw [index_none x hno', if_pos (by decide)]

theorem odd_long (x : ByteArray) (hno : ∀ b ∈ x.data.toList, b ≠ 10) (hsz : 300 < x.size) (hsz2 : x.size ≤ 400) : OddOk x := by
  have hd := odd_data x
  have hix := index_line _ _ _ hd hno
  rw [show (x.data.toList.length : Int) = (x.size : Int) from rfl] at hix
  refine ⟨hsz2, ?_, ?_⟩
  · unfold nextD
    rw [hix, if_neg (by omega), Int.toNat_natCast, if_pos hsz]
  · unfold nextD
    rw [index_none x hno, if_pos (by decide)]

theorem repeat_mem (l : List UInt8) : ∀ (c : Nat), ∀ b ∈ Lib.repeatL l c, b ∈ l
  | 0, b, h => by simp [Lib.repeatL] at h
  | c + 1, b, h => by
    simp only [Lib.repeatL, List.mem_append] at h
    rcases h with h | h
    · exact h
    · exact repeat_mem l c b h

def xS : ByteArray := ⟨#[120]⟩
def kS : ByteArray := ⟨#[107, 32]⟩
theorem odd_xs (c : Nat) (h1 : 300 < c) (h2 : c ≤ 400) : OddOk (repS xS c) := by
  refine odd_long _ (fun b hb => ?_) ?_ ?_
  · have := repeat_mem xS.data.toList c b hb
    have h : b = 120 := by simpa [xS] using this
    rw [h]
    decide
  · rw [repS_size]; show 300 < c * 1; omega
  · rw [repS_size]; show c * 1 ≤ 400; omega

theorem odd_ks : OddOk (((⟨#[103, 101, 116, 32]⟩ : ByteArray) ++ repS kS 10) ++ ⟨#[107]⟩) := by
  have h : ((⟨#[103, 101, 116, 32]⟩ : ByteArray) ++ repS kS 10) ++ ⟨#[107]⟩ = (⟨#[103, 101, 116, 32, 107, 32, 107, 32, 107, 32, 107, 32, 107, 32, 107, 32, 107, 32, 107, 32, 107, 32, 107, 32, 107]⟩ : ByteArray) := by
    apply ByteArray.ext
    apply Array.toList_inj.1
    rw [append_data, append_data]
    rfl
  rw [h]
  exact odd_short _ (by decide) (by decide) (by decide)

theorem odd_0 : OddOk ⟨#[]⟩ := odd_short _ (by decide) (by decide) (by decide)
theorem odd_1 : OddOk ⟨#[71, 69, 84, 32, 97]⟩ := odd_short _ (by decide) (by decide) (by decide)
theorem odd_14 : OddOk ⟨#[105, 110, 99, 114, 32, 97, 32, 49, 48, 57, 57, 53, 49, 49, 54, 50, 55, 55, 55, 55]⟩ := odd_short _ (by decide) (by decide) (by decide)
end Go.Proofs.YtkjfkonekajffaaDoor
