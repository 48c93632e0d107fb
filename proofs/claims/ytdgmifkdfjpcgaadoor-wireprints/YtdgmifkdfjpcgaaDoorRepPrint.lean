/- The contract of wire.Print: the text of a reply, or why there is none. -/
import Derived.Test.YtdgmifkdfjpcgaaDoorRepHit
namespace Go.Proofs.YtdgmifkdfjpcgaaDoor
open Go.ChangeShapes Go.WideShapes Go.ChangeAt Go.RowKit
set_option linter.unusedVariables false

/-- The last lines of replies, by their kinds. -/
def sayL : List ByteArray := [⟨#[]⟩, ⟨#[69, 78, 68]⟩, ⟨#[83, 84, 79, 82, 69, 68]⟩, ⟨#[78, 79, 84, 95, 83, 84, 79, 82, 69, 68]⟩, ⟨#[69, 88, 73, 83, 84, 83]⟩, ⟨#[78, 79, 84, 95, 70, 79, 85, 78, 68]⟩, ⟨#[68, 69, 76, 69, 84, 69, 68]⟩, ⟨#[]⟩, ⟨#[84, 79, 85, 67, 72, 69, 68]⟩, ⟨#[79, 75]⟩, ⟨#[69, 82, 82, 79, 82]⟩, ⟨#[83, 69, 82, 86, 69, 82, 95, 69, 82, 82, 79, 82, 32, 110, 111, 32, 114, 111, 111, 109]⟩, ⟨#[67, 76, 73, 69, 78, 84, 95, 69, 82, 82, 79, 82, 32, 110, 111, 32, 110, 117, 109, 98, 101, 114]⟩]
def sayS (k : Nat) : ByteArray := sayL.getD k ByteArray.empty

theorem say_size (k : Nat) : (sayS k).size ≤ 22 := by
  by_cases h : k < 13
  · have : ∀ k : Fin 13, (sayS k.val).size ≤ 22 := by decide +kernel
    exact this ⟨k, h⟩
  · unfold sayS
    rw [List.getD_eq_getElem?_getD, List.getElem?_eq_none (by simp [sayL]; omega)]
    exact Nat.zero_le _

/-- What the package-level tables hold that the printing of a reply reads. -/
def LaidP (w : World) : Prop :=
  (0 < w.heap.size ∧ ∀ k, k < 13 → w.cell? ⟨0, k, none⟩ = some (.string (sayS k))) ∧ Lib.TabIs Tryd.prog w "internal/strconv.uint64pow10" .u64 Lib.pow10Tab

theorem LaidP.later {w w' : World} (h : LaidP w) (hb : Below w.heap.size w w') : LaidP w' := by
  obtain ⟨⟨h1, h2⟩, h3⟩ := h
  refine ⟨⟨Nat.lt_of_lt_of_le h1 hb.size, fun k hk => ?_⟩, tab_later h3 hb⟩
  rw [hb.cell (p := ⟨0, k, none⟩) h1]
  exact h2 k hk

/-- The texts of hits, one behind the other. -/
def accS (l : List HitR) : ByteArray := l.foldl (fun s h => s ++ hitS h) ⟨#[]⟩

theorem accS_succ (l : List HitR) (k : Nat) (hk : k < l.length) : accS (l.take (k + 1)) = accS (l.take k) ++ hitS (l.getD k default) := by
  unfold accS
  rw [List.take_add_one, List.foldl_append, List.getD_eq_getElem?_getD, List.getElem?_eq_getElem hk]
  rfl

theorem accS_size (l : List HitR) (hf : ∀ j, j < l.length → HitFit (l.getD j default)) : ∀ k, k ≤ l.length → (accS (l.take k)).size ≤ k * 291
  | 0, _ => Nat.le_refl 0
  | k + 1, hk => by
    have h1 := accS_size l hf k (by omega)
    have h2 := hitS_size _ (hf k (by omega))
    rw [accS_succ l k (by omega), ByteArray.size_append]
    omega

theorem hitFit_of (h : HitR) (ok : HitOk h) (hb : hitBadB h = false) : HitFit h := by
  unfold hitBadB at hb
  simp at hb
  exact ⟨(keyB_size _ hb.1).1, hb.2, ok.2.2.1, ok.2.2.2⟩

theorem fits_hits (kind nn : Int) (l : List HitR) (h : fitsB kind nn l = true) : l.length ≤ 10 ∧ anyHitBad l = false ∧ (kind ≠ 1 → l.length = 0) ∧ (kind ≠ 7 → nn = 0) := by
  unfold fitsB at h
  by_cases h1 : kind ≠ 1 ∧ 0 < l.length
  · rw [if_pos h1] at h; cases h
  rw [if_neg h1] at h
  by_cases h2 : kind ≠ 7 ∧ nn ≠ 0
  · rw [if_pos h2] at h; cases h
  rw [if_neg h2] at h
  by_cases h3 : 10 < l.length
  · rw [if_pos h3] at h; cases h
  rw [if_neg h3] at h
  refine ⟨by omega, by simpa using h, fun hk => ?_, fun hk => ?_⟩
  · rcases Nat.eq_zero_or_pos l.length with h' | h'
    · exact h'
    · exact absurd ⟨hk, h'⟩ h1
  · by_cases h' : nn = 0
    · exact h'
    · exact absurd ⟨hk, h'⟩ h2

theorem hits_fit (l : List HitR) (hok : ∀ j, j < l.length → HitOk (l.getD j default)) (hb : anyHitBad l = false) : ∀ j, j < l.length → HitFit (l.getD j default) := fun j hj => by
  refine hitFit_of _ (hok j hj) ?_
  have := List.any_eq_false.1 hb _ (mem_getDH l j hj)
  simpa using this

def printN (kind nn : Int) (l : List HitR) : Int := if inB kind 1 12 = false then 3 else if fitsB kind nn l = false then 4 else 0
def printS (kind nn : Int) (l : List HitR) : ByteArray :=
  if printN kind nn l = 0 then (if kind = 7 then decS nn ++ nlS else (accS l ++ sayS kind.toNat) ++ nlS) else ⟨#[]⟩

set_option maxHeartbeats 2000000 in
set_option maxRecDepth 100000 in
theorem print_any (kind nn : Int) (l : List HitR) (a : Option Addr) (c : Nat) (w : World) (hL : LaidP w) (hH : HitsAt w a l) (hn0 : -9223372036854775808 ≤ nn) (hn1 : nn ≤ 9223372036854775807) :
    Calls Tryd.prog 12 #[.agg #[.int .i64 kind, .int .i64 nn, .slice a l.length c]] w fun e w' => e = .returned (.tuple #[.string (printS kind nn l), .int .i64 (printN kind nn l)]) ∧ Below w.heap.size w w' := by
  have hB0 : Below w.heap.size w (w.alloc (.cells #[.int .i64 kind, .int .i64 nn, .slice a l.length c] 35)) := (Below.refl _ _).alloc (Nat.le_refl _) _
  have hc1 := fits_any kind nn l a c _ (hH.later hB0)
  have PN : Hid (printN kind nn l = if inB kind 1 12 = false then 3 else if fitsB kind nn l = false then 4 else 0) := rfl
  have PS : Hid (printS kind nn l = if printN kind nn l = 0 then (if kind = 7 then decS nn ++ nlS else (accS l ++ sayS kind.toNat) ++ nlS) else ⟨#[]⟩) := rfl
  generalize printN kind nn l = N at *
  generalize printS kind nn l = S at *
  by_cases h1 : kind < 1
  · have E1 : Hid (N = 3) := by unfold Hid; rw [PN.out, if_pos (by unfold inB; simp; omega)]
    have E2 : Hid (S = ⟨#[]⟩) := by unfold Hid; rw [PS.out, E1.out, if_neg (by decide)]
    clear hc1 PN PS
    go_enter Tryd.func12, Tryd.ntmps12
    go_wp2
    go_ret2
    exact ⟨ret_tuple E2.out.symm E1.out.symm, hB0⟩
  by_cases h2 : 12 < kind
  · have E1 : Hid (N = 3) := by unfold Hid; rw [PN.out, if_pos (by unfold inB; simp; omega)]
    have E2 : Hid (S = ⟨#[]⟩) := by unfold Hid; rw [PS.out, E1.out, if_neg (by decide)]
    clear hc1 PN PS
    go_enter Tryd.func12, Tryd.ntmps12
    go_wp2
    go_ret2
    exact ⟨ret_tuple E2.out.symm E1.out.symm, hB0⟩
  have hin : inB kind 1 12 = true := by unfold inB; simp; omega
  cases hq : fitsB kind nn l
  · have E1 : Hid (N = 4) := by unfold Hid; rw [PN.out, if_neg (by simp [hin]), if_pos hq]
    have E2 : Hid (S = ⟨#[]⟩) := by unfold Hid; rw [PS.out, E1.out, if_neg (by decide)]
    rw [hq] at hc1
    clear PN PS hq hin
    go_enter Tryd.func12, Tryd.ntmps12
    go_wp2_with (go_at_call 34; refine hc1.mono ?_; rintro e w' ⟨rfl, hb⟩)
    go_ret2
    exact ⟨ret_tuple E2.out.symm E1.out.symm, hB0.trans (hb.mono (by simp))⟩
  · have E1 : Hid (N = 0) := by unfold Hid; rw [PN.out, if_neg (by simp [hin]), if_neg (by simp [hq])]
    rw [hq] at hc1
    obtain ⟨f1, f2, f3, f4⟩ := fits_hits kind nn l hq
    have hft := hits_fit l hH.2.1 f2
    clear PN hq hin
    by_cases h7 : kind = 7
    · subst h7
      have E2 : Hid (S = decS nn ++ ⟨#[10]⟩) := by unfold Hid; rw [PS.out, E1.out, if_pos rfl, if_pos rfl]; rfl
      have hz := decS_size nn hn0 hn1
      have hI := fun w1 hB => itoaP nn hn0 hn1 _ w1 (tab_later hL.2 hB0) hB
      clear PS f1 f2 f3 f4 hft hH h1 h2
      go_enter Tryd.func12, Tryd.ntmps12
      go_wp2_with fail
      refine hc1.mono ?_
      rintro e w1 ⟨rfl, hb⟩
      obtain ⟨q1, q2⟩ := bcell hb
      have hz1 := bsize hb
      go_wp2_with (go_at_call 35; refine (hI _ hb).mono ?_; rintro e w' ⟨rfl, hb2⟩)
      go_ret2
      exact ⟨ret_tuple E2.out.symm E1.out.symm, hB0.trans (hb2.mono hB0.size)⟩
    · have h7' : (kind == 7) = false := by simp [h7]
      have E2 : Hid (S = (accS l ++ sayS kind.toNat) ++ ⟨#[10]⟩) := by unfold Hid; rw [PS.out, E1.out, if_pos rfl, if_neg h7]; rfl
      have hz := accS_size l hft
      have hzs := say_size kind.toNat
      have k0 : (0 : Int) ≤ kind := by omega
      have k13 : kind < 13 := by omega
      have hSay := hL.1.2 kind.toNat (by omega)
      have hSg := hL.1.1
      clear PS f2 f3 f4 h7
      have hln : l.length ≤ maxLen := hH.1
      unfold maxLen at hln
      go_enter Tryd.func12, Tryd.ntmps12
      go_wp2_with fail
      refine hc1.mono ?_
      rintro e w1 ⟨rfl, hb⟩
      obtain ⟨q1, q2⟩ := bcell hb
      have hz1 := bsize hb
      have hB1 : Below w.heap.size w w1 := hB0.trans (hb.mono hB0.size)
      have hH1 := hH.later hB1
      have hL1 := tab_later hL.2 hB1
      have hSay1 : w1.cell? ⟨0, kind.toNat, none⟩ = some (.string (sayS kind.toNat)) := by rw [hB1.cell (p := ⟨0, kind.toNat, none⟩) hSg]; exact hSay
      have hk1 : w1.cell? ⟨w.heap.size, 0, none⟩ = some (.int .i64 kind) := by rw [q1 _ _ (by simp)]; simp
      have hk2 : w1.cell? ⟨w.heap.size, 2, none⟩ = some (.slice a l.length c) := by rw [q1 _ _ (by simp)]; simp
      clear q1 q2 hb hc1 hH hL hSay
      go_wp2_with fail
      go_loopw [4, 28] (fun s i wr => ∃ k : Nat, k ≤ l.length ∧ i = .int .i64 k ∧ s = .string (accS (l.take k)) ∧ Below w1.heap.size w1 wr) (fun _ i _ => l.length - (intOf i).toNat)
      case atStart => exact ⟨0, Nat.zero_le _, rfl, rfl, Below.refl _ _⟩
      case round =>
        obtain ⟨k, hk, rfl, rfl, hb⟩ := hrel
        by_cases hlt : k < l.length
        · have hltz : (k : Int) < (l.length : Int) := by omega
          have hk0 : (0 : Int) ≤ (k : Int) := Int.natCast_nonneg _
          rcases hH1.2.2 with hm | ⟨b, o, rfl, hbl, hc⟩
          · omega
          obtain ⟨c0, c1, c2, c3⟩ := (hc k hlt).later hbl hb
          have hfk := hft k hlt
          have hAS : Hid (accS (l.take (k + 1)) = accS (l.take k) ++ hitS (l.getD k default)) := accS_succ l k hlt
          have hzk := hz k hk
          have hzh := hitS_size _ hfk
          clear hc hft hz
          generalize l.getD k default = y at *
          have hA1 : Below wr.heap.size wr (wr.alloc (.cells #[.string y.key, .int .i64 y.flags, .int .i64 y.cas, .string y.value] 58)) := (Below.refl _ _).alloc (Nat.le_refl _) _
          have hph := printHit_any y _ (tab_later hL1 (hb.trans (hA1.mono hb.size))) hfk
          generalize accS (l.take k) = AK at *
          generalize hitS y = HY at *
          have hsz : ¬ 9223372036854775807 < AK.size + HY.size := by omega
          go_wp2_with fail
          refine hph.mono ?_
          rintro e w2 ⟨rfl, hb2⟩
          go_wp2
          go_roundw
          case rel => exact ⟨k + 1, hlt, by go_num, by rw [hAS.out], hb.trans ((hA1.trans (hb2.mono hA1.size)).mono hb.size)⟩
          case measure => simp [intOf]; omega
        · have hltz : ¬ (k : Int) < (l.length : Int) := by omega
          obtain rfl : k = l.length := by omega
          rw [List.take_length] at *
          have hzk := hz l.length (Nat.le_refl _)
          rw [List.take_length] at hzk
          have hk1r : wr.cell? ⟨w.heap.size, 0, none⟩ = some (.int .i64 kind) := by rw [hb.cell (p := ⟨w.heap.size, 0, none⟩) hz1]; exact hk1
          have hSayr : wr.cell? ⟨0, kind.toNat, none⟩ = some (.string (sayS kind.toNat)) := by rw [hb.cell (p := ⟨0, kind.toNat, none⟩) (Nat.lt_of_lt_of_le hSg hB1.size)]; exact hSay1
          clear hz hft hk1 hk2 hSay1 hH1
          generalize accS l = AK at *
          generalize sayS kind.toNat = SK at *
          go_wp2
          go_ret2
          exact ⟨ret_tuple E2.out.symm E1.out.symm, hB1.trans (hb.mono hB1.size)⟩
end Go.Proofs.YtdgmifkdfjpcgaaDoor
