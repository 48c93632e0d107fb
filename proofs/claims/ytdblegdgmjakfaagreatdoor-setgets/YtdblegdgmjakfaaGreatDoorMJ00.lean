/- Parts of the proof. -/
import Derived.Test.YtdblegdgmjakfaaGreatDoorRows
import Derived.WalkKit
import Derived.ProofKit
import Derived.OpenShut
import Derived.ShutString
import Derived.ChangeOld
import Derived.Below
import Derived.Shelf.Abstract
import Derived.Laws.BytesArg
import Derived.Deep.SlicePairs
import Derived.Deep.QuietTactic
import Derived.BigQuiet
import Derived.Laws.BitsLemmas
import Derived.Lib.AppendStr
import Derived.Deep.AppendLies
import Derived.OwnWalk
import Derived.Deep.RegionHeld3
import Derived.Deep.DeepCutAuto
namespace Go.Proofs.YtdblegdgmjakfaaGreatDoor
open Go.ChangeShapes Go.WideShapes Go.ChangeAt Go.RowKit

/- Small things that all texts share: dovecoteref.In, and what a world says of what was there before. -/

theorem sIB {α : Type} (l : List α) (i : Nat) (a : α) : l.toArray.setIfInBounds i a = (l.set i a).toArray := List.setIfInBounds_toArray ..
theorem sZB {α : Type} (a b : α) (l : List α) : (a :: l).set 0 b = b :: l := rfl
theorem sSB {α : Type} (a b : α) (l : List α) (n : Nat) : (a :: l).set (n + 1) b = a :: l.set n b := rfl
def inB (n lo hi : Int) : Bool := decide (lo ≤ n) && decide (n ≤ hi)

theorem ret_bool {a b : Bool} (h : a = b) : Ending.returned (.bool a) = .returned (.bool b) := by rw [h]
theorem ret_i64 {a b : Int} (h : a = b) : Ending.returned (.int .i64 a) = .returned (.int .i64 b) := by rw [h]

theorem bcell {W w1 : World} (hb : Below W.heap.size W w1) : (∀ b o, b < W.heap.size → w1.cell? ⟨b, o, none⟩ = W.cell? ⟨b, o, none⟩) ∧ (∀ b o, b < W.heap.size → w1.frozen? ⟨b, o, none⟩ = W.frozen? ⟨b, o, none⟩) :=
 ⟨fun b o h => hb.cell (p := ⟨b, o, none⟩) h, fun b o h => hb.frozen (p := ⟨b, o, none⟩) h⟩
theorem bsize {w w1 : World} {o : Obj} (hb : Below (w.alloc o).heap.size (w.alloc o) w1) : w.heap.size < w1.heap.size := by
 have := hb.size
 simp at this
 omega

/- The types of flash. -/

/-- A number within bounds. -/
theorem inB_iff (n lo hi : Int) : inB n lo hi = true ↔ lo ≤ n ∧ n ≤ hi := by unfold inB; simp

end Go.Proofs.YtdblegdgmjakfaaGreatDoor

namespace Go.Proofs.YtdblegdgmjakfaaGreatDoor
open Go.ChangeShapes Go.WideShapes Go.ChangeAt Go.RowKit
set_option linter.unusedVariables false

/- Pages of flash in memory; dovecotelaw.sameFlash at two that are the same. -/

structure PageR where
 num : Int
 bs : List UInt8
 deriving Inhabited

/-- The bytes 'l' lie in memory as the slice (a, l.length) says. -/
def BytesAt (w : World) (a : Option Addr) (l : List UInt8) : Prop :=
 l.length ≤ maxLen ∧ (l.length = 0 ∨ ∃ b o, a = some ⟨b, o, none⟩ ∧ b < w.heap.size ∧ ∀ j, j < l.length → w.cell? ⟨b, o + j, none⟩ = some (.int .u8 ((l.getD j 0).toNat : Int)))

theorem BytesAt.later {w w' : World} {a : Option Addr} {l : List UInt8} (h : BytesAt w a l) (hb : Below w.heap.size w w') : BytesAt w' a l := by
 obtain ⟨h1, h2⟩ := h
 refine ⟨h1, ?_⟩
 rcases h2 with h2 | ⟨b, o, h3, h4, h5⟩
 · exact Or.inl h2
 · refine Or.inr ⟨b, o, h3, Nat.lt_of_lt_of_le h4 hb.size, fun j hj => ?_⟩
   rw [hb.cell (p := ⟨b, o + j, none⟩) h4]
   exact h5 j hj

/-- One page at its two cells. -/
def PageAt (w : World) (b o : Nat) (p : PageR) : Prop :=
 ∃ a c, w.cell? ⟨b, o, none⟩ = some (.int .i64 p.num) ∧ w.cell? ⟨b, o + 1, none⟩ = some (.slice a p.bs.length c) ∧ BytesAt w a p.bs ∧ p.bs.length ≤ c ∧ c ≤ maxLen

theorem PageAt.later {w w' : World} {b o : Nat} {p : PageR} (h : PageAt w b o p) (hlt : b < w.heap.size) (hb : Below w.heap.size w w') : PageAt w' b o p := by
 obtain ⟨a, c, h1, h2, h3, h4⟩ := h
 exact ⟨a, c, by rw [hb.cell (p := ⟨b, o, none⟩) hlt]; exact h1, by rw [hb.cell (p := ⟨b, o + 1, none⟩) hlt]; exact h2, h3.later hb, h4⟩

/-- The pages 'ps' lie in memory as the slice (a, ps.length) says. -/
def PagesAt (w : World) (a : Option Addr) (ps : List PageR) : Prop :=
 ps.length ≤ maxLen ∧ (ps.length = 0 ∨ ∃ b o, a = some ⟨b, o, none⟩ ∧ b < w.heap.size ∧ ∀ j, j < ps.length → PageAt w b (o + j * 2) (ps.getD j default))

theorem PagesAt.later {w w' : World} {a : Option Addr} {ps : List PageR} (h : PagesAt w a ps) (hb : Below w.heap.size w w') : PagesAt w' a ps := by
 obtain ⟨h1, h2⟩ := h
 refine ⟨h1, ?_⟩
 rcases h2 with h2 | ⟨b, o, h3, h4, h5⟩
 · exact Or.inl h2
 · exact Or.inr ⟨b, o, h3, Nat.lt_of_lt_of_le h4 hb.size, fun j hj => (h5 j hj).later h4 hb⟩

theorem drewN_below (w : World) (q : Nat) : Below w.heap.size w (w.drewN q) := ⟨rfl, rfl, rfl, Nat.le_refl _, fun _ _ => rfl⟩

theorem pages_none (w : World) (a : Option Addr) : PagesAt w a [] := ⟨Nat.zero_le _, Or.inl rfl⟩

def strB (l : List UInt8) : ByteArray := ⟨l.toArray⟩

set_option maxRecDepth 100000 in
/-- string(b) of such bytes. -/
theorem conv_bytes {w : World} {a : Option Addr} {l : List UInt8} (h : BytesAt w a l) (c : Nat) : (convert 95 9 (.slice a l.length c)).run Tryz.prog w = .ok (.string (strB l)) w := by
 obtain ⟨_, h2⟩ := h
 rcases h2 with h2 | ⟨b, o, rfl, _, h5⟩
 · have : l = [] := List.length_eq_zero_iff.1 h2
   subst this
   rw [run_convert_bytes_string w 95 9 5 a _ c Tryz.underlying95 Tryz.underlying5 Tryz.underlying9]
   cases a with
   | none => rfl
   | some a => rw [run_bytesToString w a _ c [] (by rfl)]; rfl
 · have h := run_convert_bytes_arg (P := Tryz.prog) w 95 5 Tryz.underlying95 Tryz.underlying5 b o l.length c (l.map fun x => (x.toNat : Int)) (by simp) (fun i hi => by
    rw [h5 i hi]
    simp [List.getD_eq_getElem?_getD, List.getElem?_eq_getElem hi]) 9 Tryz.underlying9
   rw [h]
   congr 2
   unfold strOfNums strB
   rw [List.map_map]
   have hid : l.map ((fun n : Int => UInt8.ofNat n.toNat) ∘ fun x : UInt8 => (x.toNat : Int)) = l := by
    refine (List.map_congr_left (g := id) fun x _ => ?_).trans (List.map_id _)
    simp
   rw [hid]

end Go.Proofs.YtdblegdgmjakfaaGreatDoor

namespace Go.Proofs.YtdblegdgmjakfaaGreatDoor
open Go.ChangeShapes Go.WideShapes Go.ChangeAt Go.RowKit
set_option linter.unusedVariables false
set_option linter.unusedSimpArgs false

/- The contracts of package record, over the list of bytes. -/

def sumF (l : List UInt8) (n : Int) : Int := l.foldl (fun n c => (31 * n + (c.toNat : Int)) % 65521) n

theorem sumF_range (l : List UInt8) : ∀ n : Int, 0 ≤ n → n < 65521 → 0 ≤ sumF l n ∧ sumF l n < 65521 := by
 induction l with
 | nil => intro n h0 h1; exact ⟨h0, h1⟩
 | cons c r ih =>
  intro n h0 h1
  exact ih _ (Int.emod_nonneg _ (by decide)) (Int.emod_lt_of_pos _ (by decide))

theorem sumF_take (l : List UInt8) (k : Nat) (hk : k < l.length) (n : Int) : sumF (l.take (k + 1)) n = (31 * sumF (l.take k) n + ((l.getD k 0).toNat : Int)) % 65521 := by
 have h : l.take (k + 1) = l.take k ++ [l.getD k 0] := by
  rw [List.take_add_one, List.getElem?_eq_getElem hk, List.getD_eq_getElem?_getD, List.getElem?_eq_getElem hk]
  rfl
 rw [h]
 unfold sumF
 rw [List.foldl_append]
 rfl

set_option maxHeartbeats 1000000 in
theorem sum_any (l : List UInt8) (a : Option Addr) (c : Nat) (w : World) (hA : BytesAt w a l) :
 Calls Tryz.prog 138 #[.slice a l.length c] w fun e w' => e = .returned (.int .i64 (sumF l 7)) ∧ w' = w := by
 obtain ⟨hmax, hm⟩ := hA
 unfold maxLen at hmax
 go_enter Tryz.func138, Tryz.ntmps138
 go_wp2_with fail
 go_loopw [3, 8] (fun n i wr => ∃ k : Nat, k ≤ l.length ∧ n = .int .i64 (sumF (l.take k) 7) ∧ i = .int .i64 k ∧ wr = w) (fun n i _ => l.length - (intOf i).toNat)
 case atStart => exact ⟨0, Nat.zero_le _, rfl, rfl, rfl⟩
 case round =>
  obtain ⟨k, hk, rfl, rfl, rfl⟩ := hrel
  obtain ⟨s0, s1⟩ := sumF_range (l.take k) 7 (by decide) (by decide)
  by_cases hlt : k < l.length
  · have hltz : (k : Int) < (l.length : Int) := by omega
    have hk0 : (0 : Int) ≤ (k : Int) := Int.natCast_nonneg _
    rcases hm with hm | ⟨b, o, rfl, hl, hc⟩
    · omega
    have e1 := hc k hlt
    clear hc
    have hT := sumF_take l k hlt 7
    have hbd := (l.getD k 0).toNat_lt
    generalize (l.getD k 0).toNat = y at *
    generalize sumF (l.take k) 7 = S at *
    have hrem : (31 * S + (y : Int)).tmod 65521 = (31 * S + (y : Int)) % 65521 := Int.tmod_eq_emod_of_nonneg (by omega)
    go_wp2
    refine ⟨⟨k + 1, by omega, by rw [hT], by simp, trivial⟩, by simp [intOf]; omega⟩
  · have hltz : ¬ (k : Int) < (l.length : Int) := by omega
    have hkl : k = l.length := by omega
    have E : Hid (sumF (l.take k) 7 = sumF l 7) := by unfold Hid; rw [hkl, List.take_length]
    go_wp2
    go_ret
    exact ⟨by first | rfl | exact ret_i64 E.out, rfl⟩

/-- How many bytes the record has with which bytes begin; 0: they are too few, or its value is too long. -/
def recN (l : List UInt8) : Nat := if l.length < 3 ∨ 200 < (l.getD 0 0).toNat ∨ l.length < 3 + (l.getD 0 0).toNat then 0 else 3 + (l.getD 0 0).toNat

theorem recN_le (l : List UInt8) : recN l ≤ l.length := by
 unfold recN
 split
 · exact Nat.zero_le _
 · omega

set_option maxHeartbeats 1000000 in
theorem size_any (l : List UInt8) (a : Option Addr) (c : Nat) (w : World) (hA : BytesAt w a l) :
 Calls Tryz.prog 123 #[.slice a l.length c] w fun e w' => e = .returned (.int .i64 (recN l : Nat)) ∧ w' = w := by
 obtain ⟨hmax, hm⟩ := hA
 unfold maxLen at hmax
 by_cases h1 : l.length < 3
 · have E : Hid (recN l = 0) := by unfold Hid recN; rw [if_pos (Or.inl h1)]
   have h1z : (l.length : Int) < 3 := by omega
   go_enter Tryz.func123, Tryz.ntmps123
   go_wp2
   go_ret
   exact ⟨by rw [E.out]; rfl, rfl⟩
 · have h1z : ¬ (l.length : Int) < 3 := by omega
   have h0z : (0 : Int) < (l.length : Int) := by omega
   rcases hm with hm | ⟨b, o, rfl, hl, hc⟩
   · omega
   have e1 := hc 0 (by omega)
   rw [Nat.add_zero] at e1
   clear hc
   have hbd := (l.getD 0 0).toNat_lt
   have hR : Hid (recN l = if l.length < 3 ∨ 200 < (l.getD 0 0).toNat ∨ l.length < 3 + (l.getD 0 0).toNat then 0 else 3 + (l.getD 0 0).toNat) := rfl
   generalize (l.getD 0 0).toNat = y at *
   generalize recN l = R at *
   by_cases h2 : 200 < y
   · have h2z : (200 : Int) < (y : Int) := by omega
     have E : Hid (R = 0) := by have := hR.out; rw [if_pos (Or.inr (Or.inl h2))] at this; exact this
     go_enter Tryz.func123, Tryz.ntmps123
     go_wp2
     go_ret
     exact ⟨by rw [E.out]; rfl, rfl⟩
   · have h2z : ¬ (200 : Int) < (y : Int) := by omega
     by_cases h3 : l.length < 3 + y
     · have h3z : (l.length : Int) < 3 + (y : Int) := by omega
       have E : Hid (R = 0) := by have := hR.out; rw [if_pos (Or.inr (Or.inr h3))] at this; exact this
       go_enter Tryz.func123, Tryz.ntmps123
       go_wp2
       go_ret
       exact ⟨by rw [E.out]; rfl, rfl⟩
     · have h3z : ¬ (l.length : Int) < 3 + (y : Int) := by omega
       have E : Hid (R = 3 + y) := by have := hR.out; rw [if_neg (by omega)] at this; exact this
       go_enter Tryz.func123, Tryz.ntmps123
       go_wp2
       go_ret
       exact ⟨ret_i64 (by rw [E.out]; omega), rfl⟩

def sumOk (l : List UInt8) : Bool := decide (((l.getD 1 0).toNat : Int) * 256 + ((l.getD 2 0).toNat : Int) = sumF (l.drop 3) 7)

theorem bytes_drop {w : World} {b o : Nat} {l : List UInt8} (hc : ∀ j, j < l.length → w.cell? ⟨b, o + j, none⟩ = some (.int .u8 ((l.getD j 0).toNat : Int))) (hlt : b < w.heap.size) (hmax : l.length ≤ maxLen) (n : Nat) (a : Option Addr) (ha : n < l.length → a = some ⟨b, o + n, none⟩) : BytesAt w a (l.drop n) := by
 refine ⟨by rw [List.length_drop]; omega, ?_⟩
 by_cases h : n < l.length
 · refine Or.inr ⟨b, o + n, ha h, hlt, fun j hj => ?_⟩
   rw [List.length_drop] at hj
   have := hc (n + j) (by omega)
   rw [← Nat.add_assoc] at this
   rw [this, List.getD_eq_getElem?_getD, List.getD_eq_getElem?_getD, List.getElem?_drop]
 · exact Or.inl (by rw [List.length_drop]; omega)

set_option maxHeartbeats 1000000 in
theorem summed_any (l : List UInt8) (a : Option Addr) (c : Nat) (w : World) (hA : BytesAt w a l) (h3 : 3 ≤ l.length) (hc3 : l.length ≤ c) (hcm : c ≤ maxLen) :
 Calls Tryz.prog 124 #[.slice a l.length c] w fun e w' => e = .returned (.bool (sumOk l)) ∧ ∃ q, w' = w.drewN q := by
 obtain ⟨hmax, hm⟩ := hA
 unfold maxLen at hmax hcm
 rcases hm with hm | ⟨b, o, rfl, hl, hc⟩
 · omega
 have e1 := hc 1 (by omega)
 have e2 := hc 2 (by omega)
 have hs := fun (w1 : World) (a' : Option Addr) (c' : Nat) (hb : Below w.heap.size w w1) (ha : 3 < l.length → a' = some ⟨b, o + 3, none⟩) => sum_any (l.drop 3) a' c' w1 ((bytes_drop hc hl (by unfold maxLen; omega) 3 a' ha).later hb)
 clear hc
 have y1 := (l.getD 1 0).toNat_lt
 have y2 := (l.getD 2 0).toNat_lt
 have E : Hid (sumOk l = decide (((l.getD 1 0).toNat : Int) * 256 + ((l.getD 2 0).toNat : Int) = sumF (l.drop 3) 7)) := rfl
 generalize (l.getD 1 0).toNat = x1 at *
 generalize (l.getD 2 0).toNat = x2 at *
 rw [List.length_drop] at hs
 generalize sumF (l.drop 3) 7 = S at *
 generalize sumOk l = R at *
 have i1 : (1 : Int) < (l.length : Int) := by omega
 have i2 : (2 : Int) < (l.length : Int) := by omega
 have i3 : (3 : Int) ≤ (l.length : Int) := by omega
 go_enter Tryz.func124, Tryz.ntmps124
 go_wp2_with fail
 go_quiet ((go_at_call 138; refine Calls.quiet_of_same (hs _ _ _ (drewN_below _ _) (fun h => by simp; omega))))
 have hor : bits BinOp.or IntKind.i64 ((x1 : Int) * 256) (x2 : Int) = (x1 : Int) * 256 + (x2 : Int) := bits_join .i64 16 (by decide) (fun n h0 h1 => by simp only [IntKind.wrap_i64]; omega) 8 _ _ (by omega) (by omega) (by omega) (by omega) (by omega) (by omega)
 have E2 : Hid ((((x1 : Int) * 256 + (x2 : Int)) == S) = R) := by unfold Hid; rw [E.out]; by_cases h : (x1 : Int) * 256 + (x2 : Int) = S <;> simp [h]
 go_wp2
 all_goals go_ret
 all_goals exact ⟨ret_bool E2.out, nq, rfl⟩

/-- Are these bytes all of them records? -/
def recsF : Nat → List UInt8 → Bool
 | 0, l => decide (l.length = 0)
 | f + 1, l => if l.length = 0 then true else if recN l = 0 then false else sumOk (l.take (recN l)) && recsF f (l.drop (recN l))
def recsB (l : List UInt8) : Bool := recsF l.length l

theorem recsF_more : ∀ (f : Nat) (l : List UInt8), l.length ≤ f → recsF f l = recsF (f + 1) l
 | 0, l, h => by
  have h0 : l.length = 0 := by omega
  unfold recsF
  simp [h0]
 | f + 1, l, h => by
  rw [recsF, recsF]
  by_cases h0 : l.length = 0
  · rw [if_pos h0, if_pos h0]
  · rw [if_neg h0, if_neg h0]
    by_cases h1 : recN l = 0
    · rw [if_pos h1, if_pos h1]
    · rw [if_neg h1, if_neg h1, recsF_more f (l.drop (recN l)) (by rw [List.length_drop]; omega)]
theorem recsF_enough (l : List UInt8) : ∀ (k : Nat), recsF (l.length + k) l = recsB l
 | 0 => rfl
 | k + 1 => by rw [← recsF_enough l k]; exact (recsF_more (l.length + k) l (by omega)).symm
theorem recsB_nil (l : List UInt8) (h : l.length = 0) : recsB l = true := by
 unfold recsB
 rw [h]
 simp [recsF, h]
theorem recsB_step (l : List UInt8) (h : l.length ≠ 0) : recsB l = if recN l = 0 then false else sumOk (l.take (recN l)) && recsB (l.drop (recN l)) := by
 obtain ⟨f, hf⟩ : ∃ f, l.length = f + 1 := ⟨l.length - 1, by omega⟩
 have e : recsB l = recsF (f + 1) l := by unfold recsB; rw [hf]
 rw [e, recsF, if_neg h]
 by_cases h1 : recN l = 0
 · rw [if_pos h1, if_pos h1]
 · rw [if_neg h1, if_neg h1]
   congr 1
   obtain ⟨k, hk⟩ : ∃ k, f = (l.drop (recN l)).length + k := ⟨f - (l.drop (recN l)).length, by rw [List.length_drop]; omega⟩
   rw [hk]
   exact recsF_enough _ k

theorem bytes_take {w : World} {a : Option Addr} {l : List UInt8} (h : BytesAt w a l) (n : Nat) (hn : n ≤ l.length) : BytesAt w a (l.take n) := by
 obtain ⟨h1, h2⟩ := h
 have hl : (l.take n).length = n := by rw [List.length_take]; omega
 refine ⟨by omega, ?_⟩
 rw [hl]
 by_cases h0 : n = 0
 · exact Or.inl h0
 rcases h2 with h2 | ⟨b, o, h3, h4, h5⟩
 · omega
 · refine Or.inr ⟨b, o, h3, h4, fun j hj => ?_⟩
   rw [h5 j (by omega), List.getD_eq_getElem?_getD, List.getD_eq_getElem?_getD, List.getElem?_take_of_lt hj]

def lenOf : Value → Nat
 | .slice _ n _ => n
 | _ => 0

/-- What slot 0 holds while the records are seen. -/
def AllR (l : List UInt8) (w : World) (v : Value) (wr : World) : Prop :=
 ∃ (m : List UInt8) (a : Option Addr) (c : Nat), v = .slice a m.length c ∧ BytesAt wr a m ∧ m.length ≤ c ∧ c ≤ maxLen ∧ recsB l = recsB m ∧ ∃ q, wr = w.drewN q

theorem drewN_two (w : World) (p q : Nat) : (w.drewN p).drewN q = w.drewN (p + q) := World.drewN_drewN w p q

set_option maxHeartbeats 1000000 in
theorem all_any (l : List UInt8) (a : Option Addr) (c : Nat) (w : World) (hA : BytesAt w a l) (hc3 : l.length ≤ c) (hcm : c ≤ maxLen) :
 Calls Tryz.prog 99 #[.slice a l.length c] w fun e w' => e = .returned (.bool (recsB l)) ∧ ∃ q, w' = w.drewN q := by
 go_enter Tryz.func99, Tryz.ntmps99
 go_wp2_with fail
 go_loopw [0] (fun v wr => AllR l w v wr) (fun v _ => lenOf v)
 case atStart => exact ⟨l, a, c, rfl, hA, hc3, hcm, rfl, 0, rfl⟩
 case round =>
  obtain ⟨m, a', c', rfl, hB, hmc, hcm', hR0, q, rfl⟩ := hrel
  have hR : Hid (recsB l = recsB m) := hR0
  clear hR0
  have hmax := hB.1
  unfold maxLen at hmax hcm'
  by_cases h0 : m.length = 0
  · have E : Hid (recsB l = true) := by unfold Hid; rw [hR.out, recsB_nil m h0]
    have h0z : ¬ (0 : Int) < (m.length : Int) := by omega
    go_wp2
    go_ret
    exact ⟨ret_bool E.out.symm, q, rfl⟩
  · have h0z : (0 : Int) < (m.length : Int) := by omega
    have hsz := fun (c' : Nat) => size_any m a' c' (w.drewN q) hB
    have hn := recN_le m
    have hst := recsB_step m h0
    by_cases h1 : recN m = 0
    · have E : Hid (recsB l = false) := by unfold Hid; rw [hR.out, hst, if_pos h1]
      rw [h1] at hsz
      go_wp2_with ((go_at_call 123; refine (hsz _).mono ?_; rintro e w1 ⟨rfl, rfl⟩))
      go_ret
      exact ⟨ret_bool E.out.symm, q, rfl⟩
    · rw [if_neg h1] at hst
      have h1b : ((recN m : Int) == 0) = false := by simp; omega
      have hn3 : 3 ≤ recN m := by
       unfold recN at h1 ⊢
       by_cases h2 : m.length < 3 ∨ 200 < (m.getD 0 0).toNat ∨ m.length < 3 + (m.getD 0 0).toNat
       · rw [if_pos h2] at h1
         exact absurd rfl h1
       · rw [if_neg h2]
         omega
      have hT := bytes_take hB (recN m) hn
      have htl : (m.take (recN m)).length = recN m := by rw [List.length_take]; omega
      have hsm := fun (c' : Nat) (h : recN m ≤ c') (h2 : c' ≤ maxLen) => summed_any (m.take (recN m)) a' c' (w.drewN q) hT (by omega) (by omega) h2
      rw [htl] at hsm
      have hsm2 := hsm c' (by omega) (by unfold maxLen; omega)
      clear hsm
      have hst2 : Hid (recsB m = (sumOk (m.take (recN m)) && recsB (m.drop (recN m)))) := hst
      clear hst
      have hD : ∀ (w1 : World) (a2 : Option Addr), Below (w.drewN q).heap.size (w.drewN q) w1 → (recN m < m.length → ∃ b o, a' = some ⟨b, o, none⟩ ∧ a2 = some ⟨b, o + recN m, none⟩) → BytesAt w1 a2 (m.drop (recN m)) := by
       intro w1 a2 hb h
       obtain ⟨_, hm2⟩ := hB
       rcases hm2 with hm2 | ⟨b, o, ha, hl, hc⟩
       · omega
       · refine (bytes_drop hc hl (by unfold maxLen; omega) (recN m) a2 fun h3 => ?_).later hb
         obtain ⟨b2, o2, e1, e2⟩ := h h3
         rw [ha] at e1
         cases e1
         exact e2
      have hdl : (m.drop (recN m)).length = m.length - recN m := List.length_drop
      have ha' : ∃ b o, a' = some ⟨b, o, none⟩ := by
       rcases hB.2 with h | ⟨b, o, h, _⟩
       · omega
       · exact ⟨b, o, h⟩
      obtain ⟨b, o, rfl⟩ := ha'
      generalize recN m = N at *
      have n0 : (0 : Int) ≤ (N : Int) := by omega
      have n1 : (N : Int) ≤ (m.length : Int) := by omega
      have n2 : (N : Int) ≤ (c' : Int) := by omega
      cases hS : sumOk (m.take N)
      · have E : Hid (recsB l = false) := by unfold Hid; rw [hR.out, hst2.out, hS]; rfl
        rw [hS] at hsm2
        go_wp2_with (first | (go_at_call 123; refine (hsz _).mono ?_; rintro e w1 ⟨rfl, rfl⟩) | (go_at_call 124; refine hsm2.mono ?_; rintro e w2 ⟨rfl, q2, rfl⟩))
        go_ret
        exact ⟨ret_bool E.out.symm, q + q2, by first | rfl | exact drewN_two w q q2⟩
      · have E : Hid (recsB l = recsB (m.drop N)) := by unfold Hid; rw [hR.out, hst2.out, hS]; rfl
        rw [hS] at hsm2
        go_wp2_with (first | (go_at_call 123; refine (hsz _).mono ?_; rintro e w1 ⟨rfl, rfl⟩) | (go_at_call 124; refine hsm2.mono ?_; rintro e w2 ⟨rfl, q2, rfl⟩))
        refine ⟨⟨m.drop N, _, c' - N, by rw [hdl], hD _ _ (by rw [← drewN_two]; exact drewN_below _ _) (fun h => ⟨b, o, rfl, by rw [if_neg (by omega)]⟩), by rw [hdl]; omega, by unfold maxLen; omega, E.out, q + q2, rfl⟩, by simp only [lenOf]; omega⟩

def bytesB (l : List UInt8) : Bool := decide (1 ≤ l.length) && (decide (l.length ≤ 256) && recsB l)

theorem bytesFit_any (l : List UInt8) (a : Option Addr) (c : Nat) (w : World) (hA : BytesAt w a l) (hc3 : l.length ≤ c) (hcm : c ≤ maxLen) :
 Calls Tryz.prog 67 #[.slice a l.length c] w fun e w' => e = .returned (.bool (bytesB l)) ∧ ∃ q, w' = w.drewN q := by
 have hal := fun (c' : Nat) (h : l.length ≤ c') (h2 : c' ≤ maxLen) => all_any l a c' w hA h h2
 have hmax := hA.1
 unfold maxLen at hmax
 have hal2 := hal c hc3 hcm
 by_cases h1 : 1 ≤ l.length
 · have h1z : (1 : Int) ≤ (l.length : Int) := by omega
   by_cases h2 : l.length ≤ 256
   · have h2z : (l.length : Int) ≤ 256 := by omega
     have E : Hid (bytesB l = recsB l) := by unfold Hid bytesB; simp [h1, h2]
     generalize recsB l = R at *
     generalize bytesB l = T at *
     go_enter Tryz.func67, Tryz.ntmps67
     go_wp2_with ((go_at_call 99; refine hal2.mono ?_; rintro e w1 ⟨rfl, q, rfl⟩))
     go_ret
     exact ⟨ret_bool (by rw [E.out]), q, rfl⟩
   · have h2z : ¬ (l.length : Int) ≤ 256 := by omega
     have E : Hid (bytesB l = false) := by unfold Hid bytesB; simp [h2]
     go_enter Tryz.func67, Tryz.ntmps67
     go_wp2
     go_ret
     exact ⟨ret_bool E.out.symm, 0, rfl⟩
 · have h1z : ¬ (1 : Int) ≤ (l.length : Int) := by omega
   have E : Hid (bytesB l = false) := by unfold Hid bytesB; simp [h1]
   go_enter Tryz.func67, Tryz.ntmps67
   go_wp2
   go_ret
   exact ⟨ret_bool E.out.symm, 0, rfl⟩

/- dovecoteref.sumOf and dovecoteref.bytesOf. -/

/-- A record. -/
def recOf (l : List UInt8) : List UInt8 := UInt8.ofNat l.length :: UInt8.ofNat (sumF l 7 / 256).toNat :: UInt8.ofNat (sumF l 7 % 256).toNat :: l

theorem infoByte : (Tryz.prog.info? 5).map (fun i => (i.zero, i.size, i.bytes)) = some (some (.int .u8 0), 1, 1) := by kernel_rfl

def BytesPost (l : List UInt8) (w : World) (e : Ending) (w' : World) : Prop :=
 ∃ g cap, e = .returned (.slice (some ⟨g, 0, none⟩) l.length cap) ∧ BytesAt w' (some ⟨g, 0, none⟩) l ∧ w.heap.size ≤ g ∧ Below w.heap.size w w'

/-- Bytes in a row of the call's own. -/
def OwnB (W0 w : World) (v : Value) (l : List UInt8) : Prop :=
 w.ownsRow W0.heap.size 5 1 v l.length (l.map fun b => Value.int .u8 (b.toNat : Int)) ∧ Below W0.heap.size W0 w

theorem OwnB.form {W0 w : World} {v : Value} {l : List UInt8} (h : OwnB W0 w v l) (hp : 0 < l.length) : ∃ g cap, v = .slice (some ⟨g, 0, none⟩) l.length cap ∧ W0.heap.size ≤ g ∧ BytesAt w (some ⟨g, 0, none⟩) l ∧ l.length ≤ cap ∧ cap ≤ maxLen := by
 rcases h.1.2 with ⟨_, h0⟩ | ⟨g, cap, cur, hv, hb, hg, hle, hcm, _⟩
 · omega
 · have hlt : g < w.heap.size := by
    rcases Nat.lt_or_ge g w.heap.size with hlt | hge
    · exact hlt
    · rw [Array.getElem?_eq_none hge] at hg; cases hg
   refine ⟨g, cap, hv, hb, ⟨by omega, Or.inr ⟨g, 0, rfl, hlt, fun j hj => ?_⟩⟩, hle, hcm⟩
   have := h.1.cells (g := g) (by rw [hv]; rfl) j (.int .u8 ((l.getD j 0).toNat : Int)) (by
    rw [List.getElem?_map, List.getElem?_eq_getElem hj, List.getD_eq_getElem?_getD, List.getElem?_eq_getElem hj]; rfl)
   rw [WideShapes.add_plain] at this
   simpa using this

theorem own_new (w : World) (l : List UInt8) (hl : l.length ≤ 1000) : OwnB w (w.alloc (.cells (l.map fun b => Value.int .u8 (b.toNat : Int)).toArray 5)) (.slice (some ⟨w.heap.size, 0, none⟩) l.length l.length) l := by
 refine ⟨⟨by simp, Or.inr ⟨w.heap.size, l.length, (l.map fun b => Value.int .u8 (b.toNat : Int)).toArray, rfl, Nat.le_refl _, ?_, Nat.le_refl _, by unfold maxLen; omega, by simp, ?_⟩⟩, (Below.refl _ _).alloc (Nat.le_refl _) _⟩
 · show (w.heap.push _)[w.heap.size]? = _
   exact Array.getElem?_push_size
 · rw [Nat.mul_one]
   exact List.take_of_length_le (by simp)

/-- 'append(b, s...)' of a text, b of the call's own. -/
theorem append_text {ops : Array Oper} {rest : List Oper} {o : Oper} {a : Act} {Q : Exit → Act → World → Prop} (w : World) (hgd : o.guard = none) (sl x : Operand)
 (ho : o.op = .call { callee := .builtin .append, args := #[sl, x], argTypes := #[95, 9] })
 (W0 : World) (v : Value) (l : List UInt8) (hs : a.eval sl = v) (hW : OwnB W0 w v l) (hp : 0 < l.length) (s : ByteArray) (hx : a.eval x = .string s) (hsz : l.length + s.size ≤ 1000000)
 (h : ∀ g cap w', OwnB W0 w' (.slice (some ⟨g, 0, none⟩) (l ++ s.data.toList).length cap) (l ++ s.data.toList) → wpList Tryz.prog ops Q rest (a.put o.dst (.slice (some ⟨g, 0, none⟩) (l ++ s.data.toList).length cap)) w') : wpList Tryz.prog ops Q (o :: rest) a w := by
 obtain ⟨i0, hi, hz0, hz1, hz2⟩ := info_parts infoByte
 refine Lib.wpList_append_own_string w hgd sl x 95 9 ho W0.heap.size 5 i0 Tryz.underlying95 Tryz.underlying9 hi hz0 hz1 hz2 v l.length _ hs hW.1 s hx (by unfold maxLen; omega) (by omega) hW.2.size ?_
 intro v' w' h2 h3 h4
 have hlen : (l ++ s.data.toList).length = l.length + s.size := by rw [List.length_append]; rfl
 have hmap : (l.map fun b => Value.int .u8 (b.toNat : Int)) ++ Lib.strCells s = (l ++ s.data.toList).map fun b => Value.int .u8 (b.toNat : Int) := by rw [List.map_append]; rfl
 have hO : OwnB W0 w' v' (l ++ s.data.toList) := by
  refine ⟨?_, hW.2.grown h3 hW.2.size (fun k hk => (hW.1.lt k hk).1)⟩
  rw [hlen, ← hmap]
  exact h2
 obtain ⟨g, cap, rfl, _⟩ := hO.form (by omega)
 exact h g cap w' hO

theorem u8_nat (n : Nat) (h : n < 256) : (UInt8.ofNat n).toNat = n := by rw [UInt8.toNat_ofNat']; omega

/- The contract of flash.Copy. -/

theorem infoPage : (Tryz.prog.info? 119).map (fun i => (i.zero, i.size, i.bytes)) = some (some (.agg #[.int .i64 0, .slice none 0 0]), 2, 32) := by kernel_rfl

/-- The pages j < k of the row that is made, in its block H. -/
def RowP (ps : List PageR) (H k : Nat) (cur : Array Value) (w : World) : Prop :=
 ∀ j, j < k → ∃ a c, cur[j * 2]? = some (.int .i64 (ps.getD j default).num) ∧ cur[j * 2 + 1]? = some (.slice a (ps.getD j default).bs.length c) ∧ BytesAt w a (ps.getD j default).bs ∧ (∀ x, a = some x → H < x.block) ∧ (ps.getD j default).bs.length ≤ c ∧ c ≤ maxLen

def CopR (ps : List PageR) (W : World) (H k : Nat) (wr : World) : Prop :=
 ∃ cur : Array Value, wr.heap[H]? = some (.cells cur 119 (0, 0)) ∧ cur.size = ps.length * 2 ∧ Below H W wr ∧ RowP ps H k cur wr

theorem made_keeps {W w1 : World} (hg : W.grownBy w1 none) : Below W.heap.size W w1 := (Below.refl _ _).grown hg (Nat.le_refl _) (fun k h => by cases h)

/-- 'append([]byte(nil), b...)' at a step of a region that draws. -/
theorem append_copy_step {ops : Array Oper} {o : Oper} {a : Act} {K : Act → World → Prop} {Q : Exit → Act → World → Prop} {E : Prop} (w : World) (hgd : o.guard = none) (s x : Operand)
 (ho : o.op = .call { callee := .builtin .append, args := #[s, x], argTypes := #[95, 95] }) (hs : a.eval s = .slice none 0 0)
 (l : List UInt8) (ad : Option Addr) (c : Nat) (hx : a.eval x = .slice ad l.length c) (hB : BytesAt w ad l) (hp : 0 < l.length) (hsz : l.length ≤ 140737488351232)
 (h : ∀ g cap w', OwnB w w' (.slice (some ⟨g, 0, none⟩) l.length cap) l → w.grownBy w' none → K (a.put o.dst (.slice (some ⟨g, 0, none⟩) l.length cap)) w') :
 if Region.wanted o (yielded ops a.tmps) = true then Oper.wp Tryz.prog o a w K Q else E := by
 obtain ⟨i0, hi, hz0, hz1, hz2⟩ := info_parts infoByte
 obtain ⟨_, hm⟩ := hB
 rcases hm with hm | ⟨b, off, rfl, hlt, hc⟩
 · omega
 refine step_append_lies w hgd s x 95 ho w.heap.size 5 i0 (.int .u8 0) 1 1 Tryz.underlying95 hi hz0 hz1 hz2 rfl (by omega) (.slice none 0 0) 0 [] hs ⟨rfl, Or.inl ⟨rfl, rfl⟩⟩ ⟨b, off, none⟩ l.length c (l.map fun y => Value.int .u8 (y.toNat : Int)) hx (by simp) ?_ ?_ hp (by unfold maxLen; omega) (by omega) (Nat.le_refl _) w.heap.size rfl ?_
 · intro j u hj
   rw [List.getElem?_map, Option.map_eq_some_iff] at hj
   obtain ⟨y, hy, rfl⟩ := hj
   obtain ⟨hjl, hje⟩ := List.getElem?_eq_some_iff.1 hy
   rw [WideShapes.add_plain, hc j hjl, List.getD_eq_getElem?_getD, hy]
   rfl
 · intro u hu
   obtain ⟨y, _, rfl⟩ := List.mem_map.1 hu
   rfl
 intro g cap w' h2 h3 h4 h5
 rw [Nat.zero_add] at h2 ⊢
 refine h g cap w' ⟨?_, made_keeps h3⟩ h3
 simpa using h2

end Go.Proofs.YtdblegdgmjakfaaGreatDoor
