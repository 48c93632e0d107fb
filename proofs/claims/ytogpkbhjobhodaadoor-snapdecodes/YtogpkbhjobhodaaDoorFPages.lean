/- Pages of flash in memory; dovecotelaw.sameFlash at two that are the same. -/
import Derived.Test.YtogpkbhjobhodaaDoorFBase
import Derived.Laws.BytesArg
import Derived.Deep.SlicePairs
import Derived.Deep.QuietTactic
import Derived.BigQuiet
namespace Go.Proofs.YtogpkbhjobhodaaDoor
open Go.ChangeShapes Go.WideShapes Go.ChangeAt Go.RowKit
set_option linter.unusedVariables false

structure PageR where
  num : Int
  bs : List UInt8
  deriving Inhabited

/-- The bytes 'l' lie in memory as the slice (a, l.length) says. -/
def BytesAt (w : World) (a : Option Addr) (l : List UInt8) : Prop :=
  l.length ≤ maxLen ∧ (l.length = 0 ∨ ∃ b o, a = some ⟨b, o, none⟩ ∧ b < w.heap.size ∧ ∀ j, j < l.length → w.cell? ⟨b, o + j, none⟩ = some (.int .u8 ((l.getD j 0).toNat : Int)))

theorem BytesAt.later {w w' : World} {a : Option Addr} {l : List UInt8} (h : BytesAt w a l) (hb : Below w.heap.size w w') : BytesAt w' a l := by
  obtain ⟨h1, h2⟩ := h
  refine ⟨h1, ?_⟩
  rcases h2 with h2 | ⟨b, o, h3, h4, h5⟩
  · exact Or.inl h2
  · refine Or.inr ⟨b, o, h3, Nat.lt_of_lt_of_le h4 hb.size, fun j hj => ?_⟩
    rw [hb.cell (p := ⟨b, o + j, none⟩) h4]
    exact h5 j hj

/-- One page at its two cells. -/
def PageAt (w : World) (b o : Nat) (p : PageR) : Prop :=
  ∃ a c, w.cell? ⟨b, o, none⟩ = some (.int .i64 p.num) ∧ w.cell? ⟨b, o + 1, none⟩ = some (.slice a p.bs.length c) ∧ BytesAt w a p.bs ∧ p.bs.length ≤ c ∧ c ≤ maxLen

theorem PageAt.later {w w' : World} {b o : Nat} {p : PageR} (h : PageAt w b o p) (hlt : b < w.heap.size) (hb : Below w.heap.size w w') : PageAt w' b o p := by
  obtain ⟨a, c, h1, h2, h3, h4⟩ := h
  exact ⟨a, c, by rw [hb.cell (p := ⟨b, o, none⟩) hlt]; exact h1, by rw [hb.cell (p := ⟨b, o + 1, none⟩) hlt]; exact h2, h3.later hb, h4⟩

/-- The pages 'ps' lie in memory as the slice (a, ps.length) says. -/
def PagesAt (w : World) (a : Option Addr) (ps : List PageR) : Prop :=
  ps.length ≤ maxLen ∧ (ps.length = 0 ∨ ∃ b o, a = some ⟨b, o, none⟩ ∧ b < w.heap.size ∧ ∀ j, j < ps.length → PageAt w b (o + j * 2) (ps.getD j default))

theorem PagesAt.later {w w' : World} {a : Option Addr} {ps : List PageR} (h : PagesAt w a ps) (hb : Below w.heap.size w w') : PagesAt w' a ps := by
  obtain ⟨h1, h2⟩ := h
  refine ⟨h1, ?_⟩
  rcases h2 with h2 | ⟨b, o, h3, h4, h5⟩
  · exact Or.inl h2
  · exact Or.inr ⟨b, o, h3, Nat.lt_of_lt_of_le h4 hb.size, fun j hj => (h5 j hj).later h4 hb⟩

theorem drewN_below (w : World) (q : Nat) : Below w.heap.size w (w.drewN q) := ⟨rfl, rfl, rfl, Nat.le_refl _, fun _ _ => rfl⟩

theorem pages_none (w : World) (a : Option Addr) : PagesAt w a [] := ⟨Nat.zero_le _, Or.inl rfl⟩

def strB (l : List UInt8) : ByteArray := ⟨l.toArray⟩

set_option maxRecDepth 100000 in
/-- string(b) of such bytes. -/
theorem conv_bytes {w : World} {a : Option Addr} {l : List UInt8} (h : BytesAt w a l) (c : Nat) : (convert 22 9 (.slice a l.length c)).run Tryd.prog w = .ok (.string (strB l)) w := by
  obtain ⟨_, h2⟩ := h
  rcases h2 with h2 | ⟨b, o, rfl, _, h5⟩
  · have : l = [] := List.length_eq_zero_iff.1 h2
    subst this
    rw [run_convert_bytes_string w 22 9 5 a _ c Tryd.underlying22 Tryd.underlying5 Tryd.underlying9]
    cases a with
    | none => rfl
    | some a => rw [run_bytesToString w a _ c [] (by rfl)]; rfl
  · have h := run_convert_bytes_arg (P := Tryd.prog) w 22 5 Tryd.underlying22 Tryd.underlying5 b o l.length c (l.map fun x => (x.toNat : Int)) (by simp) (fun i hi => by
      rw [h5 i hi]
      simp [List.getD_eq_getElem?_getD, List.getElem?_eq_getElem hi]) 9 Tryd.underlying9
    rw [h]
    congr 2
    unfold strOfNums strB
    rw [List.map_map]
    have hid : l.map ((fun n : Int => UInt8.ofNat n.toNat) ∘ fun x : UInt8 => (x.toNat : Int)) = l := by
      refine (List.map_congr_left (g := id) fun x _ => ?_).trans (List.map_id _)
      simp
    rw [hid]

set_option maxHeartbeats 1000000 in
set_option maxRecDepth 100000 in
theorem sameFlash_same (m x : Int) (ps : List PageR) (a b : Option Addr) (c d : Nat) (w : World) (hA : PagesAt w a ps) (hB : PagesAt w b ps) :
    Calls Tryd.prog 15 #[.agg #[.int .i64 m, .int .i64 x, .slice a ps.length c], .agg #[.int .i64 m, .int .i64 x, .slice b ps.length d]] w fun e w' => e = .returned (.bool true) ∧ Below w.heap.size w w' := by
  have hB0 : ∀ o1 o2, Below w.heap.size w ((w.alloc o1).alloc o2) := fun o1 o2 => ((Below.refl _ _).alloc (Nat.le_refl _) _).alloc (by simp) _
  obtain ⟨hmax, hmA⟩ := hA
  obtain ⟨_, hmB⟩ := hB
  unfold maxLen at hmax
  go_enter Tryd.func15, Tryd.ntmps15
  go_wp2_with fail
  generalize hW : ((w.alloc (.cells #[.int .i64 m, .int .i64 x, .slice a ps.length c] 27)).alloc (.cells #[.int .i64 m, .int .i64 x, .slice b ps.length d] 27)) = W1
  have hWs : W1.heap.size = w.heap.size + 2 := by rw [← hW]; simp
  have hWb : Below w.heap.size w W1 := by rw [← hW]; exact hB0 _ _
  have c2 : W1.cell? ⟨w.heap.size, 2, none⟩ = some (.slice a ps.length c) := by rw [← hW]; simp [go_sem]
  have d2 : W1.cell? ⟨w.heap.size + 1, 2, none⟩ = some (.slice b ps.length d) := by rw [← hW]; simp [go_sem]
  clear hW
  go_loopw [5] (fun i wr => ∃ k : Nat, k ≤ ps.length ∧ i = .int .i64 k ∧ Below W1.heap.size W1 wr) (fun i _ => ps.length - (intOf i).toNat)
  case atStart => exact ⟨0, Nat.zero_le _, rfl, Below.refl _ _⟩
  case round =>
    obtain ⟨k, hk, rfl, hb⟩ := hrel
    have e1 : wr.cell? ⟨w.heap.size, 2, none⟩ = some (.slice a ps.length c) := by rw [hb.cell (p := ⟨w.heap.size, 2, none⟩) (by show w.heap.size < _; omega)]; exact c2
    have e2 : wr.cell? ⟨w.heap.size + 1, 2, none⟩ = some (.slice b ps.length d) := by rw [hb.cell (p := ⟨w.heap.size + 1, 2, none⟩) (by show w.heap.size + 1 < _; omega)]; exact d2
    have hbw : Below w.heap.size w wr := hWb.trans (hb.mono hWb.size)
    clear hWb c2 d2
    by_cases hlt : k < ps.length
    · have hltz : (k : Int) < (ps.length : Int) := by omega
      have hk0 : (0 : Int) ≤ (k : Int) := Int.natCast_nonneg _
      rcases hmA with hmA | ⟨b1, o1, rfl, hl1, hc1⟩
      · omega
      rcases hmB with hmB | ⟨b2, o2, rfl, hl2, hc2⟩
      · omega
      obtain ⟨p1, q1, n1, n2, n3, _⟩ := (hc1 k hlt).later hl1 hbw
      obtain ⟨p2, q2, m1, m2, m3, _⟩ := (hc2 k hlt).later hl2 hbw
      clear hc1 hc2
      generalize ps.getD k default = P at *
      obtain ⟨num, bs⟩ := P
      simp only at *
      have v1 := fun n => conv_bytes (n3.later (drewN_below wr n)) q1
      have v2 := fun n => conv_bytes (m3.later (drewN_below wr n)) q2
      have g1 : (num != num) = false := by simp
      have g2 : ((strB bs).toList != (strB bs).toList) = false := by simp
      go_wp2_with fail
      go_quiet (fail)
      go_wp2
      refine ⟨⟨k + 1, by omega, by simp, hb.trans ((drewN_below wr nq).mono hb.size)⟩, by simp [intOf]; omega⟩
    · have hltz : ¬ (k : Int) < (ps.length : Int) := by omega
      go_wp2
      go_ret
      exact ⟨rfl, hbw⟩
end Go.Proofs.YtogpkbhjobhodaaDoor
