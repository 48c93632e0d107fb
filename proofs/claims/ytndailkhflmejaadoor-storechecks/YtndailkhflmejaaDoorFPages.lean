/- Pages of flash in memory; dovecotelaw.sameFlash at two that are the same. -/
import Derived.Test.YtndailkhflmejaaDoorFBase
import Derived.Laws.BytesArg
import Derived.Deep.SlicePairs
import Derived.Deep.QuietTactic
import Derived.BigQuiet
namespace Go.Proofs.YtndailkhflmejaaDoor
open Go.ChangeShapes Go.WideShapes Go.ChangeAt Go.RowKit
set_option linter.unusedVariables false

structure PageR where
  num : Int
  bs : List UInt8
  deriving Inhabited

/-- The bytes 'l' lie in memory as the slice (a, l.length) says. -/
def BytesAt (w : World) (a : Option Addr) (l : List UInt8) : Prop :=
  l.length ≤ maxLen ∧ (l.length = 0 ∨ ∃ b o, a = some ⟨b, o, none⟩ ∧ b < w.heap.size ∧ ∀ j, j < l.length → w.cell? ⟨b, o + j, none⟩ = some (.int .u8 ((l.getD j 0).toNat : Int)))

theorem BytesAt.later {w w' : World} {a : Option Addr} {l : List UInt8} (h : BytesAt w a l) (hb : Below w.heap.size w w') : BytesAt w' a l := by
  obtain ⟨h1, h2⟩ := h
  refine ⟨h1, ?_⟩
  rcases h2 with h2 | ⟨b, o, h3, h4, h5⟩
  · exact Or.inl h2
  · refine Or.inr ⟨b, o, h3, Nat.lt_of_lt_of_le h4 hb.size, fun j hj => ?_⟩
    rw [hb.cell (p := ⟨b, o + j, none⟩) h4]
    exact h5 j hj

/-- One page at its two cells. -/
def PageAt (w : World) (b o : Nat) (p : PageR) : Prop :=
  ∃ a c, w.cell? ⟨b, o, none⟩ = some (.int .i64 p.num) ∧ w.cell? ⟨b, o + 1, none⟩ = some (.slice a p.bs.length c) ∧ BytesAt w a p.bs ∧ p.bs.length ≤ c ∧ c ≤ maxLen

theorem PageAt.later {w w' : World} {b o : Nat} {p : PageR} (h : PageAt w b o p) (hlt : b < w.heap.size) (hb : Below w.heap.size w w') : PageAt w' b o p := by
  obtain ⟨a, c, h1, h2, h3, h4⟩ := h
  exact ⟨a, c, by rw [hb.cell (p := ⟨b, o, none⟩) hlt]; exact h1, by rw [hb.cell (p := ⟨b, o + 1, none⟩) hlt]; exact h2, h3.later hb, h4⟩

/-- The pages 'ps' lie in memory as the slice (a, ps.length) says. -/
def PagesAt (w : World) (a : Option Addr) (ps : List PageR) : Prop :=
  ps.length ≤ maxLen ∧ (ps.length = 0 ∨ ∃ b o, a = some ⟨b, o, none⟩ ∧ b < w.heap.size ∧ ∀ j, j < ps.length → PageAt w b (o + j * 2) (ps.getD j default))

theorem PagesAt.later {w w' : World} {a : Option Addr} {ps : List PageR} (h : PagesAt w a ps) (hb : Below w.heap.size w w') : PagesAt w' a ps := by
  obtain ⟨h1, h2⟩ := h
  refine ⟨h1, ?_⟩
  rcases h2 with h2 | ⟨b, o, h3, h4, h5⟩
  · exact Or.inl h2
  · exact Or.inr ⟨b, o, h3, Nat.lt_of_lt_of_le h4 hb.size, fun j hj => (h5 j hj).later h4 hb⟩

theorem drewN_below (w : World) (q : Nat) : Below w.heap.size w (w.drewN q) := ⟨rfl, rfl, rfl, Nat.le_refl _, fun _ _ => rfl⟩

theorem pages_none (w : World) (a : Option Addr) : PagesAt w a [] := ⟨Nat.zero_le _, Or.inl rfl⟩

def strB (l : List UInt8) : ByteArray := ⟨l.toArray⟩

set_option maxRecDepth 100000 in
/-- string(b) of such bytes. -/
theorem conv_bytes {w : World} {a : Option Addr} {l : List UInt8} (h : BytesAt w a l) (c : Nat) : (convert 51 9 (.slice a l.length c)).run Tryd.prog w = .ok (.string (strB l)) w := by
  obtain ⟨_, h2⟩ := h
  rcases h2 with h2 | ⟨b, o, rfl, _, h5⟩
  · have : l = [] := List.length_eq_zero_iff.1 h2
    subst this
    rw [run_convert_bytes_string w 51 9 5 a _ c Tryd.underlying51 Tryd.underlying5 Tryd.underlying9]
    cases a with
    | none => rfl
    | some a => rw [run_bytesToString w a _ c [] (by rfl)]; rfl
  · have h := run_convert_bytes_arg (P := Tryd.prog) w 51 5 Tryd.underlying51 Tryd.underlying5 b o l.length c (l.map fun x => (x.toNat : Int)) (by simp) (fun i hi => by
      rw [h5 i hi]
      simp [List.getD_eq_getElem?_getD, List.getElem?_eq_getElem hi]) 9 Tryd.underlying9
    rw [h]
    congr 2
    unfold strOfNums strB
    rw [List.map_map]
    have hid : l.map ((fun n : Int => UInt8.ofNat n.toNat) ∘ fun x : UInt8 => (x.toNat : Int)) = l := by
      refine (List.map_congr_left (g := id) fun x _ => ?_).trans (List.map_id _)
      simp
    rw [hid]

end Go.Proofs.YtndailkhflmejaaDoor
