/- Items and stores in memory; dovecotelaw.sameStore at two that are the same. -/
import Derived.Test.YtogpkbhjobhodaaDoorFPages
namespace Go.Proofs.YtogpkbhjobhodaaDoor
open Go.ChangeShapes Go.WideShapes Go.ChangeAt Go.RowKit
set_option linter.unusedVariables false

structure ItemR where
  key : ByteArray
  flags : Int
  until_ : Int
  cas : Int
  used : Int
  value : ByteArray
  far : Bool
  page : Int
  at_ : Int
  deriving Inhabited

structure StoreR where
  clock : Int
  cas : Int
  uses : Int
  most : Int
  h0 : Int
  h1 : Int
  h2 : Int
  h3 : Int
  items : List ItemR
  fm : Int
  fx : Int
  pages : List PageR

/-- One item at its nine cells. -/
def ItemAt (w : World) (b o : Nat) (it : ItemR) : Prop :=
  w.cell? ⟨b, o, none⟩ = some (.string it.key) ∧ w.cell? ⟨b, o + 1, none⟩ = some (.int .i64 it.flags) ∧ w.cell? ⟨b, o + 2, none⟩ = some (.int .i64 it.until_) ∧ w.cell? ⟨b, o + 3, none⟩ = some (.int .i64 it.cas) ∧ w.cell? ⟨b, o + 4, none⟩ = some (.int .i64 it.used) ∧
    w.cell? ⟨b, o + 5, none⟩ = some (.string it.value) ∧ w.cell? ⟨b, o + 6, none⟩ = some (.bool it.far) ∧ w.cell? ⟨b, o + 7, none⟩ = some (.int .i64 it.page) ∧ w.cell? ⟨b, o + 8, none⟩ = some (.int .i64 it.at_)

theorem ItemAt.later {w w' : World} {b o : Nat} {it : ItemR} (h : ItemAt w b o it) (hlt : b < w.heap.size) (hb : Below w.heap.size w w') : ItemAt w' b o it := by
  obtain ⟨h0, h1, h2, h3, h4, h5, h6, h7, h8⟩ := h
  exact ⟨by rw [hb.cell (p := ⟨b, o, none⟩) hlt]; exact h0, by rw [hb.cell (p := ⟨b, o + 1, none⟩) hlt]; exact h1, by rw [hb.cell (p := ⟨b, o + 2, none⟩) hlt]; exact h2, by rw [hb.cell (p := ⟨b, o + 3, none⟩) hlt]; exact h3, by rw [hb.cell (p := ⟨b, o + 4, none⟩) hlt]; exact h4,
    by rw [hb.cell (p := ⟨b, o + 5, none⟩) hlt]; exact h5, by rw [hb.cell (p := ⟨b, o + 6, none⟩) hlt]; exact h6, by rw [hb.cell (p := ⟨b, o + 7, none⟩) hlt]; exact h7, by rw [hb.cell (p := ⟨b, o + 8, none⟩) hlt]; exact h8⟩

/-- The items 'l' lie in memory as the slice (a, l.length) says. -/
def ItemsAt (w : World) (a : Option Addr) (l : List ItemR) : Prop :=
  l.length ≤ maxLen ∧ (l.length = 0 ∨ ∃ b o, a = some ⟨b, o, none⟩ ∧ b < w.heap.size ∧ ∀ j, j < l.length → ItemAt w b (o + j * 9) (l.getD j default))

theorem ItemsAt.later {w w' : World} {a : Option Addr} {l : List ItemR} (h : ItemsAt w a l) (hb : Below w.heap.size w w') : ItemsAt w' a l := by
  obtain ⟨h1, h2⟩ := h
  refine ⟨h1, ?_⟩
  rcases h2 with h2 | ⟨b, o, h3, h4, h5⟩
  · exact Or.inl h2
  · exact Or.inr ⟨b, o, h3, Nat.lt_of_lt_of_le h4 hb.size, fun j hj => (h5 j hj).later h4 hb⟩

theorem items_none (w : World) (a : Option Addr) : ItemsAt w a [] := ⟨Nat.zero_le _, Or.inl rfl⟩

/-- A store's value, and what of it lies in memory. -/
def storeV (s : StoreR) (ia : Option Addr) (ic : Nat) (pa : Option Addr) (pc : Nat) : Value := .agg #[.int .i64 s.clock, .int .i64 s.cas, .int .i64 s.uses, .int .i64 s.most, .int .i64 s.h0, .int .i64 s.h1, .int .i64 s.h2, .int .i64 s.h3, .slice ia s.items.length ic, .int .i64 s.fm, .int .i64 s.fx, .slice pa s.pages.length pc]
def StoreIn (w : World) (s : StoreR) (ia pa : Option Addr) : Prop := ItemsAt w ia s.items ∧ PagesAt w pa s.pages
theorem StoreIn.later {w w' : World} {s : StoreR} {ia pa : Option Addr} (h : StoreIn w s ia pa) (hb : Below w.heap.size w w') : StoreIn w' s ia pa := ⟨h.1.later hb, h.2.later hb⟩
end Go.Proofs.YtogpkbhjobhodaaDoor
