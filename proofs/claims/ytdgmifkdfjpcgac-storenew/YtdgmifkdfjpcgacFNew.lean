/- flash.New and dovecoteref.FlashNew answer the same. -/
import Derived.Test.YtdgmifkdfjpcgacFBase
namespace Go.Proofs.Ytdgmifkdfjpcgac
open Go.ChangeShapes Go.WideShapes Go.ChangeAt Go.RowKit
set_option linter.unusedVariables false

def newM (m : Int) : Int := if inB m 0 20 = true then m else 0
def newX (m : Int) : Int := if inB m 0 20 = true then 1 else 0
def newE (m : Int) : Int := if inB m 0 20 = true then 0 else 2

def NewPost (m : Int) (w : World) (e : Ending) (w' : World) : Prop :=
  e = .returned (.tuple #[.agg #[.int .i64 (newM m), .int .i64 (newX m), .slice none 0 0], .int .i64 (newE m)]) ∧ Below w.heap.size w w'

theorem post_of {m : Int} {w w' : World} {M X E : Int} (h1 : newM m = M) (h2 : newX m = X) (h3 : newE m = E) (hb : Below w.heap.size w w') : NewPost m w (.returned (.tuple #[.agg #[.int .i64 M, .int .i64 X, .slice none 0 0], .int .i64 E])) w' := by
  subst h1 h2 h3
  exact ⟨rfl, hb⟩

theorem new_any (m : Int) (w : World) : Calls Try.prog 27 #[.int .i64 m] w fun e w' => NewPost m w e w' := by
  have hB0 : ∀ o, Below w.heap.size w (w.alloc o) := fun o => (Below.refl _ _).alloc (Nat.le_refl _) _
  by_cases h1 : m < 0
  · have E : Hid (inB m 0 20 = false) := by unfold Hid inB; simp; omega
    go_enter Try.func27, Try.ntmps27
    go_wp2
    exact bodyPost_ret (v := .tuple #[.agg #[.int .i64 0, .int .i64 0, .slice none 0 0], .int .i64 2]) (by simp [results, Try.results27, go_sem]) rfl (post_of (by unfold newM; rw [E.out]; rfl) (by unfold newX; rw [E.out]; rfl) (by unfold newE; rw [E.out]; rfl) (hB0 _))
  · by_cases h2 : 20 < m
    · have E : Hid (inB m 0 20 = false) := by unfold Hid inB; simp; omega
      go_enter Try.func27, Try.ntmps27
      go_wp2
      exact bodyPost_ret (v := .tuple #[.agg #[.int .i64 0, .int .i64 0, .slice none 0 0], .int .i64 2]) (by simp [results, Try.results27, go_sem]) rfl (post_of (by unfold newM; rw [E.out]; rfl) (by unfold newX; rw [E.out]; rfl) (by unfold newE; rw [E.out]; rfl) (hB0 _))
    · have E : Hid (inB m 0 20 = true) := by unfold Hid inB; simp; omega
      go_enter Try.func27, Try.ntmps27
      go_wp2
      exact bodyPost_ret (v := .tuple #[.agg #[.int .i64 m, .int .i64 1, .slice none 0 0], .int .i64 0]) (by simp [results, Try.results27, go_sem]) rfl (post_of (by unfold newM; rw [E.out]; rfl) (by unfold newX; rw [E.out]; rfl) (by unfold newE; rw [E.out]; rfl) (hB0 _))

theorem rnew_any (m : Int) (w : World) : Calls Try.prog 33 #[.int .i64 m] w fun e w' => NewPost m w e w' := by
  have hB0 : ∀ o, Below w.heap.size w (w.alloc o) := fun o => (Below.refl _ _).alloc (Nat.le_refl _) _
  have hin := fun w1 => in_any m 0 20 w1
  cases E0 : inB m 0 20
  · have E : Hid (inB m 0 20 = false) := E0
    rw [E0] at hin
    clear E0
    go_enter Try.func33, Try.ntmps33
    go_wp2_with (go_at_call 32; refine (hin _).mono ?_; rintro e w' ⟨rfl, rfl⟩)
    exact bodyPost_ret (v := .tuple #[.agg #[.int .i64 0, .int .i64 0, .slice none 0 0], .int .i64 2]) (by simp [results, Try.results33, go_sem]) rfl (post_of (by unfold newM; rw [E.out]; rfl) (by unfold newX; rw [E.out]; rfl) (by unfold newE; rw [E.out]; rfl) (hB0 _))
  · have E : Hid (inB m 0 20 = true) := E0
    rw [E0] at hin
    clear E0
    go_enter Try.func33, Try.ntmps33
    go_wp2_with (go_at_call 32; refine (hin _).mono ?_; rintro e w' ⟨rfl, rfl⟩)
    exact bodyPost_ret (v := .tuple #[.agg #[.int .i64 m, .int .i64 1, .slice none 0 0], .int .i64 0]) (by simp [results, Try.results33, go_sem]) rfl (post_of (by unfold newM; rw [E.out]; rfl) (by unfold newX; rw [E.out]; rfl) (by unfold newE; rw [E.out]; rfl) (hB0 _))
end Go.Proofs.Ytdgmifkdfjpcgac
