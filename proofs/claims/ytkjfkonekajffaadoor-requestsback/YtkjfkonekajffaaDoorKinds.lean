/- Contracts of the small functions of a kind that wire.Check and dovecoteref.RequestFault call: each answers what its plain function says, at every number. -/
import Derived.Test.YtkjfkonekajffaaDoorKeyMay
namespace Go.Proofs.YtkjfkonekajffaaDoor
open Go.ChangeShapes Go.WideShapes Go.ChangeAt Go.RowKit


def outB (n m : Int) : Bool := decide (n < 0) || decide (m < n)
def hasNB (k : Int) : Bool := decide (k = 7) || decide (k = 9) || decide (k = 10)
def mayQuietB (k : Int) : Bool := !(decide (k = 1)) && !(decide (k = 13))
def hasExpB (k : Int) : Bool := inB k 2 7 || decide (k = 11)

theorem outside_any (n m : Int) (w : World) :
    Calls Tryd.prog 34 #[.int .i64 n, .int .i64 m] w fun e w' => e = .returned (.bool (outB n m)) ∧ w' = w := by
  by_cases h1 : n < 0 <;> by_cases h2 : m < n <;> (go_enter Tryd.func34, Tryd.ntmps34; go_wp2; go_ret; exact ⟨ret_bool (by unfold outB; simp; omega), rfl⟩)

theorem brings_any (k : Int) (w : World) :
    Calls Tryd.prog 55 #[.int .i64 k] w fun e w' => e = .returned (.bool (inB k 2 7)) ∧ w' = w := by
  go_enter Tryd.func55, Tryd.ntmps55
  go_wp2_with (go_at_call 71; refine (in_any _ _ _ _).mono ?_; rintro e w' ⟨rfl, rfl⟩)
  go_ret
  exact ⟨rfl, rfl⟩

theorem hasKey_any (k : Int) (w : World) :
    Calls Tryd.prog 46 #[.int .i64 k] w fun e w' => e = .returned (.bool (inB k 2 11)) ∧ w' = w := by
  by_cases h1 : 2 ≤ k <;> by_cases h2 : k ≤ 11 <;> (go_enter Tryd.func46, Tryd.ntmps46; go_wp2; go_ret; exact ⟨ret_bool (by unfold inB; simp; omega), rfl⟩)

theorem bringsV_any (k : Int) (w : World) :
    Calls Tryd.prog 23 #[.int .i64 k] w fun e w' => e = .returned (.bool (inB k 2 7)) ∧ w' = w := by
  by_cases h1 : 2 ≤ k <;> by_cases h2 : k ≤ 7 <;> (go_enter Tryd.func23, Tryd.ntmps23; go_wp2; go_ret; exact ⟨ret_bool (by unfold inB; simp; omega), rfl⟩)

theorem hasExp_any (k : Int) (w : World) :
    Calls Tryd.prog 60 #[.int .i64 k] w fun e w' => e = .returned (.bool (hasExpB k)) ∧ w' = w := by
  have hc := bringsV_any k
  cases hq : inB k 2 7
  · rw [hq] at hc
    have HQ : Hid (inB k 2 7 = false) := hq
    clear hq
    by_cases h : k = 11
    · have h' : (k == 11) = true := by simp [h]
      have H : Hid (k = 11) := h
      clear h
      go_enter Tryd.func60, Tryd.ntmps60
      go_wp2_with (go_at_call 23; refine (hc _).mono ?_; rintro e w' ⟨rfl, rfl⟩)
      go_ret
      exact ⟨ret_bool (by unfold hasExpB; rw [H.out]; rfl), rfl⟩
    · have h' : (k == 11) = false := by simp [h]
      have H : Hid (¬ k = 11) := h
      clear h
      go_enter Tryd.func60, Tryd.ntmps60
      go_wp2_with (go_at_call 23; refine (hc _).mono ?_; rintro e w' ⟨rfl, rfl⟩)
      go_ret
      exact ⟨ret_bool (by unfold hasExpB; rw [HQ.out]; simp [H.out]), rfl⟩
  · rw [hq] at hc
    have HQ : Hid (inB k 2 7 = true) := hq
    clear hq
    go_enter Tryd.func60, Tryd.ntmps60
    go_wp2_with (go_at_call 23; refine (hc _).mono ?_; rintro e w' ⟨rfl, rfl⟩)
    go_ret
    exact ⟨ret_bool (by unfold hasExpB; rw [HQ.out]; rfl), rfl⟩

theorem hasN_any (k : Int) (w : World) :
    Calls Tryd.prog 56 #[.int .i64 k] w fun e w' => e = .returned (.bool (hasNB k)) ∧ w' = w := by
  by_cases h1 : k = 7
  · subst h1
    go_enter Tryd.func56, Tryd.ntmps56
    go_wp2
    go_ret
    exact ⟨rfl, rfl⟩
  · by_cases h2 : k = 9
    · subst h2
      go_enter Tryd.func56, Tryd.ntmps56
      go_wp2
      go_ret
      exact ⟨rfl, rfl⟩
    · by_cases h3 : k = 10
      · subst h3
        go_enter Tryd.func56, Tryd.ntmps56
        go_wp2
        go_ret
        exact ⟨rfl, rfl⟩
      · have e1 : (k == 7) = false := by simp [h1]
        have e2 : (k == 9) = false := by simp [h2]
        have e3 : (k == 10) = false := by simp [h3]
        have H : Hid (hasNB k = false) := by unfold Hid hasNB; simp [h1, h2, h3]
        clear h1 h2 h3
        go_enter Tryd.func56, Tryd.ntmps56
        go_wp2
        go_ret
        exact ⟨ret_bool H.out.symm, rfl⟩

theorem mayQuiet_any (k : Int) (w : World) :
    Calls Tryd.prog 61 #[.int .i64 k] w fun e w' => e = .returned (.bool (mayQuietB k)) ∧ w' = w := by
  by_cases h1 : k = 1
  · subst h1
    go_enter Tryd.func61, Tryd.ntmps61
    go_wp2
    go_ret
    exact ⟨rfl, rfl⟩
  · by_cases h2 : k = 13
    · subst h2
      go_enter Tryd.func61, Tryd.ntmps61
      go_wp2
      go_ret
      exact ⟨rfl, rfl⟩
    · have e1 : (k != 1) = true := by simp [h1]
      have e2 : (k != 13) = true := by simp [h2]
      have H : Hid (mayQuietB k = true) := by unfold Hid mayQuietB; simp [h1, h2]
      clear h1 h2
      go_enter Tryd.func61, Tryd.ntmps61
      go_wp2
      go_ret
      exact ⟨ret_bool H.out.symm, rfl⟩
end Go.Proofs.YtkjfkonekajffaaDoor
