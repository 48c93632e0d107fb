/- dovecotekeep.Request, where it makes another request than a Get. -/
import Derived.Test.YtkjfkonekajffaaDoorKReqB
namespace Go.Proofs.YtkjfkonekajffaaDoor
open Go.ChangeShapes Go.WideShapes Go.ChangeAt Go.RowKit
set_option linter.unusedVariables false
set_option linter.unusedSimpArgs false

/-- One way out of a region: this frame, this world. -/
def OncePost (A : Act) (W : World) : Exit → Act → World → Prop
  | .panic _, _, _ => False
  | e, a, w => e = Exit.normal ∧ a = A ∧ w = W
theorem once_normal {A : Act} {W : World} {a : Act} {w : World} (h1 : a = A) (h2 : w = W) : OncePost A W Exit.normal a w := ⟨rfl, h1, h2⟩
theorem region_once {P : Program} {c : Code} {Q : Exit → Act → World → Prop} {a : Act} {w : World} {A : Act} {W : World} (h1 : c.wp P (OncePost A W) a w) (h2 : Q Exit.normal A W) : c.wp P Q a w :=
  Code.wp_mono (fun e a' w' h => by cases e <;> first | exact (h : False).elim | (obtain ⟨h3, h4, h5⟩ := h; first | (subst h4 h5; exact h2) | cases h3)) h1
theorem two_at (p : Nat) (hp : p < 2) : (#[.int .i64 9, .int .i64 10] : Array Value)[p]? = some (.int .i64 (9 + (p : Int))) := by
  match p, hp with
  | 0, _ => rfl
  | 1, _ => rfl
  | p + 2, h => omega
theorem keepDr {w w1 : World} (h : Below w.heap.size w w1) : Below w.heap.size w w1.drew := h.drew
theorem RqT.set1 {W : World} {R : Nat} {rk ra rb rc : Value} {w : World} (h : RqT W R rk ra rb rc w) (p : Addr) (v : Value) (h1 : W.heap.size ≤ p.block) (h2 : R ≠ p.block) : RqT W R rk ra rb rc (w.setCell p v) := (h.1.set p v h1 h2).three

/-- incr -/
def incrX (ra rb rc : Int) : RqR := ⟨9 + pickN rb 2, keyS ra, [], 0, 0, pickN rc 12, ⟨#[]⟩, pickN rb 7 == 0⟩

set_option maxHeartbeats 8000000 in
set_option maxRecDepth 100000 in
theorem request_incr (rk ra rb rc : Int) (w : World) (hk : i64In rk) (ha : i64In ra) (hb : i64In rb) (hc : i64In rc) (h5 : 13 ≤ pickN rk 20) (h6 : pickN rk 20 < 17) :
    Calls Tryd.prog 12 #[.agg #[.int .i64 rk, .int .i64 ra, .int .i64 rb, .int .i64 rc]] w fun e w' => RqPost (incrX ra rb rc) w e w' := by
  have hk1 := fun w1 => keepKey_any ra w1 ha.1 ha.2
  have hp1 := fun w1 => picked_any rk 20 w1 hk.1 hk.2 (by decide) (by decide)
  have hp2 := fun w1 => picked_any rb 2 w1 hb.1 hb.2 (by decide) (by decide)
  have hp3 := fun w1 => picked_any rc 12 w1 hc.1 hc.2 (by decide) (by decide)
  have hpq := fun w1 => picked_any rb 7 w1 hb.1 hb.2 (by decide) (by decide)
  unfold incrX
  obtain ⟨q0, q1⟩ := pickN_range rb 2 (by decide)
  obtain ⟨q, hq⟩ : ∃ q : Nat, pickN rb 2 = (q : Int) := ⟨(pickN rb 2).toNat, by omega⟩
  simp only [hq] at *
  have hx := two_at q (by omega)
  have hq0 : (0 : Int) ≤ (q : Int) := q0
  generalize (9 : Int) + (q : Int) = kd at *
  clear hq
  generalize pickN rb 2 = B2 at *
  generalize pickN rc 12 = C at *
  generalize pickN rb 7 = B at *
  generalize pickN rk 20 = K at *
  generalize keyS ra = ka at *
  clear hk ha hb hc
  go_enter Tryd.func12, Tryd.ntmps12
  go_wp2_with fail
  refine (hk1 _).mono ?_
  rintro e w1 ⟨rfl, hb1⟩
  obtain ⟨p1, p2⟩ := bcell hb1
  obtain ⟨hz, hz', hbw⟩ := rq_size hb1
  go_wp2_with (go_at_call_of 14 (Value.int .i64 rk); refine (hp1 _).mono ?_; rintro e w' ⟨rfl, rfl⟩)
  apply region_once
  · go_region_with (first
        | (go_at_call_of 14 (Value.int .i64 rb); refine (hp2 _).mono ?_; rintro e wa ⟨rfl, rfl⟩)
        | (go_at_call_of 14 (Value.int .i64 rc); refine (hp3 _).mono ?_; rintro e wa ⟨rfl, rfl⟩))
    all_goals exact once_normal rfl rfl
  · go_wp2_with (go_at_call_of 14 (Value.int .i64 rb); refine (hpq _).mono ?_; rintro e wa ⟨rfl, rfl⟩)
    exact bodyPost_ret (by simp [results, Tryd.results12, go_sem, hz, hz', p1]) rfl (rq_post kd ka 0 0 C ⟨#[]⟩ (B == 0) rfl (by repeat (first | (with_reducible exact hbw) | (with_reducible refine keepDr ?_) | (with_reducible refine keepAl ?_ _) | (with_reducible refine keepSet ?_ (by first | exact Nat.le_succ _ | exact hbw.size)))))
end Go.Proofs.YtkjfkonekajffaaDoor
