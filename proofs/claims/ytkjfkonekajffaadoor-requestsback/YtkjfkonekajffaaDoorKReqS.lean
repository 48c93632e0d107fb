/- dovecotekeep.Request, where it makes a request that stores. -/
import Derived.Test.YtkjfkonekajffaaDoorKReqB
namespace Go.Proofs.YtkjfkonekajffaaDoor
open Go.ChangeShapes Go.WideShapes Go.ChangeAt Go.RowKit
set_option linter.unusedVariables false
set_option linter.unusedSimpArgs false

def stoL : List Int := [2, 2, 2, 3, 4, 5, 6]
theorem sto_at (p : Nat) (hp : p < 7) : (#[.int .i64 2, .int .i64 2, .int .i64 2, .int .i64 3, .int .i64 4, .int .i64 5, .int .i64 6] : Array Value)[p]? = some (.int .i64 (stoL.getD p 0)) ∧ 2 ≤ stoL.getD p 0 ∧ stoL.getD p 0 ≤ 6 := by
  match p, hp with
  | 0, _ => exact ⟨rfl, by decide, by decide⟩
  | 1, _ => exact ⟨rfl, by decide, by decide⟩
  | 2, _ => exact ⟨rfl, by decide, by decide⟩
  | 3, _ => exact ⟨rfl, by decide, by decide⟩
  | 4, _ => exact ⟨rfl, by decide, by decide⟩
  | 5, _ => exact ⟨rfl, by decide, by decide⟩
  | 6, _ => exact ⟨rfl, by decide, by decide⟩
  | p + 7, h => omega

def stoX (ra rb rc : Int) : RqR := ⟨stoL.getD (pickN rc 7).toNat 0, keyS ra, [], pickN rc 9, (pickN rb 8).tdiv 5 * pickN rc 30, 0, valS rb, pickN rb 7 == 0⟩

theorem RqT.setS {W : World} {R : Nat} {rk ra rb rc : Value} {w : World} (h : RqT W R rk ra rb rc w) (p : Addr) (v : Value) (h1 : W.heap.size ≤ p.block) (h2 : R ≠ p.block) : RqT W R rk ra rb rc (w.setCell p v) := (h.1.set p v h1 h2).three
theorem keepDrS {w w1 : World} (h : Below w.heap.size w w1) : Below w.heap.size w w1.drew := h.drew

set_option maxHeartbeats 4000000 in
set_option maxRecDepth 100000 in
theorem request_sto (rk ra rb rc : Int) (w : World) (hk : i64In rk) (ha : i64In ra) (hb : i64In rb) (hc : i64In rc) (h5 : 5 ≤ pickN rk 20) (h6 : pickN rk 20 < 11) :
    Calls Tryd.prog 12 #[.agg #[.int .i64 rk, .int .i64 ra, .int .i64 rb, .int .i64 rc]] w fun e w' => RqPost (stoX ra rb rc) w e w' := by
  have hk1 := fun w1 => keepKey_any ra w1 ha.1 ha.2
  have hp1 := fun w1 => picked_any rk 20 w1 hk.1 hk.2 (by decide) (by decide)
  have hpc := fun (m : Int) (w1 : World) (h : 0 < m ∧ m ≤ 100) => picked_any rc m w1 hc.1 hc.2 h.1 (by omega)
  have hpb := fun (m : Int) (w1 : World) (h : 0 < m ∧ m ≤ 100) => picked_any rb m w1 hb.1 hb.2 h.1 (by omega)
  have hv := fun w1 => value_any rb w1 hb.1 hb.2
  have hvs := valS_size rb
  obtain ⟨a0, a1⟩ := pickN_range rc 7 (by decide)
  obtain ⟨b0, b1⟩ := pickN_range rb 8 (by decide)
  obtain ⟨c0, c1⟩ := pickN_range rc 30 (by decide)
  obtain ⟨hx, hx2, hx3⟩ := sto_at (pickN rc 7).toNat (by omega)
  obtain ⟨p, hp⟩ : ∃ p : Nat, pickN rc 7 = (p : Int) := ⟨(pickN rc 7).toNat, by omega⟩
  have hp7 := fun w1 => picked_any rc 7 w1 hc.1 hc.2 (by decide) (by decide)
  unfold stoX
  simp only [hp] at *
  simp only [Int.toNat_natCast] at *
  generalize stoL.getD p 0 = kd at *
  generalize valS rb = v at *
  have hd : (pickN rb 8).tdiv 5 = 0 ∨ (pickN rb 8).tdiv 5 = 1 := by
    rw [Int.tdiv_eq_ediv_of_nonneg b0]
    omega
  have hw1 : IntKind.i64.wrap ((pickN rb 8).tdiv 5) = (pickN rb 8).tdiv 5 := by simp only [IntKind.wrap_i64]; omega
  have hw2 : IntKind.i64.wrap ((pickN rb 8).tdiv 5 * pickN rc 30) = (pickN rb 8).tdiv 5 * pickN rc 30 := by
    rcases hd with h | h <;> rw [h] <;> simp only [IntKind.wrap_i64] <;> omega
  generalize pickN rk 20 = K at *
  generalize keyS ra = ka at *
  clear hk ha hb hc hp
  go_enter Tryd.func12, Tryd.ntmps12
  go_wp2_with fail
  refine (hk1 _).mono ?_
  rintro e w1 ⟨rfl, hb1⟩
  obtain ⟨p1, p2⟩ := bcell hb1
  obtain ⟨hz, hz', hbw⟩ := rq_size hb1
  have hRaw0 : TB 30 (w.alloc (.cells #[.int .i64 rk, .int .i64 ra, .int .i64 rb, .int .i64 rc] 30)) w.heap.size #[.int .i64 rk, .int .i64 ra, .int .i64 rb, .int .i64 rc] := TB.new _ _ _
  have hRaw1 := (hRaw0.alloc (.cells #[.int .i64 0, .string ⟨#[]⟩, .slice none 0 0, .int .i64 0, .int .i64 0, .int .i64 0, .string ⟨#[]⟩, .bool false] 24)).later hb1
  have hT : RqT w w.heap.size (.int .i64 rk) (.int .i64 ra) (.int .i64 rb) (.int .i64 rc) w1 := RqS.three ⟨hbw, hRaw1⟩
  have hle : w.heap.size ≤ w1.heap.size := hbw.size
  have hne : w.heap.size ≠ w1.heap.size := by omega
  have hQ0 := TB.new 24 w1 #[.int .i64 kd, .string ka, .slice none 0 0, .int .i64 0, .int .i64 0, .int .i64 0, .string ⟨#[]⟩, .bool false]
  have hp0 : (0 : Int) ≤ (p : Int) := a0
  go_wp2_with (first | (go_at_call_of 14 (Value.int .i64 rk); refine (hp1 _).mono ?_; rintro e w' ⟨rfl, rfl⟩) | (go_at_call_of 14 (Value.int .i64 rc); refine (hp7 _).mono ?_; rintro e w' ⟨rfl, rfl⟩))
  have hZ0 : TB 24 ((w.alloc (.cells #[.int .i64 rk, .int .i64 ra, .int .i64 rb, .int .i64 rc] 30)).alloc (.cells #[.int .i64 0, .string ⟨#[]⟩, .slice none 0 0, .int .i64 0, .int .i64 0, .int .i64 0, .string ⟨#[]⟩, .bool false] 24)) (w.heap.size + 1) #[.int .i64 0, .string ⟨#[]⟩, .slice none 0 0, .int .i64 0, .int .i64 0, .int .i64 0, .string ⟨#[]⟩, .bool false] := by have := TB.new 24 (w.alloc (.cells #[.int .i64 rk, .int .i64 ra, .int .i64 rb, .int .i64 rc] 30)) #[.int .i64 0, .string ⟨#[]⟩, .slice none 0 0, .int .i64 0, .int .i64 0, .int .i64 0, .string ⟨#[]⟩, .bool false]; simpa using this
  have hZ1 := hZ0.later hb1
  have hne3 : w1.heap.size ≠ w.heap.size + 1 := by omega
  generalize hWd : ((w1.alloc (.cells #[.int .i64 kd, .string ka, .slice none 0 0, .int .i64 0, .int .i64 0, .int .i64 0, .string ⟨#[]⟩, .bool false] 24)).alloc (.cells #[.int .i64 2, .int .i64 2, .int .i64 2, .int .i64 3, .int .i64 4, .int .i64 5, .int .i64 6] 3)) = W
  have hTW : RqT w w.heap.size (.int .i64 rk) (.int .i64 ra) (.int .i64 rb) (.int .i64 rc) W := by rw [← hWd]; exact (hT.alloc _).alloc _
  have hQW : TB 24 W w1.heap.size #[.int .i64 kd, .string ka, .slice none 0 0, .int .i64 0, .int .i64 0, .int .i64 0, .string ⟨#[]⟩, .bool false] := by rw [← hWd]; exact hQ0.alloc _
  have hZW : TB 24 W (w.heap.size + 1) #[.int .i64 0, .string ⟨#[]⟩, .slice none 0 0, .int .i64 0, .int .i64 0, .int .i64 0, .string ⟨#[]⟩, .bool false] := by rw [← hWd]; exact (hZ1.alloc _).alloc _
  clear hWd hRaw0 hRaw1 hT hQ0 hZ0 hZ1 p1 p2 hb1 hx
  generalize w1.heap.size = q at *
  go_region_held3 (fun w' => RqT w w.heap.size (.int .i64 rk) (.int .i64 ra) (.int .i64 rb) (.int .i64 rc) w') (with_reducible repeat (first | assumption | refine RqT.drew ?_ | refine RqT.setS ?_ _ _ hle hne | refine RqT.alloc ?_ _))
    (first
      | (go_at_call_of 14 (Value.int .i64 rc); refine (hpc _ _ (by decide)).mono ?_; rintro e wa ⟨rfl, rfl⟩)
      | (go_at_call_of 14 (Value.int .i64 rb); refine (hpb _ _ (by decide)).mono ?_; rintro e wa ⟨rfl, rfl⟩)
      | (go_at_call_of 29 (Value.int .i64 rb); refine (hv _).mono ?_; rintro e wv ⟨rfl, hbv⟩; have hSv := RqT.later (rk := .int .i64 rk) (ra := .int .i64 ra) (rb := .int .i64 rb) (rc := .int .i64 rc) (W := w) (R := w.heap.size) (by assumption) hbv; have hQv := TB.after (t := 24) (b := q) (cs := #[.int .i64 kd, .string ka, .slice none 0 0, .int .i64 0, .int .i64 0, .int .i64 0, .string ⟨#[]⟩, .bool false]) hbv hQW; have hZv := TB.after (t := 24) (b := w.heap.size + 1) (cs := #[.int .i64 0, .string ⟨#[]⟩, .slice none 0 0, .int .i64 0, .int .i64 0, .int .i64 0, .string ⟨#[]⟩, .bool false]) hbv hZW; have g1 := fun j => hQv.cell j; have g2 := fun j => hQv.frozen j; have g3 := fun j => hZv.cell j; have g4 := fun j => hZv.frozen j; have l1 := hQv.lt; have l2 := hZv.lt))
  have hbv2 : Below w.heap.size w wv := hSv.1.1
  obtain ⟨_, r1, r2, r3⟩ := hSv
  have hv2 : ¬ (200 : Int) < (v.size : Int) := by omega
  go_wp2_with (go_at_call_of 14 (Value.int .i64 rb); refine (hpb _ _ (by decide)).mono ?_; rintro e wa ⟨rfl, rfl⟩)
  exact bodyPost_ret (by simp [results, Tryd.results12, go_sem, g1, g3, hne3]) rfl (rq_post kd ka (pickN rc 9) ((pickN rb 8).tdiv 5 * pickN rc 30) 0 v (pickN rb 7 == 0) rfl (by repeat (first | (with_reducible exact hbv2) | (with_reducible refine keepDrS ?_) | (with_reducible refine keepAl ?_ _) | (with_reducible refine keepSet ?_ (by first | exact Nat.le_succ _ | exact hle)))))
end Go.Proofs.YtkjfkonekajffaaDoor
