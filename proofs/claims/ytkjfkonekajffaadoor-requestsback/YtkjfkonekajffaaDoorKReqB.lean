/- dovecotekeep.Request, where it makes another request than a Get. -/
import Derived.Test.YtkjfkonekajffaaDoorKReq
import Derived.Test.YtkjfkonekajffaaDoorKVal
namespace Go.Proofs.YtkjfkonekajffaaDoor
open Go.ChangeShapes Go.WideShapes Go.ChangeAt Go.RowKit
set_option linter.unusedVariables false
set_option linter.unusedSimpArgs false

structure RqR where
  kind : Int
  key : ByteArray
  keys : List ByteArray
  flags : Int
  exp : Int
  nn : Int
  value : ByteArray
  quiet : Bool

def RqPost (X : RqR) (w : World) (e : Ending) (w' : World) : Prop :=
  ∃ a c, e = .returned (.agg #[.int .i64 X.kind, .string X.key, .slice a X.keys.length c, .int .i64 X.flags, .int .i64 X.exp, .int .i64 X.nn, .string X.value, .bool X.quiet]) ∧ StrsAt w' a X.keys.length X.keys ∧ Below w.heap.size w w'

theorem keepAl {w w1 : World} (h : Below w.heap.size w w1) (o : Obj) : Below w.heap.size w (w1.alloc o) := h.alloc h.size _
theorem keepSet {w w1 : World} {p : Addr} {v : Value} (h : Below w.heap.size w w1) (hp : w.heap.size ≤ p.block) : Below w.heap.size w (w1.setCell p v) := h.setCell hp _
theorem keepNext {w w1 w2 : World} (h : Below w.heap.size w w1) (hb : Below w1.heap.size w1 w2) : Below w.heap.size w w2 := h.trans (hb.mono h.size)

theorem rq_post {X : RqR} {w w' : World} (kind : Int) (key : ByteArray) (flags exp nn : Int) (value : ByteArray) (quiet : Bool) (h : X = ⟨kind, key, [], flags, exp, nn, value, quiet⟩) (hb : Below w.heap.size w w') :
    RqPost X w (.returned (.agg #[.int .i64 kind, .string key, .slice none 0 0, .int .i64 flags, .int .i64 exp, .int .i64 nn, .string value, .bool quiet])) w' := by
  subst h
  exact ⟨none, 0, rfl, ⟨rfl, Nat.zero_le _, fun x hx => by simp at hx, Or.inl rfl⟩, hb⟩

theorem rq_size {w w1 : World} {o1 o2 : Obj} (hb1 : Below ((w.alloc o1).alloc o2).heap.size ((w.alloc o1).alloc o2) w1) : w.heap.size + 1 < w1.heap.size ∧ w.heap.size < w1.heap.size ∧ Below w.heap.size w w1 := by
  have h := hb1.size
  simp at h
  exact ⟨by omega, by omega, (((Below.refl _ _).alloc (Nat.le_refl _) _).alloc (by simp) _).trans (hb1.mono (by simp; omega))⟩

/-- del -/
def delX (ra rb rc : Int) : RqR := ⟨8, keyS ra, [], 0, 0, 0, ⟨#[]⟩, pickN rb 7 == 0⟩

set_option maxHeartbeats 8000000 in
set_option maxRecDepth 100000 in
theorem request_del (rk ra rb rc : Int) (w : World) (hk : i64In rk) (ha : i64In ra) (hb : i64In rb) (hc : i64In rc) (h5 : pickN rk 20 = 12) :
    Calls Tryd.prog 12 #[.agg #[.int .i64 rk, .int .i64 ra, .int .i64 rb, .int .i64 rc]] w fun e w' => RqPost (delX ra rb rc) w e w' := by
  have hk1 := fun w1 => keepKey_any ra w1 ha.1 ha.2
  have hp1 := fun w1 => picked_any rk 20 w1 hk.1 hk.2 (by decide) (by decide)
  have hpq := fun w1 => picked_any rb 7 w1 hb.1 hb.2 (by decide) (by decide)
  unfold delX
  generalize pickN rb 7 = B at *
  generalize pickN rk 20 = K at *
  generalize keyS ra = ka at *
  clear hk ha hb hc
  go_enter Tryd.func12, Tryd.ntmps12
  go_wp2_with fail
  refine (hk1 _).mono ?_
  rintro e w1 ⟨rfl, hb1⟩
  obtain ⟨p1, p2⟩ := bcell hb1
  obtain ⟨hz, hz', hbw⟩ := rq_size hb1
  go_wp2_with (first | (go_at_call_of 14 (Value.int .i64 rk); refine (hp1 _).mono ?_; rintro e w' ⟨rfl, rfl⟩) | (go_at_call_of 14 (Value.int .i64 rb); refine (hpq _).mono ?_; rintro e w' ⟨rfl, rfl⟩))
  exact bodyPost_ret (by simp [results, Tryd.results12, go_sem, hz, p1]) rfl (rq_post 8 ka 0 0 0 ⟨#[]⟩ (B == 0) rfl (by repeat (first | (with_reducible exact hbw) | (with_reducible refine keepAl ?_ _) | (with_reducible refine keepSet ?_ (by first | exact Nat.le_succ _ | exact hbw.size)))))

/-- touch -/
def touchX (ra rb rc : Int) : RqR := ⟨11, keyS ra, [], 0, pickN rc 30, 0, ⟨#[]⟩, pickN rb 7 == 0⟩

set_option maxHeartbeats 8000000 in
set_option maxRecDepth 100000 in
theorem request_touch (rk ra rb rc : Int) (w : World) (hk : i64In rk) (ha : i64In ra) (hb : i64In rb) (hc : i64In rc) (h5 : pickN rk 20 = 17) :
    Calls Tryd.prog 12 #[.agg #[.int .i64 rk, .int .i64 ra, .int .i64 rb, .int .i64 rc]] w fun e w' => RqPost (touchX ra rb rc) w e w' := by
  have hk1 := fun w1 => keepKey_any ra w1 ha.1 ha.2
  have hp1 := fun w1 => picked_any rk 20 w1 hk.1 hk.2 (by decide) (by decide)
  have hp2 := fun w1 => picked_any rc 30 w1 hc.1 hc.2 (by decide) (by decide)
  have hpq := fun w1 => picked_any rb 7 w1 hb.1 hb.2 (by decide) (by decide)
  unfold touchX
  generalize pickN rc 30 = C at *
  generalize pickN rb 7 = B at *
  generalize pickN rk 20 = K at *
  generalize keyS ra = ka at *
  clear hk ha hb hc
  go_enter Tryd.func12, Tryd.ntmps12
  go_wp2_with fail
  refine (hk1 _).mono ?_
  rintro e w1 ⟨rfl, hb1⟩
  obtain ⟨p1, p2⟩ := bcell hb1
  obtain ⟨hz, hz', hbw⟩ := rq_size hb1
  go_wp2_with (first | (go_at_call_of 14 (Value.int .i64 rk); refine (hp1 _).mono ?_; rintro e w' ⟨rfl, rfl⟩) | (go_at_call_of 14 (Value.int .i64 rc); refine (hp2 _).mono ?_; rintro e w' ⟨rfl, rfl⟩) | (go_at_call_of 14 (Value.int .i64 rb); refine (hpq _).mono ?_; rintro e w' ⟨rfl, rfl⟩))
  exact bodyPost_ret (by simp [results, Tryd.results12, go_sem, hz, p1]) rfl (rq_post 11 ka 0 C 0 ⟨#[]⟩ (B == 0) rfl (by repeat (first | (with_reducible exact hbw) | (with_reducible refine keepAl ?_ _) | (with_reducible refine keepSet ?_ (by first | exact Nat.le_succ _ | exact hbw.size)))))

/-- cas -/
def casX (ra rb rc : Int) : RqR := ⟨7, keyS ra, [], 1, 0, pickN rc 20, ⟨#[98, 121, 32, 110, 117, 109, 98, 101, 114]⟩, pickN rb 7 == 0⟩

set_option maxHeartbeats 8000000 in
set_option maxRecDepth 100000 in
theorem request_cas (rk ra rb rc : Int) (w : World) (hk : i64In rk) (ha : i64In ra) (hb : i64In rb) (hc : i64In rc) (h5 : pickN rk 20 = 11) :
    Calls Tryd.prog 12 #[.agg #[.int .i64 rk, .int .i64 ra, .int .i64 rb, .int .i64 rc]] w fun e w' => RqPost (casX ra rb rc) w e w' := by
  have hk1 := fun w1 => keepKey_any ra w1 ha.1 ha.2
  have hp1 := fun w1 => picked_any rk 20 w1 hk.1 hk.2 (by decide) (by decide)
  have hp2 := fun w1 => picked_any rc 20 w1 hc.1 hc.2 (by decide) (by decide)
  have hpq := fun w1 => picked_any rb 7 w1 hb.1 hb.2 (by decide) (by decide)
  unfold casX
  generalize pickN rc 20 = C at *
  generalize pickN rb 7 = B at *
  generalize pickN rk 20 = K at *
  generalize keyS ra = ka at *
  clear hk ha hb hc
  go_enter Tryd.func12, Tryd.ntmps12
  go_wp2_with fail
  refine (hk1 _).mono ?_
  rintro e w1 ⟨rfl, hb1⟩
  obtain ⟨p1, p2⟩ := bcell hb1
  obtain ⟨hz, hz', hbw⟩ := rq_size hb1
  go_wp2_with (first | (go_at_call_of 14 (Value.int .i64 rk); refine (hp1 _).mono ?_; rintro e w' ⟨rfl, rfl⟩) | (go_at_call_of 14 (Value.int .i64 rc); refine (hp2 _).mono ?_; rintro e w' ⟨rfl, rfl⟩) | (go_at_call_of 14 (Value.int .i64 rb); refine (hpq _).mono ?_; rintro e w' ⟨rfl, rfl⟩))
  exact bodyPost_ret (by simp [results, Tryd.results12, go_sem, hz, p1]) rfl (rq_post 7 ka 1 0 C ⟨#[98, 121, 32, 110, 117, 109, 98, 101, 114]⟩ (B == 0) rfl (by repeat (first | (with_reducible exact hbw) | (with_reducible refine keepAl ?_ _) | (with_reducible refine keepSet ?_ (by first | exact Nat.le_succ _ | exact hbw.size)))))

/-- flush -/
def flushX (ra rb rc : Int) : RqR := ⟨12, ⟨#[]⟩, [], 0, 0, 0, ⟨#[]⟩, pickN rb 2 == 0⟩

set_option maxHeartbeats 8000000 in
set_option maxRecDepth 100000 in
theorem request_flush (rk ra rb rc : Int) (w : World) (hk : i64In rk) (ha : i64In ra) (hb : i64In rb) (hc : i64In rc) (h5 : pickN rk 20 = 18) (h6 : pickN rc 6 = 0) :
    Calls Tryd.prog 12 #[.agg #[.int .i64 rk, .int .i64 ra, .int .i64 rb, .int .i64 rc]] w fun e w' => RqPost (flushX ra rb rc) w e w' := by
  have hk1 := fun w1 => keepKey_any ra w1 ha.1 ha.2
  have hp1 := fun w1 => picked_any rk 20 w1 hk.1 hk.2 (by decide) (by decide)
  have hp2 := fun w1 => picked_any rc 6 w1 hc.1 hc.2 (by decide) (by decide)
  have hpq := fun w1 => picked_any rb 2 w1 hb.1 hb.2 (by decide) (by decide)
  unfold flushX
  generalize pickN rc 6 = C at *
  generalize pickN rb 2 = B at *
  generalize pickN rk 20 = K at *
  generalize keyS ra = ka at *
  clear hk ha hb hc
  go_enter Tryd.func12, Tryd.ntmps12
  go_wp2_with fail
  refine (hk1 _).mono ?_
  rintro e w1 ⟨rfl, hb1⟩
  obtain ⟨p1, p2⟩ := bcell hb1
  obtain ⟨hz, hz', hbw⟩ := rq_size hb1
  go_wp2_with (first | (go_at_call_of 14 (Value.int .i64 rk); refine (hp1 _).mono ?_; rintro e w' ⟨rfl, rfl⟩) | (go_at_call_of 14 (Value.int .i64 rc); refine (hp2 _).mono ?_; rintro e w' ⟨rfl, rfl⟩) | (go_at_call_of 14 (Value.int .i64 rb); refine (hpq _).mono ?_; rintro e w' ⟨rfl, rfl⟩))
  exact bodyPost_ret (by simp [results, Tryd.results12, go_sem, hz, p1]) rfl (rq_post 12 ⟨#[]⟩ 0 0 0 ⟨#[]⟩ (B == 0) rfl (by repeat (first | (with_reducible exact hbw) | (with_reducible refine keepAl ?_ _) | (with_reducible refine keepSet ?_ (by first | exact Nat.le_succ _ | exact hbw.size)))))

/-- set -/
def setX (ra rb rc : Int) : RqR := ⟨2, keyS ra, [], 0, 0, 0, valS rc, pickN rb 7 == 0⟩

set_option maxHeartbeats 8000000 in
set_option maxRecDepth 100000 in
theorem request_set (rk ra rb rc : Int) (w : World) (hk : i64In rk) (ha : i64In ra) (hb : i64In rb) (hc : i64In rc) (h5 : pickN rk 20 = 19) :
    Calls Tryd.prog 12 #[.agg #[.int .i64 rk, .int .i64 ra, .int .i64 rb, .int .i64 rc]] w fun e w' => RqPost (setX ra rb rc) w e w' := by
  have hk1 := fun w1 => keepKey_any ra w1 ha.1 ha.2
  have hp1 := fun w1 => picked_any rk 20 w1 hk.1 hk.2 (by decide) (by decide)
  have hpq := fun w1 => picked_any rb 7 w1 hb.1 hb.2 (by decide) (by decide)
  unfold setX
  have hv := fun w1 => value_any rc w1 hc.1 hc.2
  have hvs := valS_size rc
  generalize valS rc = v at *
  generalize pickN rb 7 = B at *
  generalize pickN rk 20 = K at *
  generalize keyS ra = ka at *
  clear hk ha hb hc
  go_enter Tryd.func12, Tryd.ntmps12
  go_wp2_with fail
  refine (hk1 _).mono ?_
  rintro e w1 ⟨rfl, hb1⟩
  obtain ⟨p1, p2⟩ := bcell hb1
  obtain ⟨hz, hz', hbw⟩ := rq_size hb1
  go_wp2_with (first | (go_at_call_of 14 (Value.int .i64 rk); refine (hp1 _).mono ?_; rintro e w' ⟨rfl, rfl⟩) | (go_at_call_of 14 (Value.int .i64 rb); refine (hpq _).mono ?_; rintro e w' ⟨rfl, rfl⟩))
  refine (hv _).mono ?_
  rintro e w2 ⟨rfl, hb2⟩
  obtain ⟨m1, m2⟩ := bcell hb2
  have hz2 : w1.heap.size < w2.heap.size := bsize hb2
  have hz3 : w.heap.size < w2.heap.size := by omega
  have hz4 : w.heap.size + 1 < w2.heap.size := by omega
  have hv2 : ¬ (200 : Int) < (v.size : Int) := by omega
  have hbw2 : Below w.heap.size w w2 := keepNext (keepAl hbw _) hb2
  have hle : w.heap.size ≤ w1.heap.size := hbw.size
  go_wp2_with (first | (go_at_call_of 14 (Value.int .i64 rk); refine (hp1 _).mono ?_; rintro e w' ⟨rfl, rfl⟩) | (go_at_call_of 14 (Value.int .i64 rb); refine (hpq _).mono ?_; rintro e w' ⟨rfl, rfl⟩))
  exact bodyPost_ret (by simp [results, Tryd.results12, go_sem, hz, hz', p1, m1]) rfl (rq_post 2 ka 0 0 0 v (B == 0) rfl (by repeat (first | (with_reducible exact hbw2) | (with_reducible refine keepAl ?_ _) | (with_reducible refine keepSet ?_ (by first | exact Nat.le_succ _ | exact hle)))))

/-- set18 -/
def set18X (ra rb rc : Int) : RqR := ⟨2, keyS ra, [], 0, 0, 0, valS rc, pickN rb 7 == 0⟩

set_option maxHeartbeats 8000000 in
set_option maxRecDepth 100000 in
theorem request_set18 (rk ra rb rc : Int) (w : World) (hk : i64In rk) (ha : i64In ra) (hb : i64In rb) (hc : i64In rc) (h5 : pickN rk 20 = 18) (h6 : pickN rc 6 ≠ 0) :
    Calls Tryd.prog 12 #[.agg #[.int .i64 rk, .int .i64 ra, .int .i64 rb, .int .i64 rc]] w fun e w' => RqPost (set18X ra rb rc) w e w' := by
  have hk1 := fun w1 => keepKey_any ra w1 ha.1 ha.2
  have hp1 := fun w1 => picked_any rk 20 w1 hk.1 hk.2 (by decide) (by decide)
  have hp2 := fun w1 => picked_any rc 6 w1 hc.1 hc.2 (by decide) (by decide)
  have hpq := fun w1 => picked_any rb 7 w1 hb.1 hb.2 (by decide) (by decide)
  unfold set18X
  have hv := fun w1 => value_any rc w1 hc.1 hc.2
  have hvs := valS_size rc
  generalize valS rc = v at *
  have h6b : (pickN rc 6 == 0) = false := by simpa using h6
  generalize pickN rc 6 = C at *
  generalize pickN rb 7 = B at *
  generalize pickN rk 20 = K at *
  generalize keyS ra = ka at *
  clear hk ha hb hc
  go_enter Tryd.func12, Tryd.ntmps12
  go_wp2_with fail
  refine (hk1 _).mono ?_
  rintro e w1 ⟨rfl, hb1⟩
  obtain ⟨p1, p2⟩ := bcell hb1
  obtain ⟨hz, hz', hbw⟩ := rq_size hb1
  go_wp2_with (first | (go_at_call_of 14 (Value.int .i64 rk); refine (hp1 _).mono ?_; rintro e w' ⟨rfl, rfl⟩) | (go_at_call_of 14 (Value.int .i64 rc); refine (hp2 _).mono ?_; rintro e w' ⟨rfl, rfl⟩) | (go_at_call_of 14 (Value.int .i64 rb); refine (hpq _).mono ?_; rintro e w' ⟨rfl, rfl⟩))
  refine (hv _).mono ?_
  rintro e w2 ⟨rfl, hb2⟩
  obtain ⟨m1, m2⟩ := bcell hb2
  have hz2 : w1.heap.size < w2.heap.size := bsize hb2
  have hz3 : w.heap.size < w2.heap.size := by omega
  have hz4 : w.heap.size + 1 < w2.heap.size := by omega
  have hv2 : ¬ (200 : Int) < (v.size : Int) := by omega
  have hbw2 : Below w.heap.size w w2 := keepNext (keepAl hbw _) hb2
  have hle : w.heap.size ≤ w1.heap.size := hbw.size
  go_wp2_with (first | (go_at_call_of 14 (Value.int .i64 rk); refine (hp1 _).mono ?_; rintro e w' ⟨rfl, rfl⟩) | (go_at_call_of 14 (Value.int .i64 rc); refine (hp2 _).mono ?_; rintro e w' ⟨rfl, rfl⟩) | (go_at_call_of 14 (Value.int .i64 rb); refine (hpq _).mono ?_; rintro e w' ⟨rfl, rfl⟩))
  exact bodyPost_ret (by simp [results, Tryd.results12, go_sem, hz, hz', p1, m1]) rfl (rq_post 2 ka 0 0 0 v (B == 0) rfl (by repeat (first | (with_reducible exact hbw2) | (with_reducible refine keepAl ?_ _) | (with_reducible refine keepSet ?_ (by first | exact Nat.le_succ _ | exact hle)))))
end Go.Proofs.YtkjfkonekajffaaDoor
