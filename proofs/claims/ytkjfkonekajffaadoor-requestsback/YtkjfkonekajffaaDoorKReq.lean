/- dovecotekeep.Request, where it makes a Get. -/
import Derived.Test.YtkjfkonekajffaaDoorKValue
import Derived.Test.YtkjfkonekajffaaDoorTB
namespace Go.Proofs.YtkjfkonekajffaaDoor
open Go.ChangeShapes Go.WideShapes Go.ChangeAt Go.RowKit
set_option linter.unusedVariables false

def i64In (n : Int) : Prop := -9223372036854775808 ≤ n ∧ n ≤ 9223372036854775807

/-- What is kept through the making of a request: what was there before, and the raw numbers in their block. -/
def RqS (W : World) (R : Nat) (raw : Array Value) (w' : World) : Prop := Below W.heap.size W w' ∧ TB 30 w' R raw
theorem RqS.later {W : World} {R : Nat} {raw : Array Value} {w w' : World} (h : RqS W R raw w) (hb : Below w.heap.size w w') : RqS W R raw w' :=
  ⟨h.1.trans (hb.mono h.1.size), h.2.later hb⟩
theorem RqS.alloc {W : World} {R : Nat} {raw : Array Value} {w : World} (h : RqS W R raw w) (o : Obj) : RqS W R raw (w.alloc o) := h.later ((Below.refl _ _).alloc (Nat.le_refl _) _)
theorem RqS.drew {W : World} {R : Nat} {raw : Array Value} {w : World} (h : RqS W R raw w) : RqS W R raw w.drew := h.later ((Below.refl _ _).drew)
theorem RqS.set {W : World} {R : Nat} {raw : Array Value} {w : World} (h : RqS W R raw w) (p : Addr) (v : Value) (h1 : W.heap.size ≤ p.block) (h2 : R ≠ p.block) : RqS W R raw (w.setCell p v) := ⟨h.1.setCell h1 _, h.2.far p v h2⟩
theorem RqS.three {W : World} {R : Nat} {rk ra rb rc : Value} {w : World} (h : RqS W R #[rk, ra, rb, rc] w) : RqS W R #[rk, ra, rb, rc] w ∧ w.cell? ⟨R, 1, none⟩ = some ra ∧ w.cell? ⟨R, 2, none⟩ = some rb ∧ w.cell? ⟨R, 3, none⟩ = some rc :=
  ⟨h, h.2.cell 1, h.2.cell 2, h.2.cell 3⟩
/-- What the walk is told of the raw numbers. -/
abbrev RqT (W : World) (R : Nat) (rk ra rb rc : Value) (w : World) : Prop :=
  RqS W R #[rk, ra, rb, rc] w ∧ w.cell? ⟨R, 1, none⟩ = some ra ∧ w.cell? ⟨R, 2, none⟩ = some rb ∧ w.cell? ⟨R, 3, none⟩ = some rc
theorem RqT.later {W : World} {R : Nat} {rk ra rb rc : Value} {w w' : World} (h : RqT W R rk ra rb rc w) (hb : Below w.heap.size w w') : RqT W R rk ra rb rc w' := (h.1.later hb).three
theorem RqT.alloc {W : World} {R : Nat} {rk ra rb rc : Value} {w : World} (h : RqT W R rk ra rb rc w) (o : Obj) : RqT W R rk ra rb rc (w.alloc o) := (h.1.alloc o).three
theorem RqT.drew {W : World} {R : Nat} {rk ra rb rc : Value} {w : World} (h : RqT W R rk ra rb rc w) : RqT W R rk ra rb rc w.drew := h.1.drew.three
theorem RqT.set8 {W : World} {R : Nat} {rk ra rb rc : Value} {w : World} (h : RqT W R rk ra rb rc w) (b : Nat) (v0 v1 v2 v3 v4 v5 v6 v7 : Value) (h1 : W.heap.size ≤ b) (h2 : R ≠ b) :
    RqT W R rk ra rb rc ((((((((w.setCell ⟨b, 0, none⟩ v0).setCell ⟨b, 1, none⟩ v1).setCell ⟨b, 2, none⟩ v2).setCell ⟨b, 3, none⟩ v3).setCell ⟨b, 4, none⟩ v4).setCell ⟨b, 5, none⟩ v5).setCell ⟨b, 6, none⟩ v6).setCell ⟨b, 7, none⟩ v7) :=
  ((((((((h.1.set ⟨b, 0, none⟩ v0 h1 h2).set ⟨b, 1, none⟩ v1 h1 h2).set ⟨b, 2, none⟩ v2 h1 h2).set ⟨b, 3, none⟩ v3 h1 h2).set ⟨b, 4, none⟩ v4 h1 h2).set ⟨b, 5, none⟩ v5 h1 h2).set ⟨b, 6, none⟩ v6 h1 h2).set ⟨b, 7, none⟩ v7 h1 h2).three

def getKeys (ra rb rc : Int) : List ByteArray := [keyS ra, keyS rb].take (1 + pickN rc 2).toNat

/-- A Get of these keys. -/
def GetPost (ks : List ByteArray) (w : World) (e : Ending) (w' : World) : Prop :=
  ∃ a c, e = .returned (.agg #[.int .i64 1, .string ⟨#[]⟩, .slice a ks.length c, .int .i64 0, .int .i64 0, .int .i64 0, .string ⟨#[]⟩, .bool false]) ∧ StrsAt w' a ks.length ks ∧ Below w.heap.size w w'

theorem keyS_small (n : Int) : (keyS n).size ≤ 20 := by
  have := keyS_ok n
  unfold keyB inB at this
  simp at this
  omega

theorem get_post {w wx : World} {rk ra rb rc : Value} {ka kb : ByteArray} (h : RqT w w.heap.size rk ra rb rc wx) (h1 : ka.size ≤ 20) (h2 : kb.size ≤ 20) (hl : w.heap.size + 1 < wx.heap.size) (ks : List ByteArray) (n : Nat) (hn : n ≤ 2) (hks : ks = [ka, kb].take n) (v0 v1 v2 v3 v4 v5 v6 v7 : Value) :
    GetPost ks w (.returned (.agg #[.int .i64 1, .string ⟨#[]⟩, .slice (some ⟨wx.heap.size, 0, none⟩) n 2, .int .i64 0, .int .i64 0, .int .i64 0, .string ⟨#[]⟩, .bool false]))
      (((((((((wx.setCell ⟨w.heap.size + 1, 0, none⟩ v0).setCell ⟨w.heap.size + 1, 1, none⟩ v1).setCell ⟨w.heap.size + 1, 2, none⟩ v2).setCell ⟨w.heap.size + 1, 3, none⟩ v3).setCell ⟨w.heap.size + 1, 4, none⟩ v4).setCell ⟨w.heap.size + 1, 5, none⟩ v5).setCell ⟨w.heap.size + 1, 6, none⟩ v6).setCell ⟨w.heap.size + 1, 7, none⟩ v7).alloc (.cells #[.string ka, .string kb] 9)) := by
  have hb := (RqT.alloc (RqT.set8 h (w.heap.size + 1) v0 v1 v2 v3 v4 v5 v6 v7 (by omega) (by omega)) (.cells #[.string ka, .string kb] 9)).1.1
  have hsz : ((((((((wx.setCell ⟨w.heap.size + 1, 0, none⟩ v0).setCell ⟨w.heap.size + 1, 1, none⟩ v1).setCell ⟨w.heap.size + 1, 2, none⟩ v2).setCell ⟨w.heap.size + 1, 3, none⟩ v3).setCell ⟨w.heap.size + 1, 4, none⟩ v4).setCell ⟨w.heap.size + 1, 5, none⟩ v5).setCell ⟨w.heap.size + 1, 6, none⟩ v6).setCell ⟨w.heap.size + 1, 7, none⟩ v7).heap.size = wx.heap.size := by simp [World.setCell]
  generalize ((((((((wx.setCell ⟨w.heap.size + 1, 0, none⟩ v0).setCell ⟨w.heap.size + 1, 1, none⟩ v1).setCell ⟨w.heap.size + 1, 2, none⟩ v2).setCell ⟨w.heap.size + 1, 3, none⟩ v3).setCell ⟨w.heap.size + 1, 4, none⟩ v4).setCell ⟨w.heap.size + 1, 5, none⟩ v5).setCell ⟨w.heap.size + 1, 6, none⟩ v6).setCell ⟨w.heap.size + 1, 7, none⟩ v7) = wy at *
  have hlen : ks.length = n := by rw [hks]; simp; omega
  have hT := TB.new 9 wy #[.string ka, .string kb]
  rw [hsz] at hT
  refine ⟨some ⟨wx.heap.size, 0, none⟩, 2, by rw [hlen], ⟨rfl, by unfold maxLen; omega, fun x hx => ?_, Or.inr ⟨wx.heap.size, 0, rfl, hT.lt, fun j hj => ?_⟩⟩, hb⟩
  · have : x ∈ [ka, kb] := by rw [hks] at hx; exact List.mem_of_mem_take hx
    unfold maxLen
    have h3 : x = ka ∨ x = kb := by simpa using this
    rcases h3 with rfl | rfl <;> omega
  · rw [Nat.zero_add, hT.cell j, hks]
    match j, hj with
    | 0, hj => rw [List.getD_eq_getElem?_getD, List.getElem?_take_of_lt (by omega)]; rfl
    | 1, hj => rw [List.getD_eq_getElem?_getD, List.getElem?_take_of_lt (by omega)]; rfl
    | j + 2, hj => omega

set_option maxHeartbeats 1000000 in
set_option maxRecDepth 100000 in
theorem request_get (rk ra rb rc : Int) (w : World) (hk : i64In rk) (ha : i64In ra) (hb : i64In rb) (hc : i64In rc) (h5 : pickN rk 20 < 5) :
    Calls Tryd.prog 12 #[.agg #[.int .i64 rk, .int .i64 ra, .int .i64 rb, .int .i64 rc]] w fun e w' => GetPost (getKeys ra rb rc) w e w' := by
  have hk1 := fun w1 => keepKey_any ra w1 ha.1 ha.2
  have hk2 := fun w1 => keepKey_any rb w1 hb.1 hb.2
  have hp1 := fun w1 => picked_any rk 20 w1 hk.1 hk.2 (by decide) (by decide)
  have hp2 := fun w1 => picked_any rc 2 w1 hc.1 hc.2 (by decide) (by decide)
  obtain ⟨r0, r1⟩ := pickN_range rc 2 (by decide)
  obtain ⟨q0, q1⟩ := pickN_range rk 20 (by decide)
  unfold getKeys
  generalize pickN rk 20 = K at *
  generalize pickN rc 2 = C at *
  have s1 := keyS_small ra
  have s2 := keyS_small rb
  generalize keyS ra = ka at *
  generalize keyS rb = kb at *
  clear hk ha hb hc q0 q1
  go_enter Tryd.func12, Tryd.ntmps12
  go_wp2_with fail
  refine (hk1 _).mono ?_
  rintro e w1 ⟨rfl, hb1⟩
  obtain ⟨p1, p2⟩ := bcell hb1
  have hz : w.heap.size + 1 < w1.heap.size := by have := hb1.size; simp at this; omega
  have hz' : w.heap.size < w1.heap.size := by omega
  go_wp2_with (first | (go_at_call_of 14 (Value.int .i64 rk); refine (hp1 _).mono ?_; rintro e w' ⟨rfl, rfl⟩))
  have hRaw0 : TB 30 (w.alloc (.cells #[.int .i64 rk, .int .i64 ra, .int .i64 rb, .int .i64 rc] 30)) w.heap.size #[.int .i64 rk, .int .i64 ra, .int .i64 rb, .int .i64 rc] := TB.new _ _ _
  have hZ0 : TB 24 ((w.alloc (.cells #[.int .i64 rk, .int .i64 ra, .int .i64 rb, .int .i64 rc] 30)).alloc (.cells #[.int .i64 0, .string ⟨#[]⟩, .slice none 0 0, .int .i64 0, .int .i64 0, .int .i64 0, .string ⟨#[]⟩, .bool false] 24)) (w.heap.size + 1) #[.int .i64 0, .string ⟨#[]⟩, .slice none 0 0, .int .i64 0, .int .i64 0, .int .i64 0, .string ⟨#[]⟩, .bool false] := by have := TB.new 24 (w.alloc (.cells #[.int .i64 rk, .int .i64 ra, .int .i64 rb, .int .i64 rc] 30)) #[.int .i64 0, .string ⟨#[]⟩, .slice none 0 0, .int .i64 0, .int .i64 0, .int .i64 0, .string ⟨#[]⟩, .bool false]; simpa using this
  have hRaw1 := (hRaw0.alloc (.cells #[.int .i64 0, .string ⟨#[]⟩, .slice none 0 0, .int .i64 0, .int .i64 0, .int .i64 0, .string ⟨#[]⟩, .bool false] 24)).later hb1
  have hZ1 := hZ0.later hb1
  have hbw : Below w.heap.size w w1 := (((Below.refl _ _).alloc (Nat.le_refl _) _).alloc (by simp) _).trans (hb1.mono (by simp; omega))
  generalize hWd : w1.alloc (.cells #[.int .i64 0, .string ka, .slice none 0 0, .int .i64 0, .int .i64 0, .int .i64 0, .string ⟨#[]⟩, .bool false] 24) = W
  have hbW : Below w.heap.size w W := by rw [← hWd]; exact hbw.alloc hbw.size _
  have hC : RqS w w.heap.size #[.int .i64 rk, .int .i64 ra, .int .i64 rb, .int .i64 rc] W := ⟨hbW, by rw [← hWd]; exact hRaw1.alloc _⟩
  have hZW : TB 24 W (w.heap.size + 1) #[.int .i64 0, .string ⟨#[]⟩, .slice none 0 0, .int .i64 0, .int .i64 0, .int .i64 0, .string ⟨#[]⟩, .bool false] := by rw [← hWd]; exact hZ1.alloc _
  clear hWd hRaw0 hZ0 hRaw1 hZ1 p1 p2 hb1 hz hz' hbw
  have hT := hC.three
  have hC2 : C = 0 ∨ C = 1 := by omega
  have hwr1 : IntKind.i64.wrap 1 = 1 := by decide
  have hwr2 : IntKind.i64.wrap 2 = 2 := by decide
  have hne : w.heap.size ≤ w.heap.size + 1 := by omega
  have hne2 : w.heap.size ≠ w.heap.size + 1 := by omega
  rcases hC2 with rfl | rfl
  · go_region_held3 (fun w' => RqT w w.heap.size (.int .i64 rk) (.int .i64 ra) (.int .i64 rb) (.int .i64 rc) w') (with_reducible first | assumption | exact RqT.alloc (by assumption) _ | exact RqT.drew (by assumption) | exact RqT.alloc (RqT.set8 (by assumption) _ _ _ _ _ _ _ _ _ hne hne2) _)
      (first
        | (go_at_call_of 28 (Value.int .i64 ra); refine (hk1 _).mono ?_; rintro e wa ⟨rfl, hba⟩; have hSa := RqT.later (rk := .int .i64 rk) (ra := .int .i64 ra) (rb := .int .i64 rb) (rc := .int .i64 rc) (W := w) (R := w.heap.size) (by assumption) hba; have hZa := TB.after (t := 24) (b := w.heap.size + 1) (cs := #[.int .i64 0, .string ⟨#[]⟩, .slice none 0 0, .int .i64 0, .int .i64 0, .int .i64 0, .string ⟨#[]⟩, .bool false]) hba hZW)
        | (go_at_call_of 28 (Value.int .i64 rb); refine (hk2 _).mono ?_; rintro e wb ⟨rfl, hbb⟩; have hSb := RqT.later (rk := .int .i64 rk) (ra := .int .i64 ra) (rb := .int .i64 rb) (rc := .int .i64 rc) (W := w) (R := w.heap.size) (by assumption) hbb; have hZb := TB.after (t := 24) (b := w.heap.size + 1) (cs := #[.int .i64 0, .string ⟨#[]⟩, .slice none 0 0, .int .i64 0, .int .i64 0, .int .i64 0, .string ⟨#[]⟩, .bool false]) hbb hZa; have hz8 := fun j => hZb.cell j; have hf8 := fun j => hZb.frozen j; have hl8 := hZb.lt)
        | (go_at_call_of 14 (Value.int .i64 rc); refine (hp2 _).mono ?_; rintro e wc ⟨rfl, rfl⟩))
    all_goals go_wp2
    all_goals exact bodyPost_ret (by simp [results, Tryd.results12, go_sem, hz8, hl8]) rfl (get_post hSb s1 s2 hl8 _ 1 (by omega) rfl _ _ _ _ _ _ _ _)
  · go_region_held3 (fun w' => RqT w w.heap.size (.int .i64 rk) (.int .i64 ra) (.int .i64 rb) (.int .i64 rc) w') (with_reducible first | assumption | exact RqT.alloc (by assumption) _ | exact RqT.drew (by assumption) | exact RqT.alloc (RqT.set8 (by assumption) _ _ _ _ _ _ _ _ _ hne hne2) _)
      (first
        | (go_at_call_of 28 (Value.int .i64 ra); refine (hk1 _).mono ?_; rintro e wa ⟨rfl, hba⟩; have hSa := RqT.later (rk := .int .i64 rk) (ra := .int .i64 ra) (rb := .int .i64 rb) (rc := .int .i64 rc) (W := w) (R := w.heap.size) (by assumption) hba; have hZa := TB.after (t := 24) (b := w.heap.size + 1) (cs := #[.int .i64 0, .string ⟨#[]⟩, .slice none 0 0, .int .i64 0, .int .i64 0, .int .i64 0, .string ⟨#[]⟩, .bool false]) hba hZW)
        | (go_at_call_of 28 (Value.int .i64 rb); refine (hk2 _).mono ?_; rintro e wb ⟨rfl, hbb⟩; have hSb := RqT.later (rk := .int .i64 rk) (ra := .int .i64 ra) (rb := .int .i64 rb) (rc := .int .i64 rc) (W := w) (R := w.heap.size) (by assumption) hbb; have hZb := TB.after (t := 24) (b := w.heap.size + 1) (cs := #[.int .i64 0, .string ⟨#[]⟩, .slice none 0 0, .int .i64 0, .int .i64 0, .int .i64 0, .string ⟨#[]⟩, .bool false]) hbb hZa; have hz8 := fun j => hZb.cell j; have hf8 := fun j => hZb.frozen j; have hl8 := hZb.lt)
        | (go_at_call_of 14 (Value.int .i64 rc); refine (hp2 _).mono ?_; rintro e wc ⟨rfl, rfl⟩))
    all_goals go_wp2
    all_goals exact bodyPost_ret (by simp [results, Tryd.results12, go_sem, hz8, hl8]) rfl (get_post hSb s1 s2 hl8 _ 2 (by omega) rfl _ _ _ _ _ _ _ _)
end Go.Proofs.YtkjfkonekajffaaDoor
