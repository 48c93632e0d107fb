/- Parts of the proof. -/
import Derived.Test.YtdblegdgmjakfaaGreatDoorMJ27
import Derived.Test.YtdblegdgmjakfaaGreatDoorMJ01
import Derived.Test.YtdblegdgmjakfaaGreatDoorMJ20
namespace Go.Proofs.YtdblegdgmjakfaaGreatDoor
open Go.ChangeShapes Go.WideShapes Go.ChangeAt Go.RowKit
set_option linter.unusedVariables false

/- dovecotekeep.Request, where it makes a Get. -/

def i64In (n : Int) : Prop := -9223372036854775808 ≤ n ∧ n ≤ 9223372036854775807

/-- What is kept through the making of a request: what was there before, and the raw numbers in their block. -/
def RqS (W : World) (R : Nat) (raw : Array Value) (w' : World) : Prop := Below W.heap.size W w' ∧ TB 38 w' R raw
theorem RqS.later {W : World} {R : Nat} {raw : Array Value} {w w' : World} (h : RqS W R raw w) (hb : Below w.heap.size w w') : RqS W R raw w' :=
 ⟨h.1.trans (hb.mono h.1.size), h.2.later hb⟩
theorem RqS.alloc {W : World} {R : Nat} {raw : Array Value} {w : World} (h : RqS W R raw w) (o : Obj) : RqS W R raw (w.alloc o) := h.later ((Below.refl _ _).alloc (Nat.le_refl _) _)
theorem RqS.drew {W : World} {R : Nat} {raw : Array Value} {w : World} (h : RqS W R raw w) : RqS W R raw w.drew := h.later ((Below.refl _ _).drew)
theorem RqS.set {W : World} {R : Nat} {raw : Array Value} {w : World} (h : RqS W R raw w) (p : Addr) (v : Value) (h1 : W.heap.size ≤ p.block) (h2 : R ≠ p.block) : RqS W R raw (w.setCell p v) := ⟨h.1.setCell h1 _, h.2.far p v h2⟩
theorem RqS.three {W : World} {R : Nat} {rk ra rb rc : Value} {w : World} (h : RqS W R #[rk, ra, rb, rc] w) : RqS W R #[rk, ra, rb, rc] w ∧ w.cell? ⟨R, 1, none⟩ = some ra ∧ w.cell? ⟨R, 2, none⟩ = some rb ∧ w.cell? ⟨R, 3, none⟩ = some rc :=
 ⟨h, h.2.cell 1, h.2.cell 2, h.2.cell 3⟩
/-- What the walk is told of the raw numbers. -/
abbrev RqT (W : World) (R : Nat) (rk ra rb rc : Value) (w : World) : Prop :=
 RqS W R #[rk, ra, rb, rc] w ∧ w.cell? ⟨R, 1, none⟩ = some ra ∧ w.cell? ⟨R, 2, none⟩ = some rb ∧ w.cell? ⟨R, 3, none⟩ = some rc
theorem RqT.later {W : World} {R : Nat} {rk ra rb rc : Value} {w w' : World} (h : RqT W R rk ra rb rc w) (hb : Below w.heap.size w w') : RqT W R rk ra rb rc w' := (h.1.later hb).three
theorem RqT.alloc {W : World} {R : Nat} {rk ra rb rc : Value} {w : World} (h : RqT W R rk ra rb rc w) (o : Obj) : RqT W R rk ra rb rc (w.alloc o) := (h.1.alloc o).three
theorem RqT.drew {W : World} {R : Nat} {rk ra rb rc : Value} {w : World} (h : RqT W R rk ra rb rc w) : RqT W R rk ra rb rc w.drew := h.1.drew.three
theorem RqT.set8 {W : World} {R : Nat} {rk ra rb rc : Value} {w : World} (h : RqT W R rk ra rb rc w) (b : Nat) (v0 v1 v2 v3 v4 v5 v6 v7 : Value) (h1 : W.heap.size ≤ b) (h2 : R ≠ b) :
 RqT W R rk ra rb rc ((((((((w.setCell ⟨b, 0, none⟩ v0).setCell ⟨b, 1, none⟩ v1).setCell ⟨b, 2, none⟩ v2).setCell ⟨b, 3, none⟩ v3).setCell ⟨b, 4, none⟩ v4).setCell ⟨b, 5, none⟩ v5).setCell ⟨b, 6, none⟩ v6).setCell ⟨b, 7, none⟩ v7) :=
 ((((((((h.1.set ⟨b, 0, none⟩ v0 h1 h2).set ⟨b, 1, none⟩ v1 h1 h2).set ⟨b, 2, none⟩ v2 h1 h2).set ⟨b, 3, none⟩ v3 h1 h2).set ⟨b, 4, none⟩ v4 h1 h2).set ⟨b, 5, none⟩ v5 h1 h2).set ⟨b, 6, none⟩ v6 h1 h2).set ⟨b, 7, none⟩ v7 h1 h2).three

def getKeys (ra rb rc : Int) : List ByteArray := [keyS ra, keyS rb].take (1 + pickN rc 2).toNat

/-- A Get of these keys. -/
def GetPost (ks : List ByteArray) (w : World) (e : Ending) (w' : World) : Prop :=
 ∃ a c, e = .returned (.agg #[.int .i64 1, .string ⟨#[]⟩, .slice a ks.length c, .int .i64 0, .int .i64 0, .int .i64 0, .string ⟨#[]⟩, .bool false]) ∧ StrsAt w' a ks.length ks ∧ Below w.heap.size w w'

theorem keyS_small (n : Int) : (keyS n).size ≤ 20 := by
 have := keyS_ok n
 unfold keyB inB at this
 simp at this
 omega

theorem get_post {w wx : World} {rk ra rb rc : Value} {ka kb : ByteArray} (h : RqT w w.heap.size rk ra rb rc wx) (h1 : ka.size ≤ 20) (h2 : kb.size ≤ 20) (hl : w.heap.size + 1 < wx.heap.size) (ks : List ByteArray) (n : Nat) (hn : n ≤ 2) (hks : ks = [ka, kb].take n) (v0 v1 v2 v3 v4 v5 v6 v7 : Value) :
 GetPost ks w (.returned (.agg #[.int .i64 1, .string ⟨#[]⟩, .slice (some ⟨wx.heap.size, 0, none⟩) n 2, .int .i64 0, .int .i64 0, .int .i64 0, .string ⟨#[]⟩, .bool false]))
  (((((((((wx.setCell ⟨w.heap.size + 1, 0, none⟩ v0).setCell ⟨w.heap.size + 1, 1, none⟩ v1).setCell ⟨w.heap.size + 1, 2, none⟩ v2).setCell ⟨w.heap.size + 1, 3, none⟩ v3).setCell ⟨w.heap.size + 1, 4, none⟩ v4).setCell ⟨w.heap.size + 1, 5, none⟩ v5).setCell ⟨w.heap.size + 1, 6, none⟩ v6).setCell ⟨w.heap.size + 1, 7, none⟩ v7).alloc (.cells #[.string ka, .string kb] 9)) := by
 have hb := (RqT.alloc (RqT.set8 h (w.heap.size + 1) v0 v1 v2 v3 v4 v5 v6 v7 (by omega) (by omega)) (.cells #[.string ka, .string kb] 9)).1.1
 have hsz : ((((((((wx.setCell ⟨w.heap.size + 1, 0, none⟩ v0).setCell ⟨w.heap.size + 1, 1, none⟩ v1).setCell ⟨w.heap.size + 1, 2, none⟩ v2).setCell ⟨w.heap.size + 1, 3, none⟩ v3).setCell ⟨w.heap.size + 1, 4, none⟩ v4).setCell ⟨w.heap.size + 1, 5, none⟩ v5).setCell ⟨w.heap.size + 1, 6, none⟩ v6).setCell ⟨w.heap.size + 1, 7, none⟩ v7).heap.size = wx.heap.size := by simp [World.setCell]
 generalize ((((((((wx.setCell ⟨w.heap.size + 1, 0, none⟩ v0).setCell ⟨w.heap.size + 1, 1, none⟩ v1).setCell ⟨w.heap.size + 1, 2, none⟩ v2).setCell ⟨w.heap.size + 1, 3, none⟩ v3).setCell ⟨w.heap.size + 1, 4, none⟩ v4).setCell ⟨w.heap.size + 1, 5, none⟩ v5).setCell ⟨w.heap.size + 1, 6, none⟩ v6).setCell ⟨w.heap.size + 1, 7, none⟩ v7) = wy at *
 have hlen : ks.length = n := by rw [hks]; simp; omega
 have hT := TB.new 9 wy #[.string ka, .string kb]
 rw [hsz] at hT
 refine ⟨some ⟨wx.heap.size, 0, none⟩, 2, by rw [hlen], ⟨rfl, by unfold maxLen; omega, fun x hx => ?_, Or.inr ⟨wx.heap.size, 0, rfl, hT.lt, fun j hj => ?_⟩⟩, hb⟩
 · have : x ∈ [ka, kb] := by rw [hks] at hx; exact List.mem_of_mem_take hx
   unfold maxLen
   have h3 : x = ka ∨ x = kb := by simpa using this
   rcases h3 with rfl | rfl <;> omega
 · rw [Nat.zero_add, hT.cell j, hks]
   match j, hj with
   | 0, hj => rw [List.getD_eq_getElem?_getD, List.getElem?_take_of_lt (by omega)]; rfl
   | 1, hj => rw [List.getD_eq_getElem?_getD, List.getElem?_take_of_lt (by omega)]; rfl
   | j + 2, hj => omega

set_option maxHeartbeats 1000000 in
set_option maxRecDepth 100000 in
theorem request_get (rk ra rb rc : Int) (w : World) (hk : i64In rk) (ha : i64In ra) (hb : i64In rb) (hc : i64In rc) (h5 : pickN rk 20 < 5) :
 Calls Tryz.prog 24 #[.agg #[.int .i64 rk, .int .i64 ra, .int .i64 rb, .int .i64 rc]] w fun e w' => GetPost (getKeys ra rb rc) w e w' := by
 have hk1 := fun w1 => keepKey_any ra w1 ha.1 ha.2
 have hk2 := fun w1 => keepKey_any rb w1 hb.1 hb.2
 have hp1 := fun w1 => picked_any rk 20 w1 hk.1 hk.2 (by decide) (by decide)
 have hp2 := fun w1 => picked_any rc 2 w1 hc.1 hc.2 (by decide) (by decide)
 obtain ⟨r0, r1⟩ := pickN_range rc 2 (by decide)
 obtain ⟨q0, q1⟩ := pickN_range rk 20 (by decide)
 unfold getKeys
 generalize pickN rk 20 = K at *
 generalize pickN rc 2 = C at *
 have s1 := keyS_small ra
 have s2 := keyS_small rb
 generalize keyS ra = ka at *
 generalize keyS rb = kb at *
 clear hk ha hb hc q0 q1
 go_enter Tryz.func24, Tryz.ntmps24
 go_wp2_with fail
 refine (hk1 _).mono ?_
 rintro e w1 ⟨rfl, hb1⟩
 obtain ⟨p1, p2⟩ := bcell hb1
 have hz : w.heap.size + 1 < w1.heap.size := by have := hb1.size; simp at this; omega
 have hz' : w.heap.size < w1.heap.size := by omega
 go_wp2_with (first | (go_at_call_of 13 (Value.int .i64 rk); refine (hp1 _).mono ?_; rintro e w' ⟨rfl, rfl⟩))
 have hRaw0 : TB 38 (w.alloc (.cells #[.int .i64 rk, .int .i64 ra, .int .i64 rb, .int .i64 rc] 38)) w.heap.size #[.int .i64 rk, .int .i64 ra, .int .i64 rb, .int .i64 rc] := TB.new _ _ _
 have hZ0 : TB 47 ((w.alloc (.cells #[.int .i64 rk, .int .i64 ra, .int .i64 rb, .int .i64 rc] 38)).alloc (.cells #[.int .i64 0, .string ⟨#[]⟩, .slice none 0 0, .int .i64 0, .int .i64 0, .int .i64 0, .string ⟨#[]⟩, .bool false] 47)) (w.heap.size + 1) #[.int .i64 0, .string ⟨#[]⟩, .slice none 0 0, .int .i64 0, .int .i64 0, .int .i64 0, .string ⟨#[]⟩, .bool false] := by have := TB.new 47 (w.alloc (.cells #[.int .i64 rk, .int .i64 ra, .int .i64 rb, .int .i64 rc] 38)) #[.int .i64 0, .string ⟨#[]⟩, .slice none 0 0, .int .i64 0, .int .i64 0, .int .i64 0, .string ⟨#[]⟩, .bool false]; simpa using this
 have hRaw1 := (hRaw0.alloc (.cells #[.int .i64 0, .string ⟨#[]⟩, .slice none 0 0, .int .i64 0, .int .i64 0, .int .i64 0, .string ⟨#[]⟩, .bool false] 47)).later hb1
 have hZ1 := hZ0.later hb1
 have hbw : Below w.heap.size w w1 := (((Below.refl _ _).alloc (Nat.le_refl _) _).alloc (by simp) _).trans (hb1.mono (by simp; omega))
 generalize hWd : w1.alloc (.cells #[.int .i64 0, .string ka, .slice none 0 0, .int .i64 0, .int .i64 0, .int .i64 0, .string ⟨#[]⟩, .bool false] 47) = W
 have hbW : Below w.heap.size w W := by rw [← hWd]; exact hbw.alloc hbw.size _
 have hC : RqS w w.heap.size #[.int .i64 rk, .int .i64 ra, .int .i64 rb, .int .i64 rc] W := ⟨hbW, by rw [← hWd]; exact hRaw1.alloc _⟩
 have hZW : TB 47 W (w.heap.size + 1) #[.int .i64 0, .string ⟨#[]⟩, .slice none 0 0, .int .i64 0, .int .i64 0, .int .i64 0, .string ⟨#[]⟩, .bool false] := by rw [← hWd]; exact hZ1.alloc _
 clear hWd hRaw0 hZ0 hRaw1 hZ1 p1 p2 hb1 hz hz' hbw
 have hT := hC.three
 have hC2 : C = 0 ∨ C = 1 := by omega
 have hwr1 : IntKind.i64.wrap 1 = 1 := by decide
 have hwr2 : IntKind.i64.wrap 2 = 2 := by decide
 have hne : w.heap.size ≤ w.heap.size + 1 := by omega
 have hne2 : w.heap.size ≠ w.heap.size + 1 := by omega
 rcases hC2 with rfl | rfl
 · go_region_held3 (fun w' => RqT w w.heap.size (.int .i64 rk) (.int .i64 ra) (.int .i64 rb) (.int .i64 rc) w') (with_reducible first | assumption | exact RqT.alloc (by assumption) _ | exact RqT.drew (by assumption) | exact RqT.alloc (RqT.set8 (by assumption) _ _ _ _ _ _ _ _ _ hne hne2) _)
    (first
      | (go_at_call_of 27 (Value.int .i64 ra); refine (hk1 _).mono ?_; rintro e wa ⟨rfl, hba⟩; have hSa := RqT.later (rk := .int .i64 rk) (ra := .int .i64 ra) (rb := .int .i64 rb) (rc := .int .i64 rc) (W := w) (R := w.heap.size) (by assumption) hba; have hZa := TB.after (t := 47) (b := w.heap.size + 1) (cs := #[.int .i64 0, .string ⟨#[]⟩, .slice none 0 0, .int .i64 0, .int .i64 0, .int .i64 0, .string ⟨#[]⟩, .bool false]) hba hZW)
      | (go_at_call_of 27 (Value.int .i64 rb); refine (hk2 _).mono ?_; rintro e wb ⟨rfl, hbb⟩; have hSb := RqT.later (rk := .int .i64 rk) (ra := .int .i64 ra) (rb := .int .i64 rb) (rc := .int .i64 rc) (W := w) (R := w.heap.size) (by assumption) hbb; have hZb := TB.after (t := 47) (b := w.heap.size + 1) (cs := #[.int .i64 0, .string ⟨#[]⟩, .slice none 0 0, .int .i64 0, .int .i64 0, .int .i64 0, .string ⟨#[]⟩, .bool false]) hbb hZa; have hz8 := fun j => hZb.cell j; have hf8 := fun j => hZb.frozen j; have hl8 := hZb.lt)
      | (go_at_call_of 13 (Value.int .i64 rc); refine (hp2 _).mono ?_; rintro e wc ⟨rfl, rfl⟩))
   all_goals go_wp2
   all_goals exact bodyPost_ret (by simp [results, Tryz.results24, go_sem, hz8, hl8]) rfl (get_post hSb s1 s2 hl8 _ 1 (by omega) rfl _ _ _ _ _ _ _ _)
 · go_region_held3 (fun w' => RqT w w.heap.size (.int .i64 rk) (.int .i64 ra) (.int .i64 rb) (.int .i64 rc) w') (with_reducible first | assumption | exact RqT.alloc (by assumption) _ | exact RqT.drew (by assumption) | exact RqT.alloc (RqT.set8 (by assumption) _ _ _ _ _ _ _ _ _ hne hne2) _)
    (first
      | (go_at_call_of 27 (Value.int .i64 ra); refine (hk1 _).mono ?_; rintro e wa ⟨rfl, hba⟩; have hSa := RqT.later (rk := .int .i64 rk) (ra := .int .i64 ra) (rb := .int .i64 rb) (rc := .int .i64 rc) (W := w) (R := w.heap.size) (by assumption) hba; have hZa := TB.after (t := 47) (b := w.heap.size + 1) (cs := #[.int .i64 0, .string ⟨#[]⟩, .slice none 0 0, .int .i64 0, .int .i64 0, .int .i64 0, .string ⟨#[]⟩, .bool false]) hba hZW)
      | (go_at_call_of 27 (Value.int .i64 rb); refine (hk2 _).mono ?_; rintro e wb ⟨rfl, hbb⟩; have hSb := RqT.later (rk := .int .i64 rk) (ra := .int .i64 ra) (rb := .int .i64 rb) (rc := .int .i64 rc) (W := w) (R := w.heap.size) (by assumption) hbb; have hZb := TB.after (t := 47) (b := w.heap.size + 1) (cs := #[.int .i64 0, .string ⟨#[]⟩, .slice none 0 0, .int .i64 0, .int .i64 0, .int .i64 0, .string ⟨#[]⟩, .bool false]) hbb hZa; have hz8 := fun j => hZb.cell j; have hf8 := fun j => hZb.frozen j; have hl8 := hZb.lt)
      | (go_at_call_of 13 (Value.int .i64 rc); refine (hp2 _).mono ?_; rintro e wc ⟨rfl, rfl⟩))
   all_goals go_wp2
   all_goals exact bodyPost_ret (by simp [results, Tryz.results24, go_sem, hz8, hl8]) rfl (get_post hSb s1 s2 hl8 _ 2 (by omega) rfl _ _ _ _ _ _ _ _)

/- The contract of dovecotekeep.value. -/

theorem keepAlloc {w w1 : World} (h : Below w.heap.size w w1) (o : Obj) : Below w.heap.size w (w1.alloc o) := h.alloc h.size _
theorem keepDrew {w w1 : World} (h : Below w.heap.size w w1) : Below w.heap.size w w1.drew := h.drew
theorem keepLater {w w1 w2 : World} (h : Below w.heap.size w w1) (hb : Below w1.heap.size w1 w2) : Below w.heap.size w w2 := h.trans (hb.mono h.size)

theorem val1_at (p : Nat) (hp : p < 8) : (#[.string ⟨#[]⟩, .string ⟨#[55]⟩, .string ⟨#[111, 110, 101]⟩, .string ⟨#[48, 49, 50, 51, 52, 53, 54, 55, 56, 57]⟩, .string ⟨#[49, 48]⟩, .string ⟨#[49, 48, 57, 57, 53, 49, 49, 54, 50, 55, 55, 55, 53]⟩, .string ⟨#[97, 10, 98]⟩, .string ⟨#[118, 97, 108, 117, 101, 32, 111, 102, 32, 115, 111, 109, 101, 32, 98, 121, 116, 101, 115, 44, 32, 116, 104, 97, 116, 32, 103, 111, 32, 116, 111, 32, 102, 108, 97, 115, 104]⟩] : Array Value)[p]? = some (.string (val1L.getD p ByteArray.empty)) ∧ (val1L.getD p ByteArray.empty).size ≤ 40 := by
 match p, hp with
 | 0, _ => exact ⟨rfl, by decide⟩
 | 1, _ => exact ⟨rfl, by decide⟩
 | 2, _ => exact ⟨rfl, by decide⟩
 | 3, _ => exact ⟨rfl, by decide⟩
 | 4, _ => exact ⟨rfl, by decide⟩
 | 5, _ => exact ⟨rfl, by decide⟩
 | 6, _ => exact ⟨rfl, by decide⟩
 | 7, _ => exact ⟨rfl, by decide⟩
 | p + 8, h => omega

theorem val2_at (p : Nat) (hp : p < 4) : (#[.string ⟨#[]⟩, .string ⟨#[]⟩, .string ⟨#[120, 121]⟩, .string ⟨#[97, 32, 118, 97, 108, 117, 101, 32, 116, 104, 97, 116, 32, 105, 115, 32, 108, 111, 110, 103]⟩] : Array Value)[p]? = some (.string (val2L.getD p ByteArray.empty)) ∧ (val2L.getD p ByteArray.empty).size ≤ 20 := by
 match p, hp with
 | 0, _ => exact ⟨rfl, by decide⟩
 | 1, _ => exact ⟨rfl, by decide⟩
 | 2, _ => exact ⟨rfl, by decide⟩
 | 3, _ => exact ⟨rfl, by decide⟩
 | p + 4, h => omega

theorem valS_size (n : Int) : (valS n).size ≤ 180 := by
 obtain ⟨p0, p1⟩ := pickN_range n 8 (by decide)
 obtain ⟨q0, q1⟩ := pickN_range (n.tdiv 8) 4 (by decide)
 obtain ⟨r0, r1⟩ := pickN_range (n.tdiv 32) 8 (by decide)
 have h1 := (val1_at (pickN n 8).toNat (by omega)).2
 have h2 := (val2_at (pickN (n.tdiv 8) 4).toNat (by omega)).2
 unfold valS
 rw [ByteArray.size_append]
 have h3 : (repS (val2L.getD (pickN (n.tdiv 8) 4).toNat ByteArray.empty) (pickN (n.tdiv 32) 8).toNat).size = (pickN (n.tdiv 32) 8).toNat * (val2L.getD (pickN (n.tdiv 8) 4).toNat ByteArray.empty).size := Lib.repeatL_length _ _
 have h4 : (pickN (n.tdiv 32) 8).toNat * (val2L.getD (pickN (n.tdiv 8) 4).toNat ByteArray.empty).size ≤ 7 * 20 := Nat.mul_le_mul (by omega) h2
 omega

set_option maxHeartbeats 8000000 in
set_option maxRecDepth 100000 in
theorem value_anyW (n : Int) (w : World) (h0 : -9223372036854775808 ≤ n) (h1 : n ≤ 9223372036854775807) :
 Calls Tryz.prog 15 #[.int .i64 n] w fun e w' => e = .returned (.string (valS n)) ∧ Below w.heap.size w w' := by
 obtain ⟨d0, d1⟩ := tdiv_range n 8 (by decide) h0 h1
 obtain ⟨e0, e1⟩ := tdiv_range n 32 (by decide) h0 h1
 have hp1 := fun w1 => picked_any n 8 w1 h0 h1 (by decide) (by decide)
 have hp2 := fun w1 => picked_any (n.tdiv 8) 4 w1 d0 d1 (by decide) (by decide)
 have hp3 := fun w1 => picked_any (n.tdiv 32) 8 w1 e0 e1 (by decide) (by decide)
 have hw8 : IntKind.i64.wrap (n.tdiv 8) = n.tdiv 8 := by simp only [IntKind.wrap_i64]; omega
 have hw32 : IntKind.i64.wrap (n.tdiv 32) = n.tdiv 32 := by simp only [IntKind.wrap_i64]; omega
 obtain ⟨a0, a1⟩ := pickN_range n 8 (by decide)
 obtain ⟨b0, b1⟩ := pickN_range (n.tdiv 8) 4 (by decide)
 obtain ⟨c0, c1⟩ := pickN_range (n.tdiv 32) 8 (by decide)
 obtain ⟨x1, s1⟩ := val1_at (pickN n 8).toNat (by omega)
 obtain ⟨x2, s2⟩ := val2_at (pickN (n.tdiv 8) 4).toNat (by omega)
 have hre := fun w1 => repeat_any (val2L.getD (pickN (n.tdiv 8) 4).toNat ByteArray.empty) (pickN (n.tdiv 32) 8).toNat w1 (by omega) (by omega)
 have hrs : (repS (val2L.getD (pickN (n.tdiv 8) 4).toNat ByteArray.empty) (pickN (n.tdiv 32) 8).toNat).size ≤ 180 := by have := valS_size n; unfold valS at this; rw [ByteArray.size_append] at this; omega
 unfold valS
 generalize val1L.getD (pickN n 8).toNat ByteArray.empty = y1 at *
 generalize val2L.getD (pickN (n.tdiv 8) 4).toNat ByteArray.empty = y2 at *
 obtain ⟨p, hp⟩ : ∃ p : Nat, pickN n 8 = (p : Int) := ⟨(pickN n 8).toNat, by omega⟩
 obtain ⟨q, hq⟩ : ∃ q : Nat, pickN (n.tdiv 8) 4 = (q : Int) := ⟨(pickN (n.tdiv 8) 4).toNat, by omega⟩
 obtain ⟨r, hr⟩ : ∃ r : Nat, pickN (n.tdiv 32) 8 = (r : Int) := ⟨(pickN (n.tdiv 32) 8).toNat, by omega⟩
 simp only [hp] at *
 simp only [hq] at *
 simp only [hr] at *
 simp only [Int.toNat_natCast] at *
 generalize repS y2 r = z at *
 clear hp hq hr d0 d1 e0 e1 h0 h1
 go_enter Tryz.func15, Tryz.ntmps15
 go_wp2_with fail
 refine (hp1 _).mono ?_
 rintro e w' ⟨rfl, rfl⟩
 go_wp2_with fail
 have hbW := keepAlloc (Below.refl w.heap.size w) (.cells #[.string ⟨#[]⟩, .string ⟨#[55]⟩, .string ⟨#[111, 110, 101]⟩, .string ⟨#[48, 49, 50, 51, 52, 53, 54, 55, 56, 57]⟩, .string ⟨#[49, 48]⟩, .string ⟨#[49, 48, 57, 57, 53, 49, 49, 54, 50, 55, 55, 55, 53]⟩, .string ⟨#[97, 10, 98]⟩, .string ⟨#[118, 97, 108, 117, 101, 32, 111, 102, 32, 115, 111, 109, 101, 32, 98, 121, 116, 101, 115, 44, 32, 116, 104, 97, 116, 32, 103, 111, 32, 116, 111, 32, 102, 108, 97, 115, 104]⟩] 9)
 have hzs : z.size ≤ 180 := hrs
 have hsz : y1.size + z.size ≤ 9223372036854775807 := by omega
 go_region_with (first
  | (go_at_call_of 13 (Value.int .i64 (n.tdiv 8)); refine (hp2 _).mono ?_; rintro e wa ⟨rfl, rfl⟩)
  | (go_at_call_of 13 (Value.int .i64 (n.tdiv 32)); refine (hp3 _).mono ?_; rintro e wa ⟨rfl, rfl⟩)
  | (go_at_call 33; refine (hre _).mono ?_; rintro e wb ⟨rfl, hbb⟩))
 all_goals go_wp2
 all_goals go_ret
 all_goals exact ⟨rfl, keepLater (by first | exact hbW | exact keepDrew hbW | exact keepAlloc hbW _ | exact keepAlloc (keepDrew hbW) _ | exact keepDrew (keepAlloc hbW _)) hbb⟩

end Go.Proofs.YtdblegdgmjakfaaGreatDoor

namespace Go.Proofs.YtdblegdgmjakfaaGreatDoor
open Go.ChangeShapes Go.WideShapes Go.ChangeAt Go.RowKit
set_option linter.unusedVariables false
set_option linter.unusedSimpArgs false

/- dovecotekeep.Request, where it makes another request than a Get. -/


def RqPost (X : RqR) (w : World) (e : Ending) (w' : World) : Prop :=
 ∃ a c, e = .returned (.agg #[.int .i64 X.kind, .string X.key, .slice a X.keys.length c, .int .i64 X.flags, .int .i64 X.exp, .int .i64 X.nn, .string X.value, .bool X.quiet]) ∧ StrsAt w' a X.keys.length X.keys ∧ Below w.heap.size w w'

theorem keepAl {w w1 : World} (h : Below w.heap.size w w1) (o : Obj) : Below w.heap.size w (w1.alloc o) := h.alloc h.size _
theorem keepSet {w w1 : World} {p : Addr} {v : Value} (h : Below w.heap.size w w1) (hp : w.heap.size ≤ p.block) : Below w.heap.size w (w1.setCell p v) := h.setCell hp _
theorem keepNext {w w1 w2 : World} (h : Below w.heap.size w w1) (hb : Below w1.heap.size w1 w2) : Below w.heap.size w w2 := h.trans (hb.mono h.size)

theorem rq_post {X : RqR} {w w' : World} (kind : Int) (key : ByteArray) (flags exp nn : Int) (value : ByteArray) (quiet : Bool) (h : X = ⟨kind, key, [], flags, exp, nn, value, quiet⟩) (hb : Below w.heap.size w w') :
 RqPost X w (.returned (.agg #[.int .i64 kind, .string key, .slice none 0 0, .int .i64 flags, .int .i64 exp, .int .i64 nn, .string value, .bool quiet])) w' := by
 subst h
 exact ⟨none, 0, rfl, ⟨rfl, Nat.zero_le _, fun x hx => by simp at hx, Or.inl rfl⟩, hb⟩

theorem rq_size {w w1 : World} {o1 o2 : Obj} (hb1 : Below ((w.alloc o1).alloc o2).heap.size ((w.alloc o1).alloc o2) w1) : w.heap.size + 1 < w1.heap.size ∧ w.heap.size < w1.heap.size ∧ Below w.heap.size w w1 := by
 have h := hb1.size
 simp at h
 exact ⟨by omega, by omega, (((Below.refl _ _).alloc (Nat.le_refl _) _).alloc (by simp) _).trans (hb1.mono (by simp; omega))⟩

/-- del -/
def delX (ra rb rc : Int) : RqR := ⟨8, keyS ra, [], 0, 0, 0, ⟨#[]⟩, pickN rb 7 == 0⟩

set_option maxHeartbeats 8000000 in
set_option maxRecDepth 100000 in
theorem request_del (rk ra rb rc : Int) (w : World) (hk : i64In rk) (ha : i64In ra) (hb : i64In rb) (hc : i64In rc) (h5 : pickN rk 20 = 12) :
 Calls Tryz.prog 24 #[.agg #[.int .i64 rk, .int .i64 ra, .int .i64 rb, .int .i64 rc]] w fun e w' => RqPost (delX ra rb rc) w e w' := by
 have hk1 := fun w1 => keepKey_any ra w1 ha.1 ha.2
 have hp1 := fun w1 => picked_any rk 20 w1 hk.1 hk.2 (by decide) (by decide)
 have hpq := fun w1 => picked_any rb 7 w1 hb.1 hb.2 (by decide) (by decide)
 unfold delX
 generalize pickN rb 7 = B at *
 generalize pickN rk 20 = K at *
 generalize keyS ra = ka at *
 clear hk ha hb hc
 go_enter Tryz.func24, Tryz.ntmps24
 go_wp2_with fail
 refine (hk1 _).mono ?_
 rintro e w1 ⟨rfl, hb1⟩
 obtain ⟨p1, p2⟩ := bcell hb1
 obtain ⟨hz, hz', hbw⟩ := rq_size hb1
 go_wp2_with (first | (go_at_call_of 13 (Value.int .i64 rk); refine (hp1 _).mono ?_; rintro e w' ⟨rfl, rfl⟩) | (go_at_call_of 13 (Value.int .i64 rb); refine (hpq _).mono ?_; rintro e w' ⟨rfl, rfl⟩))
 exact bodyPost_ret (by simp [results, Tryz.results24, go_sem, hz, p1]) rfl (rq_post 8 ka 0 0 0 ⟨#[]⟩ (B == 0) rfl (by repeat (first | (with_reducible exact hbw) | (with_reducible refine keepAl ?_ _) | (with_reducible refine keepSet ?_ (by first | exact Nat.le_succ _ | exact hbw.size)))))

/-- touch -/
def touchX (ra rb rc : Int) : RqR := ⟨11, keyS ra, [], 0, pickN rc 30, 0, ⟨#[]⟩, pickN rb 7 == 0⟩

set_option maxHeartbeats 8000000 in
set_option maxRecDepth 100000 in
theorem request_touch (rk ra rb rc : Int) (w : World) (hk : i64In rk) (ha : i64In ra) (hb : i64In rb) (hc : i64In rc) (h5 : pickN rk 20 = 17) :
 Calls Tryz.prog 24 #[.agg #[.int .i64 rk, .int .i64 ra, .int .i64 rb, .int .i64 rc]] w fun e w' => RqPost (touchX ra rb rc) w e w' := by
 have hk1 := fun w1 => keepKey_any ra w1 ha.1 ha.2
 have hp1 := fun w1 => picked_any rk 20 w1 hk.1 hk.2 (by decide) (by decide)
 have hp2 := fun w1 => picked_any rc 30 w1 hc.1 hc.2 (by decide) (by decide)
 have hpq := fun w1 => picked_any rb 7 w1 hb.1 hb.2 (by decide) (by decide)
 unfold touchX
 generalize pickN rc 30 = C at *
 generalize pickN rb 7 = B at *
 generalize pickN rk 20 = K at *
 generalize keyS ra = ka at *
 clear hk ha hb hc
 go_enter Tryz.func24, Tryz.ntmps24
 go_wp2_with fail
 refine (hk1 _).mono ?_
 rintro e w1 ⟨rfl, hb1⟩
 obtain ⟨p1, p2⟩ := bcell hb1
 obtain ⟨hz, hz', hbw⟩ := rq_size hb1
 go_wp2_with (first | (go_at_call_of 13 (Value.int .i64 rk); refine (hp1 _).mono ?_; rintro e w' ⟨rfl, rfl⟩) | (go_at_call_of 13 (Value.int .i64 rc); refine (hp2 _).mono ?_; rintro e w' ⟨rfl, rfl⟩) | (go_at_call_of 13 (Value.int .i64 rb); refine (hpq _).mono ?_; rintro e w' ⟨rfl, rfl⟩))
 exact bodyPost_ret (by simp [results, Tryz.results24, go_sem, hz, p1]) rfl (rq_post 11 ka 0 C 0 ⟨#[]⟩ (B == 0) rfl (by repeat (first | (with_reducible exact hbw) | (with_reducible refine keepAl ?_ _) | (with_reducible refine keepSet ?_ (by first | exact Nat.le_succ _ | exact hbw.size)))))

/-- cas -/
def casX (ra rb rc : Int) : RqR := ⟨7, keyS ra, [], 1, 0, pickN rc 20, ⟨#[98, 121, 32, 110, 117, 109, 98, 101, 114]⟩, pickN rb 7 == 0⟩

set_option maxHeartbeats 8000000 in
set_option maxRecDepth 100000 in
theorem request_cas (rk ra rb rc : Int) (w : World) (hk : i64In rk) (ha : i64In ra) (hb : i64In rb) (hc : i64In rc) (h5 : pickN rk 20 = 11) :
 Calls Tryz.prog 24 #[.agg #[.int .i64 rk, .int .i64 ra, .int .i64 rb, .int .i64 rc]] w fun e w' => RqPost (casX ra rb rc) w e w' := by
 have hk1 := fun w1 => keepKey_any ra w1 ha.1 ha.2
 have hp1 := fun w1 => picked_any rk 20 w1 hk.1 hk.2 (by decide) (by decide)
 have hp2 := fun w1 => picked_any rc 20 w1 hc.1 hc.2 (by decide) (by decide)
 have hpq := fun w1 => picked_any rb 7 w1 hb.1 hb.2 (by decide) (by decide)
 unfold casX
 generalize pickN rc 20 = C at *
 generalize pickN rb 7 = B at *
 generalize pickN rk 20 = K at *
 generalize keyS ra = ka at *
 clear hk ha hb hc
 go_enter Tryz.func24, Tryz.ntmps24
 go_wp2_with fail
 refine (hk1 _).mono ?_
 rintro e w1 ⟨rfl, hb1⟩
 obtain ⟨p1, p2⟩ := bcell hb1
 obtain ⟨hz, hz', hbw⟩ := rq_size hb1
 go_wp2_with (first | (go_at_call_of 13 (Value.int .i64 rk); refine (hp1 _).mono ?_; rintro e w' ⟨rfl, rfl⟩) | (go_at_call_of 13 (Value.int .i64 rc); refine (hp2 _).mono ?_; rintro e w' ⟨rfl, rfl⟩) | (go_at_call_of 13 (Value.int .i64 rb); refine (hpq _).mono ?_; rintro e w' ⟨rfl, rfl⟩))
 exact bodyPost_ret (by simp [results, Tryz.results24, go_sem, hz, p1]) rfl (rq_post 7 ka 1 0 C ⟨#[98, 121, 32, 110, 117, 109, 98, 101, 114]⟩ (B == 0) rfl (by repeat (first | (with_reducible exact hbw) | (with_reducible refine keepAl ?_ _) | (with_reducible refine keepSet ?_ (by first | exact Nat.le_succ _ | exact hbw.size)))))

/-- flush -/
def flushX (ra rb rc : Int) : RqR := ⟨12, ⟨#[]⟩, [], 0, 0, 0, ⟨#[]⟩, pickN rb 2 == 0⟩

set_option maxHeartbeats 8000000 in
set_option maxRecDepth 100000 in
theorem request_flush (rk ra rb rc : Int) (w : World) (hk : i64In rk) (ha : i64In ra) (hb : i64In rb) (hc : i64In rc) (h5 : pickN rk 20 = 18) (h6 : pickN rc 6 = 0) :
 Calls Tryz.prog 24 #[.agg #[.int .i64 rk, .int .i64 ra, .int .i64 rb, .int .i64 rc]] w fun e w' => RqPost (flushX ra rb rc) w e w' := by
 have hk1 := fun w1 => keepKey_any ra w1 ha.1 ha.2
 have hp1 := fun w1 => picked_any rk 20 w1 hk.1 hk.2 (by decide) (by decide)
 have hp2 := fun w1 => picked_any rc 6 w1 hc.1 hc.2 (by decide) (by decide)
 have hpq := fun w1 => picked_any rb 2 w1 hb.1 hb.2 (by decide) (by decide)
 unfold flushX
 generalize pickN rc 6 = C at *
 generalize pickN rb 2 = B at *
 generalize pickN rk 20 = K at *
 generalize keyS ra = ka at *
 clear hk ha hb hc
 go_enter Tryz.func24, Tryz.ntmps24
 go_wp2_with fail
 refine (hk1 _).mono ?_
 rintro e w1 ⟨rfl, hb1⟩
 obtain ⟨p1, p2⟩ := bcell hb1
 obtain ⟨hz, hz', hbw⟩ := rq_size hb1
 go_wp2_with (first | (go_at_call_of 13 (Value.int .i64 rk); refine (hp1 _).mono ?_; rintro e w' ⟨rfl, rfl⟩) | (go_at_call_of 13 (Value.int .i64 rc); refine (hp2 _).mono ?_; rintro e w' ⟨rfl, rfl⟩) | (go_at_call_of 13 (Value.int .i64 rb); refine (hpq _).mono ?_; rintro e w' ⟨rfl, rfl⟩))
 exact bodyPost_ret (by simp [results, Tryz.results24, go_sem, hz, p1]) rfl (rq_post 12 ⟨#[]⟩ 0 0 0 ⟨#[]⟩ (B == 0) rfl (by repeat (first | (with_reducible exact hbw) | (with_reducible refine keepAl ?_ _) | (with_reducible refine keepSet ?_ (by first | exact Nat.le_succ _ | exact hbw.size)))))

/-- set -/
def setX (ra rb rc : Int) : RqR := ⟨2, keyS ra, [], 0, 0, 0, valS rc, pickN rb 7 == 0⟩

set_option maxHeartbeats 8000000 in
set_option maxRecDepth 100000 in
theorem request_set (rk ra rb rc : Int) (w : World) (hk : i64In rk) (ha : i64In ra) (hb : i64In rb) (hc : i64In rc) (h5 : pickN rk 20 = 19) :
 Calls Tryz.prog 24 #[.agg #[.int .i64 rk, .int .i64 ra, .int .i64 rb, .int .i64 rc]] w fun e w' => RqPost (setX ra rb rc) w e w' := by
 have hk1 := fun w1 => keepKey_any ra w1 ha.1 ha.2
 have hp1 := fun w1 => picked_any rk 20 w1 hk.1 hk.2 (by decide) (by decide)
 have hpq := fun w1 => picked_any rb 7 w1 hb.1 hb.2 (by decide) (by decide)
 unfold setX
 have hv := fun w1 => value_anyW rc w1 hc.1 hc.2
 have hvs := valS_size rc
 generalize valS rc = v at *
 generalize pickN rb 7 = B at *
 generalize pickN rk 20 = K at *
 generalize keyS ra = ka at *
 clear hk ha hb hc
 go_enter Tryz.func24, Tryz.ntmps24
 go_wp2_with fail
 refine (hk1 _).mono ?_
 rintro e w1 ⟨rfl, hb1⟩
 obtain ⟨p1, p2⟩ := bcell hb1
 obtain ⟨hz, hz', hbw⟩ := rq_size hb1
 go_wp2_with (first | (go_at_call_of 13 (Value.int .i64 rk); refine (hp1 _).mono ?_; rintro e w' ⟨rfl, rfl⟩) | (go_at_call_of 13 (Value.int .i64 rb); refine (hpq _).mono ?_; rintro e w' ⟨rfl, rfl⟩))
 refine (hv _).mono ?_
 rintro e w2 ⟨rfl, hb2⟩
 obtain ⟨m1, m2⟩ := bcell hb2
 have hz2 : w1.heap.size < w2.heap.size := bsize hb2
 have hz3 : w.heap.size < w2.heap.size := by omega
 have hz4 : w.heap.size + 1 < w2.heap.size := by omega
 have hv2 : ¬ (200 : Int) < (v.size : Int) := by omega
 have hbw2 : Below w.heap.size w w2 := keepNext (keepAl hbw _) hb2
 have hle : w.heap.size ≤ w1.heap.size := hbw.size
 go_wp2_with (first | (go_at_call_of 13 (Value.int .i64 rk); refine (hp1 _).mono ?_; rintro e w' ⟨rfl, rfl⟩) | (go_at_call_of 13 (Value.int .i64 rb); refine (hpq _).mono ?_; rintro e w' ⟨rfl, rfl⟩))
 exact bodyPost_ret (by simp [results, Tryz.results24, go_sem, hz, hz', p1, m1]) rfl (rq_post 2 ka 0 0 0 v (B == 0) rfl (by repeat (first | (with_reducible exact hbw2) | (with_reducible refine keepAl ?_ _) | (with_reducible refine keepSet ?_ (by first | exact Nat.le_succ _ | exact hle)))))

/-- set18 -/
def set18X (ra rb rc : Int) : RqR := ⟨2, keyS ra, [], 0, 0, 0, valS rc, pickN rb 7 == 0⟩

set_option maxHeartbeats 8000000 in
set_option maxRecDepth 100000 in
theorem request_set18 (rk ra rb rc : Int) (w : World) (hk : i64In rk) (ha : i64In ra) (hb : i64In rb) (hc : i64In rc) (h5 : pickN rk 20 = 18) (h6 : pickN rc 6 ≠ 0) :
 Calls Tryz.prog 24 #[.agg #[.int .i64 rk, .int .i64 ra, .int .i64 rb, .int .i64 rc]] w fun e w' => RqPost (set18X ra rb rc) w e w' := by
 have hk1 := fun w1 => keepKey_any ra w1 ha.1 ha.2
 have hp1 := fun w1 => picked_any rk 20 w1 hk.1 hk.2 (by decide) (by decide)
 have hp2 := fun w1 => picked_any rc 6 w1 hc.1 hc.2 (by decide) (by decide)
 have hpq := fun w1 => picked_any rb 7 w1 hb.1 hb.2 (by decide) (by decide)
 unfold set18X
 have hv := fun w1 => value_anyW rc w1 hc.1 hc.2
 have hvs := valS_size rc
 generalize valS rc = v at *
 have h6b : (pickN rc 6 == 0) = false := by simpa using h6
 generalize pickN rc 6 = C at *
 generalize pickN rb 7 = B at *
 generalize pickN rk 20 = K at *
 generalize keyS ra = ka at *
 clear hk ha hb hc
 go_enter Tryz.func24, Tryz.ntmps24
 go_wp2_with fail
 refine (hk1 _).mono ?_
 rintro e w1 ⟨rfl, hb1⟩
 obtain ⟨p1, p2⟩ := bcell hb1
 obtain ⟨hz, hz', hbw⟩ := rq_size hb1
 go_wp2_with (first | (go_at_call_of 13 (Value.int .i64 rk); refine (hp1 _).mono ?_; rintro e w' ⟨rfl, rfl⟩) | (go_at_call_of 13 (Value.int .i64 rc); refine (hp2 _).mono ?_; rintro e w' ⟨rfl, rfl⟩) | (go_at_call_of 13 (Value.int .i64 rb); refine (hpq _).mono ?_; rintro e w' ⟨rfl, rfl⟩))
 refine (hv _).mono ?_
 rintro e w2 ⟨rfl, hb2⟩
 obtain ⟨m1, m2⟩ := bcell hb2
 have hz2 : w1.heap.size < w2.heap.size := bsize hb2
 have hz3 : w.heap.size < w2.heap.size := by omega
 have hz4 : w.heap.size + 1 < w2.heap.size := by omega
 have hv2 : ¬ (200 : Int) < (v.size : Int) := by omega
 have hbw2 : Below w.heap.size w w2 := keepNext (keepAl hbw _) hb2
 have hle : w.heap.size ≤ w1.heap.size := hbw.size
 go_wp2_with (first | (go_at_call_of 13 (Value.int .i64 rk); refine (hp1 _).mono ?_; rintro e w' ⟨rfl, rfl⟩) | (go_at_call_of 13 (Value.int .i64 rc); refine (hp2 _).mono ?_; rintro e w' ⟨rfl, rfl⟩) | (go_at_call_of 13 (Value.int .i64 rb); refine (hpq _).mono ?_; rintro e w' ⟨rfl, rfl⟩))
 exact bodyPost_ret (by simp [results, Tryz.results24, go_sem, hz, hz', p1, m1]) rfl (rq_post 2 ka 0 0 0 v (B == 0) rfl (by repeat (first | (with_reducible exact hbw2) | (with_reducible refine keepAl ?_ _) | (with_reducible refine keepSet ?_ (by first | exact Nat.le_succ _ | exact hle)))))

/- dovecotekeep.Request, where it makes a request that stores. -/

def stoL : List Int := [2, 2, 2, 3, 4, 5, 6]
theorem sto_at (p : Nat) (hp : p < 7) : (#[.int .i64 2, .int .i64 2, .int .i64 2, .int .i64 3, .int .i64 4, .int .i64 5, .int .i64 6] : Array Value)[p]? = some (.int .i64 (stoL.getD p 0)) ∧ 2 ≤ stoL.getD p 0 ∧ stoL.getD p 0 ≤ 6 := by
 match p, hp with
 | 0, _ => exact ⟨rfl, by decide, by decide⟩
 | 1, _ => exact ⟨rfl, by decide, by decide⟩
 | 2, _ => exact ⟨rfl, by decide, by decide⟩
 | 3, _ => exact ⟨rfl, by decide, by decide⟩
 | 4, _ => exact ⟨rfl, by decide, by decide⟩
 | 5, _ => exact ⟨rfl, by decide, by decide⟩
 | 6, _ => exact ⟨rfl, by decide, by decide⟩
 | p + 7, h => omega

def stoX (ra rb rc : Int) : RqR := ⟨stoL.getD (pickN rc 7).toNat 0, keyS ra, [], pickN rc 9, (pickN rb 8).tdiv 5 * pickN rc 30, 0, valS rb, pickN rb 7 == 0⟩

theorem RqT.setS {W : World} {R : Nat} {rk ra rb rc : Value} {w : World} (h : RqT W R rk ra rb rc w) (p : Addr) (v : Value) (h1 : W.heap.size ≤ p.block) (h2 : R ≠ p.block) : RqT W R rk ra rb rc (w.setCell p v) := (h.1.set p v h1 h2).three
theorem keepDrS {w w1 : World} (h : Below w.heap.size w w1) : Below w.heap.size w w1.drew := h.drew

set_option maxHeartbeats 4000000 in
set_option maxRecDepth 100000 in
theorem request_sto (rk ra rb rc : Int) (w : World) (hk : i64In rk) (ha : i64In ra) (hb : i64In rb) (hc : i64In rc) (h5 : 5 ≤ pickN rk 20) (h6 : pickN rk 20 < 11) :
 Calls Tryz.prog 24 #[.agg #[.int .i64 rk, .int .i64 ra, .int .i64 rb, .int .i64 rc]] w fun e w' => RqPost (stoX ra rb rc) w e w' := by
 have hk1 := fun w1 => keepKey_any ra w1 ha.1 ha.2
 have hp1 := fun w1 => picked_any rk 20 w1 hk.1 hk.2 (by decide) (by decide)
 have hpc := fun (m : Int) (w1 : World) (h : 0 < m ∧ m ≤ 100) => picked_any rc m w1 hc.1 hc.2 h.1 (by omega)
 have hpb := fun (m : Int) (w1 : World) (h : 0 < m ∧ m ≤ 100) => picked_any rb m w1 hb.1 hb.2 h.1 (by omega)
 have hv := fun w1 => value_anyW rb w1 hb.1 hb.2
 have hvs := valS_size rb
 obtain ⟨a0, a1⟩ := pickN_range rc 7 (by decide)
 obtain ⟨b0, b1⟩ := pickN_range rb 8 (by decide)
 obtain ⟨c0, c1⟩ := pickN_range rc 30 (by decide)
 obtain ⟨hx, hx2, hx3⟩ := sto_at (pickN rc 7).toNat (by omega)
 obtain ⟨p, hp⟩ : ∃ p : Nat, pickN rc 7 = (p : Int) := ⟨(pickN rc 7).toNat, by omega⟩
 have hp7 := fun w1 => picked_any rc 7 w1 hc.1 hc.2 (by decide) (by decide)
 unfold stoX
 simp only [hp] at *
 simp only [Int.toNat_natCast] at *
 generalize stoL.getD p 0 = kd at *
 generalize valS rb = v at *
 have hd : (pickN rb 8).tdiv 5 = 0 ∨ (pickN rb 8).tdiv 5 = 1 := by
  rw [Int.tdiv_eq_ediv_of_nonneg b0]
  omega
 have hw1 : IntKind.i64.wrap ((pickN rb 8).tdiv 5) = (pickN rb 8).tdiv 5 := by simp only [IntKind.wrap_i64]; omega
 have hw2 : IntKind.i64.wrap ((pickN rb 8).tdiv 5 * pickN rc 30) = (pickN rb 8).tdiv 5 * pickN rc 30 := by
  rcases hd with h | h <;> rw [h] <;> simp only [IntKind.wrap_i64] <;> omega
 generalize pickN rk 20 = K at *
 generalize keyS ra = ka at *
 clear hk ha hb hc hp
 go_enter Tryz.func24, Tryz.ntmps24
 go_wp2_with fail
 refine (hk1 _).mono ?_
 rintro e w1 ⟨rfl, hb1⟩
 obtain ⟨p1, p2⟩ := bcell hb1
 obtain ⟨hz, hz', hbw⟩ := rq_size hb1
 have hRaw0 : TB 38 (w.alloc (.cells #[.int .i64 rk, .int .i64 ra, .int .i64 rb, .int .i64 rc] 38)) w.heap.size #[.int .i64 rk, .int .i64 ra, .int .i64 rb, .int .i64 rc] := TB.new _ _ _
 have hRaw1 := (hRaw0.alloc (.cells #[.int .i64 0, .string ⟨#[]⟩, .slice none 0 0, .int .i64 0, .int .i64 0, .int .i64 0, .string ⟨#[]⟩, .bool false] 47)).later hb1
 have hT : RqT w w.heap.size (.int .i64 rk) (.int .i64 ra) (.int .i64 rb) (.int .i64 rc) w1 := RqS.three ⟨hbw, hRaw1⟩
 have hle : w.heap.size ≤ w1.heap.size := hbw.size
 have hne : w.heap.size ≠ w1.heap.size := by omega
 have hQ0 := TB.new 47 w1 #[.int .i64 kd, .string ka, .slice none 0 0, .int .i64 0, .int .i64 0, .int .i64 0, .string ⟨#[]⟩, .bool false]
 have hp0 : (0 : Int) ≤ (p : Int) := a0
 go_wp2_with (first | (go_at_call_of 13 (Value.int .i64 rk); refine (hp1 _).mono ?_; rintro e w' ⟨rfl, rfl⟩) | (go_at_call_of 13 (Value.int .i64 rc); refine (hp7 _).mono ?_; rintro e w' ⟨rfl, rfl⟩))
 have hZ0 : TB 47 ((w.alloc (.cells #[.int .i64 rk, .int .i64 ra, .int .i64 rb, .int .i64 rc] 38)).alloc (.cells #[.int .i64 0, .string ⟨#[]⟩, .slice none 0 0, .int .i64 0, .int .i64 0, .int .i64 0, .string ⟨#[]⟩, .bool false] 47)) (w.heap.size + 1) #[.int .i64 0, .string ⟨#[]⟩, .slice none 0 0, .int .i64 0, .int .i64 0, .int .i64 0, .string ⟨#[]⟩, .bool false] := by have := TB.new 47 (w.alloc (.cells #[.int .i64 rk, .int .i64 ra, .int .i64 rb, .int .i64 rc] 38)) #[.int .i64 0, .string ⟨#[]⟩, .slice none 0 0, .int .i64 0, .int .i64 0, .int .i64 0, .string ⟨#[]⟩, .bool false]; simpa using this
 have hZ1 := hZ0.later hb1
 have hne3 : w1.heap.size ≠ w.heap.size + 1 := by omega
 generalize hWd : ((w1.alloc (.cells #[.int .i64 kd, .string ka, .slice none 0 0, .int .i64 0, .int .i64 0, .int .i64 0, .string ⟨#[]⟩, .bool false] 47)).alloc (.cells #[.int .i64 2, .int .i64 2, .int .i64 2, .int .i64 3, .int .i64 4, .int .i64 5, .int .i64 6] 3)) = W
 have hTW : RqT w w.heap.size (.int .i64 rk) (.int .i64 ra) (.int .i64 rb) (.int .i64 rc) W := by rw [← hWd]; exact (hT.alloc _).alloc _
 have hQW : TB 47 W w1.heap.size #[.int .i64 kd, .string ka, .slice none 0 0, .int .i64 0, .int .i64 0, .int .i64 0, .string ⟨#[]⟩, .bool false] := by rw [← hWd]; exact hQ0.alloc _
 have hZW : TB 47 W (w.heap.size + 1) #[.int .i64 0, .string ⟨#[]⟩, .slice none 0 0, .int .i64 0, .int .i64 0, .int .i64 0, .string ⟨#[]⟩, .bool false] := by rw [← hWd]; exact (hZ1.alloc _).alloc _
 clear hWd hRaw0 hRaw1 hT hQ0 hZ0 hZ1 p1 p2 hb1 hx
 generalize w1.heap.size = q at *
 go_region_held3 (fun w' => RqT w w.heap.size (.int .i64 rk) (.int .i64 ra) (.int .i64 rb) (.int .i64 rc) w') (with_reducible repeat (first | assumption | refine RqT.drew ?_ | refine RqT.setS ?_ _ _ hle hne | refine RqT.alloc ?_ _))
  (first
    | (go_at_call_of 13 (Value.int .i64 rc); refine (hpc _ _ (by decide)).mono ?_; rintro e wa ⟨rfl, rfl⟩)
    | (go_at_call_of 13 (Value.int .i64 rb); refine (hpb _ _ (by decide)).mono ?_; rintro e wa ⟨rfl, rfl⟩)
    | (go_at_call_of 15 (Value.int .i64 rb); refine (hv _).mono ?_; rintro e wv ⟨rfl, hbv⟩; have hSv := RqT.later (rk := .int .i64 rk) (ra := .int .i64 ra) (rb := .int .i64 rb) (rc := .int .i64 rc) (W := w) (R := w.heap.size) (by assumption) hbv; have hQv := TB.after (t := 47) (b := q) (cs := #[.int .i64 kd, .string ka, .slice none 0 0, .int .i64 0, .int .i64 0, .int .i64 0, .string ⟨#[]⟩, .bool false]) hbv hQW; have hZv := TB.after (t := 47) (b := w.heap.size + 1) (cs := #[.int .i64 0, .string ⟨#[]⟩, .slice none 0 0, .int .i64 0, .int .i64 0, .int .i64 0, .string ⟨#[]⟩, .bool false]) hbv hZW; have g1 := fun j => hQv.cell j; have g2 := fun j => hQv.frozen j; have g3 := fun j => hZv.cell j; have g4 := fun j => hZv.frozen j; have l1 := hQv.lt; have l2 := hZv.lt))
 have hbv2 : Below w.heap.size w wv := hSv.1.1
 obtain ⟨_, r1, r2, r3⟩ := hSv
 have hv2 : ¬ (200 : Int) < (v.size : Int) := by omega
 go_wp2_with (go_at_call_of 13 (Value.int .i64 rb); refine (hpb _ _ (by decide)).mono ?_; rintro e wa ⟨rfl, rfl⟩)
 exact bodyPost_ret (by simp [results, Tryz.results24, go_sem, g1, g3, hne3]) rfl (rq_post kd ka (pickN rc 9) ((pickN rb 8).tdiv 5 * pickN rc 30) 0 v (pickN rb 7 == 0) rfl (by repeat (first | (with_reducible exact hbv2) | (with_reducible refine keepDrS ?_) | (with_reducible refine keepAl ?_ _) | (with_reducible refine keepSet ?_ (by first | exact Nat.le_succ _ | exact hle)))))

end Go.Proofs.YtdblegdgmjakfaaGreatDoor
