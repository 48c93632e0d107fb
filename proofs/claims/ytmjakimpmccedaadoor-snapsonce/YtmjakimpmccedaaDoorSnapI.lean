/- The contract of snap.appendItem. -/
import Derived.Test.YtmjakimpmccedaaDoorSnapL
import Derived.Test.YtmjakimpmccedaaDoorSItems
import Derived.Test.YtmjakimpmccedaaDoorTB
import Derived.Deep.RegionHeld3
namespace Go.Proofs.YtmjakimpmccedaaDoor
open Go.ChangeShapes Go.WideShapes Go.ChangeAt Go.RowKit
set_option linter.unusedVariables false
set_option linter.unusedSimpArgs false

/-- The bytes of an item. -/
def itemB (it : ItemR) : List UInt8 := txt it.key.data.toList ++ ([it.flags.toNat, it.until_.toNat, it.cas.toNat, it.used.toNat].flatMap sev ++ if it.far = true then [1, it.page.toNat, it.at_.toNat].flatMap sev else [0].flatMap sev ++ txt it.value.data.toList)

/-- The numbers and texts of an item are within bounds. -/
structure ItemFit (it : ItemR) : Prop where
  flags : 0 ≤ it.flags ∧ it.flags ≤ 9223372036854775807
  until_ : 0 ≤ it.until_ ∧ it.until_ ≤ 9223372036854775807
  cas : 0 ≤ it.cas ∧ it.cas ≤ 9223372036854775807
  used : 0 ≤ it.used ∧ it.used ≤ 9223372036854775807
  page : 0 ≤ it.page ∧ it.page ≤ 9223372036854775807
  at_ : 0 ≤ it.at_ ∧ it.at_ ≤ 9223372036854775807
  key : it.key.size ≤ 20
  value : it.value.size ≤ 200

theorem TB.grew {t : TypeId} {w w' : World} {v v' : Value} {b : Nat} {cs : Array Value} (h : TB t w b cs) (hG : Grew w v w' v') (hne : v.ownBlock ≠ some b) : TB t w' b cs := by
  have hl := h.lt
  unfold TB at *
  rw [hG.1.block b hl (fun e => hne e.symm)]
  exact h

theorem sev9 (n : Nat) (h : n < 9223372036854775808) : (sev n).length ≤ 9 := sev_len 8 n (by omega)
theorem txt_len (l : List UInt8) (h : l.length < 9223372036854775808) : (txt l).length ≤ l.length + 9 := by
  unfold txt
  have := sev9 l.length h
  rw [List.length_append]
  omega

theorem AppPost.far {n : Nat} {v : Value} {l : List UInt8} {w w' : World} {v' : Value} {w2 : World} {e : Ending} (hG : Grew w v w' v') (h : AppPost n v' l w' e w2) : AppPost n v l w e w2 := by
  obtain ⟨v2, he, h1, h2⟩ := h
  exact ⟨v2, he, h1, hG.trans h2⟩

set_option maxHeartbeats 2000000 in
set_option maxRecDepth 100000 in
theorem item_any (n : Nat) (v : Value) (l : List UInt8) (it : ItemR) (w : World) (hR : RowB n w v l) (hn : n ≤ w.heap.size) (hF : ItemFit it) (hz : l.length + 400 ≤ 140737488350000) :
    Calls Tryd.prog 31 #[v, .agg #[.string it.key, .int .i64 it.flags, .int .i64 it.until_, .int .i64 it.cas, .int .i64 it.used, .string it.value, .bool it.far, .int .i64 it.page, .int .i64 it.at_]] w (AppPost n v (l ++ itemB it) w) := by
  obtain ⟨⟨f0, f1⟩, ⟨u0, u1⟩, ⟨c0, c1⟩, ⟨s0, s1⟩, ⟨p0, p1⟩, ⟨a0, a1⟩, hk, hv⟩ := hF
  obtain ⟨key, flags, until_, cas, used, value, far, page, at_⟩ := it
  simp only at *
  obtain ⟨flags, rfl⟩ := Int.eq_ofNat_of_zero_le f0
  obtain ⟨until_, rfl⟩ := Int.eq_ofNat_of_zero_le u0
  obtain ⟨cas, rfl⟩ := Int.eq_ofNat_of_zero_le c0
  obtain ⟨used, rfl⟩ := Int.eq_ofNat_of_zero_le s0
  obtain ⟨page, rfl⟩ := Int.eq_ofNat_of_zero_le p0
  obtain ⟨at_, rfl⟩ := Int.eq_ofNat_of_zero_le a0
  have hkl : (txt key.data.toList).length ≤ 29 := by have := txt_len key.data.toList (by rw [str_len]; omega); rw [str_len] at this; omega
  have q1 := sev9 flags (by omega)
  have q2 := sev9 until_ (by omega)
  have q3 := sev9 cas (by omega)
  have q4 := sev9 used (by omega)
  have E : Hid (l ++ itemB ⟨key, flags, until_, cas, used, value, far, page, at_⟩ = l ++ txt key.data.toList ++ [flags, until_, cas, used].flatMap sev ++ (if far = true then [1, page, at_].flatMap sev else [0].flatMap sev ++ txt value.data.toList)) := by
    unfold Hid itemB
    simp
  generalize l ++ itemB ⟨key, flags, until_, cas, used, value, far, page, at_⟩ = R at *
  have B0 : Below w.heap.size w (w.alloc (.cells #[.string key, .int .i64 (flags : Int), .int .i64 (until_ : Int), .int .i64 (cas : Int), .int .i64 (used : Int), .string value, .bool far, .int .i64 (page : Int), .int .i64 (at_ : Int)] 49)) := (Below.refl _ _).alloc (Nat.le_refl _) _
  have T0 := TB.new 49 w #[.string key, .int .i64 (flags : Int), .int .i64 (until_ : Int), .int .i64 (cas : Int), .int .i64 (used : Int), .string value, .bool far, .int .i64 (page : Int), .int .i64 (at_ : Int)]
  have hne0 := hR.ne_new
  have hR0 := hR.below B0
  have hG0 := Grew.of_below v B0
  have hn0 : n ≤ (w.alloc (.cells #[.string key, .int .i64 (flags : Int), .int .i64 (until_ : Int), .int .i64 (cas : Int), .int .i64 (used : Int), .string value, .bool far, .int .i64 (page : Int), .int .i64 (at_ : Int)] 49)).heap.size := Nat.le_trans hn B0.size
  go_enter Tryd.func31, Tryd.ntmps31
  go_wp2_with fail
  refine (text_any n v l key _ hR0 hn0 (by omega)).mono ?_
  rintro e w1 ⟨v1, rfl, hR1, hG1⟩
  have T1 := T0.grew hG1 hne0
  have hne1 := hG1.apart T0.lt hne0
  have hn1 := Nat.le_trans hn0 hG1.1.size
  have hGw1 := hG0.trans hG1
  clear T0 hG0 hG1 hR0 hne0 hn0 B0 hR
  have x1 := fun j => T1.cell j
  have l1 := T1.lt
  generalize hL1 : l ++ txt key.data.toList = L1 at *
  have hz1 : L1.length + 371 ≤ 140737488350000 := by rw [← hL1, List.length_append]; omega
  clear hL1
  go_wp2_with fail
  refine (nums_new n v1 L1 [flags, until_, cas, used] _ 4 w1 rfl rfl (Or.inl hR1) (by omega) hn1 (by simp; omega) (by omega)).mono ?_
  rintro e w2 ⟨v2, rfl, hR2, hG2⟩
  have T2 := T1.grew hG2 hne1
  have hne2 := hG2.apart T1.lt hne1
  have hn2 := Nat.le_trans hn1 hG2.1.size
  have hGw2 := hGw1.trans hG2
  clear T1 hG2 hGw1 hne1 hn1 x1 l1 hR1
  have x2 := fun j => T2.cell j
  have l2 := T2.lt
  generalize hL2 : L1 ++ [flags, until_, cas, used].flatMap sev = L2 at *
  have hz2 : L2.length + 330 ≤ 140737488350000 := by rw [← hL2, List.length_append]; simp; omega
  clear hL2
  cases far
  · rw [if_neg (by decide)] at E
    have hx5 : w2.cell? ⟨w.heap.size, 5, none⟩ = some (.string value) := x2 5
    have hd2 : Below w2.heap.size w2 w2.drew := drewN_below w2 1
    have hc1 : Calls Tryd.prog 29 #[v2, .slice (some ⟨w2.heap.size, 0, none⟩) 1 1] (w2.alloc (.cells #[.int .i64 0] 3)).drew (AppPost n v2 (L2 ++ [0].flatMap sev) w2) := by
      refine (nums_new n v2 L2 [0] #[.int .i64 0] 1 w2.drew rfl rfl (Or.inl (hR2.below hd2)) (by omega) hn2 (by simp) (by omega)).mono ?_
      rintro e w3 ⟨v3, rfl, h1, h2⟩
      exact ⟨v3, rfl, h1, (Grew.of_below v2 hd2).trans h2⟩
    have hk3 : ∀ (w3 : World) (v3 : Value), Grew w2 v2 w3 v3 → w3.cell? ⟨w.heap.size, 5, none⟩ = some (.string value) := fun w3 v3 h => (h.cell l2 hne2).trans hx5
    have hc2 : ∀ (w3 : World) (v3 : Value), RowB n w3 v3 (L2 ++ [0].flatMap sev) → Grew w2 v2 w3 v3 → Calls Tryd.prog 51 #[v3, .string value] w3 (AppPost n v2 R w2) := fun w3 v3 h1 h2 => by
      have hl0 : ([0].flatMap sev).length = 1 := by simp [sev_small]
      refine (text_any n v3 (L2 ++ [0].flatMap sev) value w3 h1 (Nat.le_trans hn2 h2.1.size) (by rw [List.length_append, hl0]; omega)).mono ?_
      rintro e w4 ⟨v4, rfl, h3, h4⟩
      exact ⟨v4, rfl, by rw [E.out, ← List.append_assoc]; exact h3, h2.trans h4⟩
    go_wp2_with fail
    clear x2 T2
    go_region_held3 (fun w' => w'.cell? ⟨w.heap.size, 5, none⟩ = some (.string value)) (first | assumption | exact hk3 _ _ (by assumption) | go_keep) (first | (go_at_call 29; refine hc1.mono ?_; rintro e w3 ⟨v3, rfl, hR3, hG3⟩) | (go_at_call 51; refine (hc2 _ _ (by assumption) (by assumption)).mono ?_; rintro e w4 ⟨v4, rfl, hR4, hG4⟩))
    go_wp2
    go_ret
    exact ⟨_, rfl, hR4, hGw2.trans hG4⟩
  · rw [if_pos rfl] at E
    go_wp2_with fail
    refine (nums_new n v2 L2 [1, page, at_] _ 3 w2 rfl rfl (Or.inl hR2) (by omega) hn2 (by simp; omega) (by omega)).mono ?_
    rintro e w3 ⟨v3, rfl, hR3, hG3⟩
    go_wp2_with fail
    go_ret
    exact ⟨_, rfl, by rw [E.out]; exact hR3, hGw2.trans hG3⟩
end Go.Proofs.YtmjakimpmccedaaDoor
