/- The contracts of snap.seal and dovecoteref.SealOf. -/
import Derived.Test.YtogpkbhjobhodaaDoorSnapR
namespace Go.Proofs.YtogpkbhjobhodaaDoor
open Go.ChangeShapes Go.WideShapes Go.ChangeAt Go.RowKit
set_option linter.unusedVariables false
set_option linter.unusedSimpArgs false

def mark3 : List UInt8 := [100, 99, 49]
def sealF (l : List UInt8) : Int × Int := l.foldl (fun p c => ((p.1 + (c.toNat : Int)) % 65521, (p.2 + (p.1 + (c.toNat : Int)) % 65521) % 65521)) (1, 0)
def sealB (l : List UInt8) : List UInt8 := [UInt8.ofNat ((sealF l).2 / 256).toNat, UInt8.ofNat ((sealF l).2 % 256).toNat, UInt8.ofNat ((sealF l).1 / 256).toNat, UInt8.ofNat ((sealF l).1 % 256).toNat]

theorem sealF_take (l : List UInt8) (k : Nat) (hk : k < l.length) : sealF (l.take (k + 1)) = (((sealF (l.take k)).1 + ((l.getD k 0).toNat : Int)) % 65521, ((sealF (l.take k)).2 + ((sealF (l.take k)).1 + ((l.getD k 0).toNat : Int)) % 65521) % 65521) := by
  have h : l.take (k + 1) = l.take k ++ [l.getD k 0] := by
    rw [List.take_add_one, List.getElem?_eq_getElem hk, List.getD_eq_getElem?_getD, List.getElem?_eq_getElem hk]
    rfl
  rw [h]
  unfold sealF
  rw [List.foldl_append]
  rfl

theorem sealF_range (l : List UInt8) : ∀ k, k ≤ l.length → (0 ≤ (sealF (l.take k)).1 ∧ (sealF (l.take k)).1 < 65521) ∧ (0 ≤ (sealF (l.take k)).2 ∧ (sealF (l.take k)).2 < 65521)
  | 0, _ => by simp [sealF]
  | k + 1, h => by
    rw [sealF_take l k (by omega)]
    exact ⟨⟨Int.emod_nonneg _ (by decide), Int.emod_lt_of_pos _ (by decide)⟩, Int.emod_nonneg _ (by decide), Int.emod_lt_of_pos _ (by decide)⟩

theorem byte_cell (x : Int) (h0 : 0 ≤ x) (h1 : x < 256) : ((UInt8.ofNat x.toNat).toNat : Int) = x := by
  have : (UInt8.ofNat x.toNat).toNat = x.toNat := by simp; omega
  omega

theorem RowB.bytes {n : Nat} {w : World} {v : Value} {l : List UInt8} (h : RowB n w v l) (hm : l.length ≤ maxLen) : ∃ a c, v = .slice a l.length c ∧ BytesAt w a l := by
  rcases h.2 with ⟨hv, h0⟩ | ⟨g, cap, cur, hv, hbg, hg, hnc, hcm, hcs, htake⟩
  · exact ⟨none, 0, by rw [hv, h0], hm, Or.inl h0⟩
  · refine ⟨some ⟨g, 0, none⟩, cap, hv, hm, Or.inr ⟨g, 0, rfl, ((h.lt g (by rw [hv]; rfl)).2), fun j hj => ?_⟩⟩
    have hc := World.ownsRow.cells h (g := g) (by rw [hv]; rfl) j (.int .u8 ((l.getD j 0).toNat : Int)) (by
      unfold cellsOf
      rw [List.getElem?_map, List.getElem?_eq_getElem hj, List.getD_eq_getElem?_getD, List.getElem?_eq_getElem hj]
      rfl)
    have hadd : (⟨g, 0, none⟩ : Addr).add j = ⟨g, 0 + j, none⟩ := by unfold Addr.add; split <;> simp_all
    rw [hadd] at hc
    exact hc

theorem seal_cells (l : List UInt8) (x y : Int) (hx : (sealF l).1 = x) (hy : (sealF l).2 = y) (x0 : 0 ≤ x) (x1 : x < 65521) (y0 : 0 ≤ y) (y1 : y < 65521) : (#[Value.int .u8 (y / 256), .int .u8 (y % 256), .int .u8 (x / 256), .int .u8 (x % 256)] : Array Value).toList = cellsOf (sealB l) := by
  unfold cellsOf sealB
  rw [hx, hy]
  simp only [List.map_cons, List.map_nil]
  rw [byte_cell (y / 256) (by omega) (by omega), byte_cell (y % 256) (by omega) (by omega), byte_cell (x / 256) (by omega) (by omega), byte_cell (x % 256) (by omega) (by omega)]

theorem seal_len (l : List UInt8) : (sealB l).length = 4 := rfl

set_option maxHeartbeats 1000000 in
theorem seal_any (l : List UInt8) (a : Option Addr) (c : Nat) (w : World) (hA : BytesAt w a l) :
    Calls Tryd.prog 18 #[.slice a l.length c] w (NewPost (sealB l) w) := by
  obtain ⟨hmax, hm⟩ := hA
  unfold maxLen at hmax
  have hr := sealF_range l
  go_enter Tryd.func18, Tryd.ntmps18
  go_wp2_with fail
  go_loopw [3, 4, 9] (fun x y i wr => ∃ k : Nat, k ≤ l.length ∧ x = .int .i64 (sealF (l.take k)).1 ∧ y = .int .i64 (sealF (l.take k)).2 ∧ i = .int .i64 k ∧ wr = w) (fun _ _ i _ => l.length - (intOf i).toNat)
  case atStart => exact ⟨0, Nat.zero_le _, rfl, rfl, rfl, rfl⟩
  case round =>
    obtain ⟨k, hk, rfl, rfl, rfl, rfl⟩ := hrel
    obtain ⟨⟨x0, x1⟩, y0, y1⟩ := hr k hk
    clear hr
    by_cases hlt : k < l.length
    · have hltz : (k : Int) < (l.length : Int) := by omega
      have hk0 : (0 : Int) ≤ (k : Int) := Int.natCast_nonneg _
      rcases hm with hm | ⟨b, o, rfl, hl, hc⟩
      · omega
      have e1 := hc k hlt
      clear hc
      have hT : Hid _ := sealF_take l k hlt
      have hbd := (l.getD k 0).toNat_lt
      generalize (l.getD k 0).toNat = z at *
      generalize (sealF (l.take k)).1 = X at *
      generalize (sealF (l.take k)).2 = Y at *
      have hrem : (X + (z : Int)).tmod 65521 = (X + (z : Int)) % 65521 := Int.tmod_eq_emod_of_nonneg (by omega)
      have hrem2 : (Y + (X + (z : Int)) % 65521).tmod 65521 = (Y + (X + (z : Int)) % 65521) % 65521 := Int.tmod_eq_emod_of_nonneg (by omega)
      go_wp2
      refine ⟨⟨k + 1, by omega, by rw [hT.out], by rw [hT.out]; simp only; congr 1; omega, by simp, trivial⟩, by simp [intOf]; omega⟩
    · have hltz : ¬ (k : Int) < (l.length : Int) := by omega
      have hkl : k = l.length := by omega
      subst hkl
      rw [List.take_length] at *
      have hcs := seal_cells l _ _ rfl rfl x0 x1 y0 y1
      have hrow := row_new wr (sealB l) _ 4 rfl (by unfold maxLen; omega) hcs
      clear hcs
      generalize (sealF l).1 = X at *
      generalize (sealF l).2 = Y at *
      go_wp2_with fail
      go_ret
      exact ⟨_, rfl, hrow, (Below.refl _ _).alloc (Nat.le_refl _) _⟩
set_option maxHeartbeats 1000000 in
theorem sealOf_any (l : List UInt8) (a : Option Addr) (c : Nat) (w : World) (hA : BytesAt w a l) :
    Calls Tryd.prog 10 #[.slice a l.length c] w (NewPost (sealB l) w) := by
  obtain ⟨hmax, hm⟩ := hA
  unfold maxLen at hmax
  have hr := sealF_range l
  go_enter Tryd.func10, Tryd.ntmps10
  go_wp2_with fail
  go_loopw [3, 4, 5] (fun x y i wr => ∃ k : Nat, k ≤ l.length ∧ x = .int .i64 (sealF (l.take k)).1 ∧ y = .int .i64 (sealF (l.take k)).2 ∧ i = .int .i64 k ∧ wr = w) (fun _ _ i _ => l.length - (intOf i).toNat)
  case atStart => exact ⟨0, Nat.zero_le _, rfl, rfl, rfl, rfl⟩
  case round =>
    obtain ⟨k, hk, rfl, rfl, rfl, rfl⟩ := hrel
    obtain ⟨⟨x0, x1⟩, y0, y1⟩ := hr k hk
    clear hr
    by_cases hlt : k < l.length
    · have hltz : (k : Int) < (l.length : Int) := by omega
      have hk0 : (0 : Int) ≤ (k : Int) := Int.natCast_nonneg _
      rcases hm with hm | ⟨b, o, rfl, hl, hc⟩
      · omega
      have e1 := hc k hlt
      clear hc
      have hT : Hid _ := sealF_take l k hlt
      have hbd := (l.getD k 0).toNat_lt
      generalize (l.getD k 0).toNat = z at *
      generalize (sealF (l.take k)).1 = X at *
      generalize (sealF (l.take k)).2 = Y at *
      have hrem : (X + (z : Int)).tmod 65521 = (X + (z : Int)) % 65521 := Int.tmod_eq_emod_of_nonneg (by omega)
      have hrem2 : ((X + (z : Int)) % 65521 + Y).tmod 65521 = ((X + (z : Int)) % 65521 + Y) % 65521 := Int.tmod_eq_emod_of_nonneg (by omega)
      go_wp2
      refine ⟨⟨k + 1, by omega, by rw [hT.out], by rw [hT.out]; simp only; congr 1; omega, by simp, trivial⟩, by simp [intOf]; omega⟩
    · have hltz : ¬ (k : Int) < (l.length : Int) := by omega
      have hkl : k = l.length := by omega
      subst hkl
      rw [List.take_length] at *
      have hcs := seal_cells l _ _ rfl rfl x0 x1 y0 y1
      have hrow := row_new wr (sealB l) _ 4 rfl (by unfold maxLen; omega) hcs
      clear hcs
      generalize (sealF l).1 = X at *
      generalize (sealF l).2 = Y at *
      go_wp2_with fail
      go_ret
      exact ⟨_, rfl, hrow, (Below.refl _ _).alloc (Nat.le_refl _) _⟩
end Go.Proofs.YtogpkbhjobhodaaDoor
