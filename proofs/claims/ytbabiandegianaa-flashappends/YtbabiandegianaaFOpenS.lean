/- A flash that came in, opened with its sizes: what the reach says of the data holds of its pages and of their bytes. -/
import Derived.Test.YtbabiandegianaaFOpen
import Derived.SizedLaws
namespace Go.Proofs.Ytbabiandegianaa
open Go.ChangeShapes Go.WideShapes Go.ChangeAt Go.RowKit
set_option linter.unusedVariables false

theorem bytesByte : Try.prog.bytesOf 5 = 1 := by kernel_rfl
theorem bytesPage : Try.prog.bytesOf 40 = 32 := by kernel_rfl

/-- Bytes that came in, and their size. -/
theorem size_bytes {H : Type} {enc : TypeId × Value → H} {W : World} {n : Nat} {c : Value} {y : DataW H × List MemPlace} {a : Option Addr} {len cap : Nat}
    (h : DataW.trod enc Try.prog W 0 (fun _ => true) true n 38 [c] = some y) (hc : c = .slice a len cap) (B : Nat) (hB : ∀ k ∈ y.1.weights Try.prog 38, k ≤ B) : len ≤ B := by
  rcases open_ints Try.underlying38 Try.underlying5 cellsByte h with ⟨hcs, _⟩ | ⟨a, len', cap, xs, hcs, _, hl, hm, hz, hy, _, _⟩
  · simp at hcs
    rw [hcs] at hc
    cases hc
    exact Nat.zero_le _
  · simp at hcs hz
    rw [hcs] at hc
    cases hc
    have := hB (((lits .u8 (xs.take len) : List (DataW H)).length + (lits .u8 (xs.drop len) : List (DataW H)).length) * Try.prog.bytesOf 5) (by rw [hy]; simp [DataW.weights, Try.underlying38])
    rw [bytesByte] at this
    simp [lits] at this
    omega

theorem weightsAll_mem {H : Type} {P : Program} {e : TypeId} {d : DataW H} {k : Nat} : ∀ {l : List (DataW H)}, d ∈ l → k ∈ d.weights P e → k ∈ DataW.weightsAll P e l
  | [], h, _ => by cases h
  | d0 :: r, h, hk => by
    simp only [DataW.weightsAll, List.mem_append]
    rcases List.mem_cons.1 h with rfl | h
    · exact Or.inl hk
    · exact Or.inr (weightsAll_mem h hk)

theorem size_pages {H : Type} {enc : TypeId × Value → H} {W : World} {n : Nat} {y : DataW H × List MemPlace} {a : Option Addr} {ps : List PageR} {cap : Nat}
    (h : DataW.trod enc Try.prog W 0 (fun _ => true) true n 22 [.slice a ps.length cap] = some y) (hP : PagesAt W a ps) (B : Nat) (hB : ∀ k ∈ y.1.weights Try.prog 22, k ≤ B) :
    ps.length * 32 ≤ B ∧ ∀ j, j < ps.length → (ps.getD j default).bs.length ≤ B := by
  rcases Go.Deep.open_slice_pairs Try.underlying22 Try.underlying40 cellsPage rfl rfl cellsInt cellsBytes h with ⟨hcs, _⟩ | ⟨a', len, cap', m, n', V0, V1, D0, D1, P0, P1, hcs, _, hl, hm, hmm, hy, hall⟩
  · simp at hcs
    have : ps.length = 0 := by simp [hcs.2.1]
    exact ⟨by omega, fun j hj => by omega⟩
  · simp at hcs hmm
    obtain ⟨rfl, rfl, rfl⟩ := hcs
    have hw := hB
    rw [hy] at hw
    constructor
    · have := hw ((((List.range ps.length).map fun i => (DataW.agg [D0 i, D1 i] : DataW H)).length + ((List.range (m - ps.length)).map fun j => (DataW.agg [D0 (ps.length + j), D1 (ps.length + j)] : DataW H)).length) * Try.prog.bytesOf 40) (by simp [DataW.weights, Try.underlying22])
      rw [bytesPage] at this
      simp at this
      omega
    · intro j hj
      obtain ⟨_, h2, _, h4⟩ := hall j (by omega)
      rcases hP.2 with hz | ⟨b, o, ha, hb, hc⟩
      · omega
      obtain ⟨aa, cc, _, g2, _⟩ := hc j hj
      cases ha
      rw [add_plain] at h2
      have hv : V1 j = .slice aa (ps.getD j default).bs.length cc := by
        have h2' : W.cell? ⟨b, o + j * 2 + 1, none⟩ = some (V1 j) := by rw [Nat.add_assoc]; exact h2
        rw [g2] at h2'
        exact (Option.some.inj h2').symm
      refine size_bytes h4 hv B fun k hk => hw k ?_
      have hk2 : k ∈ (DataW.agg [D0 j, D1 j] : DataW H).weights Try.prog 40 := by
        simp only [DataW.weights, Try.underlying40]
        exact DataW.weights_mem_each (j := 1) rfl rfl k hk
      simp only [DataW.weights, Try.underlying22, List.mem_cons, List.mem_append]
      exact Or.inr (Or.inl (weightsAll_mem (List.mem_map.2 ⟨j, List.mem_range.2 hj, rfl⟩) hk2))

theorem size_flash {H : Type} {enc : TypeId × Value → H} {W : World} {m x : Int} {a : Option Addr} {ps : List PageR} {c : Nat} {d : DataW H} {p : List MemPlace}
    (h : DataW.Trod enc Try.prog W 0 (fun _ => true) true 24 (.agg #[.int .i64 m, .int .i64 x, .slice a ps.length c]) d p) (hP : PagesAt W a ps) (B : Nat) (hB : ∀ k ∈ d.weights Try.prog 24, k ≤ B) :
    ps.length * 32 ≤ B ∧ ∀ j, j < ps.length → (ps.getD j default).bs.length ≤ B := by
  obtain ⟨fuel, hf⟩ := h
  obtain ⟨xs, n, _, hd, hl, hlen, hx⟩ := DataW.trod_struct Try.underlying24 hf
  have hlen' : xs.length = 3 := hlen
  have h2 := fieldAt hx 2 _ rfl (.slice a ps.length c) rfl cellsPages (by omega)
  refine size_pages h2 hP B fun k hk => hB k ?_
  have hd1 : d = .agg (xs.map (·.1)) := congrArg Prod.fst hd
  rw [hd1]
  simp only [DataW.weights, Try.underlying24]
  exact DataW.weights_mem_each (j := 2) rfl (by rw [List.getElem?_map, List.getElem?_eq_getElem (by omega)]; rfl) k hk
end Go.Proofs.Ytbabiandegianaa
