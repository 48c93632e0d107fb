/- The contract of snap.appendNumbers. -/
import Derived.Test.YtmjakimpmccedaaDoorSnapB
namespace Go.Proofs.YtmjakimpmccedaaDoor
open Go.ChangeShapes Go.WideShapes Go.ChangeAt Go.RowKit
set_option linter.unusedVariables false
set_option linter.unusedSimpArgs false

theorem take_len (ns : List Nat) (hs : ∀ m ∈ ns, m < 9223372036854775808) (k : Nat) : ((ns.take k).flatMap sev).length ≤ ns.length * 9 := by
  induction ns generalizing k with
  | nil => simp
  | cons x r ih =>
    cases k with
    | zero => simp
    | succ k =>
      have h1 := ih (fun m hm => hs m (List.mem_cons_of_mem _ hm)) k
      have h2 := sev_len 8 x (by have := hs x (List.mem_cons_self ..); omega)
      simp only [List.take_succ_cons, List.flatMap_cons, List.length_append, List.length_cons]
      omega

def AppPost (n : Nat) (v : Value) (l : List UInt8) (w : World) (e : Ending) (w' : World) : Prop := ∃ v', e = .returned v' ∧ RowB n w' v' l ∧ Grew w v w' v'

set_option maxHeartbeats 2000000 in
set_option maxRecDepth 100000 in
theorem nums_any (n : Nat) (v : Value) (l : List UInt8) (ns : List Nat) (a : Option Addr) (c : Nat) (w : World) (hR : RowC n w v l) (hpos : 0 < ns.length) (hn : n ≤ w.heap.size) (hI : IntsAt w a ns) (hne : ∀ x : Addr, a = some x → v.ownBlock ≠ some x.block) (hs : ∀ m ∈ ns, m < 9223372036854775808) (hz : l.length + ns.length * 9 ≤ 140737488350000) :
    Calls Tryd.prog 29 #[v, .slice a ns.length c] w (AppPost n v (l ++ ns.flatMap sev) w) := by
  obtain ⟨hmax, hmm⟩ := hI
  unfold maxLen at hmax
  go_enter Tryd.func29, Tryd.ntmps29
  go_wp2_with fail
  go_loopw [0, 9] (fun u i wr => ∃ (k : Nat) (uo : Value), k ≤ ns.length ∧ uo = u ∧ i = .int .i64 k ∧ RowC n wr uo (l ++ (ns.take k).flatMap sev) ∧ (0 < k → RowB n wr uo (l ++ (ns.take k).flatMap sev)) ∧ Grew w v wr uo) (fun _ i _ => ns.length - (intOf i).toNat)
  case atStart => exact ⟨0, _, Nat.zero_le _, rfl, rfl, by simpa using hR, fun h => absurd h (Nat.lt_irrefl _), Grew.refl _ _⟩
  case round =>
    obtain ⟨k, uo, hk, rfl, rfl, hRk, hRp, hG⟩ := hrel
    by_cases hlt : k < ns.length
    · have hltz : (k : Int) < (ns.length : Int) := by omega
      have hk0 : (0 : Int) ≤ (k : Int) := Int.natCast_nonneg _
      rcases hmm with hmm | ⟨b, o, rfl, hbl, hc⟩
      · omega
      have hck := hc k hlt
      rw [← hG.cell hbl (hne _ rfl)] at hck
      have hge : ns.getD k 0 = ns[k] := by rw [List.getD_eq_getElem?_getD, List.getElem?_eq_getElem hlt]; rfl
      have hM : ns.getD k 0 < 9223372036854775808 := by rw [hge]; exact hs _ (List.getElem_mem hlt)
      have htk : (ns.take (k + 1)).flatMap sev = (ns.take k).flatMap sev ++ sev (ns.getD k 0) := by
        rw [hge, ← List.take_append_getElem hlt, List.flatMap_append]
        simp
      have hlen := take_len ns hs (k + 1)
      rw [htk, List.length_append] at hlen
      have hws : n ≤ wr.heap.size := Nat.le_trans hn hG.1.size
      have htk2 : l ++ (ns.take (k + 1)).flatMap sev = l ++ (ns.take k).flatMap sev ++ sev (ns.getD k 0) := by rw [htk, List.append_assoc]
      clear hge
      generalize ns.getD k 0 = M at *
      have hL : (l ++ (ns.take k).flatMap sev).length + (sev M).length ≤ 140737488350000 := by rw [List.length_append]; omega
      clear hRp
      generalize l ++ (ns.take k).flatMap sev = L at *
      clear hc hlen htk
      obtain ⟨wo, hwo⟩ : ∃ x, x = wr := ⟨_, rfl⟩
      subst hwo
      go_wp2_with fail
      go_loopw [0, 6] (fun u t wi => ∃ (m : Nat) (bs : List UInt8) (ui : Value), ui = u ∧ t = .int .i64 m ∧ m ≤ M ∧ sev M = bs ++ sev m ∧ RowC n wi ui (L ++ bs) ∧ Grew wo uo wi ui) (fun _ t _ => (intOf t).toNat)
      case atStart => exact ⟨M, [], uo, rfl, rfl, Nat.le_refl _, rfl, by simpa using hRk, Grew.refl _ _⟩
      case round =>
        obtain ⟨m, bs, ui, rfl, rfl, hmM, hse, hRi, hGi⟩ := hrel
        have hws2 : n ≤ wr.heap.size := Nat.le_trans hws hGi.1.size
        have hLb : (L ++ bs).length + (sev m).length ≤ 140737488350000 := by
          have := congrArg List.length hse
          rw [List.length_append] at this ⊢
          omega
        by_cases hm : m < 128
        · have hmz : ¬ (128 : Int) ≤ (m : Int) := by omega
          rw [sev_small hm] at hLb hse
          have ey : (m : Int) = ((UInt8.ofNat m).toNat : Int) := by
            have : (UInt8.ofNat m).toNat = m := by simp; omega
            omega
          have hA : Below wr.heap.size wr (wr.alloc (.cells #[.int .u8 (m : Int)] 5)) := (Below.refl _ _).alloc (Nat.le_refl _) _
          have hRa := hRi.below hA
          have hGa := hGi.trans (Grew.of_below ui hA)
          have hB1 : (wr.alloc (.cells #[.int .u8 (m : Int)] 5)).heap[wr.heap.size]? = some (.cells #[.int .u8 ((UInt8.ofNat m).toNat : Int)] 5 (0, 0)) := by rw [← ey]; exact heap_alloc_new wr _
          have hna : n ≤ (wr.alloc (.cells #[.int .u8 (m : Int)] 5)).heap.size := Nat.le_trans hws2 hA.size
          simp only [List.length_cons, List.length_nil] at hLb
          clear ey
          go_wp2_with (first | (at_builtin; refine append_byte _ rfl (.tmp 24) (.tmp 27) rfl n ui (L ++ bs) rfl hRa (UInt8.ofNat m) wr.heap.size rfl hB1 hna (by omega) ?_; intro g cap w2 hR2 hG2; rw [List.length_append] at hR2 hG2))
          exact ⟨⟨k + 1, _, hlt, rfl, by simp, by rw [htk2, hse, ← List.append_assoc]; exact Or.inl hR2, fun _ => by rw [htk2, hse, ← List.append_assoc]; exact hR2, hG.trans (hGa.trans hG2)⟩, by simp [intOf]; omega⟩
        · have hmz : (128 : Int) ≤ (m : Int) := by omega
          rw [sev_more hm] at hLb hse
          have ey : (m : Int) % 128 + 128 = ((UInt8.ofNat (m % 128 + 128)).toNat : Int) := by
            have : (UInt8.ofNat (m % 128 + 128)).toNat = m % 128 + 128 := by simp; omega
            omega
          have hA : Below wr.heap.size wr (wr.alloc (.cells #[.int .u8 ((m : Int) % 128 + 128)] 5)) := (Below.refl _ _).alloc (Nat.le_refl _) _
          have hRa := hRi.below hA
          have hGa := hGi.trans (Grew.of_below ui hA)
          have hB1 : (wr.alloc (.cells #[.int .u8 ((m : Int) % 128 + 128)] 5)).heap[wr.heap.size]? = some (.cells #[.int .u8 ((UInt8.ofNat (m % 128 + 128)).toNat : Int)] 5 (0, 0)) := by rw [← ey]; exact heap_alloc_new wr _
          have hna : n ≤ (wr.alloc (.cells #[.int .u8 ((m : Int) % 128 + 128)] 5)).heap.size := Nat.le_trans hws2 hA.size
          simp only [List.length_cons] at hLb
          clear ey
          go_wp2_with (first | (at_builtin; refine append_byte _ rfl (.tmp 15) (.tmp 20) rfl n ui (L ++ bs) rfl hRa (UInt8.ofNat (m % 128 + 128)) wr.heap.size rfl hB1 hna (by omega) ?_; intro g cap w2 hR2 hG2; rw [List.length_append] at hR2 hG2))
          go_roundw
          case rel => exact ⟨m / 128, bs ++ [UInt8.ofNat (m % 128 + 128)], _, rfl, by simp, by omega, by rw [hse]; simp, by rw [← List.append_assoc]; exact Or.inl hR2, hGa.trans hG2⟩
          case measure => simp [intOf]; omega
    · have hltz : ¬ (k : Int) < (ns.length : Int) := by omega
      have hke : k = ns.length := by omega
      subst hke
      rw [List.take_length] at hRk hRp
      go_wp2
      go_ret
      exact ⟨_, rfl, hRp hpos, hG⟩
end Go.Proofs.YtmjakimpmccedaaDoor
