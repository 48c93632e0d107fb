/- The contract of snap.appendText. -/
import Derived.Test.YtmjakimpmccedaaDoorSnapS
namespace Go.Proofs.YtmjakimpmccedaaDoor
open Go.ChangeShapes Go.WideShapes Go.ChangeAt Go.RowKit
set_option linter.unusedVariables false
set_option linter.unusedSimpArgs false

/-- The bytes of a text: how many there are, and these. -/
def txt (l : List UInt8) : List UInt8 := sev l.length ++ l

theorem ints_new (W : World) (ns : List Nat) (cs : Array Value) (hcs : cs.toList = ns.map fun m : Nat => Value.int .i64 (m : Int)) (hm : ns.length ≤ maxLen) : IntsAt (W.alloc (.cells cs 3)) (some ⟨W.heap.size, 0, none⟩) ns := by
  refine ⟨hm, Or.inr ⟨W.heap.size, 0, rfl, by simp, fun j hj => ?_⟩⟩
  have h1 : (W.alloc (.cells cs 3)).cell? ⟨W.heap.size, j, none⟩ = cs[j]? := by simp [go_sem]
  rw [Nat.zero_add, h1, ← Array.getElem?_toList, hcs, List.getElem?_map, List.getElem?_eq_getElem hj, List.getD_eq_getElem?_getD, List.getElem?_eq_getElem hj]
  rfl

theorem RowB.ne_new {n : Nat} {w : World} {v : Value} {l : List UInt8} (h : RowB n w v l) : v.ownBlock ≠ some w.heap.size := RowC.ne_new (Or.inl h)

/-- 'appendNumbers(b, x, ..)' of numbers that were laid just now. -/
theorem nums_new (n : Nat) (v : Value) (l : List UInt8) (ns : List Nat) (cs : Array Value) (k : Nat) (W : World) (hcs : cs.toList = ns.map fun m : Nat => Value.int .i64 (m : Int)) (hk : ns.length = k) (hR : RowC n W v l) (hpos : 0 < k) (hn : n ≤ W.heap.size) (hs : ∀ m ∈ ns, m < 9223372036854775808) (hz : l.length + k * 9 ≤ 140737488350000) :
    Calls Tryd.prog 29 #[v, .slice (some ⟨W.heap.size, 0, none⟩) k k] (W.alloc (.cells cs 3)) (AppPost n v (l ++ ns.flatMap sev) W) := by
  subst hk
  have hA : Below W.heap.size W (W.alloc (.cells cs 3)) := (Below.refl _ _).alloc (Nat.le_refl _) _
  refine (nums_any n v l ns _ _ _ (hR.below hA) hpos (Nat.le_trans hn hA.size) (ints_new W ns cs hcs (by unfold maxLen; omega)) (fun x hx => ?_) hs hz).mono ?_
  · cases hx; exact hR.ne_new
  · rintro e w' ⟨v', rfl, h1, h2⟩
    exact ⟨v', rfl, h1, (Grew.of_below v hA).trans h2⟩

theorem nums_at (H : Nat) (n : Nat) (v : Value) (l : List UInt8) (ns : List Nat) (cs : Array Value) (k : Nat) (W : World) (hH : W.heap.size = H) (hcs : cs.toList = ns.map fun m : Nat => Value.int .i64 (m : Int)) (hk : ns.length = k) (hR : RowC n W v l) (hpos : 0 < k) (hn : n ≤ W.heap.size) (hs : ∀ m ∈ ns, m < 9223372036854775808) (hz : l.length + k * 9 ≤ 140737488350000) :
    Calls Tryd.prog 29 #[v, .slice (some ⟨H, 0, none⟩) k k] (W.alloc (.cells cs 3)) (AppPost n v (l ++ ns.flatMap sev) W) := by
  subst hH
  exact nums_new n v l ns cs k W hcs hk hR hpos hn hs hz

set_option maxHeartbeats 400000 in
theorem text_any (n : Nat) (v : Value) (l : List UInt8) (s : ByteArray) (w : World) (hR : RowB n w v l) (hn : n ≤ w.heap.size) (hz : l.length + s.size + 9 ≤ 140737488350000) :
    Calls Tryd.prog 51 #[v, .string s] w (AppPost n v (l ++ txt s.data.toList) w) := by
  have hl9 : (sev s.size).length ≤ 9 := sev_len 8 s.size (by omega)
  go_enter Tryd.func51, Tryd.ntmps51
  go_wp2_with fail
  refine (nums_new n v l [s.size] _ 1 w rfl rfl (Or.inl hR) (by omega) hn (by simp; omega) (by omega)).mono ?_
  rintro e w1 ⟨v1, rfl, hR1, hG1⟩
  have hn1 : n ≤ w1.heap.size := Nat.le_trans hn hG1.1.size
  go_wp2_with (at_builtin; refine append_str _ rfl (.tmp 9) (.tmp 10) rfl n v1 (l ++ [s.size].flatMap sev) rfl hR1 s rfl hn1 (by simp; omega) ?_; intro v2 w2 hR2 hG2)
  go_ret
  refine ⟨_, rfl, ?_, hG1.trans hG2⟩
  unfold txt
  rw [str_len]
  simpa using hR2
end Go.Proofs.YtmjakimpmccedaaDoor
