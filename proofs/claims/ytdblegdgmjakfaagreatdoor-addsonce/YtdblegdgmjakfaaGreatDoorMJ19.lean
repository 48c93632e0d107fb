/- Parts of the proof. -/
import Derived.Test.YtdblegdgmjakfaaGreatDoorMJ18
import Derived.Test.YtdblegdgmjakfaaGreatDoorMJ07
import Derived.Test.YtdblegdgmjakfaaGreatDoorMJ08
import Derived.Test.YtdblegdgmjakfaaGreatDoorMJ15
import Derived.Test.YtdblegdgmjakfaaGreatDoorMJ13
import Derived.Deep.RegionHeld3
import Derived.Deep.AppendLies
import Derived.Deep.Onto
import Derived.Test.YtdblegdgmjakfaaGreatDoorRows
import Derived.WalkKit
import Derived.ProofKit
import Derived.Below
import Derived.Lib.ConvBytes
import Derived.Deep.DeepCutAuto
import Derived.Lib.ItoaNum
import Derived.Laws.IdiomStrings
namespace Go.Proofs.YtdblegdgmjakfaaGreatDoor
open Go.ChangeShapes Go.WideShapes Go.ChangeAt Go.RowKit

/- Contracts of the small functions of a kind that wire.Check and dovecoteref.RequestFault call: each answers what its plain function says, at every number. -/


def outB (n m : Int) : Bool := decide (n < 0) || decide (m < n)
def hasNB (k : Int) : Bool := decide (k = 7) || decide (k = 9) || decide (k = 10)
def mayQuietB (k : Int) : Bool := !(decide (k = 1)) && !(decide (k = 13))
def hasExpB (k : Int) : Bool := inB k 2 7 || decide (k = 11)

theorem outside_any (n m : Int) (w : World) :
 Calls Tryz.prog 78 #[.int .i64 n, .int .i64 m] w fun e w' => e = .returned (.bool (outB n m)) ∧ w' = w := by
 by_cases h1 : n < 0 <;> by_cases h2 : m < n <;> (go_enter Tryz.func78, Tryz.ntmps78; go_wp2; go_ret; exact ⟨ret_bool (by unfold outB; simp; omega), rfl⟩)

theorem hasKey_any (k : Int) (w : World) :
 Calls Tryz.prog 96 #[.int .i64 k] w fun e w' => e = .returned (.bool (inB k 2 11)) ∧ w' = w := by
 by_cases h1 : 2 ≤ k <;> by_cases h2 : k ≤ 11 <;> (go_enter Tryz.func96, Tryz.ntmps96; go_wp2; go_ret; exact ⟨ret_bool (by unfold inB; simp; omega), rfl⟩)

theorem bringsV_any (k : Int) (w : World) :
 Calls Tryz.prog 64 #[.int .i64 k] w fun e w' => e = .returned (.bool (inB k 2 7)) ∧ w' = w := by
 by_cases h1 : 2 ≤ k <;> by_cases h2 : k ≤ 7 <;> (go_enter Tryz.func64, Tryz.ntmps64; go_wp2; go_ret; exact ⟨ret_bool (by unfold inB; simp; omega), rfl⟩)

theorem hasExp_any (k : Int) (w : World) :
 Calls Tryz.prog 108 #[.int .i64 k] w fun e w' => e = .returned (.bool (hasExpB k)) ∧ w' = w := by
 have hc := bringsV_any k
 cases hq : inB k 2 7
 · rw [hq] at hc
   have HQ : Hid (inB k 2 7 = false) := hq
   clear hq
   by_cases h : k = 11
   · have h' : (k == 11) = true := by simp [h]
     have H : Hid (k = 11) := h
     clear h
     go_enter Tryz.func108, Tryz.ntmps108
     go_wp2_with (go_at_call 64; refine (hc _).mono ?_; rintro e w' ⟨rfl, rfl⟩)
     go_ret
     exact ⟨ret_bool (by unfold hasExpB; rw [H.out]; rfl), rfl⟩
   · have h' : (k == 11) = false := by simp [h]
     have H : Hid (¬ k = 11) := h
     clear h
     go_enter Tryz.func108, Tryz.ntmps108
     go_wp2_with (go_at_call 64; refine (hc _).mono ?_; rintro e w' ⟨rfl, rfl⟩)
     go_ret
     exact ⟨ret_bool (by unfold hasExpB; rw [HQ.out]; simp [H.out]), rfl⟩
 · rw [hq] at hc
   have HQ : Hid (inB k 2 7 = true) := hq
   clear hq
   go_enter Tryz.func108, Tryz.ntmps108
   go_wp2_with (go_at_call 64; refine (hc _).mono ?_; rintro e w' ⟨rfl, rfl⟩)
   go_ret
   exact ⟨ret_bool (by unfold hasExpB; rw [HQ.out]; rfl), rfl⟩

theorem hasN_any (k : Int) (w : World) :
 Calls Tryz.prog 109 #[.int .i64 k] w fun e w' => e = .returned (.bool (hasNB k)) ∧ w' = w := by
 by_cases h1 : k = 7
 · subst h1
   go_enter Tryz.func109, Tryz.ntmps109
   go_wp2
   go_ret
   exact ⟨rfl, rfl⟩
 · by_cases h2 : k = 9
   · subst h2
     go_enter Tryz.func109, Tryz.ntmps109
     go_wp2
     go_ret
     exact ⟨rfl, rfl⟩
   · by_cases h3 : k = 10
     · subst h3
       go_enter Tryz.func109, Tryz.ntmps109
       go_wp2
       go_ret
       exact ⟨rfl, rfl⟩
     · have e1 : (k == 7) = false := by simp [h1]
       have e2 : (k == 9) = false := by simp [h2]
       have e3 : (k == 10) = false := by simp [h3]
       have H : Hid (hasNB k = false) := by unfold Hid hasNB; simp [h1, h2, h3]
       clear h1 h2 h3
       go_enter Tryz.func109, Tryz.ntmps109
       go_wp2
       go_ret
       exact ⟨ret_bool H.out.symm, rfl⟩

theorem mayQuiet_any (k : Int) (w : World) :
 Calls Tryz.prog 110 #[.int .i64 k] w fun e w' => e = .returned (.bool (mayQuietB k)) ∧ w' = w := by
 by_cases h1 : k = 1
 · subst h1
   go_enter Tryz.func110, Tryz.ntmps110
   go_wp2
   go_ret
   exact ⟨rfl, rfl⟩
 · by_cases h2 : k = 13
   · subst h2
     go_enter Tryz.func110, Tryz.ntmps110
     go_wp2
     go_ret
     exact ⟨rfl, rfl⟩
   · have e1 : (k != 1) = true := by simp [h1]
     have e2 : (k != 13) = true := by simp [h2]
     have H : Hid (mayQuietB k = true) := by unfold Hid mayQuietB; simp [h1, h2]
     clear h1 h2
     go_enter Tryz.func110, Tryz.ntmps110
     go_wp2
     go_ret
     exact ⟨ret_bool H.out.symm, rfl⟩

/- The contract of wire.keysFit: it answers what its plain function on the request's fields says, at every request whose Keys lie in memory. -/

/-- The texts 'l' lie in memory as the slice (a, n) says. -/
def StrsAt (w : World) (a : Option Addr) (n : Nat) (l : List ByteArray) : Prop :=
 l.length = n ∧ n ≤ maxLen ∧ (∀ s ∈ l, s.size ≤ maxLen) ∧ (n = 0 ∨ ∃ b off, a = some ⟨b, off, none⟩ ∧ b < w.heap.size ∧ ∀ j, j < n → w.cell? ⟨b, off + j, none⟩ = some (.string (l.getD j ByteArray.empty)))

theorem StrsAt.later {w w' : World} {a : Option Addr} {n : Nat} {l : List ByteArray} (h : StrsAt w a n l) (hb : Below w.heap.size w w') : StrsAt w' a n l := by
 obtain ⟨h1, h2, h3, h4⟩ := h
 refine ⟨h1, h2, h3, ?_⟩
 rcases h4 with h4 | ⟨b, off, ha, hlt, hc⟩
 · exact Or.inl h4
 · refine Or.inr ⟨b, off, ha, Nat.lt_of_lt_of_le hlt hb.size, fun j hj => ?_⟩
   rw [hb.cell (p := ⟨b, off + j, none⟩) hlt]
   exact hc j hj

def noKeyIn (l : List ByteArray) : Bool := l.any fun s => !(keyB s)

def keysFitB (kind : Int) (key : ByteArray) (keys : List ByteArray) : Bool :=
 if inB kind 2 11 = true then decide (keys.length = 0) && keyB key
 else if key.toList.isEmpty = false then false
 else if kind = 1 then inB keys.length 1 10 && !(noKeyIn keys)
 else decide (keys.length = 0)

theorem noKey_any (s : ByteArray) (w : World) (hs : s.size ≤ maxLen) :
 Calls Tryz.prog 107 #[.string s] w fun e w' => e = .returned (.bool (!(keyB s))) ∧ Below w.heap.size w w' := by
 go_enter Tryz.func107, Tryz.ntmps107
 go_wp2_with (go_at_call 68; refine (key_any _ _ hs).mono ?_; rintro e w' ⟨rfl, hb⟩)
 go_ret
 exact ⟨rfl, hb⟩

theorem mem_getD (l : List ByteArray) (j : Nat) (hj : j < l.length) : l.getD j ByteArray.empty ∈ l := by
 rw [List.getD_eq_getElem?_getD, List.getElem?_eq_getElem hj]
 simp

set_option maxHeartbeats 400000 in
theorem idxs_any (l : List ByteArray) (b off c : Nat) (w : World) (hn : l.length ≤ maxLen) (hl : ∀ s ∈ l, s.size ≤ maxLen) (hlt : b < w.heap.size) (hc : ∀ j, j < l.length → w.cell? ⟨b, off + j, none⟩ = some (.string (l.getD j ByteArray.empty))) :
 Calls Tryz.prog 129 #[.slice (some ⟨b, off, none⟩) l.length c, .func (.func 107) #[] #[]] w fun e w' => (∃ i : Int, e = .returned (.int .i64 i) ∧ decide (0 ≤ i) = noKeyIn l) ∧ Below w.heap.size w w' := by
 unfold maxLen at hn
 go_enter Tryz.func129, Tryz.ntmps129
 go_wp2
 go_loopw [5, 8] (fun _ i wr => ∃ k : Nat, k ≤ l.length ∧ i = .int .i64 k ∧ Hid (∀ j, j < k → keyB (l.getD j ByteArray.empty) = true) ∧ Below w.heap.size w wr) (fun _ i _ => l.length - (intOf i).toNat)
 case atStart => exact ⟨0, Nat.zero_le _, rfl, fun j hj => absurd hj (Nat.not_lt_zero _), Below.refl _ _⟩
 case round =>
  obtain ⟨k, hk, rfl, A, hb⟩ := hrel
  by_cases hlt2 : k < l.length
  · have hltz : (k : Int) < (l.length : Int) := by omega
    have hcell : wr.cell? ⟨b, off + k, none⟩ = some (.string (l.getD k ByteArray.empty)) := by
     rw [hb.cell (p := ⟨b, off + k, none⟩) hlt]
     exact hc k hlt2
    have hmem := mem_getD l k hlt2
    have hsz := hl _ hmem
    clear hc hl
    generalize hy : l.getD k ByteArray.empty = y at hcell hmem hsz
    have B : Hid (l.getD k ByteArray.empty = y) := hy
    clear hy
    have hcall := noKey_any y
    cases hq : keyB y with
    | false =>
     have C : Hid (noKeyIn l = true) := List.any_eq_true.2 ⟨y, hmem, by simp [hq]⟩
     rw [hq] at hcall
     clear hmem hq
     go_wp2_with (go_at_call 107; refine (hcall _ hsz).mono ?_; rintro e w' ⟨rfl, hb2⟩)
     go_ret
     exact ⟨⟨_, rfl, by rw [C.out]; simp⟩, hb.trans (hb2.mono hb.size)⟩
    | true =>
     rw [hq] at hcall
     have D : Hid (keyB y = true) := hq
     clear hmem hq
     go_wp2_with (go_at_call 107; refine (hcall _ hsz).mono ?_; rintro e w' ⟨rfl, hb2⟩)
     go_roundw
     case rel =>
      refine ⟨k + 1, by omega, by go_num, (show Hid _ from fun j hj => ?_), hb.trans (hb2.mono hb.size)⟩
      by_cases e : j = k
      · subst e
        rw [B.out]
        exact D.out
      · exact A.out j (by omega)
     case measure => simp [intOf]; omega
  · have hltz : ¬ (k : Int) < (l.length : Int) := by omega
    have hkk : k = l.length := by omega
    clear hc hl
    have C : Hid (noKeyIn l = false) := by
     refine List.any_eq_false.2 fun x hx => ?_
     obtain ⟨j, hj, rfl⟩ := List.mem_iff_getElem.1 hx
     have := A.out j (by omega)
     rw [List.getD_eq_getElem?_getD, List.getElem?_eq_getElem hj] at this
     simpa using this
    clear hkk
    go_wp2
    go_ret
    exact ⟨⟨_, rfl, by rw [C.out]; rfl⟩, hb⟩

theorem cons_any (l : List ByteArray) (b off c : Nat) (w : World) (hn : l.length ≤ maxLen) (hl : ∀ s ∈ l, s.size ≤ maxLen) (hlt : b < w.heap.size) (hc : ∀ j, j < l.length → w.cell? ⟨b, off + j, none⟩ = some (.string (l.getD j ByteArray.empty))) :
 Calls Tryz.prog 106 #[.slice (some ⟨b, off, none⟩) l.length c, .func (.func 107) #[] #[]] w fun e w' => e = .returned (.bool (noKeyIn l)) ∧ Below w.heap.size w w' := by
 have h := idxs_any l b off c w hn hl hlt hc
 clear hc hl
 go_enter Tryz.func106, Tryz.ntmps106
 go_wp2_with (go_at_call 129; refine h.mono ?_; rintro e w' ⟨⟨i, rfl, hi⟩, hb⟩)
 go_ret
 exact ⟨by first | rw [hi] | simp [← hi], hb⟩

end Go.Proofs.YtdblegdgmjakfaaGreatDoor

namespace Go.Proofs.YtdblegdgmjakfaaGreatDoor
open Go.ChangeShapes Go.WideShapes Go.ChangeAt Go.RowKit
set_option linter.unusedVariables false
set_option linter.unusedSimpArgs false

/- store.ask, store.valueOf, store.find. -/

/-- What an item's value is, wherever it lies. -/
def valN (ps : List PageR) (it : ItemR) : ByteArray := if it.far = true then findS ps it.page it.at_ else it.value

set_option maxHeartbeats 1000000 in
set_option maxRecDepth 100000 in
theorem valueOf_any (fm fx : Int) (ps : List PageR) (pa : Option Addr) (pc : Nat) (it : ItemR) (w : World) (hP : PagesAt w pa ps) (h1 : ∀ j, j < ps.length → 1 ≤ (ps.getD j default).bs.length) (hp0 : -9223372036854775808 ≤ it.at_) (hp1 : it.at_ ≤ 9223372036854775807) :
 Calls Tryz.prog 82 #[.agg #[.int .i64 fm, .int .i64 fx, .slice pa ps.length pc], .agg #[.string it.key, .int .i64 it.flags, .int .i64 it.until_, .int .i64 it.cas, .int .i64 it.used, .string it.value, .bool it.far, .int .i64 it.page, .int .i64 it.at_]] w fun e w' => e = .returned (.string (valN ps it)) ∧ Below w.heap.size w w' := by
 have hB0 : ∀ o1 o2, Below w.heap.size w ((w.alloc o1).alloc o2) := fun o1 o2 => ((Below.refl _ _).alloc (Nat.le_refl _) _).alloc (by simp) _
 have hf := fun w1 hb => farValue_any fm fx ps pa pc it.page it.at_ w1 (hP.later hb) h1 hp0 hp1
 have E : Hid (valN ps it = if it.far = true then findS ps it.page it.at_ else it.value) := rfl
 generalize valN ps it = V at *
 obtain ⟨key, flags, until_, cas, used, value, far, page, at_⟩ := it
 simp only at *
 cases far
 · have E2 : Hid (V = value) := E.out
   clear E
   go_enter Tryz.func82, Tryz.ntmps82
   go_wp2_with fail
   go_ret
   exact ⟨by rw [E2.out]; rfl, hB0 _ _⟩
 · have E2 : Hid (V = findS ps page at_) := E.out
   clear E
   generalize findS ps page at_ = F at *
   go_enter Tryz.func82, Tryz.ntmps82
   go_wp2_with fail
   refine (hf _ (hB0 _ _)).mono ?_
   rintro e w1 ⟨rfl, hb⟩
   go_wp2
   go_ret
   exact ⟨by rw [E2.out]; rfl, (hB0 _ _).trans (hb.mono (hB0 _ _).size)⟩

/- Rows of hits: what a get tells. -/

structure HitR where
 key : ByteArray
 flags : Int
 cas : Int
 value : ByteArray
instance : Inhabited HitR := ⟨⟨ByteArray.empty, 0, 0, ByteArray.empty⟩⟩
def hitCells (h : HitR) : List Value := [.string h.key, .int .i64 h.flags, .int .i64 h.cas, .string h.value]
theorem infoHit : (Tryz.prog.info? 49).map (fun i => (i.zero, i.size, i.bytes)) = some (some (.agg #[.string ByteArray.empty, .int .i64 0, .int .i64 0, .string ByteArray.empty]), 4, 48) := by kernel_rfl
theorem info_partsH {x : Option TypeInfo} {z : Value} {a b : Nat} (h : x.map (fun i => (i.zero, i.size, i.bytes)) = some (some z, a, b)) : ∃ i0, x = some i0 ∧ i0.zero = some z ∧ i0.size = a ∧ i0.bytes = b := by
 cases x with
 | none => cases h
 | some i => simp at h; exact ⟨i, rfl, h.1, h.2.1, h.2.2⟩

/-- A row of hits of one's own, in a block from n on. -/
def OwnH (n : Nat) (w : World) (v : Value) (l : List HitR) : Prop := w.ownsRow n 49 4 v l.length (l.flatMap hitCells)
theorem OwnH.nil (n : Nat) (w : World) : OwnH n w (.slice none 0 0) [] := ⟨rfl, Or.inl ⟨rfl, rfl⟩⟩
theorem OwnH.lt {n : Nat} {w : World} {v : Value} {l : List HitR} (h : OwnH n w v l) {g : Nat} (hg : v.ownBlock = some g) : n ≤ g ∧ g < w.heap.size := by
 rcases h.2 with ⟨h0, _⟩ | ⟨g', cap, cur, hv, hb, hh, _⟩
 · rw [h0] at hg; cases hg
 · rw [hv] at hg
   cases hg
   refine ⟨hb, ?_⟩
   rcases Nat.lt_or_ge g' w.heap.size with h' | h'
   · exact h'
   · rw [Array.getElem?_eq_none h'] at hh; cases hh
theorem OwnH.kept {n : Nat} {w w' : World} {v : Value} {l : List HitR} (h : OwnH n w v l) (hk : ∀ g, v.ownBlock = some g → w'.heap[g]? = w.heap[g]?) : OwnH n w' v l := by
 refine ⟨h.1, h.2.imp id ?_⟩
 rintro ⟨g, cap, cur, hv, hb, hh, r⟩
 exact ⟨g, cap, cur, hv, hb, by rw [hk g (by rw [hv]; rfl)]; exact hh, r⟩
theorem OwnH.later {n : Nat} {w w' : World} {v : Value} {l : List HitR} (h : OwnH n w v l) (hb : Below w.heap.size w w') : OwnH n w' v l := h.kept fun g hg => hb.block g (h.lt hg).2
theorem OwnH.fr {O : Nat → Prop} {n : Nat} {w w' : World} {v : Value} {l : List HitR} (h : OwnH n w v l) (hf : Fr O w w') (hO : ∀ g, v.ownBlock = some g → ¬ O g) : OwnH n w' v l := h.kept fun g hg => hf.block g (h.lt hg).2 (hO g hg)
theorem OwnH.form {n : Nat} {w : World} {v : Value} {l : List HitR} (h : OwnH n w v l) : ∃ a c, v = .slice a l.length c := by
 rcases h.2 with ⟨h0, h1⟩ | ⟨g, cap, cur, hv, _⟩
 · rw [h1]; exact ⟨none, 0, h0⟩
 · exact ⟨_, _, hv⟩

theorem append_hit {ops : Array Oper} {o : Oper} {a : Act} {K : Act → World → Prop} {Q : Exit → Act → World → Prop} {E : Prop} (w : World) (hgd : o.guard = none) (s x : Operand)
 (ho : o.op = .call { callee := .builtin .append, args := #[s, x], argTypes := #[40, 40] })
 (n : Nat) (v : Value) (l : List HitR) (hs : a.eval s = v) (hW : OwnH n w v l) (it : HitR) (B : Nat) (hx : a.eval x = .slice (some ⟨B, 0, none⟩) 1 1) (hB : w.heap[B]? = some (.cells (hitCells it).toArray 49 (0, 0))) (hn : n ≤ w.heap.size) (hsz : (l.length + 1) * 48 ≤ 140737488351232)
 (h : ∀ g cap w', OwnH n w' (.slice (some ⟨g, 0, none⟩) (l.length + 1) cap) (l ++ [it]) → w.grownBy w' v.ownBlock → (v.ownBlock = some g ∨ g = w.heap.size) → g < w'.heap.size → K (a.put o.dst (.slice (some ⟨g, 0, none⟩) (l.length + 1) cap)) w') :
 if Region.wanted o (yielded ops a.tmps) = true then Oper.wp Tryz.prog o a w K Q else E := by
 obtain ⟨i0, hi, hz0, hz1, hz2⟩ := info_partsH infoHit
 refine step_append_lies w hgd s x 40 ho n 49 i0 _ 4 48 Tryz.underlying40 hi hz0 hz1 hz2 rfl (by omega) v l.length (l.flatMap hitCells) hs hW ⟨B, 0, none⟩ 1 1 (hitCells it) hx rfl ?_ ?_ (by omega) (by unfold maxLen; omega) (by omega) hn w.heap.size rfl ?_
 · exact World.news_of_block hB
 · intro u hu
   simp [hitCells] at hu
   rcases hu with rfl | rfl | rfl | rfl <;> rfl
 intro g cap w' h2 h3 h4 h5
 refine h g cap w' ?_ h3 h4 h5
 unfold OwnH
 rw [List.length_append, List.flatMap_append]
 simpa using h2

/-- What a get finds: the store behind it, and what is told. -/
def hitOf (s : StoreR) (n : Nat) : HitR := ⟨(s.items.getD n default).key, (s.items.getD n default).flags, (s.items.getD n default).cas, valN s.pages (s.items.getD n default)⟩
def gstep (p : StoreR × List HitR) (key : ByteArray) : StoreR × List HitR :=
 if 0 ≤ (foundS p.1 key).2 then (askS (foundS p.1 key).1 (foundS p.1 key).2.toNat, p.2 ++ [hitOf (foundS p.1 key).1 (foundS p.1 key).2.toNat]) else ((foundS p.1 key).1, p.2)
def getK (s : StoreR) (keys : List ByteArray) (k : Nat) : StoreR × List HitR := (keys.take k).foldl gstep (s, [])
theorem getK_succ (s : StoreR) (keys : List ByteArray) (k : Nat) (hk : k < keys.length) : getK s keys (k + 1) = gstep (getK s keys k) (keys.getD k ByteArray.empty) := by
 unfold getK
 rw [List.take_succ_eq_append_getElem hk, List.foldl_append, List.getD_eq_getElem?_getD, List.getElem?_eq_getElem hk]
 rfl
theorem foundS_cases (s : StoreR) (key : ByteArray) : (foundS s key).2 = -1 ∨ ∃ n : Nat, (foundS s key).2 = (n : Int) ∧ n < s.items.length ∧ (foundS s key).1 = s ∧ (s.items.getD n default).key = key := by
 unfold foundS
 split
 · next h =>
   split
   · next hk =>
     split
     · exact Or.inl rfl
     · exact Or.inr ⟨_, rfl, h, rfl, keq_iff.1 hk⟩
   · exact Or.inl rfl
 · exact Or.inl rfl
theorem gstep_len (p : StoreR × List HitR) (key : ByteArray) : (gstep p key).2.length ≤ p.2.length + 1 := by
 unfold gstep
 split
 · simp
 · show p.2.length ≤ p.2.length + 1; omega
theorem getK_len (s : StoreR) (keys : List ByteArray) : ∀ k, (getK s keys k).2.length ≤ k
 | 0 => by simp [getK]
 | k + 1 => by
  by_cases hk : k < keys.length
  · rw [getK_succ s keys k hk]
    exact Nat.le_trans (gstep_len _ _) (Nat.succ_le_succ (getK_len s keys k))
  · have : getK s keys (k + 1) = getK s keys k := by unfold getK; rw [List.take_of_length_le (by omega), List.take_of_length_le (by omega)]
    rw [this]
    exact Nat.le_succ_of_le (getK_len s keys k)

/-- Behind some of the keys: the store, the hits, the boxes. -/
structure GInv (O : Nat → Prop) (w W : World) (B b5 : Nat) (p : StoreR × List HitR) (wr : World) : Prop where
 ex : ∃ O' hv, StO O' wr B p.1 ∧ (∀ x, O' x → O x ∨ W.heap.size ≤ x) ∧ TB 42 wr b5 #[.int .i64 1, .int .i64 0, hv] ∧ OwnH W.heap.size wr hv p.2 ∧ (∀ g, hv.ownBlock = some g → ¬ O' g)
 fr : Fr O w wr
 t4 : TB 42 wr w.heap.size #[.int .i64 0, .int .i64 0, .slice none 0 0]
 sz : W.heap.size ≤ wr.heap.size

theorem Gd.valueOf {s : StoreR} (h : Gd s) (n : Nat) (hn : n < s.items.length) (it : ItemR) (hp : it.page = (s.items.getD n default).page) (ha : it.at_ = (s.items.getD n default).at_) (pa : Option Addr) (pc : Nat) (w : World) (hP : PagesAt w pa s.pages) :
 Calls Tryz.prog 82 #[.agg #[.int .i64 s.fm, .int .i64 s.fx, .slice pa s.pages.length pc], .agg #[.string it.key, .int .i64 it.flags, .int .i64 it.until_, .int .i64 it.cas, .int .i64 it.used, .string it.value, .bool it.far, .int .i64 it.page, .int .i64 it.at_]] w fun e w' => e = .returned (.string (valN s.pages it)) ∧ Below w.heap.size w w' :=
 have ho := h.ok n hn
 valueOf_any s.fm s.fx s.pages pa pc it w hP (fun j hj => (may_bytes h.parts.2.2.1 j hj).1) (by rw [ha]; exact ho.2.2.1) (by rw [ha]; exact ho.2.2.2)

/- The contract of wire.number: the number that a word is, at every text. -/

/-- The number that decimal digits are behind 'acc', up to 1099511627776. -/
def digitsV : List UInt8 → Int → Option Int
 | [], acc => some acc
 | b :: r, acc => if (b.toNat : Int) < 48 ∨ 57 < (b.toNat : Int) then none else if 1099511627776 < acc * 10 + ((b.toNat : Int) - 48) then none else digitsV r (acc * 10 + ((b.toNat : Int) - 48))

def numD (s : ByteArray) : Option Int :=
 if s.size = 0 then none else if s.data.toList.getD 0 0 = 48 ∧ 1 < s.size then none else digitsV s.data.toList 0

def numOk (s : ByteArray) : Bool := (numD s).isSome
def numV (s : ByteArray) : Int := (numD s).getD 0

theorem digitsV_step (s : ByteArray) (k : Nat) (hk : k < s.size) (acc : Int) : digitsV (s.data.toList.drop k) acc =
 if ((s.data.toList.getD k 0).toNat : Int) < 48 ∨ 57 < ((s.data.toList.getD k 0).toNat : Int) then none else if 1099511627776 < acc * 10 + (((s.data.toList.getD k 0).toNat : Int) - 48) then none else digitsV (s.data.toList.drop (k + 1)) (acc * 10 + (((s.data.toList.getD k 0).toNat : Int) - 48)) := by
 have h : k < s.data.toList.length := by simpa using hk
 rw [List.drop_eq_getElem_cons h, List.getD_eq_getElem?_getD, List.getElem?_eq_getElem h]
 rfl

theorem ret_num {a b : Int} {x y : Bool} (h1 : a = b) (h2 : x = y) : Ending.returned (.tuple #[.int .i64 a, .bool x]) = .returned (.tuple #[.int .i64 b, .bool y]) := by rw [h1, h2]

theorem isEmpty_of (s : ByteArray) : s.toList.isEmpty = decide (s.size = 0) := by
 rw [ByteArray.toList_eq]
 have h : s.data.toList.length = s.size := rfl
 cases hd : s.data.toList with
 | nil => rw [hd] at h; rw [← h]; rfl
 | cons a b => rw [hd] at h; rw [← h]; rfl

theorem byteAtW (s : ByteArray) (k : Nat) (hk : k < s.size) : s[k] = s.data.toList.getD k 0 := by
 have h : k < s.data.toList.length := hk
 rw [List.getD_eq_getElem?_getD, List.getElem?_eq_getElem h]
 rfl

theorem digit_bd (b : UInt8) : (b.toNat : Int) ≤ 255 := by have := b.toNat_lt; omega

set_option maxHeartbeats 2000000 in
theorem number_any (s : ByteArray) (w : World) (hs : s.size ≤ maxLen) :
 Calls Tryz.prog 115 #[.string s] w fun e w' => e = .returned (.tuple #[.int .i64 (numV s), .bool (numOk s)]) ∧ Below w.heap.size w w' := by
 have hs' := hs
 unfold maxLen at hs'
 by_cases h0 : s.size = 0
 · have E : numD s = none := by unfold numD; rw [if_pos h0]
   have E1 : Hid (0 = numV s) := by unfold Hid numV; rw [E]; rfl
   have E2 : Hid (false = numOk s) := by unfold Hid numOk; rw [E]; rfl
   have he : s.toList.isEmpty = true := by rw [isEmpty_of]; exact decide_eq_true h0
   clear E
   go_enter Tryz.func115, Tryz.ntmps115
   go_wp2
   go_ret2
   exact ⟨ret_num E1.out E2.out, Below.refl _ _⟩
 have he : s.toList.isEmpty = false := by rw [isEmpty_of]; exact decide_eq_false h0
 have hp : 0 < s.size := by omega
 have hp0 := byteAtW s 0 hp
 by_cases h1 : s.data.toList.getD 0 0 = 48 ∧ 1 < s.size
 · have E : numD s = none := by unfold numD; rw [if_neg h0, if_pos h1]
   have E1 : Hid (0 = numV s) := by unfold Hid numV; rw [E]; rfl
   have E2 : Hid (false = numOk s) := by unfold Hid numOk; rw [E]; rfl
   have hb : ((s[0].toNat : Int) == 48) = true := by rw [hp0, h1.1]; rfl
   have hl : 1 < (s.size : Int) := by omega
   clear E hp0 h1 h0
   go_enter Tryz.func115, Tryz.ntmps115
   go_wp2
   go_ret2
   exact ⟨ret_num E1.out E2.out, Below.refl _ _⟩
 have E : Hid (numD s = digitsV s.data.toList 0) := by unfold Hid numD; rw [if_neg h0, if_neg h1]
 have hb : ((s[0].toNat : Int) == 48 && decide (1 < (s.size : Int))) = false := by
  by_cases g : 1 < s.size
  · have g1 : ¬ s.data.toList.getD 0 0 = 48 := fun g2 => h1 ⟨g2, g⟩
    have : ((s[0].toNat : Int) == 48) = false := by
     rw [hp0, beq_eq_false_iff_ne]
     intro g3
     apply g1
     apply UInt8.toNat_inj.1
     have : (48 : UInt8).toNat = 48 := rfl
     omega
    rw [this]
    rfl
  · have : decide (1 < (s.size : Int)) = false := by simp; omega
    rw [this, Bool.and_false]
 have kc := Lib.run_convert_string_bytes (P := Tryz.prog) w 9 95 5 s Tryz.underlying9 Tryz.underlying95 Tryz.underlying5
 have hcell := fun j hj => Lib.bytesWorld_cell w 5 s j hj
 have hB : Below w.heap.size w (Lib.bytesWorld w 5 s) := ⟨rfl, rfl, rfl, by rw [Lib.bytesWorld_size]; omega, fun k hk => Lib.bytesWorld_at_old w 5 s k hk⟩
 clear hp0 h1 h0
 go_enter Tryz.func115, Tryz.ntmps115
 go_upto_region 1 with fail
 go_cut [18] (fun v wx => v = .bool false ∧ wx = w)
 case first =>
  clear kc hcell
  cases hq : ((s[0].toNat : Int) == 48)
  · go_wp2
    go_meet
    exact ⟨rfl, rfl⟩
  · rw [hq] at hb
    have hb2 : decide (1 < (s.size : Int)) = false := by simpa using hb
    have hb3 : ¬ 1 < (s.size : Int) := of_decide_eq_false hb2
    clear hb hb2
    go_wp2
    go_meet
    exact ⟨rfl, rfl⟩
 case rest =>
 obtain ⟨rfl, rfl⟩ := hcut
 clear hb he
 go_wp2_with fail
 clear kc
 go_loop [4, 6, 22] (fun v _ i => ∃ (k : Nat) (acc : Int), k ≤ s.size ∧ i = .int .i64 k ∧ v = .int .i64 acc ∧ 0 ≤ acc ∧ acc ≤ 1099511627776 ∧ Hid (digitsV (s.data.toList.drop k) acc = numD s)) (fun _ _ i => s.size - (intOf i).toNat)
 case atStart => exact ⟨0, 0, Nat.zero_le _, rfl, rfl, by omega, by omega, E.out.symm⟩
 case round =>
  obtain ⟨k, acc, hk, rfl, rfl, ha0, ha1, D⟩ := hrel
  by_cases hlt : k < s.size
  · have hltz : (k : Int) < (s.size : Int) := by omega
    have hc := hcell k hlt
    have D2 : Hid _ := digitsV_step s k hlt acc
    rw [D.out] at D2
    clear hcell E
    generalize s.data.toList.getD k 0 = b at *
    have hb1 := digit_bd b
    have hb0 : (0 : Int) ≤ (b.toNat : Int) := Int.natCast_nonneg _
    by_cases g1 : (b.toNat : Int) < 48
    · have N : numD s = none := by rw [D2.out, if_pos (Or.inl g1)]
      have E1 : Hid (0 = numV s) := by unfold Hid numV; rw [N]; rfl
      have E2 : Hid (false = numOk s) := by unfold Hid numOk; rw [N]; rfl
      clear N
      go_wp2
      go_ret2
      exact ⟨ret_num E1.out E2.out, hB⟩
    by_cases g2 : 57 < (b.toNat : Int)
    · have N : numD s = none := by rw [D2.out, if_pos (Or.inr g2)]
      have E1 : Hid (0 = numV s) := by unfold Hid numV; rw [N]; rfl
      have E2 : Hid (false = numOk s) := by unfold Hid numOk; rw [N]; rfl
      clear N
      go_wp2
      go_ret2
      exact ⟨ret_num E1.out E2.out, hB⟩
    by_cases g3 : 1099511627776 < acc * 10 + ((b.toNat : Int) - 48)
    · have N : numD s = none := by rw [D2.out, if_neg (by omega), if_pos g3]
      have E1 : Hid (0 = numV s) := by unfold Hid numV; rw [N]; rfl
      have E2 : Hid (false = numOk s) := by unfold Hid numOk; rw [N]; rfl
      clear N
      go_wp2
      go_ret2
      exact ⟨ret_num E1.out E2.out, hB⟩
    · have D3 : Hid (digitsV (s.data.toList.drop (k + 1)) (acc * 10 + ((b.toNat : Int) - 48)) = numD s) := by
       have := D2.out
       rw [if_neg (by omega), if_neg g3] at this
       exact this.symm
      go_wp2
      go_round
      case rel => exact ⟨k + 1, acc * 10 + ((b.toNat : Int) - 48), by omega, by go_num, by go_num, by omega, by omega, D3⟩
      case measure => simp [intOf]; omega
  · have hltz : ¬ (k : Int) < (s.size : Int) := by omega
    have N : numD s = some acc := by
     have := D.out
     rw [List.drop_eq_nil_of_le (show s.data.toList.length ≤ k from by show s.size ≤ k; omega)] at this
     exact this.symm
    have E1 : Hid (acc = numV s) := by unfold Hid numV; rw [N]; rfl
    have E2 : Hid (true = numOk s) := by unfold Hid numOk; rw [N]; rfl
    clear N hcell
    go_wp2
    go_ret2
    exact ⟨ret_num E1.out E2.out, hB⟩

/- The contract of dovecoteref.dec: the decimal numeral of a number, at every number of 64 bits. -/

/-- The decimal numeral, as a text. -/
def decS (n : Int) : ByteArray := ⟨(Lib.itoa n).toArray⟩

theorem nDigits_le : ∀ (k u : Nat), u < 10 ^ (k + 1) → Lib.nDigits u ≤ k + 1
 | 0, u, h => by rw [Lib.nDigits_small (by simpa using h)]; exact Nat.le_refl _
 | k + 1, u, h => by
  by_cases h2 : u < 10
  · rw [Lib.nDigits_small h2]; omega
  · rw [Lib.nDigits_big h2]
    have := nDigits_le k (u / 10) (by rw [Nat.pow_succ] at h; omega)
    omega

theorem decS_size (n : Int) (h0 : -9223372036854775808 ≤ n) (h1 : n ≤ 9223372036854775807) : (decS n).size ≤ 20 := by
 unfold decS Lib.itoa
 have h := nDigits_le 18 n.natAbs (by omega)
 split
 · show (45 :: Lib.decDigits n.natAbs).toArray.size ≤ 20
   simp [Lib.decDigits_length]
   omega
 · show (Lib.decDigits n.toNat).toArray.size ≤ 20
   rw [show n.toNat = n.natAbs by omega]
   simp [Lib.decDigits_length]
   omega

end Go.Proofs.YtdblegdgmjakfaaGreatDoor
