/- Parts of the proof. -/
import Derived.Test.YtdblegdgmjakfaaGreatDoorMJ31
import Derived.Test.YtdblegdgmjakfaaGreatDoorMJ32
import Derived.Test.YtdblegdgmjakfaaGreatDoorMJ33
namespace Go.Proofs.YtdblegdgmjakfaaGreatDoor
open Go.ChangeShapes Go.WideShapes Go.ChangeAt Go.RowKit
set_option linter.unusedVariables false
set_option linter.unusedSimpArgs false

/- store.Do at a request of one key, or of none: what a law's walk asks of it. -/

theorem strs_none (w : World) : StrsAt w none ([] : List ByteArray).length [] := ⟨rfl, Nat.zero_le _, fun s hs => absurd hs (List.not_mem_nil), Or.inl rfl⟩
theorem kdo (s : StoreR) (ia : Option Addr) (ic : Nat) (pa : Option Addr) (pc : Nat) (kind : Int) (key : ByteArray) (flags exp nn : Int) (value : ByteArray) {S : StoreR} {k n : Int} {h : List HitR} (w : World) (hA : ansN s ⟨kind, key, [], flags, exp, nn, value, false⟩ = (S, k, n, h)) (hS : StoreIn w s ia pa) (hg : Gd s) (hq : QFit ⟨kind, key, [], flags, exp, nn, value, false⟩) (hus : s.uses ≤ 1099511627766) (hL : LaidC w) (hT : LaidT w) :
 Calls Tryz.prog 16 #[.agg #[.int .i64 s.clock, .int .i64 s.cas, .int .i64 s.uses, .int .i64 s.most, .int .i64 s.h0, .int .i64 s.h1, .int .i64 s.h2, .int .i64 s.h3, .slice ia s.items.length ic, .int .i64 s.fm, .int .i64 s.fx, .slice pa s.pages.length pc], .agg #[.int .i64 kind, .string key, .slice none 0 0, .int .i64 flags, .int .i64 exp, .int .i64 nn, .string value, .bool false]] w
  fun e w' => ∃ ja jc qa qc a c, e = .returned (.tuple #[.agg #[.int .i64 S.clock, .int .i64 S.cas, .int .i64 S.uses, .int .i64 S.most, .int .i64 S.h0, .int .i64 S.h1, .int .i64 S.h2, .int .i64 S.h3, .slice ja S.items.length jc, .int .i64 S.fm, .int .i64 S.fx, .slice qa S.pages.length qc], .agg #[.int .i64 k, .int .i64 n, .slice a h.length c], .int .i64 0]) ∧ StoreFrom w.heap.size w' S ja qa ∧ Below w.heap.size w w' := by
 refine (do_any s ia ic pa pc ⟨kind, key, [], flags, exp, nn, value, false⟩ none 0 w hS hg hq hus hL hT (show StrsAt w none ([] : List ByteArray).length [] from strs_none w)).mono fun e w' hp => ?_
 rw [hA] at hp
 obtain ⟨ja, jc, qa, qc, hv, rfl, hF, hO, hB⟩ := hp
 obtain ⟨a, c, rfl⟩ := hO.form
 exact ⟨ja, jc, qa, qc, a, c, rfl, hF, hB⟩
theorem kget (s : StoreR) (ia : Option Addr) (ic : Nat) (pa : Option Addr) (pc : Nat) (k : ByteArray) {S : StoreR} {h : HitR} {b : Bool} (w : World) (hA : getS s k = S) (hH : getH s k = h) (hB : getB s k = b) (hS : StoreIn w s ia pa) (hg : Gd s) (hk : keyB k = true) (hus : s.uses ≤ 1099511627766) (hL : LaidC w) (hT : LaidT w) :
 Calls Tryz.prog 17 #[.agg #[.int .i64 s.clock, .int .i64 s.cas, .int .i64 s.uses, .int .i64 s.most, .int .i64 s.h0, .int .i64 s.h1, .int .i64 s.h2, .int .i64 s.h3, .slice ia s.items.length ic, .int .i64 s.fm, .int .i64 s.fx, .slice pa s.pages.length pc], .string k] w
  fun e w' => ∃ ja jc qa qc, e = .returned (.tuple #[.agg #[.int .i64 S.clock, .int .i64 S.cas, .int .i64 S.uses, .int .i64 S.most, .int .i64 S.h0, .int .i64 S.h1, .int .i64 S.h2, .int .i64 S.h3, .slice ja S.items.length jc, .int .i64 S.fm, .int .i64 S.fx, .slice qa S.pages.length qc], .agg #[.string h.key, .int .i64 h.flags, .int .i64 h.cas, .string h.value], .bool b]) ∧ StoreFrom w.heap.size w' S ja qa ∧ Below w.heap.size w w' := by
 subst hA hH hB
 exact kget_any s ia ic pa pc k w hS hg hk hus hL hT
theorem ktick (s : StoreR) (ia : Option Addr) (ic : Nat) (pa : Option Addr) (pc : Nat) (n : Int) (w : World) (hS : StoreIn w s ia pa) (hg : Gd s) (h0 : 0 ≤ n) (h1 : n ≤ 1000) (h2 : s.clock + n ≤ 1099511627776) (hL : LaidC w) :
 Calls Tryz.prog 18 #[.agg #[.int .i64 s.clock, .int .i64 s.cas, .int .i64 s.uses, .int .i64 s.most, .int .i64 s.h0, .int .i64 s.h1, .int .i64 s.h2, .int .i64 s.h3, .slice ia s.items.length ic, .int .i64 s.fm, .int .i64 s.fx, .slice pa s.pages.length pc], .int .i64 n] w
  fun e w' => ∃ ja jc qa qc, e = .returned (.tuple #[.agg #[.int .i64 (s.clock + n), .int .i64 s.cas, .int .i64 s.uses, .int .i64 s.most, .int .i64 s.h0, .int .i64 s.h1, .int .i64 s.h2, .int .i64 s.h3, .slice ja s.items.length jc, .int .i64 s.fm, .int .i64 s.fx, .slice qa s.pages.length qc], .int .i64 0]) ∧ StoreFrom w.heap.size w' { s with clock := s.clock + n } ja qa ∧ Below w.heap.size w w' := by
 refine (tick_any s ia ic pa pc n w hS hg.ok hL).mono fun e w' hp => ?_
 obtain ⟨ja, jc, qa, qc, he, hF, hB⟩ := hp
 have e1 : tickOk s n = true := by
  unfold tickOk
  rw [(inB_iff _ _ _).2 ⟨h0, h1⟩, decide_eq_true h2]
  rfl
 have e2 : tickS s n = { s with clock := s.clock + n } := by unfold tickS; rw [hg.b, if_pos rfl, e1, if_pos rfl]
 have e3 : tickN s n = 0 := by unfold tickN; rw [hg.b, if_pos rfl, e1, if_pos rfl]
 rw [e2, e3] at he
 rw [e2] at hF
 exact ⟨ja, jc, qa, qc, he, hF, hB⟩

theorem kget4 (s : StoreR) (ia : Option Addr) (ic : Nat) (pa : Option Addr) (pc : Nat) (k : ByteArray) {S : StoreR} {hk hv : ByteArray} {hf hc : Int} {b : Bool} (w : World) (hA : getS s k = S) (hH : getH s k = ⟨hk, hf, hc, hv⟩) (hB : getB s k = b) (hS : StoreIn w s ia pa) (hg : Gd s) (hkb : keyB k = true) (hus : s.uses ≤ 1099511627766) (hL : LaidC w) (hT : LaidT w) :
 Calls Tryz.prog 17 #[.agg #[.int .i64 s.clock, .int .i64 s.cas, .int .i64 s.uses, .int .i64 s.most, .int .i64 s.h0, .int .i64 s.h1, .int .i64 s.h2, .int .i64 s.h3, .slice ia s.items.length ic, .int .i64 s.fm, .int .i64 s.fx, .slice pa s.pages.length pc], .string k] w
  fun e w' => ∃ ja jc qa qc, e = .returned (.tuple #[.agg #[.int .i64 S.clock, .int .i64 S.cas, .int .i64 S.uses, .int .i64 S.most, .int .i64 S.h0, .int .i64 S.h1, .int .i64 S.h2, .int .i64 S.h3, .slice ja S.items.length jc, .int .i64 S.fm, .int .i64 S.fx, .slice qa S.pages.length qc], .agg #[.string hk, .int .i64 hf, .int .i64 hc, .string hv], .bool b]) ∧ StoreFrom w.heap.size w' S ja qa ∧ Below w.heap.size w w' := by
 have h := kget s ia ic pa pc k w hA hH hB hS hg hkb hus hL hT
 exact h
theorem ktick4 (s : StoreR) (ia : Option Addr) (ic : Nat) (pa : Option Addr) (pc : Nat) (n : Int) {S : StoreR} (w : World) (hA : { s with clock := s.clock + n } = S) (hS : StoreIn w s ia pa) (hg : Gd s) (h0 : 0 ≤ n) (h1 : n ≤ 1000) (h2 : s.clock + n ≤ 1099511627776) (hL : LaidC w) :
 Calls Tryz.prog 18 #[.agg #[.int .i64 s.clock, .int .i64 s.cas, .int .i64 s.uses, .int .i64 s.most, .int .i64 s.h0, .int .i64 s.h1, .int .i64 s.h2, .int .i64 s.h3, .slice ia s.items.length ic, .int .i64 s.fm, .int .i64 s.fx, .slice pa s.pages.length pc], .int .i64 n] w
  fun e w' => ∃ ja jc qa qc, e = .returned (.tuple #[.agg #[.int .i64 S.clock, .int .i64 S.cas, .int .i64 S.uses, .int .i64 S.most, .int .i64 S.h0, .int .i64 S.h1, .int .i64 S.h2, .int .i64 S.h3, .slice ja S.items.length jc, .int .i64 S.fm, .int .i64 S.fx, .slice qa S.pages.length qc], .int .i64 0]) ∧ StoreFrom w.heap.size w' S ja qa ∧ Below w.heap.size w w' := by
 subst hA
 exact ktick s ia ic pa pc n w hS hg h0 h1 h2 hL
theorem three_set (W : World) (b : Nat) {d0 d1 d2 c0 c1 c2 : Value} (h : TB 42 W b #[c0, c1, c2]) : TB 42 (((W.setCell ⟨b, 0, none⟩ d0).setCell ⟨b, 1, none⟩ d1).setCell ⟨b, 2, none⟩ d2) b #[d0, d1, d2] := by
 have h3 := (((h.set 0 d0).set 1 d1).set 2 d2)
 simp only [sIB, sZB, sSB] at h3
 exact h3
theorem four_set (W : World) (b : Nat) {d0 d1 d2 d3 c0 c1 c2 c3 : Value} (h : TB 49 W b #[c0, c1, c2, c3]) : TB 49 ((((W.setCell ⟨b, 0, none⟩ d0).setCell ⟨b, 1, none⟩ d1).setCell ⟨b, 2, none⟩ d2).setCell ⟨b, 3, none⟩ d3) b #[d0, d1, d2, d3] := by
 have h3 := ((((h.set 0 d0).set 1 d1).set 2 d2).set 3 d3)
 simp only [sIB, sZB, sSB] at h3
 exact h3
theorem TB.set1 {t : TypeId} {w : World} {b j : Nat} {cs cs' : Array Value} (h : TB t w b cs) (v : Value) (he : cs.setIfInBounds j v = cs') : TB t (w.setCell ⟨b, j, none⟩ v) b cs' := he ▸ h.set j v
theorem eight_set (W : World) (b : Nat) {d0 d1 d2 d3 d4 d5 d6 d7 c0 c1 c2 c3 c4 c5 c6 c7 : Value} (h : TB 47 W b #[c0, c1, c2, c3, c4, c5, c6, c7]) : TB 47 ((((((((W.setCell ⟨b, 0, none⟩ d0).setCell ⟨b, 1, none⟩ d1).setCell ⟨b, 2, none⟩ d2).setCell ⟨b, 3, none⟩ d3).setCell ⟨b, 4, none⟩ d4).setCell ⟨b, 5, none⟩ d5).setCell ⟨b, 6, none⟩ d6).setCell ⟨b, 7, none⟩ d7) b #[d0, d1, d2, d3, d4, d5, d6, d7] := by
 have h3 := ((((((((h.set 0 d0).set 1 d1).set 2 d2).set 3 d3).set 4 d4).set 5 d5).set 6 d6).set 7 d7)
 simp only [sIB, sZB, sSB] at h3
 exact h3
theorem eqHit (h : HitR) (w : World) : (Op.equalIn 10000 49 (.agg #[.string h.key, .int .i64 h.flags, .int .i64 h.cas, .string h.value]) (.agg #[.string h.key, .int .i64 h.flags, .int .i64 h.cas, .string h.value])).run Tryz.prog w = .ok true w := by
 have u3 := Tryz.underlying3
 have a3 := Tryz.isAgg3
 have z3 := Tryz.sizeOf3
 have us := Tryz.underlying9
 have ast := Tryz.isAgg9
 have zs := Tryz.sizeOf9
 have hS : Tryz.prog.underlying 49 = some (.struct (Tryz.prog.fieldsOf 49)) := by kernel_rfl
 rw [show (10000 : Nat) = 9999 + 1 from rfl, run_equalIn_agg w 9999 49 _ _ hS (by kernel_rfl)]
 simp only [Program.fieldsOf, Tryz.underlying49]
 go_simp

/-- Blocks from n on that were there are as they were. -/
def Kp (n : Nat) (w X : World) : Prop := w.heap.size ≤ X.heap.size ∧ ∀ b, n ≤ b → b < w.heap.size → X.heap[b]? = w.heap[b]?
theorem Kp.refl (n : Nat) (w : World) : Kp n w w := ⟨Nat.le_refl _, fun _ _ _ => rfl⟩
theorem set_size (w : World) (a : Addr) (v : Value) : (w.setCell a v).heap.size = w.heap.size := by simp [World.setCell]
theorem alloc_size (w : World) (o : Obj) : (w.alloc o).heap.size = w.heap.size + 1 := by simp
theorem Kp.alloc {n : Nat} {w X : World} (h : Kp n w X) (o : Obj) : Kp n w (X.alloc o) := by
 have e := alloc_size X o
 refine ⟨by have := h.1; omega, fun c hc hlt => ?_⟩
 rw [← h.2 c hc hlt]
 exact (below_al (Below.refl X.heap.size X) o).block c (Nat.lt_of_lt_of_le hlt h.1)
theorem Kp.set {n : Nat} {w X : World} (h : Kp n w X) {b : Nat} (hb : b < n ∨ w.heap.size ≤ b) (j : Nat) (v : Value) : Kp n w (X.setCell ⟨b, j, none⟩ v) := by
 refine ⟨by simpa [World.setCell] using h.1, fun c hc hlt => ?_⟩
 rw [← h.2 c hc hlt]
 exact heap_setCell_other _ _ _ _ (show c ≠ b by omega)
theorem Kp.below {n : Nat} {w X Y : World} (h : Kp n w X) (k : Below X.heap.size X Y) : Kp n w Y := ⟨Nat.le_trans h.1 k.size, fun c hc hlt => by
 rw [← h.2 c hc hlt]
 exact k.block c (Nat.lt_of_lt_of_le hlt h.1)⟩
theorem Kp.drew {n : Nat} {w X : World} (h : Kp n w X) : Kp n w X.drew := h
theorem StoreFrom.kp {n : Nat} {w X : World} {s : StoreR} {ia pa : Option Addr} (h : StoreFrom n w s ia pa) (k : Kp n w X) : StoreFrom n X s ia pa := fun w' hz hzb => h w' (Nat.le_trans k.1 hz) fun c hc hlt => by
 rw [hzb c hc (Nat.lt_of_lt_of_le hlt k.1)]
 exact k.2 c hc hlt

end Go.Proofs.YtdblegdgmjakfaaGreatDoor
