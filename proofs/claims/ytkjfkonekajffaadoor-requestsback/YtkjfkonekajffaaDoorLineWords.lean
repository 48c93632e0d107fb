/- The contract of wire.lineWords: the words of a request's line, in new memory. -/
import Derived.Test.YtkjfkonekajffaaDoorWords
import Derived.Test.YtkjfkonekajffaaDoorCheckfit
import Derived.Test.YtkjfkonekajffaaDoorDec
import Derived.Test.YtkjfkonekajffaaDoorShelf
import Derived.Deep.RegionHeld3
import Derived.Deep.DeepCutAuto
import Derived.Deep.Onto
namespace Go.Proofs.YtkjfkonekajffaaDoor
open Go.ChangeShapes Go.WideShapes Go.ChangeAt Go.RowKit Go.Lib Go.Sort
set_option linter.unusedVariables false

/-- The names of requests, by their kinds. -/
def nameL : List ByteArray := [⟨#[]⟩, ⟨#[103, 101, 116]⟩, ⟨#[115, 101, 116]⟩, ⟨#[97, 100, 100]⟩, ⟨#[114, 101, 112, 108, 97, 99, 101]⟩, ⟨#[97, 112, 112, 101, 110, 100]⟩, ⟨#[112, 114, 101, 112, 101, 110, 100]⟩, ⟨#[99, 97, 115]⟩, ⟨#[100, 101, 108, 101, 116, 101]⟩, ⟨#[105, 110, 99, 114]⟩, ⟨#[100, 101, 99, 114]⟩, ⟨#[116, 111, 117, 99, 104]⟩, ⟨#[102, 108, 117, 115, 104]⟩]
def nameS (k : Nat) : ByteArray := nameL.getD k ByteArray.empty
def quietS : ByteArray := ⟨#[110, 111, 114, 101, 112, 108, 121]⟩

/-- What the package-level tables hold that the writing of a line reads. -/
def LaidW (w : World) : Prop :=
  (1 < w.heap.size ∧ ∀ k, k < 13 → w.cell? ⟨1, k, none⟩ = some (.string (nameS k))) ∧ Lib.TabIs Tryd.prog w "internal/strconv.uint64pow10" .u64 Lib.pow10Tab

theorem tab_later {P : Program} {w w' : World} {n : String} {k : IntKind} {zs : List Int} (h : Lib.TabIs P w n k zs) (hb : Below w.heap.size w w') : Lib.TabIs P w' n k zs := by
  unfold Lib.TabIs World.var? at h ⊢
  cases hg : P.globalNamed n with
  | none => rw [hg] at h; simp at h
  | some g =>
    rw [hg] at h
    simp only [Option.bind_some] at h ⊢
    have hlt : g < w.heap.size := by
      rcases Nat.lt_or_ge g w.heap.size with h' | h'
      · exact h'
      · rw [Array.getElem?_eq_none h'] at h; cases h
    rw [hb.block g hlt]
    exact h

theorem LaidW.later {w w' : World} (h : LaidW w) (hb : Below w.heap.size w w') : LaidW w' := by
  obtain ⟨⟨h1, h2⟩, h3⟩ := h
  refine ⟨⟨Nat.lt_of_lt_of_le h1 hb.size, fun k hk => ?_⟩, tab_later h3 hb⟩
  rw [hb.cell (p := ⟨1, k, none⟩) h1]
  exact h2 k hk

theorem growBelow (w : World) (k : Nat) (os : Array Obj) : Below w.heap.size w (grow (w.drewN k) os) :=
  ⟨rfl, rfl, rfl, by show w.heap.size ≤ (w.heap ++ os).size; rw [Array.size_append]; omega, fun j hj => by show (w.heap ++ os)[j]? = _; rw [Array.getElem?_append_left hj]⟩

theorem itoa_any (n : Int) (h0 : -9223372036854775808 ≤ n) (h1 : n ≤ 9223372036854775807) (w : World) (hL : LaidW w) :
    Calls Tryd.prog 19 #[.int .i64 n] w fun e w' => e = .returned (.string (decS n)) ∧ Below w.heap.size w w' :=
  (Tryd.strconv_Itoa n h0 h1 w hL.2).mono fun e w' ⟨he, k, os, hw⟩ => ⟨he, hw ▸ growBelow w k os⟩

/-- The words of a line. -/
def lineL (kind : Int) (key : ByteArray) (keys : List ByteArray) (flags exp nn : Int) (value : ByteArray) (quiet : Bool) : List ByteArray :=
  ([nameS kind.toNat] ++ keys) ++ (if inB kind 2 11 = true then [key] else []) ++ (if inB kind 2 7 = true then [decS flags, decS exp, decS value.size] else []) ++ (if hasNB kind = true then [decS nn] else []) ++
    (if kind = 11 then [decS exp] else []) ++ (if quiet = true then [quietS] else [])

/-- Nothing is appended: the slice stays what it was. -/
theorem run_append_zero (ty : TypeId) (g n c kc : Nat) (ka : Option Addr) (w : World) (hn : n ≤ c) :
    (Builtin.append_ #[22, 22] ty #[.slice (some ⟨g, 0, none⟩) n c, .slice ka 0 kc]).run Tryd.prog w = .ok (.slice (some ⟨g, 0, none⟩) n c) w := by
  obtain ⟨i0, hi, hz0, hz1, hz2⟩ := info_parts infoStr
  cases ka <;> simp [Builtin.append_, run_underlying Tryd.underlying22, sizeOf, typeInfo, hi, Builtin.lenOf, Builtin.firstCells, hn, storeCells, loadCells, loadCellsFrom]

/-- At a step of a region that draws its order. -/
theorem append_zero_step {ops : Array Oper} {o : Oper} {a : Act} {K : Act → World → Prop} {Q : Exit → Act → World → Prop} {E : Prop} (w : World) (hgd : o.guard = none) (s x : Operand)
    (ho : o.op = .call { callee := .builtin .append, args := #[s, x], argTypes := #[22, 22] }) (g n c kc : Nat) (ka : Option Addr) (hs : a.eval s = .slice (some ⟨g, 0, none⟩) n c) (hx : a.eval x = .slice ka 0 kc) (hn : n ≤ c)
    (h : K (a.put o.dst (.slice (some ⟨g, 0, none⟩) n c)) w) : if Region.wanted o (yielded ops a.tmps) = true then Oper.wp Tryd.prog o a w K Q else E := by
  have hw : Region.wanted o (yielded ops a.tmps) = true := by simp [Region.wanted, hgd]
  rw [if_pos hw]
  have hrun := run_append_zero o.type g n c kc ka w hn
  unfold Oper.wp execOp
  simp only [ho, resolve, invoke, builtin, Sem.run_bind, Sem.run_pure, Result.andThen_ok, List.map_toArray, List.map_cons, List.map_nil, hs, hx, hrun]
  exact h

theorem words_one (W0 : World) (B : Nat) (hB : W0.heap.size = B) (s : ByteArray) : WordsAt W0 (W0.alloc (.cells #[.string s] 9)) (.slice (some ⟨B, 0, none⟩) 1 1) [s] := by
  subst hB
  refine ⟨?_, (Below.refl _ _).alloc (Nat.le_refl _) _⟩
  have := World.ownsRow_lit (base := W0.heap.size) (e := 9) (size := 1) W0 #[.string s] 1 (Nat.le_refl _) (by unfold maxLen; omega) rfl
  exact this

theorem wsize {w wx : World} {o : Obj} {v : Value} {l : List ByteArray} (h : WordsAt (w.alloc o) wx v l) : w.heap.size < wx.heap.size := by
  have := h.2.size
  simp at this
  omega

theorem WordsAt.down {w W0 wx : World} {v : Value} {l : List ByteArray} (h : WordsAt W0 wx v l) (hB : Below w.heap.size w W0) : WordsAt w wx v l :=
  ⟨h.1.mono hB.size, hB.trans (h.2.mono hB.size)⟩

theorem one_new (w : World) (s : ByteArray) : ∀ j u, [s][j]? = some u → (w.alloc (.cells #[.string s] 9)).cell? ((⟨w.heap.size, 0, none⟩ : Addr).add j) = some (.string u) := by
  intro j u hj
  match j, hj with
  | 0, hj => simp at hj; subst hj; simp [Addr.add]

/-- strconv.Itoa, called while the words stand in memory. -/
theorem itoaW (n : Int) (h0 : -9223372036854775808 ≤ n) (h1 : n ≤ 9223372036854775807) (w W0 w1 : World) (v : Value) (l : List ByteArray) (hL : LaidW w) (hB : Below w.heap.size w W0) (hW : WordsAt W0 w1 v l) :
    Calls Tryd.prog 19 #[.int .i64 n] w1 fun e w' => e = .returned (.string (decS n)) ∧ WordsAt W0 w' v l :=
  (itoa_any n h0 h1 w1 (hL.later (hB.trans (hW.2.mono hB.size)))).mono fun e w' ⟨he, hb⟩ => ⟨he, hW.later hb⟩

theorem three_new (w : World) (a b c : ByteArray) : ∀ j u, [a, b, c][j]? = some u → (w.alloc (.cells #[.string a, .string b, .string c] 9)).cell? ((⟨w.heap.size, 0, none⟩ : Addr).add j) = some (.string u) := by
  intro j u hj
  match j, hj with
  | 0, hj => simp at hj; subst hj; simp [Addr.add]
  | 1, hj => simp at hj; subst hj; simp [Addr.add]
  | 2, hj => simp at hj; subst hj; simp [Addr.add]

theorem boxOf (kind : Int) (key : ByteArray) (ka : Option Addr) (kn kc : Nat) (keys : List ByteArray) (flags exp nn : Int) (value : ByteArray) (quiet : Bool) {w wx : World} {v : Value} {l : List ByteArray} (h : WordsAt (w.alloc (.cells #[.int .i64 kind, .string key, .slice ka keys.length kc, .int .i64 flags, .int .i64 exp, .int .i64 nn, .string value, .bool quiet] 24)) wx v l) :
    wx.cell? ⟨w.heap.size, 3, none⟩ = some (.int .i64 flags) ∧ wx.cell? ⟨w.heap.size, 4, none⟩ = some (.int .i64 exp) ∧ wx.cell? ⟨w.heap.size, 6, none⟩ = some (.string value) := by
  refine ⟨?_, ?_, ?_⟩
  · rw [h.2.cell (p := ⟨w.heap.size, 3, none⟩) (by simp)]; simp
  · rw [h.2.cell (p := ⟨w.heap.size, 4, none⟩) (by simp)]; simp
  · rw [h.2.cell (p := ⟨w.heap.size, 6, none⟩) (by simp)]; simp

theorem boxOf2 (kind : Int) (key : ByteArray) (ka : Option Addr) (kn kc : Nat) (keys : List ByteArray) (flags exp nn : Int) (value : ByteArray) (quiet : Bool) {w wx : World} {v : Value} {l : List ByteArray} (hL : LaidW w) (h1 : 1 ≤ kind) (h2 : kind ≤ 12) (h : WordsAt (w.alloc (.cells #[.int .i64 kind, .string key, .slice ka keys.length kc, .int .i64 flags, .int .i64 exp, .int .i64 nn, .string value, .bool quiet] 24)) wx v l) :
    wx.cell? ⟨w.heap.size, 0, none⟩ = some (.int .i64 kind) ∧ wx.cell? ⟨w.heap.size, 2, none⟩ = some (.slice ka keys.length kc) ∧ wx.cell? ⟨1, kind.toNat, none⟩ = some (.string (nameS kind.toNat)) := by
  refine ⟨?_, ?_, ?_⟩
  · rw [h.2.cell (p := ⟨w.heap.size, 0, none⟩) (by simp)]; simp
  · rw [h.2.cell (p := ⟨w.heap.size, 2, none⟩) (by simp)]; simp
  · rw [h.2.cell (p := ⟨1, kind.toNat, none⟩) (by have := hL.1.1; simp; omega), ((Below.refl w.heap.size w).alloc (Nat.le_refl _) _).cell (p := ⟨1, kind.toNat, none⟩) hL.1.1]
    exact hL.1.2 kind.toNat (by omega)

set_option maxHeartbeats 4000000 in
set_option maxRecDepth 100000 in
theorem lineWords_any (kind : Int) (key : ByteArray) (ka : Option Addr) (kn kc : Nat) (keys : List ByteArray) (flags exp nn : Int) (value : ByteArray) (quiet : Bool) (w : World) (hL : LaidW w) (h1 : 1 ≤ kind) (h2 : kind ≤ 12) (hK : StrsAt w ka keys.length keys) (hn : keys.length ≤ 1000)
    (f0 : 0 ≤ flags) (f1 : flags ≤ 65535) (e0 : 0 ≤ exp) (e1 : exp ≤ 1099511627776) (n0 : 0 ≤ nn) (n1 : nn ≤ 1099511627776) (hv : value.size ≤ maxLen) :
    Calls Tryd.prog 31 #[.agg #[.int .i64 kind, .string key, .slice ka keys.length kc, .int .i64 flags, .int .i64 exp, .int .i64 nn, .string value, .bool quiet]] w fun e w' => ∃ g cap, e = .returned (.slice (some ⟨g, 0, none⟩) (lineL kind key keys flags exp nn value quiet).length cap) ∧ WordsAt w w' (.slice (some ⟨g, 0, none⟩) (lineL kind key keys flags exp nn value quiet).length cap) (lineL kind key keys flags exp nn value quiet) := by
  have hnm : ∀ o, (w.alloc o).cell? ⟨1, kind.toNat, none⟩ = some (.string (nameS kind.toNat)) := fun o => by
    rw [((Below.refl w.heap.size w).alloc (Nat.le_refl _) o).cell (p := ⟨1, kind.toNat, none⟩) hL.1.1]
    exact hL.1.2 kind.toNat (by omega)
  have b0 : (0 : Int) ≤ kind := by omega
  have b1 : kind < 13 := by omega
  have hB0 : Below w.heap.size w (w.alloc (.cells #[.int .i64 kind, .string key, .slice ka keys.length kc, .int .i64 flags, .int .i64 exp, .int .i64 nn, .string value, .bool quiet] 24)) := (Below.refl _ _).alloc (Nat.le_refl _) _
  have hv' := hv
  unfold maxLen at hv'
  obtain ⟨l1, E1⟩ : ∃ l, Hid (l = [nameS kind.toNat] ++ keys) := ⟨_, rfl⟩
  obtain ⟨l2, E2⟩ : ∃ l, Hid (l = l1 ++ (if inB kind 2 11 = true then [key] else [])) := ⟨_, rfl⟩
  obtain ⟨l3, E3⟩ : ∃ l, Hid (l = l2 ++ (if inB kind 2 7 = true then [decS flags, decS exp, decS value.size] else [])) := ⟨_, rfl⟩
  obtain ⟨l4, E4⟩ : ∃ l, Hid (l = l3 ++ (if hasNB kind = true then [decS nn] else [])) := ⟨_, rfl⟩
  obtain ⟨l5, E5⟩ : ∃ l, Hid (l = l4 ++ (if kind = 11 then [decS exp] else [])) := ⟨_, rfl⟩
  obtain ⟨l6, E6⟩ : ∃ l, Hid (l = l5 ++ (if quiet = true then [quietS] else [])) := ⟨_, rfl⟩
  have EL : lineL kind key keys flags exp nn value quiet = l6 := by rw [E6.out, E5.out, E4.out, E3.out, E2.out, E1.out]; rfl
  rw [EL]
  clear EL
  have z1 : l1.length ≤ 1001 := by rw [E1.out]; simp; omega
  have z2 : l2.length ≤ 1002 := by rw [E2.out]; split <;> simp <;> omega
  have z3 : l3.length ≤ 1005 := by rw [E3.out]; split <;> simp <;> omega
  have z4 : l4.length ≤ 1006 := by rw [E4.out]; split <;> simp <;> omega
  have z5 : l5.length ≤ 1007 := by rw [E5.out]; split <;> simp <;> omega
  go_enter Tryd.func31, Tryd.ntmps31
  go_upto_region 1 with fail
  go_cut [3] (fun v wx => ∃ g cap, v = .slice (some ⟨g, 0, none⟩) l1.length cap ∧ WordsAt (w.alloc (.cells #[.int .i64 kind, .string key, .slice ka keys.length kc, .int .i64 flags, .int .i64 exp, .int .i64 nn, .string value, .bool quiet] 24)) wx v l1)
  case first =>
    by_cases hk : keys.length = 0
    · obtain rfl := List.length_eq_zero_iff.1 hk
      simp only [List.length_nil] at *
      have E1' : Hid (l1 = [nameS kind.toNat]) := E1.out
      clear E1
      go_region_held3 (fun w' => w'.cell? ⟨w.heap.size, 0, none⟩ = some (.int .i64 kind) ∧ w'.cell? ⟨w.heap.size, 2, none⟩ = some (.slice ka 0 kc) ∧ w'.cell? ⟨1, kind.toNat, none⟩ = some (.string (nameS kind.toNat))) (go_keep) ((refine append_zero_step _ (by rfl) _ _ (by rfl) _ _ _ _ _ (by rfl) (by rfl) (by omega) ?_))
      go_wp2
      go_meet
      exact ⟨_, _, by rw [E1'.out]; rfl, by rw [E1'.out]; exact (words_one (w.alloc (.cells #[.int .i64 kind, .string key, .slice ka 0 kc, .int .i64 flags, .int .i64 exp, .int .i64 nn, .string value, .bool quiet] 24)) (w.heap.size + 1) (by simp) (nameS kind.toNat)).drew⟩
    · obtain ⟨_, _, _, hmem⟩ := hK
      rcases hmem with hmem | ⟨b, off, rfl, hlt, hcell⟩
      · exact absurd hmem hk
      have hkc : ∀ (wx : World), Below w.heap.size w wx → ∀ j u, keys[j]? = some u → wx.cell? ((⟨b, off, none⟩ : Addr).add j) = some (.string u) := fun wx hb j u hj => by
        obtain ⟨hj1, hj2⟩ := List.getElem?_eq_some_iff.1 hj
        rw [WideShapes.add_plain, hb.cell (p := ⟨b, off + j, none⟩) hlt, hcell j hj1, List.getD_eq_getElem?_getD, hj]
        rfl
      have hwo := (words_one (w.alloc (.cells #[.int .i64 kind, .string key, .slice (some ⟨b, off, none⟩) keys.length kc, .int .i64 flags, .int .i64 exp, .int .i64 nn, .string value, .bool quiet] 24)) (w.heap.size + 1) (by simp) (nameS kind.toNat)).drew
      have hbo := hB0.trans (hwo.2.mono hB0.size)
      have E : Hid (l1 = [nameS kind.toNat] ++ keys) := E1
      clear hcell
      go_region_held3 (fun w' => w'.cell? ⟨w.heap.size, 0, none⟩ = some (.int .i64 kind) ∧ w'.cell? ⟨w.heap.size, 2, none⟩ = some (.slice (some ⟨b, off, none⟩) keys.length kc) ∧ w'.cell? ⟨1, kind.toNat, none⟩ = some (.string (nameS kind.toNat))) (first | go_keep | exact boxOf2 kind key (some ⟨b, off, none⟩) kn kc keys flags exp nn value quiet hL h1 h2 (by assumption))
        ((refine append_words_step _ (by rfl) (.tmp 8) (.tmp 10) (by rfl) _ _ [nameS kind.toNat] (by rfl) hwo ⟨b, off, none⟩ keys.length kc keys (by rfl) rfl (hkc _ hbo) (by omega) (by simp; omega) ?_; intro g2 cap2 w2 hW2))
      go_wp2
      go_meet
      exact ⟨g2, cap2, by rw [E.out, List.length_append]; rfl, by rw [E.out]; exact hW2⟩
  case rest =>
    obtain ⟨g, cap, rfl, hW⟩ := hcut
    obtain ⟨q1, q2⟩ := bcell hW.2
    have hz := wsize hW
    go_upto_if 14 with (go_at_call 46; refine (hasKey_any _ _).mono ?_; rintro e w' ⟨rfl, rfl⟩)
    go_cut [3] (fun v wx => ∃ g cap, v = .slice (some ⟨g, 0, none⟩) l2.length cap ∧ WordsAt (w.alloc (.cells #[.int .i64 kind, .string key, .slice ka keys.length kc, .int .i64 flags, .int .i64 exp, .int .i64 nn, .string value, .bool quiet] 24)) wx v l2)
    case first =>
      cases h : inB kind 2 11
      · have E : Hid (l2 = l1) := by have := E2.out; rw [if_neg (by simp [h])] at this; show l2 = l1; simpa using this
        go_wp2
        go_meet
        exact ⟨g, cap, by rw [E.out], by rw [E.out]; exact hW⟩
      · have E : Hid (l2 = l1 ++ [key]) := by have := E2.out; rw [if_pos h] at this; exact this
        go_wp2_with (at_builtin; refine append_words _ rfl (.tmp 15) (.tmp 18) rfl _ _ l1 rfl (hW.alloc _) _ 1 1 [key] rfl rfl (one_new _ _) (by omega) (by omega) ?_; intro g2 cap2 w2 hW2)
        go_meet
        exact ⟨g2, cap2, by rw [E.out, List.length_append]; rfl, by rw [E.out]; exact hW2⟩
    case rest =>
    clear hW q1 q2 hz
    obtain ⟨g, cap, rfl, hW⟩ := hcut
    obtain ⟨q1, q2⟩ := bcell hW.2
    have hz := wsize hW
    go_upto_if 22 with (go_at_call 23; refine (bringsV_any _ _).mono ?_; rintro e w' ⟨rfl, rfl⟩)
    go_cut [3] (fun v wx => ∃ g cap, v = .slice (some ⟨g, 0, none⟩) l3.length cap ∧ WordsAt (w.alloc (.cells #[.int .i64 kind, .string key, .slice ka keys.length kc, .int .i64 flags, .int .i64 exp, .int .i64 nn, .string value, .bool quiet] 24)) wx v l3)
    case first =>
      cases h : inB kind 2 7
      · have E : Hid (l3 = l2) := by have := E3.out; rw [if_neg (by simp [h])] at this; show l3 = l2; simpa using this
        go_wp2
        go_meet
        exact ⟨g, cap, by rw [E.out], by rw [E.out]; exact hW⟩
      · have E : Hid (l3 = l2 ++ [decS flags, decS exp, decS value.size]) := by have := E3.out; rw [if_pos h] at this; exact this
        have hWd := hW.drew
        clear hW q1 q2
        go_upto_region 5 with fail
        have hI1 := fun (w1 : World) (hW : WordsAt (w.alloc (.cells #[.int .i64 kind, .string key, .slice ka keys.length kc, .int .i64 flags, .int .i64 exp, .int .i64 nn, .string value, .bool quiet] 24)) w1 (.slice (some ⟨g, 0, none⟩) l2.length cap) l2) => itoaW flags (by omega) (by omega) w _ w1 _ _ hL hB0 hW
        have hI2 := fun (w1 : World) (hW : WordsAt (w.alloc (.cells #[.int .i64 kind, .string key, .slice ka keys.length kc, .int .i64 flags, .int .i64 exp, .int .i64 nn, .string value, .bool quiet] 24)) w1 (.slice (some ⟨g, 0, none⟩) l2.length cap) l2) => itoaW exp (by omega) (by omega) w _ w1 _ _ hL hB0 hW
        have hI3 := fun (w1 : World) (hW : WordsAt (w.alloc (.cells #[.int .i64 kind, .string key, .slice ka keys.length kc, .int .i64 flags, .int .i64 exp, .int .i64 nn, .string value, .bool quiet] 24)) w1 (.slice (some ⟨g, 0, none⟩) l2.length cap) l2) => itoaW (value.size : Int) (by omega) (by omega) w _ w1 _ _ hL hB0 hW
        have hm : l2.length + 3 ≤ 1000000 := by omega
        go_region_held3 (fun w' => w'.cell? ⟨w.heap.size, 3, none⟩ = some (.int .i64 flags) ∧ w'.cell? ⟨w.heap.size, 4, none⟩ = some (.int .i64 exp) ∧ w'.cell? ⟨w.heap.size, 6, none⟩ = some (.string value))
          (first | exact boxOf kind key ka kn kc keys flags exp nn value quiet hWd | exact boxOf kind key ka kn kc keys flags exp nn value quiet hWa | exact boxOf kind key ka kn kc keys flags exp nn value quiet hWb | exact boxOf kind key ka kn kc keys flags exp nn value quiet hWc | exact boxOf kind key ka kn kc keys flags exp nn value quiet (hWc.alloc _) | exact boxOf kind key ka kn kc keys flags exp nn value quiet hW2)
          (first
            | (go_at_call_of 19 (Value.int .i64 flags); refine (hI1 _ hWd).mono ?_; rintro e wa ⟨rfl, hWa⟩)
            | (go_at_call_of 19 (Value.int .i64 exp); refine (hI2 _ hWa).mono ?_; rintro e wb ⟨rfl, hWb⟩)
            | (go_at_call_of 19 (Value.int .i64 (value.size : Int)); refine (hI3 _ hWb).mono ?_; rintro e wcc ⟨rfl, hWc⟩)
            | (refine append_words_step _ (by rfl) (.tmp 23) (.tmp 34) (by rfl) _ _ l2 (by rfl) (hWc.alloc _) _ 3 3 [decS flags, decS exp, decS value.size] (by rfl) rfl (three_new _ _ _ _) (Nat.zero_lt_succ 2) hm ?_; intro g2 cap2 w2 hW2))
        go_wp2
        go_meet
        exact ⟨g2, cap2, by rw [E.out, List.length_append]; rfl, by rw [E.out]; exact hW2⟩
    case rest =>
    clear hW q1 q2 hz
    obtain ⟨g, cap, rfl, hW⟩ := hcut
    obtain ⟨q1, q2⟩ := bcell hW.2
    have hz := wsize hW
    go_upto_if 38 with (go_at_call 56; refine (hasN_any _ _).mono ?_; rintro e w' ⟨rfl, rfl⟩)
    go_cut [3] (fun v wx => ∃ g cap, v = .slice (some ⟨g, 0, none⟩) l4.length cap ∧ WordsAt (w.alloc (.cells #[.int .i64 kind, .string key, .slice ka keys.length kc, .int .i64 flags, .int .i64 exp, .int .i64 nn, .string value, .bool quiet] 24)) wx v l4)
    case first =>
      cases h : hasNB kind
      · have E : Hid (l4 = l3) := by have := E4.out; rw [if_neg (by simp [h])] at this; show l4 = l3; simpa using this
        go_wp2
        go_meet
        exact ⟨g, cap, by rw [E.out], by rw [E.out]; exact hW⟩
      · have E : Hid (l4 = l3 ++ [decS nn]) := by have := E4.out; rw [if_pos h] at this; exact this
        go_wp2_with (first | (go_at_call 19; refine (itoaW _ (by omega) (by omega) w _ _ _ _ hL hB0 hW).mono ?_; rintro e w' ⟨rfl, hW'⟩) | (at_builtin; refine append_words _ rfl (.tmp 39) (.tmp 43) rfl _ _ l3 rfl (WordsAt.alloc (by assumption) _) _ 1 1 [decS nn] rfl rfl (one_new _ _) (by omega) (by omega) ?_; intro g2 cap2 w2 hW2))
        go_meet
        exact ⟨g2, cap2, by rw [E.out, List.length_append]; rfl, by rw [E.out]; exact hW2⟩
    case rest =>
    clear hW q1 q2 hz
    obtain ⟨g, cap, rfl, hW⟩ := hcut
    obtain ⟨q1, q2⟩ := bcell hW.2
    have hz := wsize hW
    go_upto_if 47 with fail
    go_cut [3] (fun v wx => ∃ g cap, v = .slice (some ⟨g, 0, none⟩) l5.length cap ∧ WordsAt (w.alloc (.cells #[.int .i64 kind, .string key, .slice ka keys.length kc, .int .i64 flags, .int .i64 exp, .int .i64 nn, .string value, .bool quiet] 24)) wx v l5)
    case first =>
      by_cases h : kind = 11
      · have h' : (kind == 11) = true := by simp [h]
        have E : Hid (l5 = l4 ++ [decS exp]) := by have := E5.out; rw [if_pos h] at this; exact this
        clear h
        go_wp2_with (first | (go_at_call 19; refine (itoaW _ (by omega) (by omega) w _ _ _ _ hL hB0 hW).mono ?_; rintro e w' ⟨rfl, hW'⟩) | (at_builtin; refine append_words _ rfl (.tmp 48) (.tmp 52) rfl _ _ l4 rfl (WordsAt.alloc (by assumption) _) _ 1 1 [decS exp] rfl rfl (one_new _ _) (by omega) (by omega) ?_; intro g2 cap2 w2 hW2))
        go_meet
        exact ⟨g2, cap2, by rw [E.out, List.length_append]; rfl, by rw [E.out]; exact hW2⟩
      · have h' : (kind == 11) = false := by simp [h]
        have E : Hid (l5 = l4) := by have := E5.out; rw [if_neg h] at this; show l5 = l4; simpa using this
        clear h
        go_wp2
        go_meet
        exact ⟨g, cap, by rw [E.out], by rw [E.out]; exact hW⟩
    case rest =>
    clear hW q1 q2 hz
    obtain ⟨g, cap, rfl, hW⟩ := hcut
    obtain ⟨q1, q2⟩ := bcell hW.2
    have hz := wsize hW
    cases quiet
    · have E : Hid (l6 = l5) := by have := E6.out; rw [if_neg (by simp)] at this; show l6 = l5; simpa using this
      go_wp2
      go_ret
      exact ⟨g, cap, by rw [E.out]; rfl, by rw [E.out]; exact hW.down hB0⟩
    · have E : Hid (l6 = l5 ++ [quietS]) := by have := E6.out; rw [if_pos rfl] at this; exact this
      go_wp2_with (at_builtin; refine append_words _ rfl (.tmp 56) (.tmp 57) rfl _ _ l5 rfl (hW.alloc _) _ 1 1 [quietS] rfl rfl (one_new _ _) (by omega) (by omega) ?_; intro g2 cap2 w2 hW2)
      go_ret
      exact ⟨g2, cap2, by rw [E.out, List.length_append]; rfl, by rw [E.out, List.length_append]; exact hW2.down hB0⟩
end Go.Proofs.YtkjfkonekajffaaDoor
