/- The contract of wire.readLine at a line whose first word is the name of a kind that is none of Get. -/
import Derived.Test.YtkjfkonekajffaaDoorWithAny
namespace Go.Proofs.YtkjfkonekajffaaDoor
open Go.ChangeShapes Go.WideShapes Go.ChangeAt Go.RowKit
set_option linter.unusedVariables false

/-- The list l stands within ws from place o on. -/
def SubAt (ws l : List ByteArray) (o : Nat) : Prop := ∀ j, j < l.length → o + j < ws.length ∧ ws.getD (o + j) ByteArray.empty = l.getD j ByteArray.empty

theorem sub_tail (ws : List ByteArray) : SubAt ws ws.tail 1 := fun j hj => by
  simp at hj
  refine ⟨by omega, ?_⟩
  cases ws with
  | nil => simp at hj
  | cons a r => rw [Nat.add_comm 1 j]; rfl

theorem sub_take {ws l : List ByteArray} {o : Nat} (h : SubAt ws l o) (m : Nat) : SubAt ws (l.take m) o := fun j hj => by
  simp at hj
  obtain ⟨h1, h2⟩ := h j (by omega)
  refine ⟨h1, h2.trans ?_⟩
  simp [List.getD_eq_getElem?_getD, show j < m by omega]

theorem sub_drop {ws l : List ByteArray} {o : Nat} (h : SubAt ws l o) : SubAt ws l.tail (o + 1) := fun j hj => by
  simp at hj
  obtain ⟨h1, h2⟩ := h (j + 1) (by omega)
  refine ⟨by omega, ?_⟩
  rw [show o + 1 + j = o + (j + 1) by omega, h2]
  cases l with
  | nil => simp at hj
  | cons a r => rfl

theorem behind_at (k : Nat) (h : k ≤ 12) : behindL.getD k 0 = (mustN k : Int) := by
  have : ∀ k : Fin 13, behindL.getD k.val 0 = (mustN k.val : Int) := by decide
  exact this ⟨k, by omega⟩

theorem must_le (k : Nat) : mustN k ≤ 5 := by
  by_cases h : k < 13
  · have : ∀ k : Fin 13, mustN k.val ≤ 5 := by decide
    exact this ⟨k, h⟩
  · unfold mustN
    rw [List.getD_eq_getElem?_getD, List.getElem?_eq_none (by simp [behindL]; omega)]
    decide

theorem must_key (k : Nat) (h1 : 2 ≤ k) (h2 : k ≤ 12) (h : inB k 2 11 = true) : 1 ≤ mustN k := by
  have h3 : k ≤ 11 := by unfold inB at h; simp at h; omega
  have : ∀ k : Fin 12, 2 ≤ k.val → 1 ≤ mustN k.val := by decide
  exact this ⟨k, by omega⟩ h1

theorem numsD_len : ∀ (l : List ByteArray) (vs : List Int), numsD l = some vs → vs.length = l.length
  | [], vs, h => by simp [numsD] at h; simp [← h]
  | x :: r, vs, h => by
    unfold numsD at h
    cases hx : numD x with
    | none => rw [hx] at h; simp at h
    | some n =>
      rw [hx] at h
      cases hr : numsD r with
      | none => rw [hr] at h; simp at h
      | some l =>
        rw [hr] at h
        simp at h
        rw [← h]
        simp [numsD_len r l hr]

theorem fillD_kind (k : Int) (key : ByteArray) (q : Bool) (vs : List Int) : (fillD k key q vs).kind = k ∧ (fillD k key q vs).keys = [] ∧ (fillD k key q vs).key = key ∧ (fillD k key q vs).quiet = q := by
  unfold fillD
  split
  · exact ⟨rfl, rfl, rfl, rfl⟩
  · split
    · exact ⟨rfl, rfl, rfl, rfl⟩
    · exact ⟨rfl, rfl, rfl, rfl⟩

theorem quiet_beq (y : ByteArray) : (y.toList == [110, 111, 114, 101, 112, 108, 121]) = decide (y = quietS) := by
  have := beq_texts y quietS
  rw [show quietS.toList = [110, 111, 114, 101, 112, 108, 121] from by rw [ByteArray.toList_eq]; rfl] at this
  exact this

def RestPost (k : Nat) (t : List ByteArray) (w : World) (e : Ending) (w' : World) : Prop :=
  (lineRest k t = none ∧ e = .returned (.tuple #[.agg #[.int .i64 0, .string ⟨#[]⟩, .slice none 0 0, .int .i64 0, .int .i64 0, .int .i64 0, .string ⟨#[]⟩, .bool false], .int .i64 0, .bool false]) ∧ Below w.heap.size w w') ∨
      (∃ R, lineRest k t = some R ∧ R.kind = k ∧ R.keys = [] ∧ e = .returned (.tuple #[.agg #[.int .i64 k, .string R.key, .slice none 0 0, .int .i64 R.flags, .int .i64 R.exp, .int .i64 R.nn, .string ⟨#[]⟩, .bool R.quiet], .int .i64 R.size, .bool true]) ∧ Below w.heap.size w w')

set_option maxHeartbeats 8000000 in
set_option maxRecDepth 100000 in
theorem readLine_rest (s : ByteArray) (k : Nat) (w : World) (hL : LaidN w) (hs : s.size ≤ 300) (h0 : kindD ((lineWs s).getD 0 ByteArray.empty) = k) (k1 : 2 ≤ k) (k2 : k ≤ 12) :
    Calls Tryd.prog 21 #[.string s] w fun e w' => RestPost k (lineWs s).tail w e w' := by
  have hsp := fun (w1 : World) (hb : Below w.heap.size w w1) => split_row s w1 (hL.later hb) hs
  have hln := lineWs_length s
  obtain ⟨hz1, hz2⟩ := lineWs_sizes s
  generalize lineWs s = ws at *
  have hpos : 0 < ws.length := by omega
  have hko := fun (w1 : World) (hb : Below w.heap.size w w1) => kindOf_any (ws.getD 0 ByteArray.empty) w1 (hL.later hb)
  rw [h0] at hko
  have hB0 : Below w.heap.size w (w.alloc (.cells #[.int .i64 0, .string ⟨#[]⟩, .slice none 0 0, .int .i64 0, .int .i64 0, .int .i64 0, .string ⟨#[]⟩, .bool false] 24)) := (Below.refl _ _).alloc (Nat.le_refl _) _
  have kz0 : ((k : Int) == 0) = false := by rw [beq_eq_false_iff_ne]; omega
  have kz1 : ((k : Int) == 1) = false := by rw [beq_eq_false_iff_ne]; omega
  have kb0 : (0 : Int) ≤ (k : Int) := Int.natCast_nonneg _
  have kb1 : (k : Int) < 13 := by omega
  have mle := must_le k
  have mle1 : (mustN k : Int) ≤ 5 := by omega
  have mle0 : (0 : Int) ≤ (mustN k : Int) := Int.natCast_nonneg _
  clear h0 hln
  go_enter Tryd.func21, Tryd.ntmps21
  go_wp2_with fail
  refine (hsp _ hB0).mono ?_
  rintro e w2 ⟨B, rfl, hR⟩
  have hB2 := hB0.trans (hR.2.2.2.mono hB0.size)
  obtain ⟨q1, q2⟩ := bcell hR.2.2.2
  have hz := bsize hR.2.2.2
  have hw0 := hR.2.2.1 0 hpos
  have hposz : (0 : Int) < (ws.length : Int) := by omega
  generalize ws.getD 0 ByteArray.empty = w0 at *
  go_wp2_with fail
  refine (hko _ hB2).mono ?_
  rintro e w3 ⟨rfl, rfl⟩
  clear hko hsp
  have hRB := hR.2.1
  have hRA : w.heap.size + 1 ≤ B := by have := hR.1; simpa using this
  have hbm : ∀ x ∈ ws, x.size ≤ maxLen := fun x hx => by have := hz2 x hx; unfold maxLen; omega
  have hcw : Hid (∀ (o : Obj) (j : Nat), j < ws.length → (w3.alloc o).cell? ⟨B, j, none⟩ = some (.string (ws.getD j ByteArray.empty))) := fun o j hj => by
    rw [((Below.refl w3.heap.size w3).alloc (Nat.le_refl _) o).cell (p := ⟨B, j, none⟩) hRB]
    exact hR.2.2.1 j hj
  have hL3 := hL.later hB2
  have hmc : ∀ o, (w3.alloc o).cell? ⟨0, k, none⟩ = some (.int .i64 (mustN k : Int)) := fun o => by
    rw [((Below.refl w3.heap.size w3).alloc (Nat.le_refl _) o).cell (p := ⟨0, k, none⟩) hL3.2.1.1, hL3.2.1.2 k (by omega), behind_at k k2]
  have hne : B ≠ w.heap.size := by omega
  obtain ⟨t, ET⟩ : ∃ t, Hid (t = ws.tail) := ⟨_, rfl⟩
  have htl : t.length + 1 = ws.length := by rw [ET.out]; simp; omega
  clear hz2
  go_upto_region 3 with fail
  go_cut [5] (fun v wx => (∃ o, v = .slice (some ⟨B, o, none⟩) t.length t.length ∧ Hid (SubAt ws t o)) ∧ wx = w3.alloc (.cells #[.int .i64 k, .string ⟨#[]⟩, .slice none 0 0, .int .i64 0, .int .i64 0, .int .i64 0, .string ⟨#[]⟩, .bool false] 24))
  case first =>
    by_cases hl : ws.length = 1
    · have hl1 : (ws.length : Int) = 1 := by omega
      have hl0 : ws.length - 1 = 0 := by omega
      have ht0 : t.length = 0 := by omega
      have E : Hid ((Value.slice (some ⟨B, 0, none⟩) 0 0) = .slice (some ⟨B, 0, none⟩) t.length t.length) := by show _ = _; rw [ht0]
      have S : Hid (SubAt ws t 0) := fun j hj => by omega
      clear hl hpos hposz htl ht0
      go_wp2
      go_meet
      exact ⟨⟨0, by first | exact E.out | (rw [← E.out]; rfl), S⟩, rfl⟩
    · have hl1 : 1 < (ws.length : Int) := by omega
      have hl2 : ¬ (ws.length : Int) = 1 := by omega
      have E : Hid (t.length = ws.length - 1) := by show _ = _; omega
      have S : Hid (SubAt ws t 1) := by have := sub_tail ws; rw [← ET.out] at this; exact this
      clear htl
      go_wp2
      all_goals (go_meet; exact ⟨⟨1, by rw [E.out], S⟩, rfl⟩)
  case rest =>
    obtain ⟨⟨o, rfl, S⟩, rfl⟩ := hcut
    obtain ⟨q, EQ⟩ : ∃ q, Hid (q = lineQ k t) := ⟨_, rfl⟩
    go_upto_region 11 with fail
    go_cut [45] (fun v wx => v = .bool q ∧ wx = w3.alloc (.cells #[.int .i64 k, .string ⟨#[]⟩, .slice none 0 0, .int .i64 0, .int .i64 0, .int .i64 0, .string ⟨#[]⟩, .bool false] 24))
    case first =>
      by_cases h1 : t.length = mustN k + 1
      · have he : ((t.length : Int) == (mustN k : Int) + 1) = true := by rw [beq_iff_eq]; omega
        obtain ⟨y1, y2⟩ := S.out (mustN k) (by omega)
        have hc := hcw.out (.cells #[.int .i64 k, .string ⟨#[]⟩, .slice none 0 0, .int .i64 0, .int .i64 0, .int .i64 0, .string ⟨#[]⟩, .bool false] 24) (o + mustN k) y1
        rw [y2] at hc
        have E : Hid (q = decide (t.getD (mustN k) ByteArray.empty = quietS)) := by
          have := EQ.out
          unfold lineQ at this
          rw [decide_eq_true h1, Bool.true_and] at this
          exact this
        have hlt : (mustN k : Int) < (t.length : Int) := by omega
        clear y1 y2
        generalize t.getD (mustN k) ByteArray.empty = y at *
        have hq := quiet_beq y
        cases hd : decide (y = quietS)
        · rw [hd] at hq
          have E2 : Hid (false = q) := by show _ = _; rw [E.out, hd]
          clear hd h1
          go_wp2
          go_meet
          exact ⟨by rw [← E2.out], rfl⟩
        · rw [hd] at hq
          have E2 : Hid (true = q) := by show _ = _; rw [E.out, hd]
          clear hd h1
          go_wp2
          go_meet
          exact ⟨by rw [← E2.out], rfl⟩
      · have he : ((t.length : Int) == (mustN k : Int) + 1) = false := by rw [beq_eq_false_iff_ne]; omega
        have E2 : Hid (false = q) := by
          have := EQ.out
          unfold lineQ at this
          rw [decide_eq_false h1, Bool.false_and] at this
          exact this.symm
        clear h1
        go_wp2
        go_meet
        exact ⟨by rw [← E2.out], rfl⟩
    case rest =>
    obtain ⟨rfl, rfl⟩ := hcut
    obtain ⟨u, EU⟩ : ∃ u, Hid (u = lineU k t) := ⟨_, rfl⟩
    have SU : Hid (SubAt ws u o) := by
      show SubAt ws u o
      rw [EU.out]
      unfold lineU
      split
      · exact sub_take S.out _
      · exact S.out
    go_upto_if 45 with fail
    go_cut [5] (fun v wx => (∃ c, v = .slice (some ⟨B, o, none⟩) u.length c ∧ u.length ≤ c ∧ c ≤ 1000) ∧ wx = w3.alloc (.cells #[.int .i64 k, .string ⟨#[]⟩, .slice none 0 0, .int .i64 0, .int .i64 0, .int .i64 0, .string ⟨#[]⟩, .bool q] 24))
    case first =>
      cases q
      · have E : Hid (u = t) := by show _ = _; rw [EU.out]; unfold lineU; rw [← EQ.out]; rfl
        go_wp2
        go_meet
        exact ⟨⟨t.length, by rw [E.out], by rw [E.out]; exact Nat.le_refl _, by omega⟩, rfl⟩
      · have h1 : t.length = mustN k + 1 := by
          have := EQ.out
          unfold lineQ at this
          simp at this
          exact this.1
        have E : Hid (u.length = mustN k) := by show _ = _; rw [EU.out]; unfold lineU; rw [← EQ.out]; simp; omega
        have hlt : (mustN k : Int) ≤ (t.length : Int) := by omega
        have E3 : Hid (u.length ≤ t.length ∧ t.length ≤ 1000) := ⟨by rw [E.out]; omega, by omega⟩
        clear h1
        go_wp2
        go_meet
        exact ⟨⟨t.length, by rw [E.out], E3.out.1, E3.out.2⟩, rfl⟩
    case rest =>
    obtain ⟨⟨c, rfl, hc1, hc2⟩, rfl⟩ := hcut
    go_upto_if 53 with fail
    by_cases hu : u.length = mustN k
    case neg =>
      have hu' : ((u.length : Int) != (mustN k : Int)) = true := by rw [bne_iff_ne]; omega
      have N : Hid (lineRest k ws.tail = none) := by
        show lineRest k ws.tail = none
        unfold lineRest
        rw [← ET.out, ← EU.out, if_neg hu]
      clear hu
      go_wp2
      exact bodyPost_ret (v := .tuple #[.agg #[.int .i64 0, .string ⟨#[]⟩, .slice none 0 0, .int .i64 0, .int .i64 0, .int .i64 0, .string ⟨#[]⟩, .bool false], .int .i64 0, .bool false]) (by simp [results, Tryd.results21, go_sem, q1, hz]) rfl (Or.inl ⟨N.out, rfl, ((((((((hB2.setCell (Nat.le_refl _) _).setCell (Nat.le_refl _) _).setCell (Nat.le_refl _) _).setCell (Nat.le_refl _) _).setCell (Nat.le_refl _) _).setCell (Nat.le_refl _) _).setCell (Nat.le_refl _) _).setCell (Nat.le_refl _) _).alloc (by simp; omega) _⟩)
    case pos =>
    have hu' : ((u.length : Int) != (mustN k : Int)) = false := by rw [bne_eq_false_iff_eq]; omega
    obtain ⟨ns, EN⟩ : ∃ l, Hid (l = if inB k 2 11 = true then u.tail else u) := ⟨_, rfl⟩
    obtain ⟨ky, EK⟩ : ∃ l, Hid (l = if inB k 2 11 = true then u.getD 0 ByteArray.empty else ByteArray.empty) := ⟨_, rfl⟩
    have HU : Hid (u.length = mustN k) := hu
    clear hu
    have hhk := hasKey_any (k : Int)
    go_upto_if 57 with (go_at_call 46; refine (hhk _).mono ?_; rintro e w' ⟨rfl, rfl⟩)
    go_cut [5] (fun v wx => (∃ o2 c2, v = .slice (some ⟨B, o2, none⟩) ns.length c2 ∧ Hid (SubAt ws ns o2)) ∧ wx = w3.alloc (.cells #[.int .i64 k, .string ky, .slice none 0 0, .int .i64 0, .int .i64 0, .int .i64 0, .string ⟨#[]⟩, .bool q] 24))
    case first =>
      cases hk : inB (k : Int) 2 11
      · have E : Hid (ns = u) := by have := EN.out; rw [if_neg (by simp [hk])] at this; exact this
        have E2 : Hid (ky = ⟨#[]⟩) := by have := EK.out; rw [if_neg (by simp [hk])] at this; exact this
        clear hk
        go_wp2
        go_meet
        exact ⟨⟨o, c, by rw [E.out], by rw [E.out]; exact SU⟩, by rw [E2.out]⟩
      · have E : Hid (ns = u.tail) := by have := EN.out; rw [if_pos hk] at this; exact this
        have E2 : ky = u.getD 0 ByteArray.empty := by have := EK.out; rw [if_pos hk] at this; exact this
        have hm1 := must_key k k1 k2 hk
        have hup : 0 < u.length := by have := HU.out; omega
        obtain ⟨y1, y2⟩ := SU.out 0 hup
        have hcy := hcw.out (.cells #[.int .i64 k, .string ⟨#[]⟩, .slice none 0 0, .int .i64 0, .int .i64 0, .int .i64 0, .string ⟨#[]⟩, .bool q] 24) (o + 0) y1
        rw [y2, ← E2, Nat.add_zero] at hcy
        have ST := sub_drop SU.out
        rw [← E.out] at ST
        have hns : ns.length = u.length - 1 := by rw [E.out]; simp
        have hupz : (0 : Int) < (u.length : Int) := by omega
        have hup1 : (1 : Int) ≤ (u.length : Int) := by omega
        clear hk y1 y2 E2
        by_cases hcc : c = 1
        · have hn0 : Hid (ns.length = 0) := by show _ = _; omega
          have hu1 : Hid (u.length = 1) := by show _ = _; omega
          have hu0 : u.length - 1 = 0 := by omega
          have S0 : Hid (SubAt ws ns o) := fun j hj => by have := hn0.out; omega
          clear hns ST
          subst hcc
          go_wp2
          all_goals (go_meet; exact ⟨⟨o, 0, by rw [hn0.out], S0⟩, rfl⟩)
        · have hn0 : Hid (ns.length = u.length - 1) := hns
          have hcz : 1 < c := by omega
          have hcz1 : (1 : Int) < (c : Int) := by omega
          have S0 : Hid (SubAt ws ns (o + 1)) := ST
          clear hns ST
          go_wp2
          all_goals (go_meet; exact ⟨⟨o + 1, _, by rw [hn0.out], S0⟩, rfl⟩)
    case rest =>
    obtain ⟨⟨o2, c2, rfl, SN⟩, rfl⟩ := hcut
    have hnl : ns.length ≤ 1000 := by
      rw [EN.out]
      have := HU.out
      split <;> (try simp) <;> omega
    have hnn : Hid (ns.length = needN k) := by
      show _ = _
      rw [EN.out]
      unfold needN
      have := HU.out
      split <;> (try simp) <;> omega
    have hnst : StrsAt (w3.alloc (.cells #[.int .i64 k, .string ky, .slice none 0 0, .int .i64 0, .int .i64 0, .int .i64 0, .string ⟨#[]⟩, .bool q] 24)) (some ⟨B, o2, none⟩) ns.length ns := by
      refine ⟨rfl, by unfold maxLen; omega, fun x hx => ?_, Or.inr ⟨B, o2, rfl, by simp; omega, fun j hj => ?_⟩⟩
      · obtain ⟨j, hj, rfl⟩ := List.mem_iff_getElem.1 hx
        obtain ⟨y1, y2⟩ := SN.out j hj
        have : ns[j] = ws.getD (o2 + j) ByteArray.empty := by rw [y2, List.getD_eq_getElem?_getD, List.getElem?_eq_getElem hj]; rfl
        rw [this]
        exact hbm _ (mem_getD ws (o2 + j) y1)
      · obtain ⟨y1, y2⟩ := SN.out j hj
        rw [hcw.out (.cells #[.int .i64 k, .string ky, .slice none 0 0, .int .i64 0, .int .i64 0, .int .i64 0, .string ⟨#[]⟩, .bool q] 24) (o2 + j) y1, y2]
    have hnum := numbers_any ns (some ⟨B, o2, none⟩) c2 (w3.alloc (.cells #[.int .i64 k, .string ky, .slice none 0 0, .int .i64 0, .int .i64 0, .int .i64 0, .string ⟨#[]⟩, .bool q] 24)) hnst hnl
    clear hnst
    go_wp2_with fail
    refine hnum.mono ?_
    rintro e w4 hN
    clear hnum
    rcases hN with ⟨hN, rfl, hb4⟩ | ⟨vs, v, hN, rfl, hI⟩
    · have N : Hid (lineRest k ws.tail = none) := by
        show lineRest k ws.tail = none
        unfold lineRest
        rw [← ET.out, ← EU.out, if_pos HU.out, ← EN.out, hN]
      have hB4 : Below w.heap.size w w4 := ((hB2.alloc (by omega) _).trans (hb4.mono (by simp; omega)))
      obtain ⟨p1, p2⟩ := bcell hb4
      have hz4 : w.heap.size < w4.heap.size := by have := hb4.size; simp at this; omega
      have hz5 : w.heap.size < w3.heap.size + 1 := by omega
      clear hN
      go_wp2
      exact bodyPost_ret (v := .tuple #[.agg #[.int .i64 0, .string ⟨#[]⟩, .slice none 0 0, .int .i64 0, .int .i64 0, .int .i64 0, .string ⟨#[]⟩, .bool false], .int .i64 0, .bool false]) (by simp [results, Tryd.results21, go_sem, q1, p1, hz, hz5]) rfl (Or.inl ⟨N.out, rfl, ((((((((hB4.setCell (Nat.le_refl _) _).setCell (Nat.le_refl _) _).setCell (Nat.le_refl _) _).setCell (Nat.le_refl _) _).setCell (Nat.le_refl _) _).setCell (Nat.le_refl _) _).setCell (Nat.le_refl _) _).setCell (Nat.le_refl _) _)⟩)
    · have hb4 := hI.2
      have hvl : vs.length = ns.length := numsD_len ns vs hN
      have hwn := fun (w1 : World) (hb : Below w4.heap.size w4 w1) => withNum_any k ky q vs v _ w1 k1 k2 (hI.later hb) (hvl.trans hnn.out)
      have N : Hid (lineRest k ws.tail = some (fillD k ky q vs)) := by
        show lineRest k ws.tail = _
        unfold lineRest
        rw [← ET.out, ← EU.out, if_pos HU.out, ← EN.out, hN, ← EQ.out, ← EK.out]
      have F : Hid ((fillD k ky q vs).kind = k ∧ (fillD k ky q vs).keys = [] ∧ (fillD k ky q vs).key = ky ∧ (fillD k ky q vs).quiet = q) := fillD_kind _ _ _ _
      have hB4 : Below w.heap.size w w4 := ((hB2.alloc (by omega) _).trans (hb4.mono (by simp; omega)))
      obtain ⟨p1, p2⟩ := bcell hb4
      have hz4 : w.heap.size < w4.heap.size := by have := hb4.size; simp at this; omega
      have hz5 : w.heap.size < w3.heap.size + 1 := by omega
      have hz6 : w3.heap.size < w4.heap.size := by have := hb4.size; simp at this; omega
      clear hN hvl
      generalize fillD k ky q vs = R at *
      go_wp2_with fail
      refine (hwn _ (Below.refl _ _)).mono ?_
      rintro e w5 ⟨rfl, hb5⟩
      have hB5 : Below w.heap.size w w5 := hB4.trans (hb5.mono (by omega))
      obtain ⟨r1, r2⟩ := bcell hb5
      clear hwn
      go_wp2
      exact bodyPost_ret (v := .tuple #[.agg #[.int .i64 k, .string ky, .slice none 0 0, .int .i64 R.flags, .int .i64 R.exp, .int .i64 R.nn, .string ⟨#[]⟩, .bool q], .int .i64 R.size, .bool true]) (by simp [results, Tryd.results21, go_sem, q1, p1, r1, hz, hz4, hz5]) rfl (Or.inr ⟨R, N.out, F.out.1, F.out.2.1, by rw [F.out.2.2.1, F.out.2.2.2], ((((((((((((((((hB5.setCell (Nat.le_of_lt hz) _).setCell (Nat.le_of_lt hz) _).setCell (Nat.le_of_lt hz) _).setCell (Nat.le_of_lt hz) _).setCell (Nat.le_of_lt hz) _).setCell (Nat.le_of_lt hz) _).setCell (Nat.le_of_lt hz) _).setCell (Nat.le_of_lt hz) _).setCell (Nat.le_refl _) _).setCell (Nat.le_refl _) _).setCell (Nat.le_refl _) _).setCell (Nat.le_refl _) _).setCell (Nat.le_refl _) _).setCell (Nat.le_refl _) _).setCell (Nat.le_refl _) _).setCell (Nat.le_refl _) _)⟩)
end Go.Proofs.YtkjfkonekajffaaDoor
