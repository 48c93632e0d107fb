/- The contract of dovecoteref.AppendedOf. -/
import Derived.Test.YtbabiandegianaaRApp
import Derived.Test.YtbabiandegianaaRTail
import Derived.Test.YtbabiandegianaaRegCall
import Derived.Deep.RegionHeld3
import Derived.Deep.DeepCutAuto
namespace Go.Proofs.Ytbabiandegianaa
open Go.ChangeShapes Go.WideShapes Go.ChangeAt Go.RowKit
set_option linter.unusedVariables false
set_option linter.unusedSimpArgs false

/-- The three boxes, and that of the flash that is made, in block B. -/
def ApC (w wi : World) (cs : Array Value) (B : Nat) (ds : Array Value) : Prop := ApB w wi cs ∧ TB 24 wi B ds ∧ w.heap.size + 3 ≤ B
theorem ApC.later {w wi w' : World} {cs ds : Array Value} {B : Nat} (h : ApC w wi cs B ds) (hb : Below wi.heap.size wi w') : ApC w w' cs B ds := ⟨h.1.later hb, h.2.1.later hb, h.2.2⟩
theorem ApC.fr {O : Nat → Prop} {w wi w' : World} {cs ds : Array Value} {B : Nat} (h : ApC w wi cs B ds) (hf : Fr O wi w') (ho : ∀ b, O b → w.heap.size + 3 ≤ b ∧ b ≠ B) : ApC w w' cs B ds := ⟨h.1.fr hf (fun b hb => (ho b hb).1), hf.tb h.2.1 (fun e => (ho B e).2 rfl), h.2.2⟩
theorem ApC.set {w wi : World} {cs ds : Array Value} {B : Nat} (h : ApC w wi cs B ds) (j : Nat) (v : Value) : ApC w (wi.setCell ⟨B, j, none⟩ v) cs B (ds.setIfInBounds j v) := by
  refine ⟨h.1.fr (O := fun b => b = B) ((Fr.refl _ _).set _ _ (Or.inl rfl)) (fun b hb => by have := h.2.2; omega), h.2.1.set j v, h.2.2⟩

set_option maxHeartbeats 8000000 in
set_option maxRecDepth 100000 in
theorem rappend_ok (m x : Int) (ps : List PageR) (a : Option Addr) (c : Nat) (s : ByteArray) (w : World) (hA : PagesAt w a ps) (hs : s.size ≤ maxLen) (hvi : VIn) (hr : refN m x ps s.size = 0) :
    Calls Try.prog 7 #[.agg #[.int .i64 m, .int .i64 x, .slice a ps.length c], .string s] w (AppOk m (appF m x ps (recOf s.data.toList)) w) := by
  have hmay : mayB m x ps = true := by
    cases hm : mayB m x ps
    · unfold refN at hr; rw [hm] at hr; simp at hr
    · rfl
  have hs200 : s.size ≤ 200 := by
    rcases Nat.lt_or_ge 200 s.size with h | h
    · unfold refN at hr; rw [hmay, if_pos rfl, if_pos h] at hr; simp at hr
    · exact h
  have hm0 : m ≠ 0 := by
    intro h
    unfold refN at hr
    rw [hmay, if_pos rfl, if_neg (by omega), if_pos h] at hr
    simp at hr
  have hxm : x ≠ 1099511627776 := by
    intro h
    unfold refN at hr
    rw [hmay, if_pos rfl, if_neg (by omega), if_neg hm0, if_pos h] at hr
    simp at hr
  obtain ⟨f1, f2, f3, f4, f5, f6⟩ := may_facts hmay
  obtain ⟨rl1, rl2, rl3⟩ := room_len (n := (recOf s.data.toList).length) hmay hm0
  have hRl : (recOf s.data.toList).length = 3 + s.size := recOf_len _
  have hrne := roomP_ne m x ps (recOf s.data.toList).length
  have I0 := rapp_boxes m x a ps.length c w
  have hmc := fun w1 (hb : Below w.heap.size w w1) => may_any m x ps a c w1 (hA.later hb) (fun l a c w h1 h2 h3 h4 => (hvi l a c w h1 h2 h3 h4).mono fun e w' ⟨u, v, g1, g2, _⟩ => ⟨u, v, g1, g2⟩)
  rw [hmay] at hmc
  have hcp := fun w1 (hb : Below w.heap.size w w1) => rflash_own m x ps a c w1 (hA.later hb) (by omega) (fun j hj => by have := (f6 _ (List.getElem_mem hj)).2; rw [List.getD_eq_getElem?_getD, List.getElem?_eq_getElem hj]; show ps[j].bs.length ≤ _; omega)
  have hof := fun w1 => bytesOf_any s w1 hs200
  unfold BytesPost at hof
  have hz0s : (s.size : Int) ≤ 200 := by omega
  have q2 : (m == 0) = false := by simpa using hm0
  have q3 : (x == 1099511627776) = false := by simpa using hxm
  have hwx : IntKind.i64.wrap (x + 1) = x + 1 := by simp only [IntKind.wrap_i64]; omega
  have hpl : ps.length ≤ 20 := by omega
  unfold appF
  simp only
  generalize hR : recOf s.data.toList = R at *
  have hRP : roomP m x ps R.length = if fitsB ps R.length = true then (ps, x, 0) else if (ps.length : Int) = m then (ps.tail ++ [⟨x, []⟩], x + 1, (ps.headD default).num) else (ps ++ [⟨x, []⟩], x + 1, 0) := rfl
  generalize roomP m x ps R.length = rp at *
  obtain ⟨rps, rx, rg⟩ := rp
  simp only at *
  have hbsl : ∀ (l0 : List (PageR × Value)) (q : PageR × Value), (l0 ++ [q]).map (fun y : PageR × Value => y.1) = rps → ∀ y ∈ l0, y.1.bs.length ≤ 256 := fun l0 q e y hy => rl2 y.1 (by rw [← e]; simp; exact Or.inl ⟨_, hy⟩)
  have hpost : Hid (∀ (a' : Option Addr) (c' : Nat) (w' : World), PagesFrom w.heap.size w' a' (lastP rps R) → Below w.heap.size w w' → AppOk m ⟨lastP rps R, rx, (rps.getLastD default).num, (rps.getLastD default).bs.length, rg⟩ w (.returned (.tuple #[.agg #[.int .i64 m, .int .i64 rx, .slice a' (lastP rps R).length c'], .agg #[.int .i64 (rps.getLastD default).num, .int .i64 (rps.getLastD default).bs.length], .int .i64 rg, .int .i64 0])) w') := fun a' c' w' h1 h2 => ⟨a', c', rfl, h1, h2⟩
  generalize AppOk m ⟨lastP rps R, rx, (rps.getLastD default).num, (rps.getLastD default).bs.length, rg⟩ w = PO at *
  have hRl2 : Hid (R.length = 3 + s.size) := hRl
  clear hRl
  go_enter Try.func7, Try.ntmps7
  go_upto_region 8 with (first | (go_at_call 17; refine (hmc _ I0.2.2.2).mono ?_; rintro e w1 ⟨rfl, hb1⟩; have I1 := I0.later hb1; have x1 := (fun j => I1.1.cell j); have l1 := I1.1.lt) | (go_at_call 5; refine (hcp _ I1.2.2.2).mono ?_; rintro e w2 ⟨v2, l2, rfl, hl2, hP2, hb2⟩; obtain ⟨va, vc, rfl⟩ := hP2.slice; have I2 := I1.later hb2))
  have hB8 : w.heap.size + 3 ≤ w2.heap.size := by have := I2.2.2.1.lt; omega
  have hP3 : PgO (fun b => w1.heap.size ≤ b ∧ b ≠ w2.heap.size) (w2.alloc (.cells #[.int .i64 m, .int .i64 x, .slice va l2.length vc] 24)) (.slice va l2.length vc) l2 := (hP2.toO.mono (fun b hb => ⟨hb.1, by omega⟩)).later ((Below.refl _ _).alloc (Nat.le_refl _) _)
  have J3 : ApC w (w2.alloc (.cells #[.int .i64 m, .int .i64 x, .slice va l2.length vc] 24)) #[.int .i64 m, .int .i64 x, .slice a ps.length c] w2.heap.size #[.int .i64 m, .int .i64 x, .slice va l2.length vc] := ⟨I2.later ((Below.refl _ _).alloc (Nat.le_refl _) _), TB.new _ _ _, hB8⟩
  have hO1 : ∀ b, (w1.heap.size ≤ b ∧ b ≠ w2.heap.size) → w.heap.size + 3 ≤ b ∧ b ≠ w2.heap.size := fun b hb => ⟨by have := I1.2.2.1.lt; omega, hb.2⟩
  have hB8w : w1.heap.size ≤ w2.heap.size := hb2.size
  generalize hB8e : w2.heap.size = B8 at *
  generalize hW3 : w2.alloc (.cells #[.int .i64 m, .int .i64 x, .slice va l2.length vc] 24) = W3 at *
  have hW3s : w1.heap.size ≤ W3.heap.size ∧ B8 < W3.heap.size := ⟨by have := J3.2.1.lt; omega, J3.2.1.lt⟩
  clear hW3 hP2 hb2 I2 hb1 x1 l1 I1 I0 hcp hmc hA hB8e
  have x3 := fun j => J3.1.1.cell j
  have l3 := J3.1.1.lt
  have z3 := fun j => J3.2.1.cell j
  have fz3 := fun j => J3.2.1.frozen j
  have lz3 := J3.2.1.lt
  have hll : l2.length = ps.length := by rw [← hl2]; simp
  have hvs : Value.slice va l2.length vc = .slice va ps.length vc := by rw [hll]
  go_upto_region 10 with fail
  go_cut [53] (fun b wx => b = .bool (!fitsB ps R.length) ∧ wx = W3)
  case first =>
    by_cases hne : l2 = []
    · subst hne
      have hps : ps = [] := by rw [← hl2]; rfl
      subst hps
      go_wp2_with fail
      go_meet
      exact ⟨rfl, rfl⟩
    · obtain ⟨l0, q, hlq⟩ := last_split l2 hne
      have hql : q ∈ l2 := by rw [hlq]; simp
      have hqb : q.1.bs.length ≤ 256 := (f6 q.1 (by rw [← hl2]; exact List.mem_map_of_mem hql)).2
      have hlen : l2.length = l0.length + 1 := by rw [hlq]; simp
      obtain ⟨l0', q', gr, cp, pa, pc, e1, e2, hqv, hOg, hgl, c1, c2, fz⟩ := pgO_last hP3 hne (fun p hp => (f6 p.1 (by rw [← hl2]; exact List.mem_map_of_mem hp)).2)
      obtain ⟨rfl, rfl⟩ : l0' = l0 ∧ q' = q := by rw [hlq] at e1; have := List.append_inj' e1 rfl; simp at this; exact ⟨this.1.symm, this.2.symm⟩
      have hfB : fitsB ps R.length = decide (q'.1.bs.length + R.length ≤ 256) := by rw [← hl2, hlq]; simp [fitsB]
      obtain ⟨rfl, rfl⟩ : va = some ⟨gr, 0, none⟩ ∧ vc = cp := by simp at e2; exact ⟨e2.1, e2.2.2⟩
      clear e1 e2
      have hz0 : ((ps.length : Int) == 0) = false := by rw [beq_eq_false_iff_ne]; omega
      have hz1 : (ps.length : Int) - 1 = (l0'.length : Int) := by omega
      have hz2 : IntKind.i64.wrap (l0'.length : Int) = (l0'.length : Int) := by simp only [IntKind.wrap_i64]; omega
      have hz3 : (0 : Int) ≤ (l0'.length : Int) := by omega
      have hz4 : (l0'.length : Int) < (ps.length : Int) := by omega
      have hz5 : (ps.length : Int) ≤ 20 := by omega
      have hz6 : (q'.1.bs.length : Int) ≤ 256 := by omega
      have hz7 : (0 : Int) ≤ (s.size : Int) := by omega
      have hd : (!fitsB ps R.length) = decide (256 < (q'.1.bs.length : Int) + 3 + (s.size : Int)) := by
        rw [hfB, hRl2.out]
        by_cases h : q'.1.bs.length + (3 + s.size) ≤ 256
        · rw [decide_eq_true h, decide_eq_false (by omega)]; rfl
        · rw [decide_eq_false h, decide_eq_true (by omega)]; rfl
      have hd' : Hid ((!fitsB ps R.length) = decide (256 < (q'.1.bs.length : Int) + 3 + (s.size : Int))) := hd
      clear hd
      clear hlq hfB
      go_wp2_with fail
      go_meet
      trace_state
      exact ⟨by rw [hd'.out], rfl⟩
  case rest =>
  obtain ⟨rfl, rfl⟩ := hcut
  go_upto_if 53 with fail
  go_cut [10] (fun b wx => b = .int .i64 rg ∧ ∃ gb off cp l0 qn qb pa pc, (l0.map (fun y : PageR × Value => y.1)) ++ [⟨qn, qb⟩] = rps ∧ ApC w wx #[.int .i64 m, .int .i64 x, .slice a ps.length c] B8 #[.int .i64 m, .int .i64 rx, .slice (some ⟨gb, off, none⟩) (l0.length + 1) cp] ∧ TlO (fun b => w1.heap.size ≤ b ∧ b ≠ B8) wx gb off (l0 ++ [((⟨qn, qb⟩ : PageR), Value.slice pa qb.length pc)]))
  case first =>
    cases hf : fitsB ps R.length
    · rw [hf] at hRP
      rw [if_neg (by decide)] at hRP
      by_cases hm : (ps.length : Int) = m
      · rw [if_pos hm] at hRP
        obtain ⟨rfl, rfl, rfl⟩ : rps = ps.tail ++ [⟨x, []⟩] ∧ rx = x + 1 ∧ rg = (ps.headD default).num := by simpa using hRP
        have hne : l2 ≠ [] := by
          intro h
          subst h
          have : ps = [] := by rw [← hl2]; rfl
          subst this
          exact hm0 (by rw [← hm]; rfl)
        obtain ⟨p0, lt, rfl⟩ := List.exists_cons_of_ne_nil hne
        obtain ⟨gr, cp, e2, hgl, hgO, c0⟩ : ∃ gr cp, Value.slice va (p0 :: lt).length vc = .slice (some ⟨gr, 0, none⟩) (lt.length + 1) cp ∧ gr < wc.heap.size ∧ (w1.heap.size ≤ gr ∧ gr ≠ B8) ∧ wc.cell? ⟨gr, 0, none⟩ = some (.int .i64 p0.1.num) := by
          rcases hP3.1.1.2 with ⟨_, h0⟩ | ⟨g, cap, cur, hv, hg, hc, h1, h2, h3, h4⟩
          · simp at h0
          · have hy : ((p0 :: lt).flatMap pgCells)[0]? = some (.int .i64 p0.1.num) := rfl
            refine ⟨g, cap, hv, (Array.getElem?_eq_some_iff.1 hc).1, hP3.2.1 g (by rw [hv]; rfl), ?_⟩
            rw [cell_of_row wc g _ cur 40 (0, 0) hc, ← hy, ← h4, List.getElem?_take_of_lt (by simp), Array.getElem?_toList]
        obtain ⟨rfl, rfl⟩ : va = some ⟨gr, 0, none⟩ ∧ vc = cp := by simp at e2; exact ⟨e2.1, e2.2⟩
        have hpn : Hid ((ps.headD default).num = p0.1.num) := by unfold Hid; rw [← hl2]; rfl
        have hpt : Hid (ps.tail = lt.map (fun y : PageR × Value => y.1)) := by unfold Hid; rw [← hl2]; rfl
        have hpl2 : ps.length = lt.length + 1 := by rw [← hll]; rfl
        have hmz : ((ps.length : Int) == m) = true := by rw [beq_iff_eq]; exact hm
        have hz6 : (0 : Int) < (ps.length : Int) := by omega
        have hz7 : (1 : Int) ≤ (ps.length : Int) := by omega
        have hz8 : ps.length - 1 = lt.length := by omega
        obtain ⟨cur3, _, hg3, hnc3, hcm3, _, _⟩ := owns_block (by have := hP3.1.1; exact this)
        have hcp1 : 1 ≤ vc := by simp at hnc3; omega
        have hcp2 : vc ≤ 9223372036854775807 := by unfold maxLen at hcm3; exact hcm3
        obtain ⟨A, hA⟩ : ∃ A : Addr, (if vc = 1 then some (⟨gr, 0, none⟩ : Addr) else some ⟨gr, 2, none⟩) = some A := by
          by_cases h : vc = 1
          · exact ⟨⟨gr, 0, none⟩, by simp [h]⟩
          · exact ⟨⟨gr, 2, none⟩, by simp [h]⟩
        clear hg3 hnc3 hcm3 e2 hpl2 hm
        have hlt20 : (lt.length + 1) * 32 ≤ 672 := by simp at hll; omega
        have K4 := J3.set 2 (.slice (some A) lt.length (vc - 1))
        have hP4 := hP3.far 2 (.slice (some A) lt.length (vc - 1)) (fun q => q.2 rfl)
        have A6 := fun (o : Obj) => ((Below.refl (wc.setCell ⟨B8, 2, none⟩ (.slice (some A) lt.length (vc - 1))).heap.size (wc.setCell ⟨B8, 2, none⟩ (.slice (some A) lt.length (vc - 1)))).alloc (Nat.le_refl _) o)
        have J4 := K4.later (A6 (.cells #[.int .i64 x, .slice none 0 0] 40))
        have hP5 := hP4.later (A6 (.cells #[.int .i64 x, .slice none 0 0] 40))
        have hBW : ((wc.setCell ⟨B8, 2, none⟩ (.slice (some A) lt.length (vc - 1))).alloc (.cells #[.int .i64 x, .slice none 0 0] 40)).heap[wc.heap.size]? = some (.cells #[.int .i64 x, .slice none 0 0] 40 (0, 0)) := by
          have := heap_alloc_new (wc.setCell ⟨B8, 2, none⟩ (.slice (some A) lt.length (vc - 1))) (.cells #[.int .i64 x, .slice none 0 0] 40)
          simpa [World.setCell] using this
        go_wp2_with (at_builtin; refine append_tail _ rfl (.tmp 68) (.tmp 72) rfl (fun b => w1.heap.size ≤ b ∧ b ≠ B8) gr vc p0 lt A hA rfl hP5 x _ rfl hBW (by omega) ?_; intro gb off cap5 w5 hT5 hF5; have J5 := J4.fr hF5 hO1; have x5 := (fun j => J5.1.1.cell j); have l5 := J5.1.1.lt; have z5 := (fun j => J5.2.1.cell j); have fz5 := (fun j => J5.2.1.frozen j); have lz5 := J5.2.1.lt)
        go_meet
        have hT6 := hT5.mono (O' := fun b => w1.heap.size ≤ b ∧ b ≠ B8) (fun b hb => hb.elim id (fun q => by simp [World.setCell] at q; omega))
        refine ⟨by rw [hpn.out], gb, off, cap5, lt, x, [], none, 0, by rw [hpt.out], (J5.set 2 _).set 1 _, ?_⟩
        exact (hT6.far 2 _ (fun q => q.2 rfl)).far 1 _ (fun q => q.2 rfl)
      · rw [if_neg hm] at hRP
        obtain ⟨rfl, rfl, rfl⟩ : rps = ps ++ [⟨x, []⟩] ∧ rx = x + 1 ∧ rg = 0 := by simpa using hRP
        have hmz : ((ps.length : Int) == m) = false := by rw [beq_eq_false_iff_ne]; exact hm
        have hlx : (l2.length + 1) * 32 ≤ 672 := by omega
        have hBW : (wc.alloc (.cells #[.int .i64 x, .slice none 0 0] 40)).heap[wc.heap.size]? = some (.cells (pgCells (⟨x, []⟩, .slice none 0 0)).toArray 40 (0, 0)) := heap_alloc_new wc _
        have A6 := fun (o : Obj) => ((Below.refl wc.heap.size wc).alloc (Nat.le_refl _) o)
        have J4 := J3.later (A6 (.cells #[.int .i64 x, .slice none 0 0] 40))
        have hP4 := hP3.later (A6 (.cells #[.int .i64 x, .slice none 0 0] 40))
        rw [hvs] at hP4
        go_wp2_with (at_builtin; refine append_pgO _ rfl (.tmp 68) (.tmp 72) rfl (fun b => w1.heap.size ≤ b ∧ b ≠ B8) _ l2 rfl hP4 (⟨x, []⟩, .slice none 0 0) _ rfl hBW (World.ownsRow_nil _ _ _ _) (fun b hb => by cases hb) rfl (by omega) ?_; intro g4 cap4 w4 hP5 hF5; have J5 := J4.fr hF5 hO1; have x5 := (fun j => J5.1.1.cell j); have l5 := J5.1.1.lt; have z5 := (fun j => J5.2.1.cell j); have fz5 := (fun j => J5.2.1.frozen j); have lz5 := J5.2.1.lt)
        go_meet
        have hP6 := hP5.mono (O' := fun b => w1.heap.size ≤ b ∧ b ≠ B8) (fun b hb => hb.elim id (fun q => by simp at q; omega))
        refine ⟨rfl, g4, 0, cap4, l2, x, [], none, 0, by rw [hl2], ?_, ?_⟩
        · rw [hll]
          exact (J5.set 2 _).set 1 _
        · exact ((hP6.tail (by simp)).far 2 _ (fun q => q.2 rfl)).far 1 _ (fun q => q.2 rfl)
    · rw [hf] at hRP
      rw [if_pos rfl] at hRP
      obtain ⟨rfl, rfl, rfl⟩ : rps = ps ∧ rx = x ∧ rg = 0 := by simpa using hRP
      have hne : l2 ≠ [] := by
        intro h
        subst h
        rw [← hl2] at hf
        simp [fitsB] at hf
      obtain ⟨l0, q, gr, cp, pa, pc, e1, e2, hqv, _⟩ := pgO_last hP3 hne (fun p hp => (f6 p.1 (by rw [← hl2]; exact List.mem_map_of_mem hp)).2)
      obtain ⟨⟨qn, qb⟩, qv⟩ := q
      simp only at hqv
      subst hqv
      obtain ⟨rfl, rfl⟩ : va = some ⟨gr, 0, none⟩ ∧ vc = cp := by simp at e2; exact ⟨e2.1, e2.2.2⟩
      have hlen : l0.length + 1 = l2.length := by rw [e1]; simp
      go_wp2_with fail
      go_meet
      refine ⟨rfl, gr, 0, vc, l0, qn, qb, pa, pc, by rw [← hl2, e1]; simp, by rw [hlen]; exact J3, ?_⟩
      rw [← e1]
      exact hP3.tail rfl
  case rest =>
  obtain ⟨w6, hw6⟩ : ∃ y, y = wc := ⟨_, rfl⟩
  subst hw6
  obtain ⟨rfl, gb, off, cp, l0, qn, qb, pa, pc, hrps, J16, T16⟩ := hcut
  have hLP : lastP rps R = l0.map (fun y : PageR × Value => y.1) ++ [⟨qn, qb ++ R⟩] := by rw [← hrps, lastP_snoc]
  have hLl : (lastP rps R).length = l0.length + 1 := by rw [hLP]; simp
  have hLd : rps.getLastD default = ⟨qn, qb⟩ := by rw [← hrps]; simp
  have hqb : qb.length ≤ 256 := rl2 ⟨qn, qb⟩ (by rw [← hrps]; simp)
  have hl20 : l0.length ≤ 20 := by have := congrArg List.length hrps; simp at this; omega
  have hbsl := hbsl l0 (⟨qn, qb⟩, .slice none 0 0) (by rw [← hrps]; simp)
  rw [hLl, hLd] at hpost
  simp only at hpost
  have hR203 : R.length ≤ 203 := by have := hRl2.out; omega
  have hRp : 0 < R.length := by have := hRl2.out; omega
  clear hrps hLd hP3 J3 x3 l3 z3 fz3 lz3 hRP rl1 rl2 rl3 hrne hvs hll hl2 hRl2 f5 f6
  obtain ⟨hgbl, c1, c2, fz⟩ := T16.cells
  simp only at c1 c2
  have x6 := fun j => J16.1.1.cell j
  have l6 := J16.1.1.lt
  have z6 := fun j => J16.2.1.cell j
  have lz6 := J16.2.1.lt
  have hz1 : (0 : Int) ≤ (l0.length : Int) := by omega
  have hz2 : (l0.length : Int) ≤ 20 := by omega
  have hz3 : (l0.length : Int) < (l0.length : Int) + 1 := by omega
  have hz4 : (qb.length : Int) ≤ 256 := by omega
  go_wp2_with fail
  go_region
  have J7 := J16.later ((((Below.refl w6.heap.size w6).alloc (Nat.le_refl _) (.cells #[.int .i64 qn, .int .i64 qb.length] 27))).drew)
  have T7 := T16.later ((((Below.refl w6.heap.size w6).alloc (Nat.le_refl _) (.cells #[.int .i64 qn, .int .i64 qb.length] 27))).drew)
  have P7 : TB 27 (w6.alloc (.cells #[.int .i64 qn, .int .i64 qb.length] 27)).drew w6.heap.size #[.int .i64 qn, .int .i64 qb.length] := TB.new 27 w6 _
  have hO6 : ∀ b, (w1.heap.size ≤ b ∧ b ≠ B8) → w.heap.size + 3 ≤ b := fun b hb => (hO1 b hb).1
  have hw16 : w1.heap.size ≤ w6.heap.size := by have := J16.2.1.lt; omega
  have hT16 := T16
  have hl6 : w.heap.size + 2 < w6.heap.size := J16.1.2.2.1.lt
  all_goals
    go_upto_region 18 with fail
    generalize (w6.alloc (.cells #[.int .i64 qn, .int .i64 qb.length] 27)).drew = W7 at *
    clear x6 l6 z6 lz6 c1 c2 fz
    obtain ⟨hgb7, c1, c2, fz⟩ := T7.cells
    simp only at c1 c2
    have z7 : W7.cell? ⟨B8, 2, none⟩ = some (.slice (some ⟨gb, off, none⟩) (l0.length + 1) cp) := J7.2.1.cell 2
    have lz7 := J7.2.1.lt
    have q7 : OwnBy 0 W7 (⟨qn, qb⟩, .slice pa qb.length pc) := T7.2.1 _ (by simp)
    have hqO : ∀ g, (Value.slice pa qb.length pc).ownBlock = some g → (w1.heap.size ≤ g ∧ g ≠ B8) ∧ g < w6.heap.size ∧ g ≠ gb := fun g hg => ⟨hT16.2.2.2.2.2 (⟨qn, qb⟩, .slice pa qb.length pc) (by simp) g hg, ((hT16.2.1 (⟨qn, qb⟩, .slice pa qb.length pc) (by simp)).lt g hg).2, hT16.2.2.1 (⟨qn, qb⟩, .slice pa qb.length pc) (by simp) g hg⟩
    have hcf : ∀ w' : World, (callFunc 18 #[.string s]).run Try.prog w' = .ok (.enter 18 #[.string s]) w' := fun w' => by
      first
        | rfl
        | simp [callFunc, Try.func18, go_sem]
    have hfin : Hid (∀ (w8 : World), Below W7.heap.size W7 w8 → ∀ (g9 cap9 : Nat) (w9 : World), OwnBy 0 w9 (⟨qn, qb ++ R⟩, .slice (some ⟨g9, 0, none⟩) (qb.length + R.length) cap9) → w8.grownBy w9 (Value.slice pa qb.length pc).ownBlock → ((Value.slice pa qb.length pc).ownBlock = some g9 ∨ g9 = w8.heap.size) →
        ApC w (w9.setCell ⟨gb, off + l0.length * 2 + 1, none⟩ (.slice (some ⟨g9, 0, none⟩) (qb.length + R.length) cap9)) #[.int .i64 m, .int .i64 x, .slice a ps.length c] B8 #[.int .i64 m, .int .i64 rx, .slice (some ⟨gb, off, none⟩) (l0.length + 1) cp] ∧ TB 27 (w9.setCell ⟨gb, off + l0.length * 2 + 1, none⟩ (.slice (some ⟨g9, 0, none⟩) (qb.length + R.length) cap9)) w6.heap.size #[.int .i64 qn, .int .i64 qb.length] ∧
        ∀ w', Fr (fun b => b = w.heap.size + 1 ∨ b = w.heap.size + 2) (w9.setCell ⟨gb, off + l0.length * 2 + 1, none⟩ (.slice (some ⟨g9, 0, none⟩) (qb.length + R.length) cap9)) w' → PO (.returned (.tuple #[.agg #[.int .i64 m, .int .i64 rx, .slice (some ⟨gb, off, none⟩) (l0.length + 1) cp], .agg #[.int .i64 qn, .int .i64 qb.length], .int .i64 rg, .int .i64 0])) w') := by
      intro w8 hb8' g9 cap9 w9 hO9 hg9 hat9
      have hgbO : w1.heap.size ≤ gb ∧ gb ≠ B8 := hT16.2.2.2.2.1
      have T9 := (T7.later hb8').last (O' := fun b => w.heap.size + 3 ≤ b) hO9 hg9 hat9 (fun b hb => hO6 b hb) (by
        rcases hat9 with e | e
        · exact hO6 g9 (hqO g9 e).1
        · have := hb8'.size
          have := lz7
          omega)
      have J9 := ((J7.later hb8').fr (O := fun b => (Value.slice pa qb.length pc).ownBlock = some b) (Fr.of_grown hg9 (fun g hg => Or.inl hg)) (fun b hb => hO1 b (hqO b hb).1)).fr (O := fun b => b = gb) ((Fr.refl _ _).set (off + l0.length * 2 + 1) (.slice (some ⟨g9, 0, none⟩) (qb.length + R.length) cap9) (Or.inl rfl)) (fun b hb => by rw [hb]; exact hO1 gb hgbO)
      have hP9 := grown_tb hg9 (P7.later hb8') (fun e => by have := (hqO _ e).2.1; omega)
      refine ⟨J9, hP9.far ⟨gb, off + l0.length * 2 + 1, none⟩ _ (by show w6.heap.size ≠ gb; omega), fun w' hw' => ?_⟩
      have hpg : ∀ w2', w'.heap.size ≤ w2'.heap.size → (∀ b, w.heap.size + 3 ≤ b → b < w'.heap.size → w2'.heap[b]? = w'.heap[b]?) → PagesAt w2' (some ⟨gb, off, none⟩) (lastP rps R) := by
        intro w2' h1 h2
        have T10 := T9.kept (w' := w') fun b hb hl => hw'.block b hl (fun e => by omega)
        have := T10.pages (by rw [List.length_append, List.length_singleton]; unfold maxLen; omega) (fun y hy => by
          rcases List.mem_append.1 hy with hy | hy
          · have := hbsl y hy
            unfold maxLen; omega
          · simp at hy; subst hy
            show (qb ++ R).length ≤ maxLen
            rw [List.length_append]
            unfold maxLen; omega) w2' h1 h2
        rw [List.map_append] at this
        rw [hLP]
        exact this
      have hbw : Below w.heap.size w w' := J9.1.2.2.2.trans (hw'.below (fun b hb => by omega) J9.1.2.2.2.size)
      exact hpost.out (some ⟨gb, off, none⟩) cp w' (fun w2' h1 h2 => hpg w2' h1 (fun b hb hl => h2 b (by omega) hl)) hbw
    clear hpost hbsl hLP hLl T7 hT16
    go_wp2_with fail
    go_region_law (first
      | (refine step_call_fn _ (by rfl) 18 #[.tmp 106] #[9] (by rfl) #[.string s] (by simp [Act.eval, Act.put]) (hcf _) (hof _) ?_
         rintro e w8 ⟨gR, cR, rfl, hBR, hgR, hb8⟩
         refine ⟨_, rfl, ?_⟩
         have hb8' : Below W7.heap.size W7 w8 := (drewN_below W7 1).trans hb8
         have q8 : OwnBy 0 w8 (⟨qn, qb⟩, .slice pa qb.length pc) := q7.kept fun g _ hl => hb8'.block g hl
         have d1 : w8.cell? ⟨B8, 2, none⟩ = some (.slice (some ⟨gb, off, none⟩) (l0.length + 1) cp) := by rw [hb8'.cell (p := ⟨B8, 2, none⟩) lz7]; exact z7
         have d2 : w8.cell? ⟨gb, off + l0.length * 2 + 1, none⟩ = some (.slice pa qb.length pc) := by rw [hb8'.cell (p := ⟨gb, off + l0.length * 2 + 1, none⟩) hgb7]; exact c2)
      | (refine append_bytesO_step _ (by rfl) (.tmp 105) (.tmp 107) (by rfl) qn qb (.slice pa qb.length pc) (by simp [Act.eval, Act.put]) q8 R gR 0 cR (by simp [Act.eval, Act.put]) hBR hRp (by omega) ?_
         intro g9 cap9 w9 hO9 hg9 hat9
         have d3 : w9.cell? ⟨B8, 2, none⟩ = some (.slice (some ⟨gb, off, none⟩) (l0.length + 1) cp) := by rw [hg9.cell_far ⟨B8, 2, none⟩ (Nat.lt_of_lt_of_le lz7 hb8'.size) (fun e => (hqO B8 e.symm).1.2 rfl)]; exact d1
         have d4 : w9.cell? ⟨gb, off + l0.length * 2 + 1, none⟩ = some (.slice pa qb.length pc) := by rw [hg9.cell_far ⟨gb, off + l0.length * 2 + 1, none⟩ (Nat.lt_of_lt_of_le hgb7 hb8'.size) (fun e => (hqO gb e.symm).2.2 rfl)]; exact d2
         have d5 : w9.frozen? ⟨gb, off + l0.length * 2 + 1, none⟩ = false := by rw [hg9.frozen_far ⟨gb, off + l0.length * 2 + 1, none⟩ (Nat.lt_of_lt_of_le hgb7 hb8'.size) (fun e => (hqO gb e.symm).2.2 rfl), hb8'.frozen (p := ⟨gb, off + l0.length * 2 + 1, none⟩) hgb7]; exact fz _))
    all_goals
      obtain ⟨J9, P9, hEnd⟩ := hfin.out w8 hb8' g9 cap9 w9 hO9 hg9 hat9
      have hEnd' : Hid _ := hEnd
      clear hEnd hfin hO9 hg9 hat9 hBR hgR hb8 hb8' q8 d1 d2 d3 d4 d5 q7 c1 c2 fz z7 lz7 J7 P7 J16 T16 hof
      generalize w9.setCell ⟨gb, off + l0.length * 2 + 1, none⟩ (.slice (some ⟨g9, 0, none⟩) (qb.length + R.length) cap9) = W9 at *
      have x9 := fun j => J9.2.1.cell j
      have l9 := J9.2.1.lt
      have y9 := fun j => J9.1.2.1.cell j
      have fy9 := fun j => J9.1.2.1.frozen j
      have ly9 := J9.1.2.1.lt
      have v9 := fun j => J9.1.2.2.1.cell j
      have fv9 := fun j => J9.1.2.2.1.frozen j
      have lv9 := J9.1.2.2.1.lt
      have t9 := fun j => P9.cell j
      have lt9 := P9.lt
      go_wp2_with fail
      go_region
      go_wp2_with fail
      exact bodyPost_ret (v := .tuple #[.agg #[.int .i64 m, .int .i64 rx, .slice (some ⟨gb, off, none⟩) (l0.length + 1) cp], .agg #[.int .i64 qn, .int .i64 qb.length], .int .i64 rg, .int .i64 0]) (by simp [results, Try.results7, go_sem, y9, ly9, v9, lv9]) rfl (hEnd'.out _ (Fr.drew (Fr.set (Fr.set (Fr.set (Fr.set (Fr.set (Fr.refl _ _) _ _ (Or.inl (Or.inl rfl))) _ _ (Or.inl (Or.inl rfl))) _ _ (Or.inl (Or.inl rfl))) _ _ (Or.inl (Or.inr rfl))) _ _ (Or.inl (Or.inr rfl)))))
end Go.Proofs.Ytbabiandegianaa
