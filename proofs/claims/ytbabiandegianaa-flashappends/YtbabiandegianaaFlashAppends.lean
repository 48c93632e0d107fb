/- At every flash and text flash.Append, on a copy of the flash, answers what dovecoteref.AppendedOf answers, the copy it was called with stays as it was, and both arguments read behind the call as they did; no condition. -/
import Derived.Test.YtbabiandegianaaRAppW
import Derived.Test.YtbabiandegianaaFOpenS
import Derived.Test.YtbabiandegianaaFValsW
namespace Go.Proofs.Ytbabiandegianaa.FlashAppends
open Go.ChangeShapes Go.WideShapes Go.ChangeAt Go.RowKit
open Go.ChangeMaps (open_string shut_string)
set_option linter.unusedVariables false
set_option linter.unusedSimpArgs false

theorem own : ownKnob Try.prog.godebug = none := by kernel_rfl
theorem laidOut : laidOutB Try.prog = true := by kernel_rfl
theorem vin : VIn := fun l a c w h1 h2 h3 h4 => valuesIn_vals l a c w h1 h2 h3 h4

theorem eqPlace (a b : Int) (w : World) : (Op.equalIn 10000 27 (.agg #[.int .i64 a, .int .i64 b]) (.agg #[.int .i64 a, .int .i64 b])).run Try.prog w = .ok true w := by
  have u3 := Try.underlying3
  have a3 := Try.isAgg3
  have z3 := Try.sizeOf3
  have hS : Try.prog.underlying 27 = some (.struct (Try.prog.fieldsOf 27)) := by kernel_rfl
  rw [show (10000 : Nat) = 9999 + 1 from rfl, run_equalIn_agg w 9999 27 _ _ hS (by kernel_rfl)]
  simp only [Program.fieldsOf, Try.underlying27]
  go_simp

/-- Both appends answer the same, whatever is appended to what. -/
def Same (fm fx page at_ gone code : Int) (pages : List PageR) (w : World) (e : Ending) (w' : World) : Prop := ∃ a c, e = .returned (.tuple #[.agg #[.int .i64 fm, .int .i64 fx, .slice a pages.length c], .agg #[.int .i64 page, .int .i64 at_], .int .i64 gone, .int .i64 code]) ∧ PagesAt w' a pages ∧ Below w.heap.size w w'

theorem both (m x : Int) (ps : List PageR) (s : ByteArray) (hs : s.size ≤ maxLen) : ∃ fm fx page at_ gone code pages,
    (∀ a c w, PagesAt w a ps → Calls Try.prog 6 #[.agg #[.int .i64 m, .int .i64 x, .slice a ps.length c], .string s] w (Same fm fx page at_ gone code pages w)) ∧
    (∀ a c w, PagesAt w a ps → Calls Try.prog 7 #[.agg #[.int .i64 m, .int .i64 x, .slice a ps.length c], .string s] w (Same fm fx page at_ gone code pages w)) := by
  by_cases h : refN m x ps s.size = 0
  · refine ⟨m, (appF m x ps (recOf s.data.toList)).fx, (appF m x ps (recOf s.data.toList)).page, (appF m x ps (recOf s.data.toList)).at_, (appF m x ps (recOf s.data.toList)).gone, 0, (appF m x ps (recOf s.data.toList)).pages, fun a c w hA => ?_, fun a c w hA => ?_⟩
    · exact (append_ok m x ps a c s w hA hs h).mono fun e w' ⟨a', c', h1, h2, h3⟩ => ⟨a', c', h1, h2 w' (Nat.le_refl _) (fun _ _ _ => rfl), h3⟩
    · exact (rappend_ok m x ps a c s w hA hs vin h).mono fun e w' ⟨a', c', h1, h2, h3⟩ => ⟨a', c', h1, h2 w' (Nat.le_refl _) (fun _ _ _ => rfl), h3⟩
  · refine ⟨0, 0, 0, 0, 0, refN m x ps s.size, [], fun a c w hA => ?_, fun a c w hA => ?_⟩
    · exact (append_bad m x ps a c s w hA hs h).mono fun e w' ⟨h1, h2⟩ => ⟨none, 0, h1, pages_none _ _, h2⟩
    · exact (rappend_bad m x ps a c s w hA hs vin h).mono fun e w' ⟨h1, h2⟩ => ⟨none, 0, h1, pages_none _ _, h2⟩

set_option maxHeartbeats 2000000 in
set_option maxRecDepth 100000 in
theorem walk (m x : Int) (ps : List PageR) (a : Option Addr) (c : Nat) (s : ByteArray) (w : World) (hA : PagesAt w a ps) (hn : ps.length * 32 ≤ 140737488351232) (hbs : ∀ j, j < ps.length → (ps.getD j default).bs.length ≤ 140737488351232) (hs : s.size ≤ maxLen) :
    Calls Try.prog 3 #[.agg #[.int .i64 m, .int .i64 x, .slice a ps.length c], .string s] w fun e w' => e = .returned (.bool true) ∧ Below w.heap.size w w' := by
  obtain ⟨fm, fx, page, at_, gone, code, pages, hp, hq⟩ := both m x ps s hs
  have hcp := fun w1 (hb : Below w.heap.size w w1) => rflash_own m x ps a c w1 (hA.later hb) hn hbs
  have hB0 : Below w.heap.size w (w.alloc (.cells #[.int .i64 m, .int .i64 x, .slice a ps.length c] 24)) := (Below.refl _ _).alloc (Nat.le_refl _) _
  have hb8 : ∀ j, j < ps.length → (ps.getD j default).bs.length ≤ maxLen := fun j hj => by have := hbs j hj; unfold maxLen; omega
  have heq := eqPlace page at_
  have e1 : (gone == gone) = true := by simp
  have e2 : (code == code) = true := by simp
  have hmx := hA.1
  go_enter Try.func3, Try.ntmps3
  go_wp2_with fail
  refine (hcp _ hB0).mono ?_
  rintro e w1 ⟨v1, l1, rfl, hl1, hP1, hb1⟩
  obtain ⟨ka, kc, rfl, hK⟩ := hP1.pages (by rw [← List.length_map (fun y : PageR × Value => y.1), hl1]; exact hmx) (fun y hy => by
    have hm : y.1 ∈ ps := by rw [← hl1]; exact List.mem_map_of_mem hy
    obtain ⟨j, hj, e⟩ := List.getElem_of_mem hm
    have := hb8 j hj
    rw [List.getD_eq_getElem?_getD, List.getElem?_eq_getElem hj] at this
    rw [← e]; exact this)
  rw [hl1] at hK
  have hll : l1.length = ps.length := by rw [← hl1]; simp
  rw [hll]
  have hK1 : PagesAt w1 ka ps := hK w1 (Nat.le_refl _) (fun _ _ _ => rfl)
  have hB1 := hB0.trans (hb1.mono hB0.size)
  have T1 := (TB.new 24 w #[.int .i64 m, .int .i64 x, .slice a ps.length c]).later hb1
  clear hcp hK hP1 hl1 hll hb1
  have hlt1 := T1.lt
  have A2 : Below w1.heap.size w1 (w1.alloc (.cells #[.int .i64 m, .int .i64 x, .slice ka ps.length kc] 24)) := (Below.refl _ _).alloc (Nat.le_refl _) _
  have T2 := TB.new 24 w1 #[.int .i64 m, .int .i64 x, .slice ka ps.length kc]
  have hK2 := hK1.later A2
  have T1' := T1.later A2
  have hB2 := hB1.trans (A2.mono hB1.size)
  go_wp2_with fail
  generalize w1.alloc (.cells #[.int .i64 m, .int .i64 x, .slice ka ps.length kc] 24) = W2 at *
  refine (hp _ _ _ hK2).mono ?_
  rintro e w3 ⟨a3, c3, rfl, hP3, hb3⟩
  have T13 := T1'.later hb3
  have T23 := T2.later hb3
  have hB3 := hB2.trans (hb3.mono hB2.size)
  have hK3 := hK2.later hb3
  have x13 := fun j => T13.cell j
  have x23 := fun j => T23.cell j
  have l13 := T13.lt
  have l23 := T23.lt
  go_wp2_with fail
  have A4 : Below w3.heap.size w3 ((w3.alloc (.cells #[.int .i64 fm, .int .i64 fx, .slice a3 pages.length c3] 24)).alloc (.cells #[.int .i64 page, .int .i64 at_] 27)) := ((Below.refl _ _).alloc (Nat.le_refl _) _).alloc (by simp) _
  have T33 := (TB.new 24 w3 #[.int .i64 fm, .int .i64 fx, .slice a3 pages.length c3]).alloc (.cells #[.int .i64 page, .int .i64 at_] 27)
  have T43 := TB.new 27 (w3.alloc (.cells #[.int .i64 fm, .int .i64 fx, .slice a3 pages.length c3] 24)) #[.int .i64 page, .int .i64 at_]
  rw [show (w3.alloc (.cells #[.int .i64 fm, .int .i64 fx, .slice a3 pages.length c3] 24)).heap.size = w3.heap.size + 1 by simp] at T43
  have T14 := T13.later A4
  have T24 := T23.later A4
  have hP34 := hP3.later A4
  have hK4 := hK3.later A4
  have hB4 := hB3.trans (A4.mono hB3.size)
  clear x13 x23 l13 l23 T13 T23 T1' T1 T2 hK1 hK2 hK3 hP3
  generalize (w3.alloc (.cells #[.int .i64 fm, .int .i64 fx, .slice a3 pages.length c3] 24)).alloc (.cells #[.int .i64 page, .int .i64 at_] 27) = W4 at *
  refine (hq _ _ _ (hA.later hB4)).mono ?_
  rintro e w5 ⟨a5, c5, rfl, hP5, hb5⟩
  have A6 : Below w5.heap.size w5 ((w5.alloc (.cells #[.int .i64 fm, .int .i64 fx, .slice a5 pages.length c5] 24)).alloc (.cells #[.int .i64 page, .int .i64 at_] 27)) := ((Below.refl _ _).alloc (Nat.le_refl _) _).alloc (by simp) _
  have T56 := (TB.new 24 w5 #[.int .i64 fm, .int .i64 fx, .slice a5 pages.length c5]).alloc (.cells #[.int .i64 page, .int .i64 at_] 27)
  have T66 := TB.new 27 (w5.alloc (.cells #[.int .i64 fm, .int .i64 fx, .slice a5 pages.length c5] 24)) #[.int .i64 page, .int .i64 at_]
  rw [show (w5.alloc (.cells #[.int .i64 fm, .int .i64 fx, .slice a5 pages.length c5] 24)).heap.size = w5.heap.size + 1 by simp] at T66
  have T16 := (T14.later hb5).later A6
  have T26 := (T24.later hb5).later A6
  have T36 := (T33.later hb5).later A6
  have T46 := (T43.later hb5).later A6
  have hK6 := (hK4.later hb5).later A6
  have hP36 := (hP34.later hb5).later A6
  have hP56 := hP5.later A6
  have hB6 := (hB4.trans (hb5.mono hB4.size)).trans (A6.mono (Nat.le_trans hB4.size hb5.size))
  have hA6 := hA.later hB6
  go_upto_region 4 with fail
  clear T14 T24 T33 T43 hK4 hP34 hP5 hp hq hb3 hb5 hB1 hB2 hB3 hB4 hb8
  generalize (w5.alloc (.cells #[.int .i64 fm, .int .i64 fx, .slice a5 pages.length c5] 24)).alloc (.cells #[.int .i64 page, .int .i64 at_] 27) = W6 at *
  have x1 := fun j => T16.cell j
  have x2 := fun j => T26.cell j
  have x3 := fun j => T36.cell j
  have x4 := fun j => T46.cell j
  have x5 := fun j => T56.cell j
  have x6 := fun j => T66.cell j
  have l1 := T16.lt
  have l2 := T26.lt
  have l3 := T36.lt
  have l4 := T46.lt
  have l5 := T56.lt
  have l6 := T66.lt
  go_wp2_with fail
  refine (sameFlash_same fm fx pages a3 a5 c3 c5 W6 hP36 hP56).mono ?_
  rintro e w7 ⟨rfl, hb7⟩
  have y1 := fun j => (T16.later hb7).cell j
  have y2 := fun j => (T26.later hb7).cell j
  have k1 := (T16.later hb7).lt
  have k2 := (T26.later hb7).lt
  go_wp2_with fail
  refine (sameFlash_same m x ps ka a kc c w7 (hK6.later hb7) (hA6.later hb7)).mono ?_
  rintro e w8 ⟨rfl, hb8⟩
  go_wp2
  go_ret
  exact ⟨rfl, (hB6.trans (hb7.mono hB6.size)).trans (hb8.mono (Nat.le_trans hB6.size hb7.size))⟩

set_option maxRecDepth 100000 in
theorem lifted (os : Os) (started : os.Started) (H : Type) (enc : TypeId × Value → H) :
    ReturnsInHanded {} Try.checked os 3 .any (Rows.flashAppendsSpec.pre6 enc Try.prog Try.f3 Rows.flashAppendsRow.domain false) (Rows.flashAppendsSpec.post enc Try.prog Try.f3 false true false false) := by
  refine returnsInHanded_of_change_sized (C := Try.checked) own started (by kernel_rfl) Try.func3
    (ChangeSpec.witness6 (enc := enc) (C := Try.checked) false ⟨#[], #[.agg #[.int .i64 0, .int .i64 0, .slice none 0 0], .string ByteArray.empty], []⟩ 8 (by kernel_rfl) (by kernel_rfl) (by kernel_rfl) (by kernel_rfl)) ?_
  intro W base args ds gs before hval0 hW hcnd hsz _
  have hval : ∀ (j : Nat) t v, Try.f3.params[j]? = some t → args[j]? = some v → Value.okWide Try.prog W .any base t v := hval0
  have hW' := hW
  obtain ⟨p, q, hA0, hV, rfl, hfz, hnd⟩ := hW
  have hA : DataW.TrodAll enc Try.prog W 0 (fun _ => true) true Try.f3.params.toList args.toList ds p := hA0
  rw [Try.params3] at hA hval
  obtain ⟨v0, vs0, d0, ds0, p0, q0, hargs0, rfl, rfl, h0, r0⟩ := trodAll_cons hA
  obtain ⟨v1, vs1, d1, ds1, p1, q1, hargs1, rfl, rfl, h1, r1⟩ := trodAll_cons r0
  obtain ⟨rfl, rfl, rfl⟩ := trodAll_nil r1
  obtain rfl : args = #[v0, v1] := by cases args; simp_all
  obtain ⟨rfl, rfl⟩ := trodVars_none hV
  have k0 := h0
  have k1 := h1
  have lt0 : ∀ x ∈ p0, x.block < W.heap.size := by obtain ⟨m, hm⟩ := k0; exact DataW.trod_lt m _ _ _ hm
  have lt1 : ∀ x ∈ p1, x.block < W.heap.size := by obtain ⟨m, hm⟩ := k1; exact DataW.trod_lt m _ _ _ hm
  obtain ⟨m, x, a, ps, c, rfl, hP, _, _⟩ := open_flash (hval 0 24 v0 rfl rfl) h0
  obtain ⟨s, rfl, rfl, rfl, ws⟩ := open_string Try.underlying9 (hval 1 9 v1 rfl rfl) h1
  clear hA0 hval0
  have hS := size_flash k0 hP reachBytes fun k hk => by
    have := List.all_eq_true.1 hsz k (DataW.weights_mem_each (j := 0) rfl rfl k hk)
    simpa using this
  have hR : reachBytes ≤ 140737488351232 := by decide
  refine (walk m x ps a c s W hP (Nat.le_trans hS.1 hR) (fun j hj => Nat.le_trans (hS.2 j hj) hR) ws).mono fun e W' ⟨he, bel⟩ => ?_
  subst he
  exact ⟨_, rfl, _, _, _, [], _, [], hW', trodAll_mk1 (shut_bool Try.underlying4 _), (trodAll_cons_mk (Below.trod laidOut (by kernel_rfl) (of_decide_eq_true (by kernel_rfl)) k0 bel lt0) (trodAll_cons_mk (Below.trod laidOut (by kernel_rfl) (of_decide_eq_true (by kernel_rfl)) k1 bel lt1) trodAll_mk0)), rfl, bel.frame _, fun h => by cases h⟩

theorem over : Rows.flashAppendsRow.holds Try.pinned (OpenSpec.ofChange Rows.flashAppendsSpec) :=
  OpenClaim.holds_of_wide 3 Try.f3 rfl rfl rfl rfl rfl rfl rfl ⟨rfl, rfl, rfl, rfl, rfl⟩ rfl rfl rfl rfl rfl (by kernel_rfl) Try.func3 (by kernel_rfl)
    (of_decide_eq_true (by kernel_rfl)) (by unfold Func.isWrapper; first | (rw [if_pos (by decide +kernel)]; kernel_rfl) | (rw [if_neg (by decide +kernel)]; exact ⟨rfl, rfl⟩))
    (fun os started H enc _ => lifted os started H enc)
end Go.Proofs.Ytbabiandegianaa.FlashAppends

namespace Go.Proofs.Ytbabiandegianaa
theorem flashAppends_holds : Rows.FlashAppendsSaid := FlashAppends.over
#print axioms flashAppends_holds
end Go.Proofs.Ytbabiandegianaa
