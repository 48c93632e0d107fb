/- The contract of snap.Encode. -/
import Derived.Test.YtmjakimpmccedaaDoorSnapG
import Derived.Lib.SlBytesConst
namespace Go.Proofs.YtmjakimpmccedaaDoor
open Go.ChangeShapes Go.WideShapes Go.ChangeAt Go.RowKit
set_option linter.unusedVariables false
set_option linter.unusedSimpArgs false

def mark3 : List UInt8 := [100, 99, 49]
/-- The bytes of a store. -/
def encS (s : StoreR) : List UInt8 := mark3 ++ storeX s ++ sealB (mark3 ++ storeX s)
def encL (s : StoreR) : List UInt8 := if storeB s = true then encS s else []
def EncPost (s : StoreR) (w : World) (e : Ending) (w' : World) : Prop := ∃ v', e = .returned (.tuple #[v', .int .i64 (codeN (storeB s))]) ∧ RowB w.heap.size w' v' (encL s) ∧ Below w.heap.size w w'

theorem storeX_len (s : StoreR) (hF : StoreFit s) : (storeX s).length ≤ 400000 := by
  obtain ⟨c, d, e, f, g, i, j, k, m, o, hil, hie, hpl, hpb⟩ := hF
  have q1 := flat_len [s.clock.toNat, s.cas.toNat, s.uses.toNat, s.most.toNat] (by simp; omega)
  have q2 := flat_len [s.h0.toNat, s.h1.toNat, s.h2.toNat, s.h3.toNat] (by simp; omega)
  have q3 := flat_len [s.fm.toNat, s.fx.toNat, s.pages.length] (by simp; omega)
  have q4 := flat_len [s.items.length] (by simp; omega)
  have q5 := pagesX_len s.pages hpb s.pages.length
  have q6 := itemsX_len s.items hie s.items.length
  rw [List.take_length] at q5 q6
  simp only [List.length_cons, List.length_nil] at q1 q2 q3 q4
  unfold storeX
  simp only [List.length_append]
  omega

set_option maxHeartbeats 2000000 in
set_option maxRecDepth 100000 in
theorem encode_store (s : StoreR) (ia : Option Addr) (ic : Nat) (pa : Option Addr) (pc : Nat) (w : World) (hS : StoreIn w s ia pa) (hok : ItemsOk s.items) (hL : LaidC w) :
    Calls Tryd.prog 6 #[storeV s ia ic pa pc] w (EncPost s w) := by
  have hc1 := fun (w1 : World) (hb : Below w.heap.size w w1) => scheck_any s ia ic pa pc w1 (hS.later hb) hok (hL.later hb)
  have hfit := fun h => fit_of s h hok
  have hc2 := fun (hF : StoreFit s) (v : Value) (w1 : World) (hR : RowC w.heap.size w1 v mark3) (hb : Below w.heap.size w w1) => storeX_any w v mark3 s ia ic pa pc w1 hR hb hS hF (by simp [mark3])
  have hlen := fun h => storeX_len s (hfit h)
  unfold EncPost encL
  have EE : Hid (encS s = mark3 ++ storeX s ++ sealB (mark3 ++ storeX s)) := rfl
  generalize encS s = R at *
  generalize storeB s = b at *
  clear hS hok hL
  have hml : mark3.length = 3 := rfl
  obtain ⟨clock, scas, uses, most, h0, h1, h2, h3, items, fm, fx, pages⟩ := s
  unfold storeV at *
  simp only at *
  have B0 : Below w.heap.size w (w.alloc (.cells #[.int .i64 clock, .int .i64 scas, .int .i64 uses, .int .i64 most, .int .i64 h0, .int .i64 h1, .int .i64 h2, .int .i64 h3, .slice ia items.length ic, .int .i64 fm, .int .i64 fx, .slice pa pages.length pc] 28)) := (Below.refl _ _).alloc (Nat.le_refl _) _
  have T0 := TB.new 28 w #[.int .i64 clock, .int .i64 scas, .int .i64 uses, .int .i64 most, .int .i64 h0, .int .i64 h1, .int .i64 h2, .int .i64 h3, .slice ia items.length ic, .int .i64 fm, .int .i64 fx, .slice pa pages.length pc]
  cases b
  · have T8 : codeN false = 8 := rfl
    rw [T8] at hc1 ⊢
    go_enter Tryd.func6, Tryd.ntmps6
    go_wp2_with fail
    refine (hc1 _ B0).mono ?_
    rintro e w1 ⟨rfl, hb1⟩
    go_wp2
    go_ret2
    exact ⟨_, rfl, World.ownsRow_nil _ _ _ _, B0.trans (hb1.mono B0.size)⟩
  · have T8 : codeN true = 0 := rfl
    rw [T8] at hc1 ⊢
    have hF := hfit rfl
    have hln := hlen rfl
    have hc3 := hc2 hF
    clear hfit hlen hc2
    generalize storeX _ = X at *
    go_enter Tryd.func6, Tryd.ntmps6
    go_wp2_with fail
    refine (hc1 _ B0).mono ?_
    rintro e w1 ⟨rfl, hb1⟩
    have T1 := T0.later hb1
    have x1 := fun j => T1.cell j
    have l1 := T1.lt
    have hB1 := B0.trans (hb1.mono B0.size)
    have B2 : Below w1.heap.size w1 (w1.alloc (.cells #[.int .u8 100, .int .u8 99, .int .u8 49] 5 (3, 4))) := (Below.refl _ _).alloc (Nat.le_refl _) _
    have hfull : FullB w.heap.size (w1.alloc (.cells #[.int .u8 100, .int .u8 99, .int .u8 49] 5 (3, 4))) (.slice (some ⟨w1.heap.size, 0, none⟩) 3 3) mark3 := ⟨w1.heap.size, _, _, rfl, hB1.size, heap_alloc_new w1 _, rfl⟩
    have hcv : (convert 29 29 (.slice (some ⟨w1.heap.size, 0, none⟩) 3 3)).run Tryd.prog (w1.alloc (.cells #[.int .u8 100, .int .u8 99, .int .u8 49] 5)) = .ok (.slice (some ⟨w1.heap.size, 0, none⟩) 3 3) (w1.alloc (.cells #[.int .u8 100, .int .u8 99, .int .u8 49] 5 (3, 4))) :=
      Lib.run_convert_bytes_const (P := Tryd.prog) w1 29 5 #[.int .u8 100, .int .u8 99, .int .u8 49] 3 3 Tryd.underlying29 Tryd.underlying5
    have hBw2 := hB1.trans (B2.mono hB1.size)
    have T2 := T1.later B2
    have x2 := fun j => T2.cell j
    have hown2 := hfull.lt
    have hcall := hc3 _ _ (Or.inr hfull) hBw2
    have hbl : (mark3 ++ X).length + 4 ≤ 140737488351232 := by rw [List.length_append]; omega
    have hbm : (mark3 ++ X).length ≤ maxLen := by unfold maxLen; omega
    generalize mark3 ++ X = L at *
    clear hc3 hc1 T0 hb1
    go_wp2_with fail
    refine hcall.mono ?_
    rintro e w3 ⟨v3, rfl, hR3, hG3⟩
    have hBw3 := hG3.below hBw2 (fun k hk => (hown2 k hk).1)
    obtain ⟨a3, c3, hv3, hA3⟩ := hR3.bytes hbm
    have hseal := seal_any L a3 c3 w3 hA3
    rw [← hv3] at hseal
    clear x1 x2 l1 T1 T2 hcv hfull hcall hv3 hown2
    go_wp2_with fail
    refine hseal.mono ?_
    rintro e w4 ⟨v4, rfl, hR4, hb4⟩
    have hBw4 := hBw3.trans (hb4.mono hBw3.size)
    have hR3' := hR3.below hb4
    go_wp2_with (at_builtin; refine append_row _ rfl (.tmp 15) (.tmp 17) rfl w.heap.size v3 L rfl hR3' _ v4 (sealB L) rfl hR4 (by rw [seal_len]; omega) hBw4.size (by rw [seal_len]; omega) ?_; intro v5 w5 hR5 hG5)
    go_ret2
    exact ⟨_, rfl, (show RowB _ _ v5 R by rw [EE.out]; exact hR5), hG5.below hBw4 (fun k hk => (hR3'.lt k hk).1)⟩
end Go.Proofs.YtmjakimpmccedaaDoor
