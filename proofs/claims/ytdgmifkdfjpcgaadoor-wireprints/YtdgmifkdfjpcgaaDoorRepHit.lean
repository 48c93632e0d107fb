/- The contract of wire.printHit: the text of a hit. -/
import Derived.Test.YtdgmifkdfjpcgaaDoorRepFit
namespace Go.Proofs.YtdgmifkdfjpcgaaDoor
open Go.ChangeShapes Go.WideShapes Go.ChangeAt Go.RowKit Go.Lib Go.Sort
set_option linter.unusedVariables false

def valueS : ByteArray := ⟨#[86, 65, 76, 85, 69]⟩

/-- The words of a hit's line behind the first. -/
def hitL (h : HitR) : List ByteArray := [h.key, decS h.flags, decS h.value.size, decS h.cas]

/-- The text of a hit. -/
def hitS (h : HitR) : ByteArray := ((wordsS valueS (hitL h) ++ nlS) ++ h.value) ++ nlS

theorem ret_strP {a b : ByteArray} (h : a = b) : Ending.returned (.string a) = .returned (.string b) := by rw [h]

/-- What may be printed. -/
def HitFit (h : HitR) : Prop := h.key.size ≤ 20 ∧ h.value.size ≤ 200 ∧ (-9223372036854775808 ≤ h.flags ∧ h.flags ≤ 9223372036854775807) ∧ (-9223372036854775808 ≤ h.cas ∧ h.cas ≤ 9223372036854775807)

theorem hitL_sizes (h : HitR) (hf : HitFit h) : ∀ x ∈ hitL h, x.size ≤ 20 := by
  obtain ⟨h1, h2, ⟨h3, h4⟩, h5, h6⟩ := hf
  intro x hx
  simp [hitL] at hx
  rcases hx with rfl | rfl | rfl | rfl
  · exact h1
  · exact decS_size _ h3 h4
  · exact decS_size _ (by omega) (by omega)
  · exact decS_size _ h5 h6

theorem hitW_size (h : HitR) (hf : HitFit h) : (wordsS valueS (hitL h)).size ≤ 89 := by
  have := wordsS_size (hitL h) valueS (hitL_sizes h hf)
  have e : (hitL h).length = 4 := rfl
  have e2 : valueS.size = 5 := rfl
  omega

theorem nl_size : nlS.size = 1 := rfl

theorem hitS_size (h : HitR) (hf : HitFit h) : (hitS h).size ≤ 291 := by
  have := hitW_size h hf
  obtain ⟨_, h2, _⟩ := hf
  unfold hitS
  simp only [ByteArray.size_append, nl_size]
  omega

theorem itoaP (n : Int) (h0 : -9223372036854775808 ≤ n) (h1 : n ≤ 9223372036854775807) (W0 w : World) (hL : Lib.TabIs Tryd.prog W0 "internal/strconv.uint64pow10" .u64 Lib.pow10Tab) (hB : Below W0.heap.size W0 w) :
    Calls Tryd.prog 35 #[.int .i64 n] w fun e w' => e = .returned (.string (decS n)) ∧ Below W0.heap.size W0 w' :=
  (Tryd.strconv_Itoa n h0 h1 w (tab_later hL hB)).mono fun e w' ⟨he, k, os, hw⟩ => ⟨he, hw ▸ hB.trans ((growBelow w k os).mono hB.size)⟩

theorem boxHit (h : HitR) {w wx : World} (hb : Below (w.alloc (.cells #[.string h.key, .int .i64 h.flags, .int .i64 h.cas, .string h.value] 58)).heap.size (w.alloc (.cells #[.string h.key, .int .i64 h.flags, .int .i64 h.cas, .string h.value] 58)) wx) :
    wx.cell? ⟨w.heap.size, 0, none⟩ = some (.string h.key) ∧ wx.cell? ⟨w.heap.size, 1, none⟩ = some (.int .i64 h.flags) ∧ wx.cell? ⟨w.heap.size, 2, none⟩ = some (.int .i64 h.cas) ∧ wx.cell? ⟨w.heap.size, 3, none⟩ = some (.string h.value) := by
  refine ⟨?_, ?_, ?_, ?_⟩
  · rw [hb.cell (p := ⟨w.heap.size, 0, none⟩) (by simp)]; simp
  · rw [hb.cell (p := ⟨w.heap.size, 1, none⟩) (by simp)]; simp
  · rw [hb.cell (p := ⟨w.heap.size, 2, none⟩) (by simp)]; simp
  · rw [hb.cell (p := ⟨w.heap.size, 3, none⟩) (by simp)]; simp

theorem alloc_lt (w : World) (o : Obj) : w.heap.size < (w.alloc o).drew.heap.size := by
  show w.heap.size < (w.alloc o).heap.size
  simp

theorem five_cells (w : World) (a b c d e : ByteArray) : ∀ (j : Nat) x, [a, b, c, d, e][j]? = some x → (w.alloc (.cells #[.string a, .string b, .string c, .string d, .string e] 9)).cell? ⟨w.heap.size, 0 + j, none⟩ = some (.string x) := by
  intro j u hj
  match j, hj with
  | 0, hj => simp at hj; subst hj; simp
  | 1, hj => simp at hj; subst hj; simp
  | 2, hj => simp at hj; subst hj; simp
  | 3, hj => simp at hj; subst hj; simp
  | 4, hj => simp at hj; subst hj; simp

set_option maxHeartbeats 2000000 in
set_option maxRecDepth 100000 in
theorem printHit_any (h : HitR) (w : World) (hL : Lib.TabIs Tryd.prog w "internal/strconv.uint64pow10" .u64 Lib.pow10Tab) (hf : HitFit h) :
    Calls Tryd.prog 36 #[.agg #[.string h.key, .int .i64 h.flags, .int .i64 h.cas, .string h.value]] w fun e w' => e = .returned (.string (hitS h)) ∧ Below w.heap.size w w' := by
  have JW := join_words (hitL h) valueS
  have zW := hitW_size h hf
  have TX : Hid (hitS h = ((wordsS valueS (hitL h) ++ nlS) ++ h.value) ++ nlS) := rfl
  generalize hitS h = TS at *
  generalize hT : wordsS valueS (hitL h) = TT at *
  clear hT
  obtain ⟨z1, z2, ⟨z3, z4⟩, z5, z6⟩ := hf
  have bx := fun wx => boxHit h (w := w) (wx := wx)
  obtain ⟨key, flags, cas, value⟩ := h
  simp only [hitL] at *
  have hB0 : Below w.heap.size w (w.alloc (.cells #[.string key, .int .i64 flags, .int .i64 cas, .string value] 58)) := (Below.refl _ _).alloc (Nat.le_refl _) _
  have hL0 := tab_later hL hB0
  have hI1 := fun w1 hB => itoaP flags (by omega) (by omega) _ w1 hL0 hB
  have hI2 := fun w1 hB => itoaP (value.size : Int) (by omega) (by omega) _ w1 hL0 hB
  have hI3 := fun w1 hB => itoaP cas (by omega) (by omega) _ w1 hL0 hB
  have hjo := fun (w1 : World) =>
    Tryd.strings_Join w1.heap.size 0 5 [valueS, key, decS flags, decS value.size, decS cas] blankS (w1.alloc (.cells #[.string valueS, .string key, .string (decS flags), .string (decS value.size), .string (decS cas)] 9)).drew (fun j x hj => five_cells w1 _ _ _ _ _ j x hj) (alloc_lt w1 _) (Nat.le_of_ble_eq_true rfl) (Nat.le_refl _) (by
      have : (⟨(Lib.join ([valueS, key, decS flags, decS value.size, decS cas].map (·.data.toList)) blankS.data.toList).toArray⟩ : ByteArray).size = TT.size := by rw [JW]
      have e2 : (⟨(Lib.join ([valueS, key, decS flags, decS value.size, decS cas].map (·.data.toList)) blankS.data.toList).toArray⟩ : ByteArray).size = (Lib.join ([valueS, key, decS flags, decS value.size, decS cas].map (·.data.toList)) blankS.data.toList).length := List.size_toArray
      omega)
  rw [JW] at hjo
  have hWd := (Below.refl (w.alloc (.cells #[.string key, .int .i64 flags, .int .i64 cas, .string value] 58)).heap.size (w.alloc (.cells #[.string key, .int .i64 flags, .int .i64 cas, .string value] 58))).drew
  clear JW hL
  go_enter Tryd.func36, Tryd.ntmps36
  go_upto_region 1 with fail
  go_cut [3] (fun v wx => ∃ w1, v = .slice (some ⟨w1.heap.size, 0, none⟩) 5 5 ∧ wx = w1.alloc (.cells #[.string valueS, .string key, .string (decS flags), .string (decS value.size), .string (decS cas)] 9) ∧ Below (w.alloc (.cells #[.string key, .int .i64 flags, .int .i64 cas, .string value] 58)).heap.size (w.alloc (.cells #[.string key, .int .i64 flags, .int .i64 cas, .string value] 58)) w1)
  case first =>
    go_region_held3 (fun w' => w'.cell? ⟨w.heap.size, 0, none⟩ = some (.string key) ∧ w'.cell? ⟨w.heap.size, 1, none⟩ = some (.int .i64 flags) ∧ w'.cell? ⟨w.heap.size, 2, none⟩ = some (.int .i64 cas) ∧ w'.cell? ⟨w.heap.size, 3, none⟩ = some (.string value))
      (first | exact bx _ hWd | exact bx _ hWa | exact bx _ hWb | exact bx _ hWc | exact bx _ (hWc.alloc hWc.size _))
      (first
        | (go_at_call_of 35 (Value.int .i64 flags); refine (hI1 _ hWd).mono ?_; rintro e wa ⟨rfl, hWa⟩)
        | (go_at_call_of 35 (Value.int .i64 (value.size : Int)); refine (hI2 _ hWa).mono ?_; rintro e wb ⟨rfl, hWb⟩)
        | (go_at_call_of 35 (Value.int .i64 cas); refine (hI3 _ hWb).mono ?_; rintro e wcc ⟨rfl, hWc⟩))
    go_wp2
    go_meet
    exact ⟨wcc, rfl, rfl, hWc⟩
  case rest =>
    obtain ⟨w1, rfl, rfl, hB1⟩ := hcut
    have hB2 := (hB1.alloc hB1.size (.cells #[.string valueS, .string key, .string (decS flags), .string (decS value.size), .string (decS cas)] 9))
    have hB3 := hB2.drew
    have hj1 := hjo w1
    clear hjo hI1 hI2 hI3 hWd
    unfold blankS at hj1
    have s1 : ¬ 9223372036854775807 < TT.size + 1 := by omega
    have s2 : ¬ 9223372036854775807 < TT.size + 1 + value.size := by omega
    have s3 : ¬ 9223372036854775807 < TT.size + 1 + value.size + 1 := by omega
    go_upto_region 2 with fail
    go_region_held3 (fun w' => w'.cell? ⟨w.heap.size, 3, none⟩ = some (.string value)) (first | exact (bx _ hB3).2.2.2 | exact (bx _ (hB3.trans (hb.mono hB3.size))).2.2.2) ((go_at_call 19; refine hj1.mono ?_; rintro e w2 ⟨rfl, hb⟩))
    go_wp2
    go_ret
    exact ⟨ret_strP TX.out.symm, (hB0.trans (hB3.mono hB0.size)).trans (hb.mono (by have h1 := hB0.size; have h2 := hB3.size; exact Nat.le_trans h1 h2))⟩
end Go.Proofs.YtdgmifkdfjpcgaaDoor
