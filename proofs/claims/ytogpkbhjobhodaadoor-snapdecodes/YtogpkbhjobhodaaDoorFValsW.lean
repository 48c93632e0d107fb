/- The walk of dovecoteref.valuesIn. -/
import Derived.Test.YtogpkbhjobhodaaDoorFVals
import Derived.Test.YtogpkbhjobhodaaDoorFValD
import Derived.Deep.RegionHeld3
namespace Go.Proofs.YtogpkbhjobhodaaDoor
open Go.ChangeShapes Go.WideShapes Go.ChangeAt Go.RowKit
set_option linter.unusedVariables false
set_option linter.unusedSimpArgs false

/-- Two rows that lie apart. -/
def ApartV (v u : Value) : Prop := ∀ g g', v.ownBlock = some g → u.ownBlock = some g' → g ≠ g'

theorem ownS_kept {W0 w w' : World} {v : Value} {l : List ByteArray} {row : Option Nat} (h : OwnS W0 w v l) (hg : w.grownBy w' row) (hr : ∀ k, row = some k → W0.heap.size ≤ k) (hne : ∀ g, v.ownBlock = some g → row ≠ some g) : OwnS W0 w' v l := by
  refine ⟨⟨h.1.1, ?_⟩, h.2.grown hg h.2.size hr⟩
  rcases h.1.2 with h0 | ⟨g, cap, cur, hv, hb, hc, h1, h2, h3, h4⟩
  · exact Or.inl h0
  · refine Or.inr ⟨g, cap, cur, hv, hb, ?_, h1, h2, h3, h4⟩
    have hlt := (h.1.lt g (by rw [hv]; rfl)).2
    rw [hg.block g hlt (fun e => hne g (by rw [hv]; rfl) e.symm)]
    exact hc
theorem ownI_kept {W0 w w' : World} {v : Value} {l : List Int} {row : Option Nat} (h : OwnI W0 w v l) (hg : w.grownBy w' row) (hr : ∀ k, row = some k → W0.heap.size ≤ k) (hne : ∀ g, v.ownBlock = some g → row ≠ some g) : OwnI W0 w' v l := by
  refine ⟨⟨h.1.1, ?_⟩, h.2.grown hg h.2.size hr⟩
  rcases h.1.2 with h0 | ⟨g, cap, cur, hv, hb, hc, h1, h2, h3, h4⟩
  · exact Or.inl h0
  · refine Or.inr ⟨g, cap, cur, hv, hb, ?_, h1, h2, h3, h4⟩
    have hlt := (h.1.lt g (by rw [hv]; rfl)).2
    rw [hg.block g hlt (fun e => hne g (by rw [hv]; rfl) e.symm)]
    exact hc

def ValR (l : List UInt8) (w : World) (v5 v6 i : Value) (wr : World) : Prop :=
  ∃ (k : Nat) (vs : List ByteArray) (os : List Int), k ≤ l.length ∧ i = .int .i64 k ∧ Hid (recsB l = recsB (l.drop k)) ∧ OwnS w wr v5 vs ∧ OwnI w wr v6 os ∧ ApartV v5 v6 ∧ vs.length ≤ k ∧ os.length ≤ k ∧ Hid (vs.length = os.length ∧ valsAt 0 l = os.zip vs ++ valsAt k (l.drop k))

theorem val_next {l : List UInt8} {w W1 w2 w3 : World} {v5 v6 : Value} {vs : List ByteArray} {os : List Int} {s : ByteArray} {i x : Int} {g2 cap2 g3 cap3 k k' : Nat} {o : Obj} (hAp : ApartV v5 v6) (hI1 : OwnI w W1 v6 os)
    (hS2 : OwnS w w2 (.slice (some ⟨g2, 0, none⟩) (vs.length + 1) cap2) (vs ++ [s])) (hat2 : v5.ownBlock = some g2 ∨ g2 = W1.heap.size) (hI3 : OwnI w w3 (.slice (some ⟨g3, 0, none⟩) (os.length + 1) cap3) (os ++ [i]))
    (hgr3 : (w2.alloc o).grownBy w3 v6.ownBlock) (hat3 : v6.ownBlock = some g3 ∨ g3 = (w2.alloc o).heap.size) (hk' : k' ≤ l.length) (E : Hid (recsB l = recsB (l.drop k'))) (h1 : vs.length + 1 ≤ k') (h2 : os.length + 1 ≤ k') (hx : x = (k' : Int)) (Z : Hid (vs.length = os.length ∧ valsAt 0 l = os.zip vs ++ valsAt k (l.drop k))) (hva : Hid (valsAt k (l.drop k) = (i, s) :: valsAt k' (l.drop k'))) :
    ValR l w (.slice (some ⟨g2, 0, none⟩) (vs.length + 1) cap2) (.slice (some ⟨g3, 0, none⟩) (os.length + 1) cap3) (.int .i64 x) w3 := by
  have hno : v6.ownBlock ≠ some g2 := by
    intro h6
    rcases hat2 with h | h
    · exact hAp g2 g2 h h6 rfl
    · have := (hI1.1.lt g2 h6).2
      omega
  have hS2' : OwnS w (w2.alloc o) (.slice (some ⟨g2, 0, none⟩) (vs.length + 1) cap2) (vs ++ [s]) := hS2.later ((Below.refl _ _).alloc (Nat.le_refl _) _)
  have hS3 := ownS_kept hS2' hgr3 (fun g hg => (hI1.1.lt g hg).1) (fun g hg => by
    have : g2 = g := by simpa [Value.ownBlock] using hg
    rw [← this]
    exact hno)
  refine ⟨k', vs ++ [s], os ++ [i], hk', by rw [hx], E, hS3, hI3, ?_, by simpa using h1, by simpa using h2, (show Hid _ from ⟨by simp [Z.out.1], by rw [Z.out.2, hva.out, List.zip_append Z.out.1.symm]; simp⟩)⟩
  intro g g' hg hg'
  have e2 : g2 = g := by simpa [Value.ownBlock] using hg
  have e3 : g3 = g' := by simpa [Value.ownBlock] using hg'
  rw [← e2, ← e3]
  intro h
  rcases hat3 with h3 | h3
  · exact hno (by rw [h]; exact h3)
  · have := (hS2.1.lt g2 rfl).2
    simp at h3
    omega

def VL (l : List UInt8) (w w' : World) (u v : Value) : Prop := ∃ vs os, OwnS w w' u vs ∧ OwnI w w' v os ∧ vs.length = os.length ∧ vs.length ≤ 256 ∧ valsAt 0 l = os.zip vs
def ValPost2 (l : List UInt8) (w : World) (e : Ending) (w' : World) : Prop :=
  ∃ u v, e = .returned (.tuple #[u, v, .bool (recsB l)]) ∧ Below w.heap.size w w' ∧ (recsB l = true → VL l w w' u v)
def ValPost (l : List UInt8) (w : World) (e : Ending) (w' : World) : Prop :=
  ∃ u v, e = .returned (.tuple #[u, v, .bool (recsB l)]) ∧ Below w.heap.size w w'

set_option maxHeartbeats 40000000 in
set_option maxRecDepth 100000 in
theorem valuesIn_vals (l : List UInt8) (a : Option Addr) (c : Nat) (w : World) (hA : BytesAt w a l) (hl : l.length ≤ 256) (hlc : l.length ≤ c) (hcm : c ≤ maxLen) :
    Calls Tryd.prog 45 #[.slice a l.length c] w fun e w' => ValPost2 l w e w' := by
  unfold maxLen at hcm
  go_enter Tryd.func45, Tryd.ntmps45
  go_wp2_with fail
  go_loopw [5, 6, 7] (fun v5 v6 i wr => ValR l w v5 v6 i wr) (fun v5 v6 i _ => l.length - (intOf i).toNat)
  case atStart => exact ⟨0, [], [], Nat.zero_le _, rfl, rfl, ⟨⟨rfl, Or.inl ⟨rfl, rfl⟩⟩, Below.refl _ _⟩, ⟨⟨rfl, Or.inl ⟨rfl, rfl⟩⟩, Below.refl _ _⟩, fun g g' h => (by cases h), Nat.le_refl _, Nat.le_refl _, (show Hid _ from ⟨rfl, rfl⟩)⟩
  case round =>
    obtain ⟨k, vs, os, hk, rfl, E, hS, hI, hAp, hv1, hv2, Z⟩ := hrel
    by_cases hlt : k < l.length
    · have hltz : (k : Int) < (l.length : Int) := by omega
      have hk0 : (0 : Int) ≤ (k : Int) := Int.natCast_nonneg _
      have hAr := hA.later hS.2
      obtain ⟨_, hm⟩ := hAr
      rcases hm with hm | ⟨b, o, rfl, hbl, hc⟩
      · omega
      have e1 := hc k hlt
      have hg0 : ((l.drop k).getD 0 0) = l.getD k 0 := by rw [List.getD_eq_getElem?_getD, List.getD_eq_getElem?_getD, List.getElem?_drop, Nat.add_zero]
      have hdl : (l.drop k).length = l.length - k := List.length_drop
      have hst := recsB_step (l.drop k) (by omega)
      have hrn : recN (l.drop k) = if l.length - k < 3 ∨ 200 < (l.getD k 0).toNat ∨ l.length - k < 3 + (l.getD k 0).toNat then 0 else 3 + (l.getD k 0).toNat := by unfold recN; rw [hg0, hdl]
      obtain ⟨n, hn⟩ : ∃ n, (l.getD k 0).toNat = n := ⟨_, rfl⟩
      rw [hn] at e1 hrn
      by_cases h200 : 200 < n
      · have hz : recN (l.drop k) = 0 := by rw [hrn]; exact if_pos (Or.inr (Or.inl h200))
        have E2 : Hid (recsB l = false) := by unfold Hid; rw [E.out, hst, if_pos hz]
        have h200z : (200 : Int) < (n : Int) := by omega
        have hbd : n < 256 := by have := (l.getD k 0).toNat_lt; omega
        clear hc hst hrn hn hg0 hz
        go_wp2
        exact bodyPost_ret (v := .tuple #[.slice none 0 0, .slice none 0 0, .bool false]) (by simp [results, Tryd.results45, go_sem]) rfl ⟨.slice none 0 0, .slice none 0 0, by rw [E2.out], hS.2, fun h => absurd (E2.out.symm.trans h) (by decide)⟩
      by_cases hlong : l.length < k + 3 + n
      · have hz : recN (l.drop k) = 0 := by rw [hrn]; exact if_pos (Or.inr (Or.inr (by omega)))
        have E2 : Hid (recsB l = false) := by unfold Hid; rw [E.out, hst, if_pos hz]
        have h200z : ¬ (200 : Int) < (n : Int) := by omega
        have hlz : (l.length : Int) < (k : Int) + 3 + (n : Int) := by omega
        clear hc hst hrn hn hg0 hz
        go_wp2
        exact bodyPost_ret (v := .tuple #[.slice none 0 0, .slice none 0 0, .bool false]) (by simp [results, Tryd.results45, go_sem]) rfl ⟨.slice none 0 0, .slice none 0 0, by rw [E2.out], hS.2, fun h => absurd (E2.out.symm.trans h) (by decide)⟩
      · have h200z : ¬ (200 : Int) < (n : Int) := by omega
        have hlz : ¬ (l.length : Int) < (k : Int) + 3 + (n : Int) := by omega
        have hne : ¬ (l.length - k < 3 ∨ 200 < n ∨ l.length - k < 3 + n) := by omega
        rw [if_neg hne] at hrn
        have hne2 : ¬ 3 + n = 0 := by omega
        rw [hrn, if_neg hne2] at hst
        have hsl : ((l.drop k).take (3 + n)).length = 3 + n := by rw [List.length_take, hdl]; omega
        have hvl : (((l.drop k).take (3 + n)).drop 3).length = n := by rw [List.length_drop, hsl]; omega
        have hBk : BytesAt wr (some ⟨b, o + k, none⟩) (l.drop k) := bytes_drop hc hbl (by unfold maxLen; omega) k _ (fun _ => rfl)
        have hBr : BytesAt wr (some ⟨b, o + k, none⟩) ((l.drop k).take (3 + n)) := bytes_take hBk (3 + n) (by rw [hdl]; omega)
        have hBv : ∀ a', (0 < n → a' = some ⟨b, o + (k + 3), none⟩) → BytesAt wr a' (((l.drop k).take (3 + n)).drop 3) := by
          intro a' ha
          obtain ⟨h1, h2⟩ := hBr
          rcases h2 with h2 | ⟨b2, o2, h3, h4, h5⟩
          · omega
          · cases h3
            refine bytes_drop h5 h4 h1 3 a' (fun h => ?_)
            rw [ha (by omega), Nat.add_assoc]
        have hx0 : (((l.drop k).take (3 + n)).getD 0 0).toNat = n := by
          rw [List.getD_eq_getElem?_getD, List.getElem?_take_of_lt (by omega), ← List.getD_eq_getElem?_getD, hg0, hn]
        have hre := rec_eq ((l.drop k).take (3 + n)) n hsl (by omega) hx0
        have hdd : (l.drop k).drop (3 + n) = l.drop (k + 3 + n) := by rw [List.drop_drop]; congr 1; omega
        rw [hdd] at hst
        have hva : Hid (valsAt k (l.drop k) = ((k : Int), strB (((l.drop k).take (3 + n)).drop 3)) :: valsAt (k + 3 + n) (l.drop (k + 3 + n))) := by
          unfold Hid
          rw [valsAt_step k (l.drop k) (by rw [hrn]; omega), hrn, hdd, ← Nat.add_assoc]
        have cvR := fun (w1 : World) (hb : Below wr.heap.size wr w1) (c' : Nat) => conv_bytes (hBr.later hb) c'
        have cvV := fun (a' : Option Addr) (h : 0 < n → a' = some ⟨b, o + (k + 3), none⟩) (c' : Nat) => conv_bytes (hBv a' h) c'
        rw [hsl] at cvR
        rw [hvl] at cvV
        have hbo := fun w1 => bytesOf_any (strB (((l.drop k).take (3 + n)).drop 3)) w1 (by show (strB (((l.drop k).take (3 + n)).drop 3)).data.size ≤ 200; unfold strB; simp; omega)
        clear hc hg0 hn hrn
        generalize (l.drop k).take (3 + n) = rec at *
        have hsd : (strB (rec.drop 3)).data.toList = rec.drop 3 := by unfold strB; simp
        rw [hsd] at hbo
        have hcmp : ((strB rec).toList == (strB (recOf (rec.drop 3))).toList) = sumOk rec := by
          have e1 : (strB rec).toList = rec := by rw [ByteArray.toList_eq]; unfold strB; simp
          have e2 : (strB (recOf (rec.drop 3))).toList = recOf (rec.drop 3) := by rw [ByteArray.toList_eq]; unfold strB; simp
          rw [e1, e2]
          cases hso : sumOk rec
          · have hne : rec ≠ recOf (rec.drop 3) := fun h => by rw [hre.1 h] at hso; cases hso
            exact beq_eq_false_iff_ne.2 hne
          · have heq := hre.2 hso
            exact beq_iff_eq.2 heq
        have hk3 : (0 : Int) ≤ (k : Int) + 3 := by omega
        have hk4 : (k : Int) + 3 ≤ (k : Int) + 3 + (n : Int) := by omega
        have hk5 : (k : Int) + 3 + (n : Int) ≤ (c : Int) := by omega
        have hk6 : (k : Int) ≤ (k : Int) + 3 + (n : Int) := by omega
        have hkn : k + 3 + n - (k + 3) = n := by omega
        have hkk : k + 3 + n - k = 3 + n := by omega
        have hck : ¬ c = k := by omega
        have hw3 : IntKind.i64.wrap ((k : Int) + 3) = (k : Int) + 3 := by simp only [IntKind.wrap_i64]; omega
        have hw4 : IntKind.i64.wrap ((k : Int) + 3 + (n : Int)) = (k : Int) + 3 + (n : Int) := by simp only [IntKind.wrap_i64]; omega
        have ht1 : ((k : Int) + 3 + (n : Int)).toNat = k + 3 + n := by omega
        generalize rec.drop 3 = V at *
        have hdr : Below wr.heap.size wr wr.drew := (Below.refl _ _).drew
        have cvB := fun (w1 : World) (g cap : Nat) (hB : BytesAt w1 (some ⟨g, 0, none⟩) (recOf V)) => conv_bytes hB cap
        generalize strB (recOf V) = sG at *
        generalize strB rec = sR at *
        generalize strB V = sV at *
        generalize recOf V = LG at *
        cases hso : sumOk rec
        · have E2 : Hid (recsB l = false) := by unfold Hid; rw [E.out, hst, hso]; rfl
          rw [hso] at hcmp
          clear hst hso hre
          by_cases hcc : c = k + 3
          · subst hcc
            have cv1 := cvV (some ⟨b, o, none⟩) (fun h => absurd h (by omega)) 0
            go_wp2_with fail
            have cvR0 := cvR _ hdr 3
            go_region_with ((go_at_call 54; refine (hbo _).mono ?_; rintro e wb ⟨g, cap, rfl, hBg, hge, hbb⟩; have hbw : Below wr.heap.size wr wb := hdr.trans (hbb.mono (Nat.le_refl _)); have cvR1 := cvR _ hbw 3; have cvG := cvB _ _ cap hBg))
            all_goals go_wp2
            all_goals exact bodyPost_ret (v := .tuple #[.slice none 0 0, .slice none 0 0, .bool false]) (by simp [results, Tryd.results45, go_sem]) rfl ⟨.slice none 0 0, .slice none 0 0, by rw [E2.out], hS.2.trans (hbw.mono hS.2.size), fun h => absurd (E2.out.symm.trans h) (by decide)⟩
          · have cv1 := cvV (some ⟨b, o + (k + 3), none⟩) (fun _ => rfl) (c - (k + 3))
            go_wp2_with fail
            have cvR0 := cvR _ hdr (c - k)
            go_region_with ((go_at_call 54; refine (hbo _).mono ?_; rintro e wb ⟨g, cap, rfl, hBg, hge, hbb⟩; have hbw : Below wr.heap.size wr wb := hdr.trans (hbb.mono (Nat.le_refl _)); have cvR1 := cvR _ hbw (c - k); have cvG := cvB _ _ cap hBg))
            all_goals go_wp2
            all_goals exact bodyPost_ret (v := .tuple #[.slice none 0 0, .slice none 0 0, .bool false]) (by simp [results, Tryd.results45, go_sem]) rfl ⟨.slice none 0 0, .slice none 0 0, by rw [E2.out], hS.2.trans (hbw.mono hS.2.size), fun h => absurd (E2.out.symm.trans h) (by decide)⟩
        · have E2 : Hid (recsB l = recsB (l.drop (k + 3 + n))) := by unfold Hid; rw [E.out, hst, hso]; rfl
          rw [hso] at hcmp
          clear hst hso hre
          by_cases hcc : c = k + 3
          · subst hcc
            have cv1 := cvV (some ⟨b, o, none⟩) (fun h => absurd h (by omega)) 0
            go_wp2_with fail
            have cvR0 := cvR _ hdr 3
            go_region_with ((go_at_call 54; refine (hbo _).mono ?_; rintro e wb ⟨g, cap, rfl, hBg, hge, hbb⟩; have hbw : Below wr.heap.size wr wb := hdr.trans (hbb.mono (Nat.le_refl _)); have cvR1 := cvR _ hbw 3; have cvG := cvB _ _ cap hBg))
            all_goals
              have hS1 := (hS.later hbw).later ((Below.refl _ _).alloc (Nat.le_refl _) (.cells #[.string sV] 9))
              have hI1 := (hI.later hbw).later ((Below.refl _ _).alloc (Nat.le_refl _) (.cells #[.string sV] 9))
              go_wp2_with (first
                | (at_builtin; refine append_strs _ rfl (.tmp 51) (.tmp 53) rfl w _ vs rfl hS1 sV _ rfl (by simp) (by omega) ?_; intro g2 cap2 w2 hS2 hgr2 hat2)
                | (at_builtin; refine append_nums _ rfl (.tmp 55) (.tmp 57) rfl w _ os rfl ((ownI_kept hI1 hgr2 (fun x hx => (hS1.1.lt x hx).1) (fun x hx e => hAp x x e hx rfl)).later ((Below.refl _ _).alloc (Nat.le_refl _) _)) (k : Int) _ rfl (by simp) (by omega) ?_; intro g3 cap3 w3 hI3 hgr3 hat3))
              exact ⟨val_next hAp hI1 hS2 hat2 hI3 hgr3 hat3 (by omega) E2 (by omega) (by omega) (by omega) Z hva, by simp [intOf]; omega⟩
          · have cv1 := cvV (some ⟨b, o + (k + 3), none⟩) (fun _ => rfl) (c - (k + 3))
            go_wp2_with fail
            have cvR0 := cvR _ hdr (c - k)
            go_region_with ((go_at_call 54; refine (hbo _).mono ?_; rintro e wb ⟨g, cap, rfl, hBg, hge, hbb⟩; have hbw : Below wr.heap.size wr wb := hdr.trans (hbb.mono (Nat.le_refl _)); have cvR1 := cvR _ hbw (c - k); have cvG := cvB _ _ cap hBg))
            all_goals
              have hS1 := (hS.later hbw).later ((Below.refl _ _).alloc (Nat.le_refl _) (.cells #[.string sV] 9))
              have hI1 := (hI.later hbw).later ((Below.refl _ _).alloc (Nat.le_refl _) (.cells #[.string sV] 9))
              go_wp2_with (first
                | (at_builtin; refine append_strs _ rfl (.tmp 51) (.tmp 53) rfl w _ vs rfl hS1 sV _ rfl (by simp) (by omega) ?_; intro g2 cap2 w2 hS2 hgr2 hat2)
                | (at_builtin; refine append_nums _ rfl (.tmp 55) (.tmp 57) rfl w _ os rfl ((ownI_kept hI1 hgr2 (fun x hx => (hS1.1.lt x hx).1) (fun x hx e => hAp x x e hx rfl)).later ((Below.refl _ _).alloc (Nat.le_refl _) _)) (k : Int) _ rfl (by simp) (by omega) ?_; intro g3 cap3 w3 hI3 hgr3 hat3))
              exact ⟨val_next hAp hI1 hS2 hat2 hI3 hgr3 hat3 (by omega) E2 (by omega) (by omega) (by omega) Z hva, by simp [intOf]; omega⟩
    · have hltz : ¬ (k : Int) < (l.length : Int) := by omega
      have E2 : Hid (recsB l = true) := by unfold Hid; rw [E.out, show k = l.length by omega, List.drop_length]; rfl
      go_wp2
      exact bodyPost_ret (v := .tuple #[u5, u6, .bool true]) (by simp [results, Tryd.results45, go_sem]) rfl ⟨u5, u6, by rw [E2.out], hS.2, fun _ => ⟨vs, os, hS, hI, Z.out.1, by omega, by
        rw [Z.out.2, show k = l.length by omega, List.drop_length, valsAt_none _ _ (recN_nil _ rfl), List.append_nil]⟩⟩

theorem valuesIn_any (l : List UInt8) (a : Option Addr) (c : Nat) (w : World) (hA : BytesAt w a l) (hl : l.length ≤ 256) (hlc : l.length ≤ c) (hcm : c ≤ maxLen) :
    Calls Tryd.prog 45 #[.slice a l.length c] w fun e w' => ValPost l w e w' :=
  (valuesIn_vals l a c w hA hl hlc hcm).mono fun e w' ⟨u, v, h1, h2, _⟩ => ⟨u, v, h1, h2⟩
end Go.Proofs.YtogpkbhjobhodaaDoor
