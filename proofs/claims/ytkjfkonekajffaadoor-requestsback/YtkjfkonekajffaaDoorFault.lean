/- The contract of dovecoteref.RequestFault: it answers what wire.Check answers, at every request. -/
import Derived.Test.YtkjfkonekajffaaDoorCheckfit
namespace Go.Proofs.YtkjfkonekajffaaDoor
open Go.ChangeShapes Go.WideShapes Go.ChangeAt Go.RowKit
set_option linter.unusedVariables false

def keysOK (kind : Int) (keys : List ByteArray) : Bool := if kind = 1 then inB keys.length 1 10 && !(noKeyIn keys) else decide (keys.length = 0)
def keyBad (kind : Int) (key : ByteArray) : Bool := (inB kind 2 11 && !(keyB key)) || (!(inB kind 2 11) && !(key.toList.isEmpty))
def fieldsBad (kind flags exp : Int) (value : ByteArray) : Bool := !(inB kind 2 7) && (((flags != 0) || !(value.toList.isEmpty)) || ((kind != 11) && (exp != 0)))
def nBad (kind nn : Int) : Bool := (((kind != 7) && (kind != 9)) && (kind != 10)) && (nn != 0)
def quietBad (kind : Int) (quiet : Bool) : Bool := quiet && ((kind == 1) || (kind == 13))
def rangeBad (flags exp nn : Int) : Bool := (!(inB flags 0 65535) || !(inB exp 0 1099511627776)) || !(inB nn 0 1099511627776)

theorem keysFit_eq (kind : Int) (key : ByteArray) (keys : List ByteArray) : keysFitB kind key keys = (keysOK kind keys && !(keyBad kind key)) := by
  unfold keysFitB keysOK keyBad
  by_cases h : kind = 1
  · subst h
    rw [show inB 1 2 11 = false from by decide]
    cases key.toList.isEmpty <;> simp
  · cases inB kind 2 11 <;> cases key.toList.isEmpty <;> cases keyB key <;> simp [h]

theorem fieldsFit_eq (kind flags exp nn : Int) (value : ByteArray) (quiet : Bool) : fieldsFitB kind flags exp nn value quiet = (!(fieldsBad kind flags exp value) && (!(nBad kind nn) && !(quietBad kind quiet))) := by
  rw [fieldsFit_of kind flags exp nn value quiet _ _ _ _ rfl rfl rfl rfl]
  unfold fieldsBad nBad quietBad hasExpB hasNB mayQuietB
  by_cases h1 : kind = 1
  · subst h1
    cases value.toList.isEmpty <;> cases flags != 0 <;> cases exp != 0 <;> cases nn != 0 <;> cases quiet <;> rfl
  by_cases h13 : kind = 13
  · subst h13
    cases value.toList.isEmpty <;> cases flags != 0 <;> cases exp != 0 <;> cases nn != 0 <;> cases quiet <;> rfl
  rw [show (kind == 1) = false from by simp [h1], show (kind == 13) = false from by simp [h13], decide_eq_false h1, decide_eq_false h13]
  by_cases h11 : kind = 11
  · subst h11
    cases value.toList.isEmpty <;> cases flags != 0 <;> cases exp != 0 <;> cases nn != 0 <;> cases quiet <;> rfl
  rw [show (kind != 11) = true from by simp [h11], decide_eq_false h11]
  by_cases h7 : kind = 7
  · subst h7
    cases value.toList.isEmpty <;> cases flags != 0 <;> cases exp != 0 <;> cases nn != 0 <;> cases quiet <;> rfl
  by_cases h9 : kind = 9
  · subst h9
    cases value.toList.isEmpty <;> cases flags != 0 <;> cases exp != 0 <;> cases nn != 0 <;> cases quiet <;> rfl
  by_cases h10 : kind = 10
  · subst h10
    cases value.toList.isEmpty <;> cases flags != 0 <;> cases exp != 0 <;> cases nn != 0 <;> cases quiet <;> rfl
  rw [show (kind != 7) = true from by simp [h7], show (kind != 9) = true from by simp [h9], show (kind != 10) = true from by simp [h10], decide_eq_false h7, decide_eq_false h9, decide_eq_false h10]
  cases inB kind 2 7 <;> cases value.toList.isEmpty <;> cases flags != 0 <;> cases exp != 0 <;> cases nn != 0 <;> cases quiet <;> rfl

theorem range_eq (flags exp nn : Int) : (outB flags 65535 || (outB exp 1099511627776 || outB nn 1099511627776)) = rangeBad flags exp nn := by
  have h : ∀ n m : Int, outB n m = !(inB n 0 m) := fun n m => by
    unfold outB inB
    rw [Bool.eq_iff_iff]
    simp
  unfold rangeBad
  rw [h, h, h]
  cases inB flags 0 65535 <;> cases inB exp 0 1099511627776 <;> cases inB nn 0 1099511627776 <;> rfl

theorem check_eq (kind : Int) (key : ByteArray) (keys : List ByteArray) (flags exp nn : Int) (value : ByteArray) (quiet : Bool) : checkN kind key keys flags exp nn value quiet =
    if inB kind 1 13 = false then 3 else if keysOK kind keys = false then 4 else if keyBad kind key = true then 4 else if fieldsBad kind flags exp value = true then 4 else if nBad kind nn = true then 4 else if quietBad kind quiet = true then 4
    else if rangeBad flags exp nn = true then 2 else if 200 < value.size then 1 else 0 := by
  unfold checkN
  rw [keysFit_eq, fieldsFit_eq, range_eq]
  cases inB kind 1 13 <;> cases keysOK kind keys <;> cases keyBad kind key <;> cases fieldsBad kind flags exp value <;> cases nBad kind nn <;> cases quietBad kind quiet <;> rfl

set_option maxRecDepth 100000 in
set_option maxHeartbeats 2000000 in
theorem fault_any (kind : Int) (key : ByteArray) (ka : Option Addr) (kn kc : Nat) (keys : List ByteArray) (flags exp nn : Int) (value : ByteArray) (quiet : Bool) (w : World) (hK : StrsAt w ka kn keys) (hk : key.size ≤ maxLen) (hv : value.size ≤ maxLen) :
    Calls Tryd.prog 52 #[.agg #[.int .i64 kind, .string key, .slice ka kn kc, .int .i64 flags, .int .i64 exp, .int .i64 nn, .string value, .bool quiet]] w fun e w' => e = .returned (.int .i64 (checkN kind key keys flags exp nn value quiet)) ∧ Below w.heap.size w w' := by
  unfold maxLen at hv
  rw [check_eq]
  obtain ⟨rfl, hmax, hall, hmem⟩ := hK
  have hmax' := hmax
  unfold maxLen at hmax'
  generalize hE : (if inB kind 1 13 = false then (3 : Int) else _) = E
  have hB1 : Below w.heap.size w (w.alloc (.cells #[.int .i64 kind, .string key, .slice ka keys.length kc, .int .i64 flags, .int .i64 exp, .int .i64 nn, .string value, .bool quiet] 24)) := (Below.refl _ _).alloc (Nat.le_refl _) _
  cases h1 : inB kind 1 13
  · have HE : Hid (3 = E) := by rw [← hE, if_pos h1]; exact rfl
    clear hE
    go_enter Tryd.func52, Tryd.ntmps52
    go_wp2_with (go_at_call 71; refine (in_any _ _ _ _).mono ?_; rintro e w' ⟨rfl, rfl⟩)
    go_ret
    exact ⟨ret_i64 HE.out, hB1⟩
  rw [if_neg (by simp [h1])] at hE
  go_enter Tryd.func52, Tryd.ntmps52
  go_upto_if 11 with (go_at_call 71; refine (in_any _ _ _ _).mono ?_; rintro e w' ⟨rfl, rfl⟩)
  go_cut [] (fun wx => Hid (keysOK kind keys = true) ∧ wx = w.alloc (.cells #[.int .i64 kind, .string key, .slice ka keys.length kc, .int .i64 flags, .int .i64 exp, .int .i64 nn, .string value, .bool quiet] 24))
  case first =>
    by_cases h2 : kind = 1
    · have h2' : (kind == 1) = true := by simp [h2]
      have H2 : Hid (kind = 1) := h2
      clear h2 h1
      cases h3 : inB keys.length 1 10
      · have HE : Hid (4 = E) := by rw [← hE, if_pos (by unfold keysOK; rw [if_pos H2.out, h3]; rfl)]; exact rfl
        clear hE hall hmem
        go_wp2_with (go_at_call 71; refine (in_any _ _ _ _).mono ?_; rintro e w' ⟨rfl, rfl⟩)
        go_ret
        exact ⟨ret_i64 HE.out, hB1⟩
      · have H3 : Hid (inB keys.length 1 10 = true) := h3
        have HE4 : Hid (noKeyIn keys = true → 4 = E) := fun hno => by rw [← hE, if_pos (by unfold keysOK; rw [if_pos H2.out, h3, hno]; rfl)]
        clear hE
        rcases hmem with hmem | ⟨b, off, rfl, hlt, hcell⟩
        · exfalso
          rw [hmem] at h3
          exact absurd h3 (by decide)
        go_wp2_with (go_at_call 71; refine (in_any _ _ _ _).mono ?_; rintro e w' ⟨rfl, rfl⟩)
        clear h3
        go_loop [3] (fun i => ∃ k : Nat, k ≤ keys.length ∧ i = .int .i64 k ∧ Hid (∀ j, j < k → keyB (keys.getD j ByteArray.empty) = true)) (fun i => keys.length - (intOf i).toNat)
        case atStart => exact ⟨0, Nat.zero_le _, rfl, fun j hj => absurd hj (Nat.not_lt_zero _)⟩
        case round =>
          obtain ⟨k, hk2, rfl, A⟩ := hrel
          by_cases hlt2 : k < keys.length
          · have hltz : (k : Int) < (keys.length : Int) := by omega
            have hc2 : (w.alloc (.cells #[.int .i64 kind, .string key, .slice (some ⟨b, off, none⟩) keys.length kc, .int .i64 flags, .int .i64 exp, .int .i64 nn, .string value, .bool quiet] 24)).cell? ⟨b, off + k, none⟩ = some (.string (keys.getD k ByteArray.empty)) := by
              rw [hB1.cell (p := ⟨b, off + k, none⟩) hlt]
              exact hcell k hlt2
            have hm2 := mem_getD keys k hlt2
            have hsz := hall _ hm2
            clear hcell hall
            generalize hy : keys.getD k ByteArray.empty = y at hc2 hm2 hsz
            have B : Hid (keys.getD k ByteArray.empty = y) := hy
            clear hy
            have hcall := keyMay_any y
            cases hq : keyB y with
            | false =>
              have HE : Hid (4 = E) := HE4.out (List.any_eq_true.2 ⟨y, hm2, by simp [hq]⟩)
              rw [hq] at hcall
              clear hm2 hq
              go_wp2_with (go_at_call 72; refine (hcall _ hsz).mono ?_; rintro e w' ⟨rfl, rfl⟩)
              go_ret
              exact ⟨ret_i64 HE.out, hB1⟩
            | true =>
              rw [hq] at hcall
              have D : Hid (keyB y = true) := hq
              clear hm2 hq
              go_wp2_with (go_at_call 72; refine (hcall _ hsz).mono ?_; rintro e w' ⟨rfl, rfl⟩)
              go_round
              case rel =>
                refine ⟨k + 1, by omega, by go_num, (show Hid _ from fun j hj => ?_)⟩
                by_cases e : j = k
                · subst e
                  rw [B.out]
                  exact D.out
                · exact A.out j (by omega)
              case measure => simp [intOf]; omega
          · have hltz : ¬ (k : Int) < (keys.length : Int) := by omega
            have C : Hid (keysOK kind keys = true) := by
              have hno : noKeyIn keys = false := by
                refine List.any_eq_false.2 fun x hx => ?_
                obtain ⟨j, hj, rfl⟩ := List.mem_iff_getElem.1 hx
                have := A.out j (by omega)
                rw [List.getD_eq_getElem?_getD, List.getElem?_eq_getElem hj] at this
                simpa using this
              show keysOK kind keys = true
              unfold keysOK
              rw [if_pos H2.out, H3.out, hno]
              rfl
            clear hcell hall
            go_wp2
            go_meet
            exact ⟨C, rfl⟩
    · have h2' : (kind == 1) = false := by simp [h2]
      by_cases h3 : keys.length = 0
      · have C : Hid (keysOK kind keys = true) := by unfold Hid keysOK; simp [h2, h3]
        have h3' : ¬ 0 < (keys.length : Int) := by omega
        clear hall hmem h2 h3 h1
        go_wp2
        go_meet
        exact ⟨C, rfl⟩
      · have HE : Hid (4 = E) := by rw [← hE, if_pos (by unfold keysOK; simp [h2, h3])]; exact rfl
        have h3' : 0 < (keys.length : Int) := by omega
        clear hE hall hmem h2 h3 h1
        go_wp2
        go_ret
        exact ⟨ret_i64 HE.out, hB1⟩
  case rest =>
    obtain ⟨HK, rfl⟩ := hcut
    rw [if_neg (by rw [HK.out]; simp)] at hE
    clear HK hmem hall h1
    go_upto_region 14 with (go_at_call 71; refine (in_any _ _ _ _).mono ?_; rintro e w' ⟨rfl, rfl⟩)
    generalize hkb : keyBad kind key = kb at hE
    have KB : Hid (keyBad kind key = kb) := hkb
    clear hkb
    go_cut [4, 53] (fun _ s wx => s = .bool kb ∧ wx = w.alloc (.cells #[.int .i64 kind, .string key, .slice ka keys.length kc, .int .i64 flags, .int .i64 exp, .int .i64 nn, .string value, .bool quiet] 24))
    case first =>
      have hcall := keyMay_any key
      have KB2 : Hid (kb = ((inB kind 2 11 && !(keyB key)) || (!(inB kind 2 11) && !(key.toList.isEmpty)))) := KB.out.symm
      clear KB hE
      cases h4 : inB kind 2 11
      · rw [h4] at KB2
        cases h5 : key.toList.isEmpty
        · rw [h5] at KB2
          go_wp2
          go_meet
          exact ⟨by rw [KB2.out]; simp, rfl⟩
        · rw [h5] at KB2
          go_wp2
          go_meet
          exact ⟨by rw [KB2.out]; simp, rfl⟩
      · rw [h4] at KB2
        cases h5 : keyB key
        · rw [h5] at KB2 hcall
          clear h5
          go_wp2_with (go_at_call 72; refine (hcall _ hk).mono ?_; rintro e w' ⟨rfl, rfl⟩)
          go_meet
          exact ⟨by rw [KB2.out]; simp, rfl⟩
        · rw [h5] at KB2 hcall
          clear h5
          go_wp2_with (go_at_call 72; refine (hcall _ hk).mono ?_; rintro e w' ⟨rfl, rfl⟩)
          go_meet
          exact ⟨by rw [KB2.out]; simp, rfl⟩
    case rest =>
    obtain ⟨rfl, rfl⟩ := hcut
    clear KB
    cases kb
    case true =>
      have HE : Hid (4 = E) := hE
      clear hE
      go_wp2
      go_ret
      exact ⟨ret_i64 HE.out, hB1⟩
    case false =>
    rw [if_neg (by simp)] at hE
    generalize hfb : fieldsBad kind flags exp value = fb at hE
    have FB : Hid (fieldsBad kind flags exp value = fb) := hfb
    clear hfb
    go_upto_region 16 with fail
    go_cut [77] (fun s wx => s = .bool fb ∧ wx = w.alloc (.cells #[.int .i64 kind, .string key, .slice ka keys.length kc, .int .i64 flags, .int .i64 exp, .int .i64 nn, .string value, .bool quiet] 24))
    case first =>
      have FB2 : Hid (fb = (!(inB kind 2 7) && (((flags != 0) || !(value.toList.isEmpty)) || ((kind != 11) && (exp != 0))))) := FB.out.symm
      clear FB hE
      have hcall := brings_any kind
      generalize inB kind 2 7 = b1 at *
      generalize hf : (flags != 0) = f at *
      generalize hv2 : value.toList.isEmpty = v at *
      generalize he : (exp != 0) = ee at *
      generalize hn : (kind != 11) = n at *
      cases b1
      case true =>
        go_wp2_with (go_at_call 55; refine (hcall _).mono ?_; rintro e w' ⟨rfl, rfl⟩)
        go_meet
        exact ⟨by rw [FB2.out]; rfl, rfl⟩
      case false =>
      cases f
      case true =>
        go_wp2_with (go_at_call 55; refine (hcall _).mono ?_; rintro e w' ⟨rfl, rfl⟩)
        go_meet
        exact ⟨by rw [FB2.out]; rfl, rfl⟩
      case false =>
      cases v
      case false =>
        go_wp2_with (go_at_call 55; refine (hcall _).mono ?_; rintro e w' ⟨rfl, rfl⟩)
        go_meet
        exact ⟨by rw [FB2.out]; rfl, rfl⟩
      case true =>
      cases n
      case false =>
        go_wp2_with (go_at_call 55; refine (hcall _).mono ?_; rintro e w' ⟨rfl, rfl⟩)
        go_meet
        exact ⟨by rw [FB2.out]; rfl, rfl⟩
      case true =>
      cases ee <;> (go_wp2_with (go_at_call 55; refine (hcall _).mono ?_; rintro e w' ⟨rfl, rfl⟩)) <;> (go_meet; exact ⟨by rw [FB2.out]; rfl, rfl⟩)
    case rest =>
    obtain ⟨rfl, rfl⟩ := hcut
    clear FB
    cases fb
    case true =>
      have HE : Hid (4 = E) := hE
      clear hE
      go_wp2
      go_ret
      exact ⟨ret_i64 HE.out, hB1⟩
    case false =>
    rw [if_neg (by simp)] at hE
    generalize hnb : nBad kind nn = nb at hE
    have NB : Hid (nBad kind nn = nb) := hnb
    clear hnb
    go_upto_region 18 with fail
    go_cut [95] (fun s wx => s = .bool nb ∧ wx = w.alloc (.cells #[.int .i64 kind, .string key, .slice ka keys.length kc, .int .i64 flags, .int .i64 exp, .int .i64 nn, .string value, .bool quiet] 24))
    case first =>
      have NB2 : Hid (nb = ((((kind != 7) && (kind != 9)) && (kind != 10)) && (nn != 0))) := NB.out.symm
      clear NB hE
      generalize h7 : (kind != 7) = n7 at *
      generalize h9 : (kind != 9) = n9 at *
      generalize h10 : (kind != 10) = n10 at *
      generalize hn : (nn != 0) = n at *
      cases n7 <;> cases n9 <;> cases n10 <;> cases n <;> go_wp2 <;> (go_meet; exact ⟨by rw [NB2.out]; rfl, rfl⟩)
    case rest =>
    obtain ⟨rfl, rfl⟩ := hcut
    clear NB
    cases nb
    case true =>
      have HE : Hid (4 = E) := hE
      clear hE
      go_wp2
      go_ret
      exact ⟨ret_i64 HE.out, hB1⟩
    case false =>
    rw [if_neg (by simp)] at hE
    generalize hqb : quietBad kind quiet = qb at hE
    have QB : Hid (quietBad kind quiet = qb) := hqb
    clear hqb
    go_upto_region 20 with fail
    go_cut [107] (fun s wx => s = .bool qb ∧ wx = w.alloc (.cells #[.int .i64 kind, .string key, .slice ka keys.length kc, .int .i64 flags, .int .i64 exp, .int .i64 nn, .string value, .bool quiet] 24))
    case first =>
      have QB2 : Hid (qb = (quiet && ((kind == 1) || (kind == 13)))) := QB.out.symm
      clear QB hE
      generalize h1 : (kind == 1) = n1 at *
      generalize h13 : (kind == 13) = n13 at *
      cases quiet <;> cases n1 <;> cases n13 <;> go_wp2 <;> (go_meet; exact ⟨by rw [QB2.out]; rfl, rfl⟩)
    case rest =>
    obtain ⟨rfl, rfl⟩ := hcut
    clear QB
    cases qb
    case true =>
      have HE : Hid (4 = E) := hE
      clear hE
      go_wp2
      go_ret
      exact ⟨ret_i64 HE.out, hB1⟩
    case false =>
    rw [if_neg (by simp)] at hE
    generalize hrb : rangeBad flags exp nn = rb at hE
    have RB : Hid (rangeBad flags exp nn = rb) := hrb
    clear hrb
    go_upto_region 22 with fail
    go_cut [123] (fun s wx => s = .bool rb ∧ wx = w.alloc (.cells #[.int .i64 kind, .string key, .slice ka keys.length kc, .int .i64 flags, .int .i64 exp, .int .i64 nn, .string value, .bool quiet] 24))
    case first =>
      have RB2 : Hid (rb = ((!(inB flags 0 65535) || !(inB exp 0 1099511627776)) || !(inB nn 0 1099511627776))) := RB.out.symm
      clear RB hE
      have hc1 := in_any flags 0 65535
      have hc2 := in_any exp 0 1099511627776
      have hc3 := in_any nn 0 1099511627776
      generalize inB flags 0 65535 = i1 at *
      generalize inB exp 0 1099511627776 = i2 at *
      generalize inB nn 0 1099511627776 = i3 at *
      cases i1
      · go_wp2_with fail
        refine (hc1 _).mono ?_
        rintro e w' ⟨rfl, rfl⟩
        go_wp2_with fail
        go_meet
        exact ⟨by rw [RB2.out]; rfl, rfl⟩
      · go_wp2_with fail
        refine (hc1 _).mono ?_
        rintro e w' ⟨rfl, rfl⟩
        go_wp2_with fail
        refine (hc2 _).mono ?_
        rintro e w' ⟨rfl, rfl⟩
        cases i2
        · go_wp2_with fail
          go_meet
          exact ⟨by rw [RB2.out]; rfl, rfl⟩
        · go_wp2_with fail
          refine (hc3 _).mono ?_
          rintro e w' ⟨rfl, rfl⟩
          go_wp2_with fail
          go_meet
          exact ⟨by rw [RB2.out]; rfl, rfl⟩
    case rest =>
    obtain ⟨rfl, rfl⟩ := hcut
    clear RB
    cases rb
    case true =>
      have HE : Hid (2 = E) := hE
      clear hE
      go_wp2
      go_ret
      exact ⟨ret_i64 HE.out, hB1⟩
    case false =>
    rw [if_neg (by simp)] at hE
    by_cases h3 : 200 < value.size
    · have h3' : 200 < (value.size : Int) := by omega
      have HE : Hid (1 = E) := by rw [← hE, if_pos h3]; exact rfl
      clear hE
      go_wp2
      go_ret
      exact ⟨ret_i64 HE.out, hB1⟩
    · have h3' : ¬ 200 < (value.size : Int) := by omega
      have HE : Hid (0 = E) := by rw [← hE, if_neg h3]; exact rfl
      clear hE
      go_wp2
      go_ret
      exact ⟨ret_i64 HE.out, hB1⟩
end Go.Proofs.YtkjfkonekajffaaDoor
