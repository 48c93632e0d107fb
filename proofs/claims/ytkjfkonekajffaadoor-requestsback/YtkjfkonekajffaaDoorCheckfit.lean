/- The contracts of wire.keysFit, wire.fieldsFit and wire.Check. -/
import Derived.Test.YtkjfkonekajffaaDoorKeysfit
import Derived.Deep.DeepCutAuto
namespace Go.Proofs.YtkjfkonekajffaaDoor
open Go.ChangeShapes Go.WideShapes Go.ChangeAt Go.RowKit
set_option linter.unusedVariables false

set_option maxHeartbeats 400000 in
theorem keysFit_any (kind : Int) (key : ByteArray) (ka : Option Addr) (kn kc : Nat) (keys : List ByteArray) (flags exp nn : Int) (value : ByteArray) (quiet : Bool) (w : World) (hK : StrsAt w ka kn keys) (hk : key.size ≤ maxLen) :
    Calls Tryd.prog 32 #[.agg #[.int .i64 kind, .string key, .slice ka kn kc, .int .i64 flags, .int .i64 exp, .int .i64 nn, .string value, .bool quiet]] w fun e w' => e = .returned (.bool (keysFitB kind key keys)) ∧ Below w.heap.size w w' := by
  obtain ⟨rfl, hmax, hall, hmem⟩ := hK
  have hmax' := hmax
  unfold maxLen at hmax'
  have hc := hasKey_any kind
  cases hh : inB kind 2 11
  · rw [hh] at hc
    cases h1 : key.toList.isEmpty
    · have E : Hid (keysFitB kind key keys = false) := by unfold Hid keysFitB; simp [hh, h1]
      clear hh hall hmem
      go_enter Tryd.func32, Tryd.ntmps32
      go_wp2_with (go_at_call 46; refine (hc _).mono ?_; rintro e w' ⟨rfl, rfl⟩)
      go_ret
      exact ⟨ret_bool E.out.symm, (Below.refl _ _).alloc (Nat.le_refl _) _⟩
    · by_cases h2 : kind = 1
      · by_cases h3 : keys.length < 1
        · have E : Hid (keysFitB kind key keys = false) := by unfold Hid keysFitB; simp [h1, h2, inB]; omega
          have h3' : (keys.length : Int) < 1 := by omega
          have h2' : (kind != 1) = false := by simp [h2]
          clear hh hall hmem h2
          go_enter Tryd.func32, Tryd.ntmps32
          go_wp2_with (go_at_call 46; refine (hc _).mono ?_; rintro e w' ⟨rfl, rfl⟩)
          go_ret
          exact ⟨ret_bool E.out.symm, (Below.refl _ _).alloc (Nat.le_refl _) _⟩
        · by_cases h4 : 10 < keys.length
          · have E : Hid (keysFitB kind key keys = false) := by unfold Hid keysFitB; simp [h1, h2, inB]; omega
            have h3' : ¬ (keys.length : Int) < 1 := by omega
            have h4' : 10 < (keys.length : Int) := by omega
            have h2' : (kind != 1) = false := by simp [h2]
            clear hh hall hmem h2
            go_enter Tryd.func32, Tryd.ntmps32
            go_wp2_with (go_at_call 46; refine (hc _).mono ?_; rintro e w' ⟨rfl, rfl⟩)
            go_ret
            exact ⟨ret_bool E.out.symm, (Below.refl _ _).alloc (Nat.le_refl _) _⟩
          · have E : Hid (keysFitB kind key keys = !(noKeyIn keys)) := by
              have : inB keys.length 1 10 = true := by unfold inB; simp; omega
              unfold Hid keysFitB
              simp [h1, h2, this]
              intro h
              exact absurd h (by decide)
            have h3' : ¬ (keys.length : Int) < 1 := by omega
            have h4' : ¬ 10 < (keys.length : Int) := by omega
            have h2' : (kind != 1) = false := by simp [h2]
            rcases hmem with hmem | ⟨b, off, rfl, hlt, hcell⟩
            · omega
            have hcon := fun (w1 : World) (hb : Below w.heap.size w w1) => cons_any keys b off kc w1 hmax hall (Nat.lt_of_lt_of_le hlt hb.size) (fun j hj => by rw [hb.cell (p := ⟨b, off + j, none⟩) hlt]; exact hcell j hj)
            clear hh hall hcell h2
            go_enter Tryd.func32, Tryd.ntmps32
            go_wp2_with (first | (go_at_call 46; refine (hc _).mono ?_; rintro e w' ⟨rfl, rfl⟩) | (go_at_call 58; refine (hcon _ ((Below.refl _ _).alloc (Nat.le_refl _) _)).mono ?_; rintro e w1 ⟨rfl, hb⟩))
            go_ret
            exact ⟨ret_bool E.out.symm, ((Below.refl _ _).alloc (Nat.le_refl _) _).trans (hb.mono (by simp))⟩
      · have h2' : (kind != 1) = true := by simp [h2]
        have E : Hid (keysFitB kind key keys = ((keys.length : Int) == 0)) := by
          unfold Hid keysFitB
          rw [Bool.eq_iff_iff]
          simp [hh, h1, h2]
        clear hh hall hmem h2
        go_enter Tryd.func32, Tryd.ntmps32
        go_wp2_with (go_at_call 46; refine (hc _).mono ?_; rintro e w' ⟨rfl, rfl⟩)
        go_ret
        exact ⟨ret_bool E.out.symm, (Below.refl _ _).alloc (Nat.le_refl _) _⟩
  · rw [hh] at hc
    by_cases h1 : keys.length = 0
    · have E : Hid (keysFitB kind key keys = keyB key) := by unfold Hid keysFitB; simp [hh, h1]
      have h1' : ((keys.length : Int) == 0) = true := by simp [h1]
      clear hh hall hmem h1
      go_enter Tryd.func32, Tryd.ntmps32
      go_wp2_with (first | (go_at_call 46; refine (hc _).mono ?_; rintro e w' ⟨rfl, rfl⟩) | (go_at_call 57; refine (key_any _ _ hk).mono ?_; rintro e w1 ⟨rfl, hb⟩))
      go_ret
      exact ⟨ret_bool E.out.symm, ((Below.refl _ _).alloc (Nat.le_refl _) _).trans (hb.mono (by simp))⟩
    · have E : Hid (keysFitB kind key keys = false) := by unfold Hid keysFitB; simp [hh, h1]
      have h1' : ((keys.length : Int) == 0) = false := by rw [beq_eq_false_iff_ne]; omega
      clear hh hall hmem h1
      go_enter Tryd.func32, Tryd.ntmps32
      go_wp2_with (go_at_call 46; refine (hc _).mono ?_; rintro e w' ⟨rfl, rfl⟩)
      go_ret
      exact ⟨ret_bool E.out.symm, (Below.refl _ _).alloc (Nat.le_refl _) _⟩

def fieldsFitB (kind flags exp nn : Int) (value : ByteArray) (quiet : Bool) : Bool :=
  if inB kind 2 7 = false ∧ (flags ≠ 0 ∨ value.toList.isEmpty = false) then false
  else if hasExpB kind = false ∧ exp ≠ 0 then false
  else if hasNB kind = false ∧ nn ≠ 0 then false
  else mayQuietB kind || !quiet

theorem fieldsFit_of (kind flags exp nn : Int) (value : ByteArray) (quiet c1 c2 c3 c4 : Bool)
    (h1 : c1 = (!(inB kind 2 7) && ((flags != 0) || !(value.toList.isEmpty)))) (h2 : c2 = (!(hasExpB kind) && (exp != 0))) (h3 : c3 = (!(hasNB kind) && (nn != 0))) (h4 : c4 = (mayQuietB kind || !quiet)) :
    fieldsFitB kind flags exp nn value quiet = (!c1 && (!c2 && (!c3 && c4))) := by
  unfold fieldsFitB
  subst h1 h2 h3 h4
  cases inB kind 2 7 <;> cases hasExpB kind <;> cases hasNB kind <;> cases mayQuietB kind <;> cases value.toList.isEmpty <;> by_cases f : flags = 0 <;> by_cases e : exp = 0 <;> by_cases n : nn = 0 <;> simp [f, e, n]

set_option maxHeartbeats 1000000 in
theorem fieldsFit_any (kind : Int) (key : ByteArray) (ka : Option Addr) (kn kc : Nat) (keys : List ByteArray) (flags exp nn : Int) (value : ByteArray) (quiet : Bool) (w : World) :
    Calls Tryd.prog 33 #[.agg #[.int .i64 kind, .string key, .slice ka kn kc, .int .i64 flags, .int .i64 exp, .int .i64 nn, .string value, .bool quiet]] w fun e w' => e = .returned (.bool (fieldsFitB kind flags exp nn value quiet)) ∧ Below w.heap.size w w' := by
  have hc1 := bringsV_any kind
  have hc2 := hasExp_any kind
  have hc3 := hasN_any kind
  have hc4 := mayQuiet_any kind
  have F := fieldsFit_of kind flags exp nn value quiet _ _ _ _ rfl rfl rfl rfl
  generalize fieldsFitB kind flags exp nn value quiet = B at *
  generalize inB kind 2 7 = b1 at *
  generalize hasExpB kind = b2 at *
  generalize hasNB kind = b3 at *
  generalize mayQuietB kind = b4 at *
  generalize hf : (flags != 0) = f at *
  generalize hv : value.toList.isEmpty = v at *
  generalize he : (exp != 0) = ee at *
  generalize hn : (nn != 0) = n at *
  have HF : Hid (B = (!(!b1 && (f || !v)) && (!(!b2 && ee) && (!(!b3 && n) && (b4 || !quiet))))) := F
  clear F
  go_enter Tryd.func33, Tryd.ntmps33
  go_upto_region 1 with fail
  go_cut [3] (fun s wx => s = .bool (!b1 && (f || !v)) ∧ wx = w.alloc (.cells #[.int .i64 kind, .string key, .slice ka kn kc, .int .i64 flags, .int .i64 exp, .int .i64 nn, .string value, .bool quiet] 24))
  case first =>
    cases b1 <;> cases f <;> cases v <;> (go_wp2_with (go_at_call 23; refine (hc1 _).mono ?_; rintro e w' ⟨rfl, rfl⟩)) <;> (go_meet; exact ⟨rfl, rfl⟩)
  case rest =>
    obtain ⟨rfl, rfl⟩ := hcut
    generalize hd1 : (!b1 && (f || !v)) = c1 at *
    clear hd1
    cases c1
    case true =>
      go_wp2
      go_ret
      exact ⟨ret_bool HF.out.symm, (Below.refl _ _).alloc (Nat.le_refl _) _⟩
    case false =>
      go_upto_region 3 with fail
      go_cut [18] (fun s wx => s = .bool (!b2 && ee) ∧ wx = w.alloc (.cells #[.int .i64 kind, .string key, .slice ka kn kc, .int .i64 flags, .int .i64 exp, .int .i64 nn, .string value, .bool quiet] 24))
      case first =>
        cases b2 <;> cases ee <;> (go_wp2_with (go_at_call 60; refine (hc2 _).mono ?_; rintro e w' ⟨rfl, rfl⟩)) <;> (go_meet; exact ⟨rfl, rfl⟩)
      case rest =>
        obtain ⟨rfl, rfl⟩ := hcut
        generalize hd1 : (!b2 && ee) = c2 at *
        clear hd1
        cases c2
        case true =>
          go_wp2
          go_ret
          exact ⟨ret_bool HF.out.symm, (Below.refl _ _).alloc (Nat.le_refl _) _⟩
        case false =>
          go_upto_region 5 with fail
          go_cut [28] (fun s wx => s = .bool (!b3 && n) ∧ wx = w.alloc (.cells #[.int .i64 kind, .string key, .slice ka kn kc, .int .i64 flags, .int .i64 exp, .int .i64 nn, .string value, .bool quiet] 24))
          case first =>
            cases b3 <;> cases n <;> (go_wp2_with (go_at_call 56; refine (hc3 _).mono ?_; rintro e w' ⟨rfl, rfl⟩)) <;> (go_meet; exact ⟨rfl, rfl⟩)
          case rest =>
            obtain ⟨rfl, rfl⟩ := hcut
            generalize hd1 : (!b3 && n) = c3 at *
            clear hd1
            cases c3
            case true =>
              go_wp2
              go_ret
              exact ⟨ret_bool HF.out.symm, (Below.refl _ _).alloc (Nat.le_refl _) _⟩
            case false =>
              cases b4 <;> (go_wp2_with (go_at_call 61; refine (hc4 _).mono ?_; rintro e w' ⟨rfl, rfl⟩)) <;> (go_ret; exact ⟨ret_bool (by rw [HF.out]; rfl), (Below.refl _ _).alloc (Nat.le_refl _) _⟩)

/-- What wire.Check answers. -/
def checkN (kind : Int) (key : ByteArray) (keys : List ByteArray) (flags exp nn : Int) (value : ByteArray) (quiet : Bool) : Int :=
  if inB kind 1 13 = false then 3
  else if keysFitB kind key keys = false then 4
  else if fieldsFitB kind flags exp nn value quiet = false then 4
  else if (outB flags 65535 || (outB exp 1099511627776 || outB nn 1099511627776)) = true then 2
  else if 200 < value.size then 1
  else 0

set_option maxHeartbeats 1000000 in
theorem check_any (kind : Int) (key : ByteArray) (ka : Option Addr) (kn kc : Nat) (keys : List ByteArray) (flags exp nn : Int) (value : ByteArray) (quiet : Bool) (w : World) (hK : StrsAt w ka kn keys) (hk : key.size ≤ maxLen) (hv : value.size ≤ maxLen) :
    Calls Tryd.prog 15 #[.agg #[.int .i64 kind, .string key, .slice ka kn kc, .int .i64 flags, .int .i64 exp, .int .i64 nn, .string value, .bool quiet]] w fun e w' => e = .returned (.int .i64 (checkN kind key keys flags exp nn value quiet)) ∧ Below w.heap.size w w' := by
  unfold maxLen at hv
  have hc1 := fun (w1 : World) (hb : Below w.heap.size w w1) => keysFit_any kind key ka kn kc keys flags exp nn value quiet w1 (hK.later hb) hk
  have hc2 := fieldsFit_any kind key ka kn kc keys flags exp nn value quiet
  have hc3 := outside_any flags 65535
  have hc4 := outside_any exp 1099511627776
  have hc5 := outside_any nn 1099511627776
  generalize hE : checkN kind key keys flags exp nn value quiet = E
  unfold checkN at hE
  generalize keysFitB kind key keys = b1 at *
  generalize fieldsFitB kind flags exp nn value quiet = b2 at *
  generalize outB flags 65535 = o1 at *
  generalize outB exp 1099511627776 = o2 at *
  generalize outB nn 1099511627776 = o3 at *
  by_cases h1 : kind < 1
  · have HE : Hid (3 = E) := by rw [← hE, if_pos (by unfold inB; simp; omega)]; exact rfl
    clear hE hc1 hc2 hc3 hc4 hc5
    go_enter Tryd.func15, Tryd.ntmps15
    go_wp2
    go_ret
    exact ⟨ret_i64 HE.out, (Below.refl _ _).alloc (Nat.le_refl _) _⟩
  by_cases h2 : 13 < kind
  · have HE : Hid (3 = E) := by rw [← hE, if_pos (by unfold inB; simp; omega)]; exact rfl
    clear hE hc1 hc2 hc3 hc4 hc5
    go_enter Tryd.func15, Tryd.ntmps15
    go_wp2
    go_ret
    exact ⟨ret_i64 HE.out, (Below.refl _ _).alloc (Nat.le_refl _) _⟩
  rw [if_neg (by unfold inB; simp; omega)] at hE
  cases b1
  · have HE : Hid (4 = E) := hE
    clear hE hc2 hc3 hc4 hc5
    go_enter Tryd.func15, Tryd.ntmps15
    go_wp2_with (go_at_call 32; refine (hc1 _ ((Below.refl _ _).alloc (Nat.le_refl _) _)).mono ?_; rintro e w1 ⟨rfl, hb⟩)
    go_ret
    exact ⟨ret_i64 HE.out, ((Below.refl _ _).alloc (Nat.le_refl _) _).trans (hb.mono (by simp))⟩
  rw [if_neg (by simp)] at hE
  cases b2
  · have HE : Hid (4 = E) := hE
    clear hE hc3 hc4 hc5
    go_enter Tryd.func15, Tryd.ntmps15
    go_wp2_with (first | (go_at_call 32; refine (hc1 _ ((Below.refl _ _).alloc (Nat.le_refl _) _)).mono ?_; rintro e w1 ⟨rfl, hb⟩; obtain ⟨q1, q2⟩ := bcell hb; have hz := bsize hb) | (go_at_call 33; refine (hc2 _).mono ?_; rintro e w2 ⟨rfl, hb2⟩))
    go_ret
    exact ⟨ret_i64 HE.out, (((Below.refl _ _).alloc (Nat.le_refl _) _).trans (hb.mono (by simp))).trans (hb2.mono (by omega))⟩
  rw [if_neg (by simp)] at hE
  go_enter Tryd.func15, Tryd.ntmps15
  go_upto_region 5 with (first | (go_at_call 32; refine (hc1 _ ((Below.refl _ _).alloc (Nat.le_refl _) _)).mono ?_; rintro e w1 ⟨rfl, hb⟩; obtain ⟨q1, q2⟩ := bcell hb; have hz := bsize hb) | (go_at_call 33; refine (hc2 _).mono ?_; rintro e w2 ⟨rfl, hb2⟩; obtain ⟨r1, r2⟩ := bcell hb2; have hz2 := hb2.size))
  have hb3 : Below w.heap.size w w2 := (((Below.refl _ _).alloc (Nat.le_refl _) _).trans (hb.mono (by simp))).trans (hb2.mono (by omega))
  clear hc1 hc2
  go_cut [21] (fun s wx => s = .bool (o1 || (o2 || o3)) ∧ wx = w2)
  case first =>
    cases o1
    · go_wp2_with fail
      refine (hc3 _).mono ?_
      rintro e w' ⟨rfl, rfl⟩
      cases o2
      · go_wp2_with fail
        refine (hc4 _).mono ?_
        rintro e w' ⟨rfl, rfl⟩
        go_wp2_with fail
        refine (hc5 _).mono ?_
        rintro e w' ⟨rfl, rfl⟩
        go_wp2_with fail
        go_meet
        exact ⟨rfl, rfl⟩
      · go_wp2_with fail
        refine (hc4 _).mono ?_
        rintro e w' ⟨rfl, rfl⟩
        go_wp2_with fail
        go_meet
        exact ⟨rfl, rfl⟩
    · go_wp2_with fail
      refine (hc3 _).mono ?_
      rintro e w' ⟨rfl, rfl⟩
      go_wp2_with fail
      go_meet
      exact ⟨rfl, rfl⟩
  case rest =>
    obtain ⟨rfl, rfl⟩ := hcut
    clear hc3 hc4 hc5
    generalize (o1 || (o2 || o3)) = o at *
    cases o
    case true =>
      have HE : Hid (2 = E) := hE
      clear hE
      go_wp2
      go_ret
      exact ⟨ret_i64 HE.out, hb3⟩
    case false =>
      by_cases h3 : 200 < value.size
      · have h3' : 200 < (value.size : Int) := by omega
        have HE : Hid (1 = E) := by rw [← hE, if_neg (by simp), if_pos h3]; exact rfl
        clear hE
        go_wp2
        go_ret
        exact ⟨ret_i64 HE.out, hb3⟩
      · have h3' : ¬ 200 < (value.size : Int) := by omega
        have HE : Hid (0 = E) := by rw [← hE, if_neg (by simp), if_neg h3]; exact rfl
        clear hE
        go_wp2
        go_ret
        exact ⟨ret_i64 HE.out, hb3⟩
end Go.Proofs.YtkjfkonekajffaaDoor
