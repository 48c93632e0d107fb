/- Parts of the proof. -/
import Derived.Test.YtdblegdgmjakfaaGreatDoorMJ20
import Derived.Test.YtdblegdgmjakfaaGreatDoorMJ21
import Derived.Test.YtdblegdgmjakfaaGreatDoorMJ22
import Derived.Test.YtdblegdgmjakfaaGreatDoorMJ18
namespace Go.Proofs.YtdblegdgmjakfaaGreatDoor
open Go.ChangeShapes Go.WideShapes Go.ChangeAt Go.RowKit
set_option linter.unusedVariables false
set_option linter.unusedSimpArgs false

/- store.answerOne: what it answers, and the store behind it. -/

theorem valsF_size : ∀ (f k : Nat) (m : List UInt8), ∀ x ∈ valsF f k m, x.2.size ≤ m.length
 | 0, k, m, x, hx => by cases hx
 | f + 1, k, m, x, hx => by
  rw [valsF] at hx
  split at hx
  · cases hx
  · rcases List.mem_cons.1 hx with rfl | hx
    · show (strB _).size ≤ _
      have e : ∀ l : List UInt8, (strB l).size = l.length := fun l => by simp [strB, ByteArray.size]
      rw [e, List.length_drop, List.length_take]
      omega
    · have := valsF_size f _ _ x hx
      rw [List.length_drop] at this
      omega
theorem findS_size {ps : List PageR} (h : ∀ j, j < ps.length → (ps.getD j default).bs.length ≤ 256) (n p : Int) : (findS ps n p).size ≤ 256 := by
 unfold findS
 split
 · next hl =>
   unfold valO
   cases hf : (valsAt 0 (ps.getD (pageI ps n) default).bs).find? (fun x => x.1 == p) with
   | none => exact Nat.zero_le _
   | some x =>
    have := valsF_size _ _ _ x (List.mem_of_find?_eq_some hf)
    have := h _ hl
    show x.2.size ≤ 256
    omega
 · exact Nat.zero_le _
theorem Gd.val_size {s : StoreR} (h : Gd s) {n : Nat} (hn : n < s.items.length) : (valN s.pages (s.items.getD n default)).size ≤ 300 := by
 unfold valN
 split
 · exact Nat.le_trans (findS_size (fun j hj => (may_bytes h.parts.2.2.1 j hj).2.1) _ _) (by omega)
 · next hf =>
   have hv := ((gd_iff.1 h).2.2.2.2.2.1 _ (mem_getI hn)).2.1
   unfold valueB at hv
   rw [if_neg hf] at hv
   simp only [Bool.and_eq_true, decide_eq_true_eq] at hv
   omega

theorem rep_if (b : Bool) (k n : Int) : (if b = true then replyV k n else replyV 11 0) = replyV (if b = true then k else 11) (if b = true then n else 0) := by split <;> rfl

theorem putv_at {F : StoreR} (hF : Gd F) (like : ItemR) (key value : ByteArray) (hkey : keyB key = true) (hv : value.size ≤ 200) (k n : Int) {O1 : Nat → Prop} {B : Nat} {wx : World} (hS : StO O1 wx B F) (hL : LaidC wx) (hO : ¬ O1 0) :
 ∀ wy, Below wx.heap.size wx wy → Calls Tryz.prog 112 #[.pointer (some ⟨B, 0, none⟩), .agg #[.string like.key, .int .i64 like.flags, .int .i64 like.until_, .int .i64 like.cas, .int .i64 like.used, .string like.value, .bool like.far, .int .i64 like.page, .int .i64 like.at_], .string key, .string value, replyV k n] wy fun e w' => e = .returned (if (putS F (mkI like key value)).2 = true then replyV k n else replyV 11 0) ∧ StPost O1 wy B (putS F (mkI like key value)).1 w' := by
 intro wy hy
 have hks := key_size hkey
 have ht := hF.take key
 obtain ⟨c3, hcl⟩ := clsN_ok (it := mkI like key value) hkey hv
 have hp := ht.push (clsN (mkI like key value))
 obtain ⟨g1, k1, g2⟩ := ht.room (clsN (mkI like key value)) c3
 exact putValue_any O1 F B like key value k n wy (hS.later hy) hF.len ht (by omega) (by omega) ⟨by show key.size ≤ maxLen; unfold maxLen; omega, by show value.size ≤ maxLen; unfold maxLen; omega, by show (-9223372036854775808 : Int) ≤ 0; omega, by show (0 : Int) ≤ _; omega⟩ (cls_ok hkey hv) (hL.later hy) hO (Nat.le_trans hp.2.2.1 ht.len) g1 (g1.mono key)

/-- A world of the call: the store is F there, the tables are laid. -/
structure At (O : Nat → Prop) (w : World) (B : Nat) (F : StoreR) (O1 : Nat → Prop) (wx : World) : Prop where
 st : StO O1 wx B F
 ho : ∀ x, O1 x → O x ∨ w.heap.size ≤ x
 fr : Fr O w wx
theorem At.laid {O : Nat → Prop} {w : World} {B : Nat} {F : StoreR} {O1 : Nat → Prop} {wx : World} (h : At O w B F O1 wx) (hL : LaidC w) (hO : ¬ O 0) : LaidC wx ∧ ¬ O1 0 :=
 ⟨hL.fr h.fr hO, fun e => (h.ho _ e).elim hO (fun q => by have := hL.1; omega)⟩

theorem valOf_at {F : StoreR} (hF : Gd F) {n : Nat} (hn : n < F.items.length) {it : ItemR} (hit : F.items.getD n default = it) : ∀ (pa : Option Addr) (pc : Nat) (wx : World), PagesAt wx pa F.pages → Calls Tryz.prog 82 #[.agg #[.int .i64 F.fm, .int .i64 F.fx, .slice pa F.pages.length pc], .agg #[.string it.key, .int .i64 it.flags, .int .i64 it.until_, .int .i64 it.cas, .int .i64 it.used, .string it.value, .bool it.far, .int .i64 it.page, .int .i64 it.at_]] wx fun e w' => e = .returned (.string (valN F.pages it)) ∧ Below wx.heap.size wx w' :=
 fun pa pc wx hP => hF.valueOf n hn it (by rw [hit]) (by rw [hit]) pa pc wx hP

theorem join_at {O : Nat → Prop} {w : World} {B : Nat} {F : StoreR} {O1 : Nat → Prop} {wx : World} (hF : Gd F) (hA : At O w B F O1 wx) (hL : LaidC w) (hO : ¬ O 0) {n : Nat} (hn : n < F.items.length) {it : ItemR} (hit : F.items.getD n default = it) (q : RqR) (hq : QOk q) (hk : q.kind = 5 ∨ q.kind = 6) (ka : Option Addr) (kn kc : Nat) :
 Calls Tryz.prog 84 #[.pointer (some ⟨B, 0, none⟩), .agg #[.int .i64 q.kind, .string q.key, .slice ka kn kc, .int .i64 q.flags, .int .i64 q.exp, .int .i64 q.nn, .string q.value, .bool q.quiet], .agg #[.string it.key, .int .i64 it.flags, .int .i64 it.until_, .int .i64 it.cas, .int .i64 it.used, .string it.value, .bool it.far, .int .i64 it.page, .int .i64 it.at_]] wx fun e w' => e = .returned (replyV (joinN F q it).2.1 (joinN F q it).2.2) ∧ StPost O1 wx B (joinN F q it).1 w' := by
 obtain ⟨hLx, hOx⟩ := hA.laid hL hO
 have hv3 : (valN F.pages it).size ≤ 300 := by rw [← hit]; exact hF.val_size hn
 have hval := valOf_at hF hn hit
 unfold joinN
 by_cases h6 : q.kind = 6
 · have e : joinV F q it = q.value ++ valN F.pages it := if_pos h6
   rw [e]
   by_cases hz : 200 < (q.value ++ valN F.pages it).size
   · rw [if_pos hz]
     exact join_big6 O1 F B q.kind q.flags q.exp q.nn q.key q.value ka kn kc q.quiet it _ wx hA.st hF.len h6 hv3 hq.vl hz hval
   · rw [if_neg hz]
     have hp := putv_at hF it q.key (q.value ++ valN F.pages it) hq.key (by omega) 2 0 hA.st hLx hOx
     refine (join_walk6 O1 F B q.kind q.flags q.exp q.nn q.key q.value ka kn kc q.quiet it _ wx hA.st hF.len h6 hv3 hq.vl hz (putS F (mkI it q.key (q.value ++ valN F.pages it))) hp hval).mono ?_
     rintro e w' ⟨rfl, h⟩
     exact ⟨by rw [rep_if]; rfl, h⟩
 · have e : joinV F q it = valN F.pages it ++ q.value := if_neg h6
   rw [e]
   by_cases hz : 200 < (valN F.pages it ++ q.value).size
   · rw [if_pos hz]
     exact join_big O1 F B q.kind q.flags q.exp q.nn q.key q.value ka kn kc q.quiet it _ wx hA.st hF.len h6 hv3 hq.vl hz hval
   · rw [if_neg hz]
     have hp := putv_at hF it q.key (valN F.pages it ++ q.value) hq.key (by omega) 2 0 hA.st hLx hOx
     refine (join_walk O1 F B q.kind q.flags q.exp q.nn q.key q.value ka kn kc q.quiet it _ wx hA.st hF.len h6 hv3 hq.vl hz (putS F (mkI it q.key (valN F.pages it ++ q.value))) hp hval).mono ?_
     rintro e w' ⟨rfl, h⟩
     exact ⟨by rw [rep_if]; rfl, h⟩

/-- The table of digits serves wherever the call's blocks are as they were. -/
def ItoaAt (O : Nat → Prop) (w : World) : Prop := ∀ (n : Int) (wx : World), Fr O w wx → 0 ≤ n → n ≤ 1099511627776 → Calls Tryz.prog 20 #[.int .i64 n] wx fun e w' => e = .returned (.string (decS n)) ∧ Below wx.heap.size wx w'

theorem count_at {O : Nat → Prop} {w : World} {B : Nat} {F : StoreR} {O1 : Nat → Prop} {wx : World} (hF : Gd F) (hA : At O w B F O1 wx) (hL : LaidC w) (hO : ¬ O 0) (hI : ItoaAt O w) {n : Nat} (hn : n < F.items.length) {it : ItemR} (hit : F.items.getD n default = it) (q : RqR) (hq : QOk q) (ka : Option Addr) (kn kc : Nat) :
 Calls Tryz.prog 86 #[.pointer (some ⟨B, 0, none⟩), .agg #[.int .i64 q.kind, .string q.key, .slice ka kn kc, .int .i64 q.flags, .int .i64 q.exp, .int .i64 q.nn, .string q.value, .bool q.quiet], .agg #[.string it.key, .int .i64 it.flags, .int .i64 it.until_, .int .i64 it.cas, .int .i64 it.used, .string it.value, .bool it.far, .int .i64 it.page, .int .i64 it.at_]] wx fun e w' => e = .returned (replyV (countN F q it).2.1 (countN F q it).2.2) ∧ StPost O1 wx B (countN F q it).1 w' := by
 obtain ⟨hLx, hOx⟩ := hA.laid hL hO
 have hv3 : (valN F.pages it).size ≤ 300 := by rw [← hit]; exact hF.val_size hn
 have hval := valOf_at hF hn hit
 have hnum := fun wx => number_any (valN F.pages it) wx (by unfold maxLen; omega)
 have hnn := (inB_iff _ _ _).1 hq.nn
 unfold countN
 by_cases hz : numOk (valN F.pages it) = true
 · obtain ⟨r0, r1⟩ := numV_range hz
   obtain ⟨c0, c1⟩ := countV_range hq r0 r1
   rw [if_pos hz]
   rw [hz] at hnum
   generalize numV (valN F.pages it) = nv at *
   have hp := putv_at hF it q.key (decS (countV q nv)) hq.key (decS_le c0 c1) 7 (countV q nv) hA.st hLx hOx
   have hita : ∀ wy, Below wx.heap.size wx wy → Calls Tryz.prog 20 #[.int .i64 (countV q nv)] wy fun e w' => e = .returned (.string (decS (countV q nv))) ∧ Below wy.heap.size wy w' := fun wy hy => hI _ wy (hA.fr.trans (Fr.of_below (O := O) hy) (fun b hb => Or.inl hb)) c0 c1
   by_cases h9 : q.kind = 9
   · refine (count_up O1 F B q.kind q.flags q.exp q.nn q.key q.value ka kn kc q.quiet it _ nv wx hA.st hF.len hnum r0 r1 hnn.1 hnn.2 h9 (countV q nv) (if_pos h9) _ _ hita hp hval).mono ?_
     rintro e w' ⟨rfl, h⟩
     exact ⟨by rw [rep_if]; rfl, h⟩
   · refine (count_down O1 F B q.kind q.flags q.exp q.nn q.key q.value ka kn kc q.quiet it _ nv wx hA.st hF.len hnum r0 r1 hnn.1 hnn.2 h9 (countV q nv) (if_neg h9) _ _ hita hp hval).mono ?_
     rintro e w' ⟨rfl, h⟩
     exact ⟨by rw [rep_if]; rfl, h⟩
 · rw [if_neg hz]
   have hz2 : numOk (valN F.pages it) = false := by simpa using hz
   rw [hz2] at hnum
   exact count_bad O1 F B q.kind q.flags q.exp q.nn q.key q.value ka kn kc q.quiet it _ (numV (valN F.pages it)) wx hA.st hF.len hnum hval

theorem set_at {O : Nat → Prop} {w : World} {B : Nat} {F : StoreR} {O1 : Nat → Prop} {wx : World} (hF : Gd F) (hA : At O w B F O1 wx) (hL : LaidC w) (hO : ¬ O 0) (q : RqR) (hq : QOk q) (ka : Option Addr) (kn kc : Nat) :
 Calls Tryz.prog 88 #[.pointer (some ⟨B, 0, none⟩), .agg #[.int .i64 q.kind, .string q.key, .slice ka kn kc, .int .i64 q.flags, .int .i64 q.exp, .int .i64 q.nn, .string q.value, .bool q.quiet]] wx fun e w' => e = .returned (replyV (putR F (mkI (likeN F q) q.key q.value) 2 0).2.1 (putR F (mkI (likeN F q) q.key q.value) 2 0).2.2) ∧ StPost O1 wx B (putR F (mkI (likeN F q) q.key q.value) 2 0).1 w' := by
 obtain ⟨hLx, hOx⟩ := hA.laid hL hO
 have hc := counts_facts hF.parts.1
 have he := (inB_iff _ _ _).1 hq.ex
 have hp := putv_at hF (likeN F q) q.key q.value hq.key hq.vl 2 0 hA.st hLx hOx
 refine (set_any O1 F B q.kind q.flags q.exp q.nn q.key q.value ka kn kc q.quiet wx hA.st hF.len hc.1 hc.2.1 he.1 he.2 hp).mono ?_
 rintro e w' ⟨rfl, h⟩
 exact ⟨by rw [rep_if]; rfl, h⟩

set_option maxHeartbeats 2000000 in
theorem one_any (O : Nat → Prop) (s : StoreR) (B : Nat) (q : RqR) (ka : Option Addr) (kn kc : Nat) (w : World) (h : StO O w B s) (hg : Gd s) (hq : QOk q) (hus : s.uses < 1099511627776) (hL : LaidC w) (hO : ¬ O 0) (hI : ItoaAt O w) :
 Calls Tryz.prog 59 #[.pointer (some ⟨B, 0, none⟩), .agg #[.int .i64 q.kind, .string q.key, .slice ka kn kc, .int .i64 q.flags, .int .i64 q.exp, .int .i64 q.nn, .string q.value, .bool q.quiet]] w fun e w' => e = .returned (replyV (oneN s q).2.1 (oneN s q).2.2) ∧ StPost O w B (oneN s q).1 w' := by
 have hfd : ∀ wx, Below w.heap.size w wx → Calls Tryz.prog 80 #[.pointer (some ⟨B, 0, none⟩), .string q.key] wx fun e w' => e = .returned (.int .i64 (foundS s q.key).2) ∧ StPost O wx B (foundS s q.key).1 w' := fun wx hx => sfind_any O s B q.key wx (h.later hx) hg.len (hg.mono q.key)
 have hF := hg.found q.key
 have hat := found_at s q.key
 have hU : (foundS s q.key).1.uses < 1099511627776 := by rw [(found_kept s q.key).uses]; exact hus
 have hcs := foundS_cases s q.key
 have hc := counts_facts hF.parts.1
 have he := (inB_iff _ _ _).1 hq.ex
 unfold oneN
 generalize (foundS s q.key).1 = F at *
 generalize (foundS s q.key).2 = i at *
 have hset : ∀ O1 wx, StO O1 wx B F → (∀ x, O1 x → O x ∨ w.heap.size ≤ x) → Fr O w wx → Calls Tryz.prog 88 #[.pointer (some ⟨B, 0, none⟩), .agg #[.int .i64 q.kind, .string q.key, .slice ka kn kc, .int .i64 q.flags, .int .i64 q.exp, .int .i64 q.nn, .string q.value, .bool q.quiet]] wx fun e w' => e = .returned (replyV (putR F (mkI (likeN F q) q.key q.value) 2 0).2.1 (putR F (mkI (likeN F q) q.key q.value) 2 0).2.2) ∧ StPost O1 wx B (putR F (mkI (likeN F q) q.key q.value) 2 0).1 w' :=
  fun O1 wx a b c => set_at hF ⟨a, b, c⟩ hL hO q hq ka kn kc
 have hun : ∀ (t : Bool) (wx : World), Calls Tryz.prog 83 #[.int .i64 q.kind, .bool t] wx fun e w' => e = .returned (.int .i64 (unmetN q.kind t)) ∧ w' = wx := fun t wx => unmet_any q.kind t wx
 rcases hcs with rfl | ⟨n, rfl, hn, hFs, hkey⟩
 · -- there is no such item
   have hdec : decide ((0 : Int) ≤ -1) = false := by decide
   unfold oneF
   rw [hdec]
   by_cases hu : unmetN q.kind false = 0
   · rw [if_neg (by simpa using hu)]
     have hk : q.kind = 2 ∨ q.kind = 3 := by
      apply Classical.byContradiction
      intro hn
      have := unmet_there (by omega) (by omega) hu
      cases this
     rw [if_neg (by omega), if_neg (by omega), if_neg (by omega), if_neg (by omega), if_neg (by omega)]
     rcases hk with hk | hk
     · exact one_new2 O s F B 0 q.kind q.flags q.exp q.nn q.key q.value ka kn kc q.quiet default w h hfd _ (hun false) hu hk _ _ _ hset
     · exact one_new3 O s F B 0 q.kind q.flags q.exp q.nn q.key q.value ka kn kc q.quiet default w h hfd _ (hun false) hu hk _ _ _ hset
   · rw [if_pos hu]
     exact one_none O s F B 0 q.kind q.flags q.exp q.nn q.key q.value ka kn kc q.quiet default w h hfd _ (hun false) hu
 · -- there is one
   have hnl : n < F.items.length := by simpa using hat (Int.natCast_nonneg n)
   have hdec : decide ((0 : Int) ≤ (n : Int)) = true := decide_eq_true (Int.natCast_nonneg n)
   have hz0 : (0 : Int) ≤ (n : Int) := Int.natCast_nonneg n
   unfold oneF
   rw [hdec]
   simp only [Int.toNat_natCast]
   obtain ⟨it, hit⟩ : ∃ it, F.items.getD n default = it := ⟨_, rfl⟩
   rw [hit]
   have hl := hF.len
   by_cases hu : unmetN q.kind true = 0
   · rw [if_neg (by simpa using hu)]
     have h3 : q.kind ≠ 3 := fun e => by rw [e] at hu; exact absurd hu (by decide)
     by_cases h56 : q.kind = 5 ∨ q.kind = 6
     · rw [if_pos h56]
       have hj := fun O1 wx (a : StO O1 wx B F) (b : ∀ x, O1 x → O x ∨ w.heap.size ≤ x) (c : Fr O w wx) => join_at hF ⟨a, b, c⟩ hL hO hnl hit q hq h56 ka kn kc
       rcases h56 with hk | hk
       · exact one_join5 O s F B n q.kind q.flags q.exp q.nn q.key q.value ka kn kc q.quiet it w h hfd _ (hun true) hl hnl hit hu hk _ _ _ hj
       · exact one_join6 O s F B n q.kind q.flags q.exp q.nn q.key q.value ka kn kc q.quiet it w h hfd _ (hun true) hl hnl hit hu hk _ _ _ hj
     rw [if_neg h56]
     by_cases h7 : q.kind = 7 ∧ it.cas ≠ q.nn
     · rw [if_pos h7]
       exact one_cas_no O s F B n q.kind q.flags q.exp q.nn q.key q.value ka kn kc q.quiet it w h hfd _ (hun true) hl hnl hit hu h7.1 h7.2
     rw [if_neg h7]
     by_cases h8 : q.kind = 8
     · rw [if_pos h8]
       exact one_del O s F B n q.kind q.flags q.exp q.nn q.key q.value ka kn kc q.quiet it w h hfd _ (hun true) hl hu h8
     rw [if_neg h8]
     by_cases h9 : q.kind = 9 ∨ q.kind = 10
     · rw [if_pos h9]
       have hj := fun O1 wx (a : StO O1 wx B F) (b : ∀ x, O1 x → O x ∨ w.heap.size ≤ x) (c : Fr O w wx) => count_at hF ⟨a, b, c⟩ hL hO hI hnl hit q hq ka kn kc
       rcases h9 with hk | hk
       · exact one_cnt9 O s F B n q.kind q.flags q.exp q.nn q.key q.value ka kn kc q.quiet it w h hfd _ (hun true) hl hnl hit hu hk _ _ _ hj
       · exact one_cnt10 O s F B n q.kind q.flags q.exp q.nn q.key q.value ka kn kc q.quiet it w h hfd _ (hun true) hl hnl hit hu hk _ _ _ hj
     rw [if_neg h9]
     by_cases h11 : q.kind = 11
     · rw [if_pos h11]
       exact one_touch O s F B n q.kind q.flags q.exp q.nn q.key q.value ka kn kc q.quiet it w h hfd _ (hun true) hl hnl hit hu h11 (by omega) (by omega) hc.1 hc.2.1 he.1 he.2
     rw [if_neg h11]
     have hkd := hq.kd
     by_cases h2 : q.kind = 2
     · exact one_set2 O s F B n q.kind q.flags q.exp q.nn q.key q.value ka kn kc q.quiet it w h hfd _ (hun true) hu h2 _ _ _ hset
     · by_cases h4 : q.kind = 4
       · exact one_set4 O s F B n q.kind q.flags q.exp q.nn q.key q.value ka kn kc q.quiet it w h hfd _ (hun true) hu h4 _ _ _ hset
       · have h7k : q.kind = 7 := by omega
         exact one_cas O s F B n q.kind q.flags q.exp q.nn q.key q.value ka kn kc q.quiet it w h hfd _ (hun true) hl hnl hit hu h7k (Classical.byContradiction fun e => h7 ⟨h7k, e⟩) _ _ _ hset
   · rw [if_pos hu]
     exact one_unmet O s F B n q.kind q.flags q.exp q.nn q.key q.value ka kn kc q.quiet it w h hfd _ (hun true) hu hz0

end Go.Proofs.YtdblegdgmjakfaaGreatDoor
