/- Parts of the proof. -/
import Derived.Test.YtdblegdgmjakfaaGreatDoorMJ29
namespace Go.Proofs.YtdblegdgmjakfaaGreatDoor
open Go.ChangeShapes Go.WideShapes Go.ChangeAt Go.RowKit
set_option linter.unusedVariables false
set_option linter.unusedSimpArgs false

/- Plain facts of what is there: an item of a key that is not over is found; a get of one key. -/

/-- An item of this key that is not over. -/
def Has (s : StoreR) (key : ByteArray) (it : ItemR) : Prop := it ∈ s.items ∧ it.key = key ∧ overB s it = false

theorem place_of {s : StoreR} (h : Gd s) {i : Nat} (hi : i < s.items.length) : placeN s.items (s.items.getD i default).key = i := by
 have hs := (gd_iff.1 h).2.2.2.2.1
 have hF := placeN_found s.items (s.items.getD i default).key (hs.mono _)
 refine Found.unique hF ⟨by omega, fun j hj => ?_, fun j hj hl => ?_⟩
 · unfold SortedI at hs
   rw [List.pairwise_map] at hs
   have := List.pairwise_iff_getElem.1 hs j i (by omega) hi hj
   unfold geI
   rw [List.getD_eq_getElem?_getD, List.getElem?_eq_getElem (by omega : j < s.items.length), List.getD_eq_getElem?_getD, List.getElem?_eq_getElem hi]
   simpa using this
 · refine (hs.mono (s.items.getD i default).key) i j hj hl ?_
   unfold geI
   rw [ltK_irrefl]
   rfl

theorem found_of_has {s : StoreR} (h : Gd s) {key : ByteArray} {it : ItemR} (hh : Has s key it) : ∃ n : Nat, foundS s key = (s, (n : Int)) ∧ n < s.items.length ∧ s.items.getD n default = it := by
 obtain ⟨hm, rfl, ho⟩ := hh
 obtain ⟨i, hi, rfl⟩ := List.getElem_of_mem hm
 have hget : s.items.getD i default = s.items[i] := by rw [List.getD_eq_getElem?_getD, List.getElem?_eq_getElem hi]; rfl
 have hp := place_of h hi
 rw [hget] at hp
 refine ⟨i, ?_, hi, hget⟩
 unfold foundS
 rw [hp, if_pos hi, hget, if_pos (keq_iff.2 rfl), ho, if_neg (by decide)]

theorem has_of_found {s : StoreR} {key : ByteArray} {n : Nat} (hn : (foundS s key).2 = (n : Int)) : (foundS s key).1 = s ∧ n < s.items.length ∧ Has s key (s.items.getD n default) := by
 unfold foundS at hn ⊢
 split at hn
 · next h =>
   split at hn
   · next hk =>
     split at hn
     · omega
     · next ho =>
       have e : placeN s.items key = n := by have : ((placeN s.items key : Nat) : Int) = n := hn; omega
       subst e
       refine ⟨?_, h, mem_getI h, keq_iff.1 hk, by simpa using ho⟩
       rw [if_pos h, if_pos hk, if_neg ho]
   · omega
 · omega

theorem found_neg (s : StoreR) (key : ByteArray) (h : (foundS s key).2 < 0) : (foundS s key).2 = -1 := by
 rcases foundS_cases s key with e | ⟨n, e, _⟩
 · exact e
 · omega
theorem found_nat (s : StoreR) (key : ByteArray) (h : 0 ≤ (foundS s key).2) : ∃ n : Nat, (foundS s key).2 = (n : Int) ∧ (foundS s key).1 = s ∧ n < s.items.length ∧ Has s key (s.items.getD n default) := by
 obtain ⟨n, hn⟩ := Int.eq_ofNat_of_zero_le h
 exact ⟨n, hn, has_of_found hn⟩
/-- Nothing of this key is there. -/
theorem not_found {s : StoreR} {key : ByteArray} (hn : ∀ it, ¬ Has s key it) : (foundS s key).2 = -1 := by
 rcases Int.lt_or_le (foundS s key).2 0 with h | h
 · exact found_neg s key h
 · obtain ⟨n, _, _, _, hh⟩ := found_nat s key h
   exact absurd hh (hn _)
theorem none_has {s : StoreR} (h : Gd s) {key : ByteArray} (hf : (foundS s key).2 < 0) : ∀ it, ¬ Has s key it := fun it hh => by
 obtain ⟨n, e, _⟩ := found_of_has h hh
 rw [e] at hf
 have : ((n : Nat) : Int) < 0 := hf
 omega
theorem found_sub (s : StoreR) (key : ByteArray) : (foundS s key).1 = s ∨ (foundS s key).1 = takeN s key := by
 unfold foundS
 split
 · split
   · split
     · exact Or.inr rfl
     · exact Or.inl rfl
   · exact Or.inl rfl
 · exact Or.inl rfl
theorem has_take {s : StoreR} {key k2 : ByteArray} {it : ItemR} (h : Has (takeN s key) k2 it) : Has s k2 it := ⟨(List.mem_filter.1 h.1).1, h.2.1, h.2.2⟩
theorem take_none (s : StoreR) (key : ByteArray) : ∀ it, ¬ Has (takeN s key) key it := fun it h => takeN_nokey s key it h.1 h.2.1
theorem has_found {s : StoreR} {key k2 : ByteArray} {it : ItemR} (h : Has (foundS s key).1 k2 it) : Has s k2 it := by
 rcases found_sub s key with e | e
 · rw [e] at h; exact h
 · rw [e] at h; exact has_take h
/-- What is not found isn't found again. -/
theorem found_again {s : StoreR} (h : Gd s) {key : ByteArray} (hf : (foundS s key).2 < 0) : (foundS (foundS s key).1 key).2 = -1 :=
 not_found fun it hh => none_has h hf it (has_found hh)

/-- A get of one key. -/
def getQ (k : ByteArray) : RqR := ⟨1, ⟨#[]⟩, [k], 0, 0, 0, ⟨#[]⟩, false⟩
def getS (s : StoreR) (k : ByteArray) : StoreR := (gstep (s, []) k).1
def getB (s : StoreR) (k : ByteArray) : Bool := decide (0 ≤ (foundS s k).2)
def getH (s : StoreR) (k : ByteArray) : HitR := if 0 ≤ (foundS s k).2 then hitOf s (foundS s k).2.toNat else default
theorem getQ_ans (s : StoreR) (k : ByteArray) : ansN s (getQ k) = (getS s k, 1, 0, if getB s k = true then [getH s k] else []) := by
 have e : getK s [k] 1 = gstep (s, []) k := rfl
 unfold ansN
 rw [if_pos (show (getQ k).kind = 1 from rfl)]
 show ((getK s [k] 1).1, (1 : Int), (0 : Int), (getK s [k] 1).2) = _
 rw [e]
 unfold getS getB getH gstep
 by_cases h : 0 ≤ (foundS s k).2
 · obtain ⟨n, e1, e2, _⟩ := found_nat s k h
   simp only [e1, e2, Int.natCast_nonneg, if_true, decide_true, List.nil_append]
 · simp only [if_neg h, decide_eq_false h, Bool.false_eq_true, if_false]
theorem keysOK_one {k : ByteArray} (h : keyB k = true) : keysOK 1 [k] = true := by
 unfold keysOK noKeyIn
 simp [inB, h]
theorem getQ_fit {k : ByteArray} (h : keyB k = true) : QFit (getQ k) := by
 refine check_zero _ _ _ _ _ _ _ _ rfl (keysOK_one h) ?_ ?_ rfl rfl rfl (by show 0 ≤ 200; decide)
 · show keyBad 1 ⟨#[]⟩ = false
   unfold keyBad
   rw [emp]
   rfl
 · show fieldsBad 1 0 0 ⟨#[]⟩ = false
   unfold fieldsBad
   rw [emp]
   rfl
theorem keysOK_none {kind : Int} (h : kind ≠ 1) : keysOK kind [] = true := by
 unfold keysOK
 rw [if_neg h]
 rfl
theorem keyBad_not {kind : Int} {k : ByteArray} (h : keyB k = true) (hk : 2 ≤ kind ∧ kind ≤ 11) : keyBad kind k = false := by
 unfold keyBad
 rw [(inB_iff _ _ _).2 hk, h]
 rfl
/-- A request that puts an item. -/
def setQ (kind : Int) (key : ByteArray) (flags exp nn : Int) (value : ByteArray) : RqR := ⟨kind, key, [], flags, exp, nn, value, false⟩
theorem setQ_fit {kind flags exp nn : Int} {key value : ByteArray} (hk : 2 ≤ kind ∧ kind ≤ 7) (hkey : keyB key = true) (hf : 0 ≤ flags ∧ flags ≤ 65535) (he : 0 ≤ exp ∧ exp ≤ 1099511627776) (hn : 0 ≤ nn ∧ nn ≤ 1099511627776) (h7 : kind = 7 ∨ nn = 0) (hv : value.size ≤ 200) : QFit (setQ kind key flags exp nn value) := by
 refine check_zero _ _ _ _ _ _ _ _ ((inB_iff _ _ _).2 ⟨by show 1 ≤ kind; omega, by show kind ≤ 13; omega⟩) (keysOK_none (by show kind ≠ 1; omega)) (keyBad_not hkey ⟨by show 2 ≤ kind; omega, by show kind ≤ 11; omega⟩) ?_ ?_ rfl (range_good _ _ _ hf he hn) hv
 · show fieldsBad kind flags exp value = false
   unfold fieldsBad
   rw [(inB_iff _ _ _).2 hk]
   rfl
 · show nBad kind nn = false
   unfold nBad
   rcases h7 with rfl | rfl
   · rfl
   · simp
/-- A request for one key that puts none of its own. -/
def bareQ (kind : Int) (key : ByteArray) (nn : Int) : RqR := ⟨kind, key, [], 0, 0, nn, ⟨#[]⟩, false⟩
theorem bareQ_fit {kind nn : Int} {key : ByteArray} (hk : kind = 8 ∨ kind = 9 ∨ kind = 10) (hkey : keyB key = true) (hn : 0 ≤ nn ∧ nn ≤ 1099511627776) (h8 : kind = 8 → nn = 0) : QFit (bareQ kind key nn) := by
 refine check_zero _ _ _ _ _ _ _ _ ((inB_iff _ _ _).2 ⟨by show 1 ≤ kind; omega, by show kind ≤ 13; omega⟩) (keysOK_none (by show kind ≠ 1; omega)) (keyBad_not hkey ⟨by show 2 ≤ kind; omega, by show kind ≤ 11; omega⟩) ?_ ?_ rfl (range_good _ _ _ (show (0 : Int) ≤ 0 ∧ (0 : Int) ≤ 65535 by decide) (show (0 : Int) ≤ 0 ∧ (0 : Int) ≤ 1099511627776 by decide) hn) (by show 0 ≤ 200; decide)
 · show fieldsBad kind 0 0 ⟨#[]⟩ = false
   unfold fieldsBad
   rw [emp]
   simp
 · show nBad kind nn = false
   unfold nBad
   rcases hk with rfl | rfl | rfl
   · simp [h8 rfl]
   · rfl
   · rfl
def flushQ : RqR := ⟨12, ⟨#[]⟩, [], 0, 0, 0, ⟨#[]⟩, false⟩
theorem flushQ_fit : QFit flushQ := by
 refine check_zero _ _ _ _ _ _ _ _ rfl rfl ?_ ?_ rfl rfl rfl (by show 0 ≤ 200; decide)
 · show keyBad 12 ⟨#[]⟩ = false
   unfold keyBad
   rw [emp]
   rfl
 · show fieldsBad 12 0 0 ⟨#[]⟩ = false
   unfold fieldsBad
   rw [emp]
   rfl

/-- Each item of s' is one of s, by key and number. -/
def FromI (s s' : StoreR) : Prop := ∀ it ∈ s'.items, ∃ jt ∈ s.items, jt.key = it.key ∧ jt.cas = it.cas
theorem FromI.refl (s : StoreR) : FromI s s := fun it h => ⟨it, h, rfl, rfl⟩
theorem FromI.trans {a b c : StoreR} (h : FromI a b) (k : FromI b c) : FromI a c := fun it hi => by
 obtain ⟨jt, hj, e1, e2⟩ := k it hi
 obtain ⟨xt, hx, f1, f2⟩ := h jt hj
 exact ⟨xt, hx, f1.trans e1, f2.trans e2⟩
theorem FromI.sub {s s' : StoreR} (h : ∀ it ∈ s'.items, it ∈ s.items) : FromI s s' := fun it hi => ⟨it, h it hi, rfl, rfl⟩
theorem takeN_from (s : StoreR) (key : ByteArray) : FromI s (takeN s key) := FromI.sub fun it h => (List.mem_filter.1 h).1
theorem set_from {l : List ItemR} {n : Nat} {x : ItemR} (hn : n < l.length) (hk : x.key = (l.getD n default).key) (hc : x.cas = (l.getD n default).cas) : ∀ it ∈ l.set n x, ∃ jt ∈ l, jt.key = it.key ∧ jt.cas = it.cas := fun it hi => by
 rcases List.mem_or_eq_of_mem_set hi with h | rfl
 · exact ⟨it, h, rfl, rfl⟩
 · exact ⟨_, mem_getI hn, hk.symm, hc.symm⟩
theorem moveS_from {s : StoreR} {i : Nat} (hi : i < s.items.length) : FromI s (moveS s i).1 := by
 unfold moveS
 split
 · exact FromI.refl s
 split
 · intro it h
   have h2 := (List.mem_filter.1 h).1
   rcases List.mem_or_eq_of_mem_set h2 with h3 | rfl
   · exact ⟨it, h3, rfl, rfl⟩
   · exact ⟨_, mem_getI hi, rfl, rfl⟩
 · exact FromI.refl s
theorem pushS_from (s : StoreR) (c : Int) : FromI s (pushS s c).1 := by
 unfold pushS
 have hr := agoN_range s.items c s.items.length
 generalize agoN s.items c s.items.length = G at *
 split
 · exact FromI.refl s
 · next h0 =>
   rcases hr with rfl | ⟨i, hi, rfl⟩
   · omega
   · rw [Int.toNat_natCast]
     split
     · exact moveS_from hi
     · exact takeN_from _ _
theorem roomS_from (s : StoreR) (c : Nat) : FromI s (roomS s c).1 := by
 unfold roomS
 split
 · exact FromI.refl s
 split
 · exact FromI.sub fun it h => by rw [holdS_items] at h; exact h
 split
 · exact pushS_from s c
 · exact pushS_from s c

/-- What a request does to numbers and keys: items are those that were, or the one that is put. -/
structure Stp (s s' : StoreR) (key : ByteArray) : Prop where
 cas : s'.cas = s.cas ∨ s'.cas = s.cas + 1
 from_ : ∀ it ∈ s'.items, (∃ jt ∈ s.items, jt.key = it.key ∧ jt.cas = it.cas) ∨ (it.key = key ∧ it.cas = s.cas + 1 ∧ s'.cas = s.cas + 1)
theorem FromI.stp {s s' : StoreR} (h : FromI s s') (hc : s'.cas = s.cas) (key : ByteArray) : Stp s s' key := ⟨Or.inl hc, fun it hi => Or.inl (h it hi)⟩
theorem Stp.after {s s1 s' : StoreR} {key : ByteArray} (h : FromI s s1) (hc : s1.cas = s.cas) (k : Stp s1 s' key) : Stp s s' key := by
 refine ⟨by rw [← hc]; exact k.cas, fun it hi => ?_⟩
 rcases k.from_ it hi with ⟨jt, hj, e1, e2⟩ | h2
 · obtain ⟨xt, hx, f1, f2⟩ := h jt hj
   exact Or.inl ⟨xt, hx, f1.trans e1, f2.trans e2⟩
 · rw [hc] at h2
   exact Or.inr h2

theorem insL_mem {l : List ItemR} {n : Nat} {x it : ItemR} : it ∈ insL l n x ↔ it = x ∨ it ∈ l := by
 unfold insL
 constructor
 · intro h
   rcases List.mem_append.1 h with h | h
   · exact Or.inr (List.mem_of_mem_take h)
   · rcases List.mem_cons.1 h with h | h
     · exact Or.inl h
     · exact Or.inr (List.mem_of_mem_drop h)
 · intro h
   rcases h with rfl | h
   · simp
   · rw [← List.take_append_drop n l] at h
     rcases List.mem_append.1 h with h | h
     · exact List.mem_append_left _ h
     · exact List.mem_append_right _ (List.mem_cons_of_mem _ h)

/-- A put's facts. -/
structure PutFacts (s : StoreR) (it : ItemR) : Prop where
 stp : Stp s (putS s it).1 it.key
 yes : (putS s it).2 = true → (putS s it).1.cas = s.cas + 1 ∧ ({ it with cas := s.cas + 1, used := s.uses + 1 } : ItemR) ∈ (putS s it).1.items
 no : (putS s it).2 = false → (putS s it).1.cas = s.cas
 clock : (putS s it).1.clock = s.clock
theorem putS_facts {s : StoreR} (h : Gd s) {it : ItemR} (hkey : keyB it.key = true) (hv : it.value.size ≤ 200) : PutFacts s it := by
 obtain ⟨c3, hcl⟩ := clsN_ok hkey hv
 have ht := h.take it.key
 obtain ⟨g1, k1, g2⟩ := ht.room (clsN it) c3
 have kt := takeN_kept s it.key
 have hf := (takeN_from s it.key).trans (roomS_from (takeN s it.key) (clsN it))
 have hc : (roomS (takeN s it.key) (clsN it)).1.cas = s.cas := k1.cas.trans kt.cas
 have hu : (roomS (takeN s it.key) (clsN it)).1.uses = s.uses := k1.uses.trans kt.uses
 have hk : (roomS (takeN s it.key) (clsN it)).1.clock = s.clock := k1.clock.trans kt.clock
 suffices h : Stp s (putS s it).1 it.key ∧ ((putS s it).2 = true → (putS s it).1.cas = s.cas + 1 ∧ ({ it with cas := s.cas + 1, used := s.uses + 1 } : ItemR) ∈ (putS s it).1.items) ∧ ((putS s it).2 = false → (putS s it).1.cas = s.cas) ∧ (putS s it).1.clock = s.clock from ⟨h.1, h.2.1, h.2.2.1, h.2.2.2⟩
 unfold putS
 generalize roomS (takeN s it.key) (clsN it) = R at *
 by_cases h0 : (takeN s it.key).cas = 1099511627776
 · rw [if_pos h0]
   exact ⟨(takeN_from s it.key).stp rfl _, fun e => Bool.noConfusion e, fun _ => rfl, rfl⟩
 · by_cases h1 : R.2 = true
   · rw [if_neg h0, if_pos h1]
     have hcas : (putT R.1 it).cas = s.cas + 1 := by show R.1.cas + 1 = _; rw [hc]
     have hI : (putI R.1 it) = ({ it with cas := s.cas + 1, used := s.uses + 1 } : ItemR) := by unfold putI; rw [hc, hu]
     have hmem : ∀ jt, jt ∈ (putT R.1 it).items ↔ jt = ({ it with cas := s.cas + 1, used := s.uses + 1 } : ItemR) ∨ jt ∈ R.1.items := fun jt => by
      show jt ∈ insL _ _ _ ↔ _
      rw [insL_mem, hI]
     refine ⟨⟨Or.inr hcas, fun jt hj => ?_⟩, fun _ => ⟨hcas, (hmem _).2 (Or.inl rfl)⟩, fun e => Bool.noConfusion e, hk⟩
     rcases (hmem jt).1 hj with rfl | hj
     · exact Or.inr ⟨rfl, rfl, hcas⟩
     · exact Or.inl (hf jt hj)
   · rw [if_neg h0, if_neg h1]
     exact ⟨hf.stp hc _, fun e => Bool.noConfusion e, fun _ => hc, hk⟩

/-- Instead of one in memory of the same class there is room. -/
theorem putS_room {s : StoreR} (h : Gd s) {it jt : ItemR} (hj : jt ∈ s.items) (hk : jt.key = it.key) (hf : jt.far = false) (hc : clsN it ≤ 3) (hcl : classN jt.key.size jt.value.size = clsN it) (hcas : s.cas ≠ 1099511627776) : (putS s it).2 = true := by
 obtain ⟨h1, h2, h3, a, b, c, d⟩ := gd_iff.1 h
 have hp : hitP (clsN it) jt = true := by unfold hitP; rw [hf, hcl]; simp
 have hq : keq jt.key it.key = true := keq_iff.2 hk
 have hcnt := cnt_lt (p := hitP (clsN it)) (q := fun x => !(keq x.key it.key)) hj hp (by simp [hq])
 have hlen : (takeN s it.key).items.length + 1 ≤ s.items.length := by
  have := cnt_lt (p := fun _ => true) (q := fun x => !(keq x.key it.key)) hj rfl (by simp [hq])
  rw [List.countP_true] at this
  exact this
 have hd := d (clsN it) (by omega)
 have hr : (roomS (takeN s it.key) (clsN it)).2 = true := by
  unfold roomS
  rw [if_pos]
  · simp only [decide_eq_true_eq]
    omega
  · unfold freeB
    rw [cntC_all]
    show decide (((takeN s it.key).items.countP (hitP (clsN it)) : Int) < roomN (takeN s it.key) (clsN it)) = true
    have : roomN (takeN s it.key) (clsN it) = roomN s (clsN it) := rfl
    rw [this]
    simp only [decide_eq_true_eq]
    have : (takeN s it.key).items = s.items.filter fun x => !(keq x.key it.key) := rfl
    rw [this]
    omega
 unfold putS
 rw [if_neg (show ¬ (takeN s it.key).cas = 1099511627776 from hcas), if_pos hr]

end Go.Proofs.YtdblegdgmjakfaaGreatDoor
