/- Parts of the proof. -/
import Derived.Test.YtdblegdgmjakfaaGreatDoorMJ31
import Derived.Test.YtdblegdgmjakfaaGreatDoorMJ00
import Derived.Test.YtdblegdgmjakfaaGreatDoorMJ05
import Derived.Test.YtdblegdgmjakfaaGreatDoorMJ07
import Derived.Test.YtdblegdgmjakfaaGreatDoorMJ26
namespace Go.Proofs.YtdblegdgmjakfaaGreatDoor
open Go.ChangeShapes Go.WideShapes Go.ChangeAt Go.RowKit
set_option linter.unusedVariables false
set_option linter.unusedSimpArgs false

/- What the laws of a store ask of it, plain. -/

theorem item_uniq {s : StoreR} (h : Gd s) {a b : ItemR} (ha : a ∈ s.items) (hb : b ∈ s.items) (hk : a.key = b.key) : a = b := by
 obtain ⟨i, hi, rfl⟩ := List.getElem_of_mem ha
 obtain ⟨j, hj, rfl⟩ := List.getElem_of_mem hb
 have gi : s.items.getD i default = s.items[i] := by rw [List.getD_eq_getElem?_getD, List.getElem?_eq_getElem hi]; rfl
 have gj : s.items.getD j default = s.items[j] := by rw [List.getD_eq_getElem?_getD, List.getElem?_eq_getElem hj]; rfl
 have pi := place_of h hi
 have pj := place_of h hj
 rw [gi, hk] at pi
 rw [gj] at pj
 have e : i = j := by omega
 subst e
 rfl
theorem getB_has {s : StoreR} (h : Gd s) {k : ByteArray} {it : ItemR} (hh : Has s k it) : ∃ n : Nat, foundS s k = (s, (n : Int)) ∧ n < s.items.length ∧ s.items.getD n default = it ∧ getB s k = true ∧ getS s k = askS s n ∧ getH s k = ⟨it.key, it.flags, it.cas, valN s.pages it⟩ := by
 obtain ⟨n, e, hn, hg⟩ := found_of_has h hh
 have hz : (0 : Int) ≤ (n : Int) := Int.natCast_nonneg n
 refine ⟨n, e, hn, hg, ?_, ?_, ?_⟩
 · unfold getB
   rw [e]
   exact decide_eq_true hz
 · unfold getS gstep
   simp only [e]
   rw [if_pos hz, Int.toNat_natCast]
 · unfold getH hitOf
   rw [e, if_pos hz]
   show HitR.mk (s.items.getD (Int.toNat (n : Int)) default).key _ _ _ = _
   rw [Int.toNat_natCast, hg]
theorem getB_not {s : StoreR} {k : ByteArray} (hn : ∀ it, ¬ Has s k it) : getB s k = false := by
 unfold getB
 rw [not_found hn]
 rfl
theorem has_ask {s : StoreR} {n : Nat} {it : ItemR} {k : ByteArray} (hh : Has s k it) (hn : n < s.items.length) (hg : s.items.getD n default = it) : Has (askS s n) k { it with used := s.uses + 1 } := by
 refine ⟨?_, hh.2.1, hh.2.2⟩
 show _ ∈ s.items.set n { s.items.getD n default with used := s.uses + 1 }
 rw [hg]
 exact List.mem_set (by simpa using hn) _

/-- A request for one key that is there, or is not. -/
theorem one_there {s : StoreR} (h : Gd s) {q : RqR} {it : ItemR} (hh : Has s q.key it) (h1 : q.kind ≠ 1) (h2 : q.kind ≠ 12) (h3 : q.kind ≠ 13) : ∃ n : Nat, foundS s q.key = (s, (n : Int)) ∧ n < s.items.length ∧ s.items.getD n default = it ∧ ansN s q = ((oneF s n q).1, (oneF s n q).2.1, (oneF s n q).2.2, []) := by
 obtain ⟨n, e, hn, hg⟩ := found_of_has h hh
 refine ⟨n, e, hn, hg, ?_⟩
 unfold ansN oneN
 rw [if_neg h1, if_neg h2, if_neg h3, e]
theorem one_absent {s : StoreR} {q : RqR} (hn : (foundS s q.key).2 < 0) (h1 : q.kind ≠ 1) (h2 : q.kind ≠ 12) (h3 : q.kind ≠ 13) : ansN s q = ((oneF (foundS s q.key).1 (-1) q).1, (oneF (foundS s q.key).1 (-1) q).2.1, (oneF (foundS s q.key).1 (-1) q).2.2, []) := by
 unfold ansN oneN
 rw [if_neg h1, if_neg h2, if_neg h3, found_neg s _ hn]

theorem del_ans {s : StoreR} (h : Gd s) (k : ByteArray) : (ansN s (bareQ 8 k 0)).2.1 = (if getB s k = true then 6 else 5) ∧ getB (ansN s (bareQ 8 k 0)).1 k = false := by
 by_cases hf : 0 ≤ (foundS s k).2
 · obtain ⟨n, e1, e2, hn, hh⟩ := found_nat s k hf
   obtain ⟨m, f1, f2, f3, f4⟩ := one_there h (q := bareQ 8 k 0) hh (by show (8 : Int) ≠ 1; decide) (by show (8 : Int) ≠ 12; decide) (by show (8 : Int) ≠ 13; decide)
   have hB : getB s k = true := decide_eq_true hf
   have hO : oneF s m (bareQ 8 k 0) = (takeN s k, 6, 0) := by
    unfold oneF
    rw [decide_eq_true (Int.natCast_nonneg m)]
    rfl
   rw [f4, hO, hB]
   exact ⟨rfl, getB_not (take_none s k)⟩
 · have hf : (foundS s k).2 < 0 := by omega
   have hB : getB s k = false := decide_eq_false (by omega)
   rw [one_absent (q := bareQ 8 k 0) hf (by show (8 : Int) ≠ 1; decide) (by show (8 : Int) ≠ 12; decide) (by show (8 : Int) ≠ 13; decide), hB]
   have hO : oneF (foundS s (bareQ 8 k 0).key).1 (-1) (bareQ 8 k 0) = ((foundS s k).1, 5, 0) := rfl
   rw [hO]
   refine ⟨rfl, ?_⟩
   unfold getB
   rw [found_again h hf]
   rfl
theorem empty_none {s : StoreR} (h : s.items = []) (k : ByteArray) : foundS s k = (s, -1) := by
 unfold foundS
 rw [h]
 rfl
theorem getK_empty {s : StoreR} (h : s.items = []) (keys : List ByteArray) : ∀ n : Nat, getK s keys n = (s, [])
 | 0 => by simp only [getK, List.take_zero, List.foldl_nil]
 | n + 1 => by
  by_cases hk : n < keys.length
  · rw [getK_succ s keys n hk, getK_empty h keys n]
    unfold gstep
    rw [empty_none h]
    rfl
  · have e : getK s keys (n + 1) = getK s keys n := by unfold getK; rw [List.take_of_length_le (by omega), List.take_of_length_le (by omega)]
    rw [e, getK_empty h keys n]
/-- A get of the eight keys. -/
def allQ : RqR := ⟨1, ⟨#[]⟩, keyL, 0, 0, 0, ⟨#[]⟩, false⟩
theorem allQ_fit : QFit allQ := by
 refine check_zero _ _ _ _ _ _ _ _ rfl ?_ ?_ ?_ rfl rfl rfl (by show 0 ≤ 200; decide)
 · show keysOK 1 keyL = true
   decide
 · show keyBad 1 ⟨#[]⟩ = false
   unfold keyBad
   rw [emp]
   rfl
 · show fieldsBad 1 0 0 ⟨#[]⟩ = false
   unfold fieldsBad
   rw [emp]
   rfl
theorem flush_ans (s : StoreR) : ansN s flushQ = (flushN s, 9, 0, []) := rfl
theorem flush_all (s : StoreR) : ansN (flushN s) allQ = (flushN s, 1, 0, []) := by
 unfold ansN
 rw [if_pos (show allQ.kind = 1 from rfl), getK_empty rfl]

/-- An item put by a request that has its own flags and time (kinds 2, 3, 7). -/
theorem put_ans {F : StoreR} (h : Gd F) (hus : F.uses < 1099511627776) {i : Int} {q : RqR} (hq : QOk q) (hu : unmetN q.kind (decide (0 ≤ i)) = 0) (hk : q.kind = 2 ∨ q.kind = 3 ∨ q.kind = 4 ∨ (q.kind = 7 ∧ (F.items.getD i.toNat default).cas = q.nn)) :
 ((oneF F i q).2.1 = 2 ∧ (oneF F i q).1.cas = F.cas + 1 ∧ (oneF F i q).1.clock = F.clock ∧ (⟨q.key, q.flags, untilN F.clock q.exp, F.cas + 1, F.uses + 1, q.value, false, 0, 0⟩ : ItemR) ∈ (oneF F i q).1.items) ∨ (oneF F i q).2.1 = 11 := by
 have e : oneF F i q = putR F (mkI (likeN F q) q.key q.value) 2 0 := by
  unfold oneF
  rw [if_neg (by rw [hu]; decide), if_neg (by omega), if_neg (by omega), if_neg (by omega), if_neg (by omega), if_neg (by omega)]
 have hf := putS_facts h (it := mkI (likeN F q) q.key q.value) hq.key hq.vl
 rw [e]
 unfold putR
 by_cases hp : (putS F (mkI (likeN F q) q.key q.value)).2 = true
 · rw [if_pos hp]
   obtain ⟨y1, y2⟩ := hf.yes hp
   exact Or.inl ⟨rfl, y1, hf.clock, y2⟩
 · rw [if_neg hp]
   exact Or.inr rfl
theorem until_live {c n : Int} (h0 : 0 ≤ c) (hc : c < 1099511627776) (h1 : 1 ≤ n) : (untilN c n != 0) = true ∧ c < untilN c n ∧ untilN c n ≤ c + n := by
 unfold untilN
 rw [if_neg (by omega)]
 refine ⟨?_, by omega, by omega⟩
 simp only [bne_iff_ne, ne_eq]
 omega

/- Putting, joining, comparing: what is answered, plain. -/

def never : ByteArray := ⟨#[110, 101, 118, 101, 114]⟩
def mine : ByteArray := ⟨#[109, 105, 110, 101]⟩
theorem never_key : keyB never = true := by decide
theorem mine_key : keyB mine = true := by decide
theorem never_in : never ∉ keyL := fun h => by
 have h2 : never.data.toList ∈ keyL.map (·.data.toList) := List.mem_map.2 ⟨never, h, rfl⟩
 revert h2
 decide
theorem never_none {s : StoreR} {k : Nat} (h : Few s k) : (foundS s never).2 = -1 := not_found fun it hh => never_in (hh.2.1 ▸ h.keys it hh.1)

/-- A request for one key: what it does behind find. -/
theorem one_ans (s : StoreR) {q : RqR} (h1 : q.kind ≠ 1) (h2 : q.kind ≠ 12) (h3 : q.kind ≠ 13) : ansN s q = ((oneF (foundS s q.key).1 (foundS s q.key).2 q).1, (oneF (foundS s q.key).1 (foundS s q.key).2 q).2.1, (oneF (foundS s q.key).1 (foundS s q.key).2 q).2.2, []) := by
 unfold ansN oneN
 rw [if_neg h1, if_neg h2, if_neg h3]

theorem oneF_join {F : StoreR} {i : Int} {q : RqR} (hu : unmetN q.kind (decide (0 ≤ i)) = 0) (hk : q.kind = 5 ∨ q.kind = 6) : oneF F i q = joinN F q (F.items.getD i.toNat default) := by
 unfold oneF
 rw [if_neg (by rw [hu]; decide), if_pos hk]
theorem oneF_cas {F : StoreR} {i : Int} {q : RqR} (hu : unmetN q.kind (decide (0 ≤ i)) = 0) (hk : q.kind = 7) : oneF F i q = if (F.items.getD i.toNat default).cas ≠ q.nn then (F, 4, 0) else putR F (mkI (likeN F q) q.key q.value) 2 0 := by
 unfold oneF
 rw [if_neg (by rw [hu]; decide), if_neg (by omega), hk]
 by_cases h : (F.items.getD i.toNat default).cas ≠ q.nn
 · rw [if_pos ⟨rfl, h⟩, if_pos h]
 · rw [if_neg (fun e => h e.2), if_neg h]
   rfl
theorem oneF_count {F : StoreR} {i : Int} {q : RqR} (hu : unmetN q.kind (decide (0 ≤ i)) = 0) (hk : q.kind = 9 ∨ q.kind = 10) : oneF F i q = countN F q (F.items.getD i.toNat default) := by
 unfold oneF
 rw [if_neg (by rw [hu]; decide), if_neg (by omega), if_neg (by omega), if_neg (by omega), if_pos hk]

/-- The item that a request puts. -/
def newI (s : StoreR) (key : ByteArray) (flags until_ : Int) (value : ByteArray) : ItemR := ⟨key, flags, until_, s.cas + 1, s.uses + 1, value, false, 0, 0⟩
/-- Behind what was stored. -/
structure Put (s t : StoreR) (it : ItemR) : Prop where
 cas : t.cas = s.cas + 1
 clock : t.clock = s.clock
 mem : it ∈ t.items

theorem set_ans {s : StoreR} (h : Gd s) (hus : s.uses < 1099511627776) {kind flags exp nn : Int} {key value : ByteArray} (hq : QOk (setQ kind key flags exp nn value)) (hk : kind = 2 ∨ kind = 3 ∨ kind = 4) (hu : unmetN kind (getB s key) = 0) :
 ((ansN s (setQ kind key flags exp nn value)).2.1 = 2 ∧ Put s (ansN s (setQ kind key flags exp nn value)).1 (newI s key flags (untilN s.clock exp) value)) ∨ (ansN s (setQ kind key flags exp nn value)).2.1 = 11 := by
 rw [one_ans s (q := setQ kind key flags exp nn value) (by show kind ≠ 1; omega) (by show kind ≠ 12; omega) (by show kind ≠ 13; omega)]
 have hk0 := found_kept s key
 have := put_ans (h.found key) (by rw [hk0.uses]; exact hus) (i := (foundS s key).2) hq hu (by rcases hk with h | h | h; exact Or.inl h; exact Or.inr (Or.inl h); exact Or.inr (Or.inr (Or.inl h)))
 rcases this with ⟨a, b, c, d⟩ | a
 · refine Or.inl ⟨a, ⟨b.trans (by rw [hk0.cas]), c.trans hk0.clock, ?_⟩⟩
   rw [hk0.cas, hk0.uses, hk0.clock] at d
   exact d
 · exact Or.inr a

/-- Not there: refused. -/
theorem unmet_ans {s : StoreR} {q : RqR} (h1 : q.kind ≠ 1) (h2 : q.kind ≠ 12) (h3 : q.kind ≠ 13) {m : Int} (hu : unmetN q.kind (getB s q.key) = m) (hm : m ≠ 0) : (ansN s q).2.1 = m ∧ (ansN s q).1 = (foundS s q.key).1 := by
 rw [one_ans s h1 h2 h3]
 have e : oneF (foundS s q.key).1 (foundS s q.key).2 q = ((foundS s q.key).1, m, 0) := by
  unfold oneF
  unfold getB at hu
  rw [if_pos (by rw [hu]; exact hm), hu]
 rw [e]
 exact ⟨rfl, rfl⟩

theorem putR_room {s : StoreR} (h : Gd s) {like jt : ItemR} {key value : ByteArray} (k n : Int) (hkey : keyB key = true) (hv : value.size ≤ 200) (hj : jt ∈ s.items) (hk : jt.key = key) (hf : jt.far = false) (hcl : classN key.size jt.value.size = classN key.size value.size) (hcas : s.cas ≠ 1099511627776) :
 (putR s (mkI like key value) k n).2.1 = k ∧ Put s (putR s (mkI like key value) k n).1 (newI s key like.flags like.until_ value) ∧ (putR s (mkI like key value) k n).2.2 = n := by
 have hf2 := putS_facts h (it := mkI like key value) hkey hv
 obtain ⟨c3, hc⟩ := clsN_ok (it := mkI like key value) hkey hv
 have hp := putS_room h (it := mkI like key value) hj hk hf c3 (by rw [hk, hcl]; exact hc) hcas
 unfold putR
 rw [if_pos hp, if_pos hp]
 obtain ⟨y1, y2⟩ := hf2.yes hp
 exact ⟨rfl, ⟨y1, hf2.clock, y2⟩, rfl⟩

theorem join_ans {s : StoreR} (h : Gd s) {kind : Int} {key value V : ByteArray} {it : ItemR} (hh : Has s key it) (hfar : it.far = false) (hk : kind = 5 ∨ kind = 6) (hkey : keyB key = true) (hV : V = if kind = 6 then value ++ it.value else it.value ++ value) (hv : V.size ≤ 200) (hcl : classN key.size it.value.size = classN key.size V.size) (hcas : s.cas ≠ 1099511627776) :
 (ansN s (setQ kind key 0 0 0 value)).2.1 = 2 ∧ Put s (ansN s (setQ kind key 0 0 0 value)).1 (newI s key it.flags it.until_ V) := by
 obtain ⟨n, e, hn, hg, ha⟩ := one_there h (q := setQ kind key 0 0 0 value) hh (by show kind ≠ 1; omega) (by show kind ≠ 12; omega) (by show kind ≠ 13; omega)
 rw [ha]
 have hz : (0 : Int) ≤ (n : Int) := Int.natCast_nonneg n
 have hval : valN s.pages it = it.value := by unfold valN; rw [hfar, if_neg (by decide)]
 have hu : unmetN kind true = 0 := by unfold unmetN; rcases hk with rfl | rfl <;> rfl
 have ho : oneF s n (setQ kind key 0 0 0 value) = putR s (mkI it key V) 2 0 := by
  rw [oneF_join (q := setQ kind key 0 0 0 value) (by rw [decide_eq_true hz]; exact hu) hk, Int.toNat_natCast, hg]
  have hj : joinV s (setQ kind key 0 0 0 value) it = V := by
   unfold joinV
   rw [hval, hV]
   rfl
  unfold joinN
  rw [hj, if_neg (by omega)]
  rfl
 rw [ho]
 obtain ⟨a, b, _⟩ := putR_room h (like := it) (k := 2) (n := 0) hkey hv hh.1 hh.2.1 hfar hcl hcas
 exact ⟨a, b⟩

/-- Compare, then set. -/
theorem cas_ans {s : StoreR} (h : Gd s) {key value : ByteArray} {nn : Int} {it : ItemR} (hh : Has s key it) (hfar : it.far = false) (hkey : keyB key = true) (hv : value.size ≤ 200) (hcl : classN key.size it.value.size = classN key.size value.size) (hcas : s.cas ≠ 1099511627776) (hn : it.cas = nn) :
 (ansN s (setQ 7 key 0 0 nn value)).2.1 = 2 ∧ Put s (ansN s (setQ 7 key 0 0 nn value)).1 (newI s key 0 0 value) := by
 obtain ⟨n, e, hl, hg, ha⟩ := one_there h (q := setQ 7 key 0 0 nn value) hh (by show (7 : Int) ≠ 1; decide) (by show (7 : Int) ≠ 12; decide) (by show (7 : Int) ≠ 13; decide)
 rw [ha]
 have hz : (0 : Int) ≤ (n : Int) := Int.natCast_nonneg n
 have ho : oneF s n (setQ 7 key 0 0 nn value) = putR s (mkI (likeN s (setQ 7 key 0 0 nn value)) key value) 2 0 := by
  rw [oneF_cas (q := setQ 7 key 0 0 nn value) (by rw [decide_eq_true hz]; rfl) rfl, Int.toNat_natCast, hg, if_neg (show ¬ it.cas ≠ (setQ 7 key 0 0 nn value).nn from fun e => e hn)]
  rfl
 rw [ho]
 obtain ⟨a, b, _⟩ := putR_room h (like := likeN s (setQ 7 key 0 0 nn value)) (k := 2) (n := 0) hkey hv hh.1 hh.2.1 hfar hcl hcas
 exact ⟨a, b⟩
theorem cas_other {s : StoreR} (h : Gd s) {key value : ByteArray} {nn : Int} {it : ItemR} (hh : Has s key it) (hn : it.cas ≠ nn) : (ansN s (setQ 7 key 0 0 nn value)).2.1 = 4 := by
 obtain ⟨n, e, hl, hg, ha⟩ := one_there h (q := setQ 7 key 0 0 nn value) hh (by show (7 : Int) ≠ 1; decide) (by show (7 : Int) ≠ 12; decide) (by show (7 : Int) ≠ 13; decide)
 rw [ha]
 have hz : (0 : Int) ≤ (n : Int) := Int.natCast_nonneg n
 have ho : oneF s n (setQ 7 key 0 0 nn value) = (s, 4, 0) := by
  rw [oneF_cas (q := setQ 7 key 0 0 nn value) (by rw [decide_eq_true hz]; rfl) rfl, Int.toNat_natCast, hg, if_pos (show it.cas ≠ (setQ 7 key 0 0 nn value).nn from hn)]
 rw [ho]

theorem Put.has {s t : StoreR} {it : ItemR} (h : Put s t it) (hu : it.until_ = 0 ∨ s.clock < it.until_) : Has t it.key it := by
 refine ⟨h.mem, rfl, ?_⟩
 unfold overB
 rw [h.clock]
 rcases hu with e | e
 · rw [e]; rfl
 · rw [decide_eq_false (by omega)]
   simp
theorem Gd.next {s : StoreR} (h : Gd s) {q : RqR} (hf : QFit q) (hus : s.uses ≤ 1099511627766) : Gd (Go.Proofs.YtdblegdgmjakfaaGreatDoor.ansN s q).1 := Gd.ansN h (fit_facts hf).one (fit_facts hf).keys hus
theorem Gd.get {s : StoreR} (h : Gd s) {k : ByteArray} (hk : keyB k = true) (hus : s.uses ≤ 1099511627766) : Gd (getS s k) := by
 have := h.next (getQ_fit hk) hus
 rw [getQ_ans] at this
 exact this
theorem uses_next {s : StoreR} (h : Gd s) {q : RqR} (hf : QFit q) : (ansN s q).1.uses ≤ s.uses + 10 := (aft_ansN h hf).uses
theorem uses_get {s : StoreR} (h : Gd s) {k : ByteArray} (hk : keyB k = true) : (getS s k).uses ≤ s.uses + 10 := by
 have := uses_next h (getQ_fit hk)
 rw [getQ_ans] at this
 exact this

/- flash.New and dovecoteref.FlashNew answer the same. -/

def newM (m : Int) : Int := if inB m 0 20 = true then m else 0
def newX (m : Int) : Int := if inB m 0 20 = true then 1 else 0
def newE (m : Int) : Int := if inB m 0 20 = true then 0 else 2

def NewPost (m : Int) (w : World) (e : Ending) (w' : World) : Prop :=
 e = .returned (.tuple #[.agg #[.int .i64 (newM m), .int .i64 (newX m), .slice none 0 0], .int .i64 (newE m)]) ∧ Below w.heap.size w w'

theorem post_of {m : Int} {w w' : World} {M X E : Int} (h1 : newM m = M) (h2 : newX m = X) (h3 : newE m = E) (hb : Below w.heap.size w w') : NewPost m w (.returned (.tuple #[.agg #[.int .i64 M, .int .i64 X, .slice none 0 0], .int .i64 E])) w' := by
 subst h1 h2 h3
 exact ⟨rfl, hb⟩

theorem new_any (m : Int) (w : World) : Calls Tryz.prog 38 #[.int .i64 m] w fun e w' => NewPost m w e w' := by
 have hB0 : ∀ o, Below w.heap.size w (w.alloc o) := fun o => (Below.refl _ _).alloc (Nat.le_refl _) _
 by_cases h1 : m < 0
 · have E : Hid (inB m 0 20 = false) := by unfold Hid inB; simp; omega
   go_enter Tryz.func38, Tryz.ntmps38
   go_wp2
   exact bodyPost_ret (v := .tuple #[.agg #[.int .i64 0, .int .i64 0, .slice none 0 0], .int .i64 2]) (by simp [results, Tryz.results38, go_sem]) rfl (post_of (by unfold newM; rw [E.out]; rfl) (by unfold newX; rw [E.out]; rfl) (by unfold newE; rw [E.out]; rfl) (hB0 _))
 · by_cases h2 : 20 < m
   · have E : Hid (inB m 0 20 = false) := by unfold Hid inB; simp; omega
     go_enter Tryz.func38, Tryz.ntmps38
     go_wp2
     exact bodyPost_ret (v := .tuple #[.agg #[.int .i64 0, .int .i64 0, .slice none 0 0], .int .i64 2]) (by simp [results, Tryz.results38, go_sem]) rfl (post_of (by unfold newM; rw [E.out]; rfl) (by unfold newX; rw [E.out]; rfl) (by unfold newE; rw [E.out]; rfl) (hB0 _))
   · have E : Hid (inB m 0 20 = true) := by unfold Hid inB; simp; omega
     go_enter Tryz.func38, Tryz.ntmps38
     go_wp2
     exact bodyPost_ret (v := .tuple #[.agg #[.int .i64 m, .int .i64 1, .slice none 0 0], .int .i64 0]) (by simp [results, Tryz.results38, go_sem]) rfl (post_of (by unfold newM; rw [E.out]; rfl) (by unfold newX; rw [E.out]; rfl) (by unfold newE; rw [E.out]; rfl) (hB0 _))

/- store.New and dovecoteref.StoreNew answer the same. -/

def snB (p m : Int) : Bool := inB p 0 40 && inB m 0 20
def SNewPost (p m : Int) (w : World) (e : Ending) (w' : World) : Prop :=
 e = .returned (.tuple #[.agg #[.int .i64 0, .int .i64 0, .int .i64 0, .int .i64 (if snB p m = true then p else 0), .int .i64 0, .int .i64 0, .int .i64 0, .int .i64 0, .slice none 0 0, .int .i64 (if snB p m = true then m else 0), .int .i64 (if snB p m = true then 1 else 0), .slice none 0 0], .int .i64 (if snB p m = true then 0 else 2)]) ∧ Below w.heap.size w w'

theorem snew_no {p m : Int} {w w' : World} (h : snB p m = false) (hb : Below w.heap.size w w') : SNewPost p m w (.returned (.tuple #[.agg #[.int .i64 0, .int .i64 0, .int .i64 0, .int .i64 0, .int .i64 0, .int .i64 0, .int .i64 0, .int .i64 0, .slice none 0 0, .int .i64 0, .int .i64 0, .slice none 0 0], .int .i64 2])) w' := by
 refine ⟨?_, hb⟩
 rw [h]
 rfl
theorem snew_yes {p m : Int} {w w' : World} (h : snB p m = true) (hb : Below w.heap.size w w') : SNewPost p m w (.returned (.tuple #[.agg #[.int .i64 0, .int .i64 0, .int .i64 0, .int .i64 p, .int .i64 0, .int .i64 0, .int .i64 0, .int .i64 0, .slice none 0 0, .int .i64 m, .int .i64 1, .slice none 0 0], .int .i64 0])) w' := by
 refine ⟨?_, hb⟩
 rw [h]
 rfl

theorem below_alW {w w' : World} (h : Below w.heap.size w w') (o : Obj) : Below w.heap.size w (w'.alloc o) := h.alloc h.size o

/-- What a store or an allocation above leaves below. -/
theorem below_step {n : Nat} {w w' : World} {b j : Nat} (h : Below n w w') (hb : n ≤ b) (v : Value) : Below n w (w'.setCell ⟨b, j, none⟩ v) := h.setCell hb v

set_option maxHeartbeats 1000000 in
set_option maxRecDepth 100000 in
theorem snew_any (p m : Int) (w : World) : Calls Tryz.prog 19 #[.agg #[.int .i64 p, .int .i64 m]] w (SNewPost p m w) := by
 have hw := within_any p 0 40
 have hn := fun w1 => new_any m w1
 cases h1 : inB p 0 40
 · have S : Hid (snB p m = false) := by unfold Hid snB; rw [h1]; rfl
   rw [h1] at hw
   clear h1 hn
   have hbw : Below w.heap.size w ((w.alloc (.cells #[.int .i64 p, .int .i64 m] 57)).alloc (.cells #[.int .i64 0, .int .i64 0, .int .i64 0, .int .i64 0, .int .i64 0, .int .i64 0, .int .i64 0, .int .i64 0, .slice none 0 0, .int .i64 0, .int .i64 0, .slice none 0 0] 29)) := ((Below.refl w.heap.size w).alloc (Nat.le_refl _) _).alloc (by simp) _
   go_enter Tryz.func19, Tryz.ntmps19
   go_wp2_with (go_at_call 37; refine (hw _).mono ?_; rintro e w' ⟨rfl, hw'⟩; obtain rfl := hw'.symm)
   exact bodyPost_ret (v := .tuple #[.agg #[.int .i64 0, .int .i64 0, .int .i64 0, .int .i64 0, .int .i64 0, .int .i64 0, .int .i64 0, .int .i64 0, .slice none 0 0, .int .i64 0, .int .i64 0, .slice none 0 0], .int .i64 2]) (by simp [results, Tryz.results19, go_sem]) rfl (snew_no S.out hbw)
 · cases h2 : inB m 0 20
   · have S : Hid (snB p m = false) := by unfold Hid snB; rw [h1, h2]; rfl
     rw [h1] at hw
     unfold NewPost newM newX newE at hn
     rw [h2] at hn
     simp only [Bool.false_eq_true, if_false] at hn
     clear h1 h2
     go_enter Tryz.func19, Tryz.ntmps19
     go_wp2_with (go_at_call 37; refine (hw _).mono ?_; rintro e w' ⟨rfl, hw'⟩; obtain rfl := hw'.symm)
     refine (hn _).mono ?_
     rintro e w1 ⟨rfl, hb1⟩
     have hz1 : w.heap.size + 1 < w1.heap.size := by have := hb1.size; simp at this; omega
     have hz0 : w.heap.size < w1.heap.size := by omega
     have hn1 : w1.heap.size ≠ w.heap.size + 1 := by omega
     have hn2 : w.heap.size + 1 ≠ w1.heap.size := by omega
     have hn3 : w1.heap.size ≠ w.heap.size := by omega
     have hn4 : w.heap.size ≠ w1.heap.size := by omega
     have r1 : ∀ j, w1.cell? ⟨w.heap.size + 1, j, none⟩ = (#[.int .i64 0, .int .i64 0, .int .i64 0, .int .i64 0, .int .i64 0, .int .i64 0, .int .i64 0, .int .i64 0, .slice none 0 0, .int .i64 0, .int .i64 0, .slice none 0 0] : Array Value)[j]? := fun j => by rw [hb1.cell (p := ⟨w.heap.size + 1, j, none⟩) (by simp)]; simp [go_sem]
     have r2 : ∀ j, w1.frozen? ⟨w.heap.size + 1, j, none⟩ = false := fun j => by rw [hb1.frozen (p := ⟨w.heap.size + 1, j, none⟩) (by simp)]; simp [go_sem]
     have r0 : ∀ j, w1.cell? ⟨w.heap.size, j, none⟩ = (#[.int .i64 p, .int .i64 m] : Array Value)[j]? := fun j => by rw [hb1.cell (p := ⟨w.heap.size, j, none⟩) (by simp; omega)]; simp [go_sem]
     have hbw : Below w.heap.size w w1 := (((Below.refl w.heap.size w).alloc (Nat.le_refl _) _).alloc (by simp) _).trans (hb1.mono (by simp; omega))
     clear hb1
     go_wp2
     exact bodyPost_ret (v := .tuple #[.agg #[.int .i64 0, .int .i64 0, .int .i64 0, .int .i64 0, .int .i64 0, .int .i64 0, .int .i64 0, .int .i64 0, .slice none 0 0, .int .i64 0, .int .i64 0, .slice none 0 0], .int .i64 2]) (by simp [results, Tryz.results19, go_sem, hz1, r1, hn1, hn2]) rfl (snew_no S.out (by refine below_alW ?_ _; (iterate 12 (refine below_step ?_ (by omega) _)); exact hbw))
   · have S : Hid (snB p m = true) := by unfold Hid snB; rw [h1, h2]; rfl
     rw [h1] at hw
     unfold NewPost newM newX newE at hn
     rw [h2] at hn
     simp only [if_true] at hn
     clear h1 h2
     go_enter Tryz.func19, Tryz.ntmps19
     go_wp2_with (go_at_call 37; refine (hw _).mono ?_; rintro e w' ⟨rfl, hw'⟩; obtain rfl := hw'.symm)
     refine (hn _).mono ?_
     rintro e w1 ⟨rfl, hb1⟩
     have hz1 : w.heap.size + 1 < w1.heap.size := by have := hb1.size; simp at this; omega
     have hz0 : w.heap.size < w1.heap.size := by omega
     have hn1 : w1.heap.size ≠ w.heap.size + 1 := by omega
     have hn2 : w.heap.size + 1 ≠ w1.heap.size := by omega
     have hn3 : w1.heap.size ≠ w.heap.size := by omega
     have hn4 : w.heap.size ≠ w1.heap.size := by omega
     have r1 : ∀ j, w1.cell? ⟨w.heap.size + 1, j, none⟩ = (#[.int .i64 0, .int .i64 0, .int .i64 0, .int .i64 0, .int .i64 0, .int .i64 0, .int .i64 0, .int .i64 0, .slice none 0 0, .int .i64 0, .int .i64 0, .slice none 0 0] : Array Value)[j]? := fun j => by rw [hb1.cell (p := ⟨w.heap.size + 1, j, none⟩) (by simp)]; simp [go_sem]
     have r2 : ∀ j, w1.frozen? ⟨w.heap.size + 1, j, none⟩ = false := fun j => by rw [hb1.frozen (p := ⟨w.heap.size + 1, j, none⟩) (by simp)]; simp [go_sem]
     have r0 : ∀ j, w1.cell? ⟨w.heap.size, j, none⟩ = (#[.int .i64 p, .int .i64 m] : Array Value)[j]? := fun j => by rw [hb1.cell (p := ⟨w.heap.size, j, none⟩) (by simp; omega)]; simp [go_sem]
     have hbw : Below w.heap.size w w1 := (((Below.refl w.heap.size w).alloc (Nat.le_refl _) _).alloc (by simp) _).trans (hb1.mono (by simp; omega))
     clear hb1
     go_wp2
     exact bodyPost_ret (v := .tuple #[.agg #[.int .i64 0, .int .i64 0, .int .i64 0, .int .i64 p, .int .i64 0, .int .i64 0, .int .i64 0, .int .i64 0, .slice none 0 0, .int .i64 m, .int .i64 1, .slice none 0 0], .int .i64 0]) (by simp [results, Tryz.results19, go_sem, hz1, r1, hn1, hn2]) rfl (snew_yes S.out (by refine below_alW ?_ _; (iterate 12 (refine below_step ?_ (by omega) _)); exact hbw))

/- The contract of store.Tick. -/

set_option maxHeartbeats 4000000 in
set_option maxRecDepth 100000 in
theorem tick_any (s : StoreR) (ia : Option Addr) (ic : Nat) (pa : Option Addr) (pc : Nat) (n : Int) (w : World) (hS : StoreIn w s ia pa) (hok : ItemsOk s.items) (hL : LaidC w) :
 Calls Tryz.prog 18 #[storeV s ia ic pa pc, .int .i64 n] w (TickPost s n w) := by
 have hc1 := fun (w1 : World) (hb : Below w.heap.size w w1) => scheck_any s ia ic pa pc w1 (hS.later hb) hok (hL.later hb)
 have hcn := fun (w1 : World) => within_any n 0 1000 w1
 have hcp := fun (hz : Sizes s) (w1 : World) (hb : Below w.heap.size w w1) => scopy_own s ia ic pa pc w1 (hS.later hb) (by have := hz.items; omega) hz.texts (by have := hz.pages; omega) hz.bytes
 have hN : Hid (tickN s n = if storeB s = true then (if tickOk s n = true then 0 else 2) else 8) := rfl
 have hT : Hid (tickS s n = if storeB s = true then (if tickOk s n = true then { s with clock := s.clock + n } else zeroS) else zeroS) := rfl
 have hO : Hid (tickOk s n = (inB n 0 1000 && decide (s.clock + n ≤ 1099511627776))) := rfl
 have hZ := sizes_of s
 have T0 : codeN true = 0 := rfl
 have T8 : codeN false = 8 := rfl
 unfold TickPost
 generalize tickN s n = RN at *
 generalize tickS s n = RS at *
 generalize tickOk s n = OK at *
 generalize storeB s = R at *
 clear hS hok hL
 obtain ⟨clock, scas, uses, most, h0, h1, h2, h3, items, fm, fx, pages⟩ := s
 unfold storeV at hc1 hcp
 have hsv : ∀ (x y : Option Addr) (p q : Nat), storeV ⟨clock, scas, uses, most, h0, h1, h2, h3, items, fm, fx, pages⟩ x p y q = .agg #[.int .i64 clock, .int .i64 scas, .int .i64 uses, .int .i64 most, .int .i64 h0, .int .i64 h1, .int .i64 h2, .int .i64 h3, .slice x items.length p, .int .i64 fm, .int .i64 fx, .slice y pages.length q] := fun _ _ _ _ => rfl
 rw [hsv]
 clear hsv
 simp only at hc1 hcp
 have B0 : Below w.heap.size w (w.alloc (.cells #[.int .i64 clock, .int .i64 scas, .int .i64 uses, .int .i64 most, .int .i64 h0, .int .i64 h1, .int .i64 h2, .int .i64 h3, .slice ia items.length ic, .int .i64 fm, .int .i64 fx, .slice pa pages.length pc] 29)) := (Below.refl _ _).alloc (Nat.le_refl _) _
 have B1 : Below w.heap.size w ((w.alloc (.cells #[.int .i64 clock, .int .i64 scas, .int .i64 uses, .int .i64 most, .int .i64 h0, .int .i64 h1, .int .i64 h2, .int .i64 h3, .slice ia items.length ic, .int .i64 fm, .int .i64 fx, .slice pa pages.length pc] 29)).alloc (.cells #[.int .i64 0, .int .i64 0, .int .i64 0, .int .i64 0, .int .i64 0, .int .i64 0, .int .i64 0, .int .i64 0, .slice none 0 0, .int .i64 0, .int .i64 0, .slice none 0 0] 29)) := B0.alloc (by simp) _
 have U0 := (TB.new 29 w #[.int .i64 clock, .int .i64 scas, .int .i64 uses, .int .i64 most, .int .i64 h0, .int .i64 h1, .int .i64 h2, .int .i64 h3, .slice ia items.length ic, .int .i64 fm, .int .i64 fx, .slice pa pages.length pc]).alloc (.cells #[.int .i64 0, .int .i64 0, .int .i64 0, .int .i64 0, .int .i64 0, .int .i64 0, .int .i64 0, .int .i64 0, .slice none 0 0, .int .i64 0, .int .i64 0, .slice none 0 0] 29)
 have U1 := TB.new 29 (w.alloc (.cells #[.int .i64 clock, .int .i64 scas, .int .i64 uses, .int .i64 most, .int .i64 h0, .int .i64 h1, .int .i64 h2, .int .i64 h3, .slice ia items.length ic, .int .i64 fm, .int .i64 fx, .slice pa pages.length pc] 29)) #[.int .i64 0, .int .i64 0, .int .i64 0, .int .i64 0, .int .i64 0, .int .i64 0, .int .i64 0, .int .i64 0, .slice none 0 0, .int .i64 0, .int .i64 0, .slice none 0 0]
 rw [show (w.alloc (.cells #[.int .i64 clock, .int .i64 scas, .int .i64 uses, .int .i64 most, .int .i64 h0, .int .i64 h1, .int .i64 h2, .int .i64 h3, .slice ia items.length ic, .int .i64 fm, .int .i64 fx, .slice pa pages.length pc] 29)).heap.size = w.heap.size + 1 by simp] at U1
 have hs0 : ((w.alloc (.cells #[.int .i64 clock, .int .i64 scas, .int .i64 uses, .int .i64 most, .int .i64 h0, .int .i64 h1, .int .i64 h2, .int .i64 h3, .slice ia items.length ic, .int .i64 fm, .int .i64 fx, .slice pa pages.length pc] 29)).alloc (.cells #[.int .i64 0, .int .i64 0, .int .i64 0, .int .i64 0, .int .i64 0, .int .i64 0, .int .i64 0, .int .i64 0, .slice none 0 0, .int .i64 0, .int .i64 0, .slice none 0 0] 29)).heap.size = w.heap.size + 1 + 1 := by simp
 cases R
 · rw [T8] at hc1
   have eN : RN = 8 := hN.out
   have eS : RS = zeroS := hT.out
   clear hN hT hcp hZ hO
   go_enter Tryz.func18, Tryz.ntmps18
   go_wp2_with fail
   refine (hc1 _ B1).mono ?_
   rintro e w1 ⟨rfl, hb1⟩
   have V0 := U0.later hb1
   have V1 := U1.later hb1
   have x0 := fun j => V0.cell j
   have x1 := fun j => V0.frozen j
   have x2 := fun j => V1.cell j
   have x3 := fun j => V1.frozen j
   have l0 := V0.lt
   have l1 := V1.lt
   have hbw1 := B1.trans (hb1.mono B1.size)
   have hs1 : w.heap.size + 1 + 1 ≤ w1.heap.size := by rw [← hs0]; exact hb1.size
   clear U0 U1 V0 V1 hc1 B0 B1 hcn hb1
   go_wp2_with fail
   refine bodyPost_ret (v := .tuple #[.agg #[.int .i64 0, .int .i64 0, .int .i64 0, .int .i64 0, .int .i64 0, .int .i64 0, .int .i64 0, .int .i64 0, .slice none 0 0, .int .i64 0, .int .i64 0, .slice none 0 0], .int .i64 8]) (by simp [results, Tryz.results18, go_sem, l0, l1, x0, x2]) rfl ⟨none, 0, none, 0, by rw [eS, eN]; rfl, by rw [eS]; exact zero_from _ _, ?_⟩
   exact ((((((((((((hbw1.setCell (Nat.le_succ _) _).setCell (Nat.le_succ _) _).setCell (Nat.le_succ _) _).setCell (Nat.le_succ _) _).setCell (Nat.le_succ _) _).setCell (Nat.le_succ _) _).setCell (Nat.le_succ _) _).setCell (Nat.le_succ _) _).setCell (Nat.le_succ _) _).setCell (Nat.le_succ _) _).setCell (Nat.le_succ _) _).setCell (Nat.le_succ _) _)
 · rw [T0] at hc1
   have hz := hZ rfl
   obtain ⟨z1, z2⟩ := hz.clock
   have hcp := hcp hz
   simp only at z1 z2
   have hO := hO.out
   simp only at hO
   cases hin : inB n 0 1000
   · have eO : OK = false := by rw [hO, hin]; rfl
     have eN : RN = 2 := by rw [hN.out, eO]; rfl
     have eS : RS = zeroS := by rw [hT.out, eO]; rfl
     rw [hin] at hcn
     clear hN hT hcp hZ hO
     go_enter Tryz.func18, Tryz.ntmps18
     go_wp2_with fail
     refine (hc1 _ B1).mono ?_
     rintro e w1 ⟨rfl, hb1⟩
     have V0 := U0.later hb1
     have V1 := U1.later hb1
     have x0 := fun j => V0.cell j
     have x1 := fun j => V0.frozen j
     have x2 := fun j => V1.cell j
     have x3 := fun j => V1.frozen j
     have l0 := V0.lt
     have l1 := V1.lt
     have hbw1 := B1.trans (hb1.mono B1.size)
     have hs1 : w.heap.size + 1 + 1 ≤ w1.heap.size := by rw [← hs0]; exact hb1.size
     clear U0 U1 V0 V1 hc1 B0 B1 hb1
     go_wp2_with (go_at_call 37; refine (hcn _).mono ?_; rintro e w' ⟨rfl, rfl⟩)
     refine bodyPost_ret (v := .tuple #[.agg #[.int .i64 0, .int .i64 0, .int .i64 0, .int .i64 0, .int .i64 0, .int .i64 0, .int .i64 0, .int .i64 0, .slice none 0 0, .int .i64 0, .int .i64 0, .slice none 0 0], .int .i64 2]) (by simp [results, Tryz.results18, go_sem, l0, l1, x0, x2]) rfl ⟨none, 0, none, 0, by rw [eS, eN]; rfl, by rw [eS]; exact zero_from _ _, ?_⟩
     exact ((((((((((((hbw1.setCell (Nat.le_succ _) _).setCell (Nat.le_succ _) _).setCell (Nat.le_succ _) _).setCell (Nat.le_succ _) _).setCell (Nat.le_succ _) _).setCell (Nat.le_succ _) _).setCell (Nat.le_succ _) _).setCell (Nat.le_succ _) _).setCell (Nat.le_succ _) _).setCell (Nat.le_succ _) _).setCell (Nat.le_succ _) _).setCell (Nat.le_succ _) _)
   · obtain ⟨n1, n2⟩ := (inB_iff n 0 1000).1 hin
     rw [hin] at hcn
     have hwr : IntKind.i64.wrap (clock + n) = clock + n := by simp only [IntKind.wrap_i64]; omega
     by_cases hgt : clock + n ≤ 1099511627776
     · have eO : OK = true := by rw [hO, hin]; simpa using hgt
       have eN : RN = 0 := by rw [hN.out, eO]; rfl
       have eS : RS = ⟨clock + n, scas, uses, most, h0, h1, h2, h3, items, fm, fx, pages⟩ := by rw [hT.out, eO]; rfl
       have hgt' : ¬ (1099511627776 < clock + n) := by omega
       clear hN hT hZ hO
       go_enter Tryz.func18, Tryz.ntmps18
       go_wp2_with fail
       refine (hc1 _ B1).mono ?_
       rintro e w1 ⟨rfl, hb1⟩
       have V0 := U0.later hb1
       have V1 := U1.later hb1
       have x0 := fun j => V0.cell j
       have x1 := fun j => V0.frozen j
       have x2 := fun j => V1.cell j
       have x3 := fun j => V1.frozen j
       have l0 := V0.lt
       have l1 := V1.lt
       have hbw1 := B1.trans (hb1.mono B1.size)
       have hs1 : w.heap.size + 1 + 1 ≤ w1.heap.size := by rw [← hs0]; exact hb1.size
       clear U0 U1 hc1 B0 B1
       go_wp2_with (go_at_call 37; refine (hcn _).mono ?_; rintro e w' ⟨rfl, rfl⟩)
       refine (hcp _ hbw1).mono ?_
       rintro e w2 ⟨ja, jc, qa, qc, rfl, hF, hb2⟩
       have W0 := V0.later hb2
       have W1 := V1.later hb2
       have y0 := fun j => W0.cell j
       have y1 := fun j => W0.frozen j
       have y2 := fun j => W1.cell j
       have y3 := fun j => W1.frozen j
       have m0 := W0.lt
       have m1 := W1.lt
       have hbw2 := hbw1.trans (hb2.mono hbw1.size)
       have hs2 := hb2.size
       unfold storeV
       clear V0 V1 W0 W1 x0 x1 x2 x3 l0 l1 hcp hb1 hb2 hbw1
       go_wp2_with fail
       refine bodyPost_ret (v := .tuple #[.agg #[.int .i64 (clock + n), .int .i64 scas, .int .i64 uses, .int .i64 most, .int .i64 h0, .int .i64 h1, .int .i64 h2, .int .i64 h3, .slice ja items.length jc, .int .i64 fm, .int .i64 fx, .slice qa pages.length qc], .int .i64 0]) (by simp [results, Tryz.results18, go_sem, m0, m1, y0, y2]) rfl ⟨ja, jc, qa, qc, by rw [eS, eN]; rfl, ?_, ?_⟩
       · rw [eS]
         intro w9 hs9 h9
         have hs8 : w2.heap.size ≤ w9.heap.size := by simpa [World.setCell] using hs9
         refine hF w9 hs8 fun b hb hl => ?_
         have hb1 : b ≠ w.heap.size + 1 := by omega
         have hb0 : b ≠ w.heap.size := by omega
         rw [h9 b (by omega) (by simpa [World.setCell] using hl)]
         iterate 12 rw [heap_setCell_other _ _ _ _ hb1]
         iterate 13 rw [heap_setCell_other _ _ _ _ hb0]
       · exact (((((((((((((((((((((((((hbw2.setCell (Nat.le_refl _) _).setCell (Nat.le_refl _) _).setCell (Nat.le_refl _) _).setCell (Nat.le_refl _) _).setCell (Nat.le_refl _) _).setCell (Nat.le_refl _) _).setCell (Nat.le_refl _) _).setCell (Nat.le_refl _) _).setCell (Nat.le_refl _) _).setCell (Nat.le_refl _) _).setCell (Nat.le_refl _) _).setCell (Nat.le_refl _) _).setCell (Nat.le_refl _) _).setCell (Nat.le_succ _) _).setCell (Nat.le_succ _) _).setCell (Nat.le_succ _) _).setCell (Nat.le_succ _) _).setCell (Nat.le_succ _) _).setCell (Nat.le_succ _) _).setCell (Nat.le_succ _) _).setCell (Nat.le_succ _) _).setCell (Nat.le_succ _) _).setCell (Nat.le_succ _) _).setCell (Nat.le_succ _) _).setCell (Nat.le_succ _) _)
     · have eO : OK = false := by rw [hO, hin]; simpa using hgt
       have eN : RN = 2 := by rw [hN.out, eO]; rfl
       have eS : RS = zeroS := by rw [hT.out, eO]; rfl
       have hgt' : 1099511627776 < clock + n := by omega
       clear hN hT hcp hZ hO
       go_enter Tryz.func18, Tryz.ntmps18
       go_wp2_with fail
       refine (hc1 _ B1).mono ?_
       rintro e w1 ⟨rfl, hb1⟩
       have V0 := U0.later hb1
       have V1 := U1.later hb1
       have x0 := fun j => V0.cell j
       have x1 := fun j => V0.frozen j
       have x2 := fun j => V1.cell j
       have x3 := fun j => V1.frozen j
       have l0 := V0.lt
       have l1 := V1.lt
       have hbw1 := B1.trans (hb1.mono B1.size)
       have hs1 : w.heap.size + 1 + 1 ≤ w1.heap.size := by rw [← hs0]; exact hb1.size
       clear U0 U1 V0 V1 hc1 B0 B1 hb1
       go_wp2_with (go_at_call 37; refine (hcn _).mono ?_; rintro e w' ⟨rfl, rfl⟩)
       refine bodyPost_ret (v := .tuple #[.agg #[.int .i64 0, .int .i64 0, .int .i64 0, .int .i64 0, .int .i64 0, .int .i64 0, .int .i64 0, .int .i64 0, .slice none 0 0, .int .i64 0, .int .i64 0, .slice none 0 0], .int .i64 2]) (by simp [results, Tryz.results18, go_sem, l0, l1, x0, x2]) rfl ⟨none, 0, none, 0, by rw [eS, eN]; rfl, by rw [eS]; exact zero_from _ _, ?_⟩
       exact ((((((((((((hbw1.setCell (Nat.le_succ _) _).setCell (Nat.le_succ _) _).setCell (Nat.le_succ _) _).setCell (Nat.le_succ _) _).setCell (Nat.le_succ _) _).setCell (Nat.le_succ _) _).setCell (Nat.le_succ _) _).setCell (Nat.le_succ _) _).setCell (Nat.le_succ _) _).setCell (Nat.le_succ _) _).setCell (Nat.le_succ _) _).setCell (Nat.le_succ _) _)

end Go.Proofs.YtdblegdgmjakfaaGreatDoor
