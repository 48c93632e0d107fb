/- Parts of the proof. -/
import Derived.Test.YtdblegdgmjakfaaGreatDoorMJ15
import Derived.Test.YtdblegdgmjakfaaGreatDoorMJ19
import Derived.Test.YtdblegdgmjakfaaGreatDoorMJ17
import Derived.Test.YtdblegdgmjakfaaGreatDoorRows
import Derived.Deep.RegionHeld3
namespace Go.Proofs.YtdblegdgmjakfaaGreatDoor

/- A request, plain. -/
structure RqR where
 kind : Int
 key : ByteArray
 keys : List ByteArray
 flags : Int
 exp : Int
 nn : Int
 value : ByteArray
 quiet : Bool

end Go.Proofs.YtdblegdgmjakfaaGreatDoor

namespace Go.Proofs.YtdblegdgmjakfaaGreatDoor
open Go.ChangeShapes Go.WideShapes Go.ChangeAt Go.RowKit
set_option linter.unusedVariables false
set_option linter.unusedSimpArgs false

/- What a request does to a store, plain; a store that may be stays one that may be. -/

def likeN (s : StoreR) (q : RqR) : ItemR := ⟨ByteArray.empty, q.flags, untilN s.clock q.exp, 0, 0, ByteArray.empty, false, 0, 0⟩
def putR (s : StoreR) (it : ItemR) (k n : Int) : StoreR × Int × Int := ((putS s it).1, if (putS s it).2 = true then k else 11, if (putS s it).2 = true then n else 0)
def joinV (s : StoreR) (q : RqR) (it : ItemR) : ByteArray := if q.kind = 6 then q.value ++ valN s.pages it else valN s.pages it ++ q.value
def joinN (s : StoreR) (q : RqR) (it : ItemR) : StoreR × Int × Int := if 200 < (joinV s q it).size then (s, 11, 0) else putR s (mkI it q.key (joinV s q it)) 2 0
def countV (q : RqR) (n : Int) : Int := if q.kind = 9 then min (n + q.nn) 1099511627776 else max (n - q.nn) 0
def countN (s : StoreR) (q : RqR) (it : ItemR) : StoreR × Int × Int :=
 if numOk (valN s.pages it) = true then putR s (mkI it q.key (decS (countV q (numV (valN s.pages it))))) 7 (countV q (numV (valN s.pages it))) else (s, 12, 0)
/-- Behind find: store F, place i. -/
def oneF (F : StoreR) (i : Int) (q : RqR) : StoreR × Int × Int :=
 if unmetN q.kind (decide (0 ≤ i)) ≠ 0 then (F, unmetN q.kind (decide (0 ≤ i)), 0)
 else if q.kind = 5 ∨ q.kind = 6 then joinN F q (F.items.getD i.toNat default)
 else if q.kind = 7 ∧ (F.items.getD i.toNat default).cas ≠ q.nn then (F, 4, 0)
 else if q.kind = 8 then (takeN F q.key, 6, 0)
 else if q.kind = 9 ∨ q.kind = 10 then countN F q (F.items.getD i.toNat default)
 else if q.kind = 11 then (untilS (askS F i.toNat) i.toNat (untilN F.clock q.exp), 8, 0)
 else putR F (mkI (likeN F q) q.key q.value) 2 0
def oneN (s : StoreR) (q : RqR) : StoreR × Int × Int := oneF (foundS s q.key).1 (foundS s q.key).2 q
def flushN (s : StoreR) : StoreR := { s with items := [], pages := [] }
/-- What is told: store, kind, number, hits. -/
def ansN (s : StoreR) (q : RqR) : StoreR × Int × Int × List HitR :=
 if q.kind = 1 then ((getK s q.keys q.keys.length).1, 1, 0, (getK s q.keys q.keys.length).2)
 else if q.kind = 12 then (flushN s, 9, 0, [])
 else if q.kind = 13 then (s, 10, 0, [])
 else ((oneN s q).1, (oneN s q).2.1, (oneN s q).2.2, [])

theorem countP_set_same {p : ItemR → Bool} : ∀ (l : List ItemR) (n : Nat) (x : ItemR), n < l.length → p x = p (l.getD n default) → (l.set n x).countP p = l.countP p
 | [], n, x, hn, h => by simp at hn
 | y :: l, 0, x, hn, h => by
  have h : p x = p y := by simpa using h
  simp [List.countP_cons, h]
 | y :: l, n + 1, x, hn, h => by
  have ih := countP_set_same l n x (by simpa using hn) (by simpa using h)
  simp [List.countP_cons, ih]
theorem map_set_same {α : Type} {f : ItemR → α} : ∀ (l : List ItemR) (n : Nat) (x : ItemR), n < l.length → f x = f (l.getD n default) → (l.set n x).map f = l.map f
 | [], n, x, hn, h => by simp at hn
 | y :: l, 0, x, hn, h => by
  have h : f x = f y := by simpa using h
  simp [h]
 | y :: l, n + 1, x, hn, h => by
  have ih := map_set_same l n x (by simpa using hn) (by simpa using h)
  simp [ih]
theorem mem_getI {l : List ItemR} {n : Nat} (h : n < l.length) : l.getD n default ∈ l := by
 rw [List.getD_eq_getElem?_getD, List.getElem?_eq_getElem h]
 exact List.getElem_mem h

theorem Gd.found {s : StoreR} (h : Gd s) (key : ByteArray) : Gd (foundS s key).1 := by
 unfold foundS
 split
 · split
   · split
     · exact h.take key
     · exact h
   · exact h
 · exact h
theorem found_kept (s : StoreR) (key : ByteArray) : Kept s (foundS s key).1 := by
 unfold foundS
 split
 · split
   · split
     · exact takeN_kept s key
     · exact Kept.refl s
   · exact Kept.refl s
 · exact Kept.refl s

/-- One item is another one, with its key, place and value. -/
theorem Gd.set {s : StoreR} (h : Gd s) {n : Nat} (hn : n < s.items.length) {it : ItemR} {u : Int} (hu : s.uses ≤ u) (hu2 : u ≤ 1099511627776) (hk : it.key = (s.items.getD n default).key) (hf : it.far = (s.items.getD n default).far) (hv : it.value = (s.items.getD n default).value) (hp : it.page = (s.items.getD n default).page) (ha : it.at_ = (s.items.getD n default).at_)
 (hfl : it.flags = (s.items.getD n default).flags) (hc : it.cas = (s.items.getD n default).cas) (hun : inB it.until_ 0 1099511627776 = true) (hus : inB it.used 1 u = true) : Gd { s with uses := u, items := s.items.set n it } := by
 obtain ⟨h1, h2, h3, a, b, c, d⟩ := gd_iff.1 h
 obtain ⟨q1, q2, q3, q4, q5, q6, q7, q8⟩ := counts_facts h1
 have hm := mem_getI hn
 refine gd_iff.2 ⟨?_, h2, h3, by show (s.items.set n it).length ≤ 1000; rw [List.length_set]; exact a, ?_, ?_, ?_⟩
 · unfold countsB
   simp only [Bool.and_eq_true, inB_iff]
   exact ⟨⟨q1, q2⟩, ⟨q3, q4⟩, ⟨by show 0 ≤ u; omega, hu2⟩, q7, q8⟩
 · show SortedI (s.items.set n it)
   unfold SortedI at *
   rw [map_set_same _ _ _ hn hk]
   exact b
 · intro jt hj
   rcases List.mem_or_eq_of_mem_set hj with hj | rfl
   · obtain ⟨f1, f2, f3⟩ := c jt hj
     refine ⟨?_, f2, f3⟩
     unfold fieldsB at *
     simp only [Bool.and_eq_true, inB_iff] at *
     exact ⟨f1.1, f1.2.1, f1.2.2.1, f1.2.2.2.1, by have := f1.2.2.2.2; show 1 ≤ jt.used ∧ jt.used ≤ u; omega⟩
   · obtain ⟨f1, f2, f3⟩ := c _ hm
     refine ⟨?_, ?_, ?_⟩
     · unfold fieldsB at *
       simp only [Bool.and_eq_true] at *
       rw [hk, hfl, hc]
       exact ⟨f1.1, f1.2.1, hun, f1.2.2.2.1, hus⟩
     · unfold valueB at *
       rw [hf, hv, hp, ha]
       exact f2
     · unfold ItemOk at *
       rw [hk, hv, ha]
       exact f3
 · intro m hm4
   show (((s.items.set n it).countP (hitP m) : Nat) : Int) ≤ _
   rw [countP_set_same _ _ _ hn (by unfold hitP; rw [hf, hk, hv])]
   exact d m hm4

theorem Gd.item {s : StoreR} (h : Gd s) {n : Nat} (hn : n < s.items.length) : fieldsB s (s.items.getD n default) = true := ((gd_iff.1 h).2.2.2.2.2.1 _ (mem_getI hn)).1
theorem Gd.ask {s : StoreR} (h : Gd s) {n : Nat} (hn : n < s.items.length) (hu : s.uses < 1099511627776) : Gd (askS s n) := by
 obtain ⟨q1, q2, q3, q4, q5, q6, q7, q8⟩ := counts_facts h.parts.1
 have hf := h.item hn
 unfold fieldsB at hf
 simp only [Bool.and_eq_true] at hf
 exact h.set (it := { s.items.getD n default with used := s.uses + 1 }) hn (by omega) (by omega) rfl rfl rfl rfl rfl rfl rfl hf.2.2.1 (by simp only [inB_iff]; omega)
theorem Gd.until {s : StoreR} (h : Gd s) {n : Nat} (hn : n < s.items.length) {u : Int} (hu : inB u 0 1099511627776 = true) : Gd (untilS s n u) := by
 obtain ⟨q1, q2, q3, q4, q5, q6, q7, q8⟩ := counts_facts h.parts.1
 have hf := h.item hn
 unfold fieldsB at hf
 simp only [Bool.and_eq_true] at hf
 exact h.set (it := { s.items.getD n default with until_ := u }) hn (Int.le_refl _) q6 rfl rfl rfl rfl rfl rfl rfl hu hf.2.2.2.2

theorem takeN_nokey (s : StoreR) (key : ByteArray) : ∀ jt ∈ (takeN s key).items, jt.key ≠ key := by
 intro jt hj e
 have := (List.mem_filter.1 hj).2
 rw [e] at this
 simp [keq_iff.2 rfl] at this

theorem untilN_in {c n : Int} (h0 : 0 ≤ c) (h2 : 0 ≤ n) : inB (untilN c n) 0 1099511627776 = true := by
 unfold untilN
 simp only [inB_iff]
 split <;> omega

theorem cls_ok {key value : ByteArray} (hkey : keyB key = true) (hv : value.size ≤ 200) : ∃ n : Nat, n ≤ 3 ∧ classN key.size value.size = n := class_some (key_size hkey) ⟨by omega, by omega⟩
theorem clsN_ok {it : ItemR} (hkey : keyB it.key = true) (hv : it.value.size ≤ 200) : clsN it ≤ 3 ∧ classN it.key.size it.value.size = clsN it := by
 obtain ⟨n, h1, h2⟩ := cls_ok hkey hv
 unfold clsN
 rw [h2]
 exact ⟨by omega, by omega⟩

theorem Gd.putS {s : StoreR} (h : Gd s) {it : ItemR} (hus : s.uses < 1099511627776) (hkey : keyB it.key = true) (hfl : inB it.flags 0 65535 = true) (hun : inB it.until_ 0 1099511627776 = true) (hv : it.value.size ≤ 200) (hfar : it.far = false) (hpg : it.page = 0) (hat : it.at_ = 0) : Gd (putS s it).1 := by
 obtain ⟨c3, hcl⟩ := clsN_ok hkey hv
 have ht := h.take it.key
 obtain ⟨g1, k1, g2⟩ := ht.room (clsN it) c3
 have hcs : (takeN s it.key).cas ≤ 1099511627776 := (counts_facts ht.parts.1).2.2.2.1
 unfold Go.Proofs.YtdblegdgmjakfaaGreatDoor.putS
 split
 · exact ht
 · next hc =>
   split
   · next hr =>
     obtain ⟨g3, g4⟩ := g2 hr
     refine g1.put (fun jt hj e => ?_) (by rw [k1.cas]; omega) (by rw [k1.uses]; exact hus) hkey hfl hun hv hfar hpg hat c3 hcl g3 g4
     obtain ⟨xt, hx, he⟩ := k1.keys jt hj
     exact takeN_nokey s it.key xt hx (he.trans e)
   · exact g1

/-- A request for one key, as wire.Check takes it. -/
structure QOk (q : RqR) : Prop where
 kd : 2 ≤ q.kind ∧ q.kind ≤ 11
 key : keyB q.key = true
 fl : inB q.flags 0 65535 = true
 ex : inB q.exp 0 1099511627776 = true
 nn : inB q.nn 0 1099511627776 = true
 vl : q.value.size ≤ 200

theorem digitsV_range : ∀ (l : List UInt8) (acc v : Int), 0 ≤ acc → acc ≤ 1099511627776 → digitsV l acc = some v → 0 ≤ v ∧ v ≤ 1099511627776
 | [], acc, v, h0, h1, h => by unfold digitsV at h; cases h; exact ⟨h0, h1⟩
 | b :: r, acc, v, h0, h1, h => by
  unfold digitsV at h
  split at h
  · cases h
  · next hb =>
    split at h
    · cases h
    · next hc => exact digitsV_range r _ v (by omega) (by omega) h
theorem numV_range {V : ByteArray} (h : numOk V = true) : 0 ≤ numV V ∧ numV V ≤ 1099511627776 := by
 unfold numOk at h
 unfold numV
 cases hd : numD V with
 | none => rw [hd] at h; cases h
 | some v =>
  unfold numD at hd
  split at hd
  · cases hd
  · split at hd
    · cases hd
    · exact digitsV_range _ 0 v (by omega) (by omega) hd
theorem countV_range {q : RqR} (hq : QOk q) {n : Int} (h0 : 0 ≤ n) (h1 : n ≤ 1099511627776) : 0 ≤ countV q n ∧ countV q n ≤ 1099511627776 := by
 have := (inB_iff _ _ _).1 hq.nn
 unfold countV
 split <;> omega
theorem decS_le {n : Int} (h0 : 0 ≤ n) (h1 : n ≤ 1099511627776) : (decS n).size ≤ 200 := Nat.le_trans (decS_size n (by omega) (by omega)) (by omega)

theorem Gd.putR {s : StoreR} (h : Gd s) {like : ItemR} {key value : ByteArray} (k n : Int) (hus : s.uses < 1099511627776) (hkey : keyB key = true) (hfl : inB like.flags 0 65535 = true) (hun : inB like.until_ 0 1099511627776 = true) (hv : value.size ≤ 200) : Gd (putR s (mkI like key value) k n).1 :=
 h.putS (it := mkI like key value) hus hkey hfl hun hv rfl rfl rfl

/-- The place that find tells is that of an item. -/
theorem found_at (s : StoreR) (key : ByteArray) (h : 0 ≤ (foundS s key).2) : (foundS s key).2.toNat < (foundS s key).1.items.length := by
 rcases foundS_cases s key with e | ⟨n, e, hn, hF, _⟩
 · omega
 · rw [e, hF]
   simpa using hn
theorem unmet_there {k : Int} (hk : k ≠ 2) (hk3 : k ≠ 3) {t : Bool} (h : unmetN k t = 0) : t = true := by
 unfold unmetN at h
 cases t
 · exfalso
   simp [hk, hk3] at h
   split at h <;> omega
 · rfl
theorem Gd.oneF {F : StoreR} (h : Gd F) {i : Int} (hi : 0 ≤ i → i.toNat < F.items.length) {q : RqR} (hq : QOk q) (hus : F.uses < 1099511627776) : Gd (oneF F i q).1 := by
 have hc := counts_facts h.parts.1
 have hn := (inB_iff _ _ _).1 hq.ex
 unfold Go.Proofs.YtdblegdgmjakfaaGreatDoor.oneF
 split
 · exact h
 · next hu =>
   have hu : unmetN q.kind (decide (0 ≤ i)) = 0 := by simpa using hu
   have hat : q.kind ≠ 2 → q.kind ≠ 3 → i.toNat < F.items.length := fun h2 h3 => hi (by simpa using unmet_there h2 h3 hu)
   split
   · next hk =>
     have hf := h.item (hat (by omega) (by omega))
     unfold fieldsB at hf
     simp only [Bool.and_eq_true] at hf
     unfold joinN
     split
     · exact h
     · next hz => exact h.putR 2 0 hus hq.key hf.2.1 hf.2.2.1 (by omega)
   split
   · exact h
   split
   · exact h.take q.key
   split
   · next hk =>
     have hf := h.item (hat (by omega) (by omega))
     unfold fieldsB at hf
     simp only [Bool.and_eq_true] at hf
     unfold countN
     split
     · next hz =>
       have hr := numV_range hz
       have hr2 := countV_range hq hr.1 hr.2
       exact h.putR 7 _ hus hq.key hf.2.1 hf.2.2.1 (decS_le hr2.1 hr2.2)
     · exact h
   split
   · next hk =>
     have ha := hat (by omega) (by omega)
     exact (h.ask ha hus).until (by show _ < (F.items.set _ _).length; rw [List.length_set]; exact ha) (untilN_in hc.1 hn.1)
   · exact h.putR 2 0 hus hq.key hq.fl (untilN_in hc.1 hn.1) hq.vl
theorem Gd.oneN {s : StoreR} (h : Gd s) {q : RqR} (hq : QOk q) (hus : s.uses < 1099511627776) : Gd (oneN s q).1 :=
 (h.found q.key).oneF (found_at s q.key) hq (by rw [(found_kept s q.key).uses]; exact hus)
theorem getK_gd {s : StoreR} (h : Gd s) (keys : List ByteArray) : ∀ k : Nat, s.uses + (k : Int) ≤ 1099511627776 → Gd (getK s keys k).1 ∧ (getK s keys k).1.uses ≤ s.uses + (k : Int)
 | 0, hu => ⟨h, by simp [getK]⟩
 | k + 1, hu => by
  obtain ⟨ih, iu⟩ := getK_gd h keys k (by omega)
  by_cases hk : k < keys.length
  · rw [getK_succ s keys k hk]
    generalize getK s keys k = P at *
    generalize keys.getD k ByteArray.empty = key
    have hF := ih.found key
    have hU := (found_kept P.1 key).uses
    unfold gstep
    split
    · next hz =>
      exact ⟨hF.ask (found_at _ _ hz) (by omega), by show (foundS P.1 key).1.uses + 1 ≤ _; omega⟩
    · exact ⟨hF, by show (foundS P.1 key).1.uses ≤ _; omega⟩
  · have e : getK s keys (k + 1) = getK s keys k := by unfold getK; rw [List.take_of_length_le (by omega), List.take_of_length_le (by omega)]
    rw [e]
    exact ⟨ih, by omega⟩
theorem Gd.flush {s : StoreR} (h : Gd s) : Gd (flushN s) := by
 obtain ⟨h1, h2, h3, a, b, c, d⟩ := gd_iff.1 h
 obtain ⟨m1, m2, m3, m4, m5⟩ := mayB_facts.1 h3
 refine gd_iff.2 ⟨h1, h2, mayB_facts.2 ⟨m1, m2, (show ((0 : Nat) : Int) ≤ s.fm by omega), (show 1 ≤ s.fx - ((0 : Nat) : Int) by omega), rfl⟩, Nat.zero_le _, List.Pairwise.nil, (fun it hit => nomatch hit), fun n hn => ?_⟩
 have := d n hn
 show ((0 : Nat) : Int) ≤ roomN s n
 omega
theorem Gd.ansN {s : StoreR} (h : Gd s) {q : RqR} (hq : q.kind ≠ 1 → q.kind ≠ 12 → q.kind ≠ 13 → QOk q) (hkl : q.kind = 1 → q.keys.length ≤ 10) (hus : s.uses ≤ 1099511627766) : Gd (ansN s q).1 := by
 unfold Go.Proofs.YtdblegdgmjakfaaGreatDoor.ansN
 split
 · next hk => exact (getK_gd h q.keys _ (by have := hkl hk; omega)).1
 split
 · exact h.flush
 split
 · exact h
 · next h1 h2 h3 => exact h.oneN (hq h1 h2 h3) (by omega)

/- store.join. -/

set_option maxHeartbeats 40000000 in
set_option maxRecDepth 100000 in
theorem join_walk (O : Nat → Prop) (s : StoreR) (B : Nat) (kd fl ex nn : Int) (key vl : ByteArray) (ka : Option Addr) (kn kc : Nat) (qt : Bool) (old : ItemR) (V : ByteArray) (w : World) (h : StO O w B s) (hl : s.items.length ≤ 1000) (hkd : kd ≠ 6) (hvs : V.size ≤ 300) (hvl : vl.size ≤ 200)
 (hsm : ¬ 200 < (V ++ vl).size) (P : StoreR × Bool)
 (hpv : ∀ wx, Below w.heap.size w wx → Calls Tryz.prog 112 #[.pointer (some ⟨B, 0, none⟩), .agg #[.string old.key, .int .i64 old.flags, .int .i64 old.until_, .int .i64 old.cas, .int .i64 old.used, .string old.value, .bool old.far, .int .i64 old.page, .int .i64 old.at_], .string key, .string (V ++ vl), replyV 2 0] wx fun e w' => e = .returned (if P.2 = true then replyV 2 0 else replyV 11 0) ∧ StPost O wx B P.1 w')
 (hval : ∀ (pa : Option Addr) (pc : Nat) (wx : World), PagesAt wx pa s.pages → Calls Tryz.prog 82 #[.agg #[.int .i64 s.fm, .int .i64 s.fx, .slice pa s.pages.length pc], .agg #[.string old.key, .int .i64 old.flags, .int .i64 old.until_, .int .i64 old.cas, .int .i64 old.used, .string old.value, .bool old.far, .int .i64 old.page, .int .i64 old.at_]] wx fun e w' => e = .returned (.string V) ∧ Below wx.heap.size wx w') :
 Calls Tryz.prog 84 #[.pointer (some ⟨B, 0, none⟩), .agg #[.int .i64 kd, .string key, .slice ka kn kc, .int .i64 fl, .int .i64 ex, .int .i64 nn, .string vl, .bool qt], .agg #[.string old.key, .int .i64 old.flags, .int .i64 old.until_, .int .i64 old.cas, .int .i64 old.used, .string old.value, .bool old.far, .int .i64 old.page, .int .i64 old.at_]] w fun e w' => e = .returned (if P.2 = true then replyV 2 0 else replyV 11 0) ∧ StPost O w B P.1 w' := by
 have hrv : (if P.2 = true then replyV 2 0 else replyV 11 0) = replyV (if P.2 = true then 2 else 11) 0 := by split <;> rfl
 rw [hrv] at hpv ⊢
 clear hrv
 generalize (if P.2 = true then (2 : Int) else 11) = KK at *
 have htl := told_any 2
 unfold replyV at *
 have HPV : Hid _ := hpv
 clear hpv
 have hsmz : ¬ ((200 : Int) < ((V ++ vl).size : Int)) := by omega
 generalize hVV : V ++ vl = VV at *
 obtain ⟨iv, pa, pc, Op, h⟩ := h
 obtain ⟨a, cp, e0, hA⟩ := h.row.items (by unfold maxLen; omega)
 subst e0
 have hlt := h.lt
 have hbB := h.box
 have hPA : PagesAt w pa s.pages := h.pages w (Nat.le_refl _) (fun _ _ _ => rfl)
 unfold stCells at hbB
 have T0 := ((TB.new 47 w #[.int .i64 kd, .string key, .slice ka kn kc, .int .i64 fl, .int .i64 ex, .int .i64 nn, .string vl, .bool qt]).alloc (.cells #[.string old.key, .int .i64 old.flags, .int .i64 old.until_, .int .i64 old.cas, .int .i64 old.used, .string old.value, .bool old.far, .int .i64 old.page, .int .i64 old.at_] 62)).alloc (.cells #[.int .i64 0, .int .i64 0, .slice none 0 0] 42)
 have T1 : TB 62 _ (w.heap.size + 1) #[.string old.key, .int .i64 old.flags, .int .i64 old.until_, .int .i64 old.cas, .int .i64 old.used, .string old.value, .bool old.far, .int .i64 old.page, .int .i64 old.at_] := (TB.new2 (w := w.alloc (.cells #[.int .i64 kd, .string key, .slice ka kn kc, .int .i64 fl, .int .i64 ex, .int .i64 nn, .string vl, .bool qt] 47)) (by simp)).alloc (.cells #[.int .i64 0, .int .i64 0, .slice none 0 0] 42)
 have T2 : TB 42 _ (w.heap.size + 1 + 1) #[.int .i64 0, .int .i64 0, .slice none 0 0] := TB.new2 (w := (w.alloc (.cells #[.int .i64 kd, .string key, .slice ka kn kc, .int .i64 fl, .int .i64 ex, .int .i64 nn, .string vl, .bool qt] 47)).alloc (.cells #[.string old.key, .int .i64 old.flags, .int .i64 old.until_, .int .i64 old.cas, .int .i64 old.used, .string old.value, .bool old.far, .int .i64 old.page, .int .i64 old.at_] 62)) (by simp)
 have A3 : Below w.heap.size w (((w.alloc (.cells #[.int .i64 kd, .string key, .slice ka kn kc, .int .i64 fl, .int .i64 ex, .int .i64 nn, .string vl, .bool qt] 47)).alloc (.cells #[.string old.key, .int .i64 old.flags, .int .i64 old.until_, .int .i64 old.cas, .int .i64 old.used, .string old.value, .bool old.far, .int .i64 old.page, .int .i64 old.at_] 62)).alloc (.cells #[.int .i64 0, .int .i64 0, .slice none 0 0] 42)) := below_al (below_al (below_al (Below.refl _ _) _) _) _
 have hfit : V.size + vl.size ≤ 600 := by omega
 have hfitn : ¬ (9223372036854775807 < V.size + vl.size) := by omega
 have hfitz : ¬ ((281474976710656 : Int) < (V.size : Int) + (vl.size : Int)) := by omega
 have hfit2 : V.size + vl.size ≤ 9223372036854775807 := by omega
 have hk6 : (kd == 6) = false := by simp [hkd]
 go_enter Tryz.func84, Tryz.ntmps84
 go_wp2_with fail
 generalize hW3 : (((w.alloc (.cells #[.int .i64 kd, .string key, .slice ka kn kc, .int .i64 fl, .int .i64 ex, .int .i64 nn, .string vl, .bool qt] 47)).alloc (.cells #[.string old.key, .int .i64 old.flags, .int .i64 old.until_, .int .i64 old.cas, .int .i64 old.used, .string old.value, .bool old.far, .int .i64 old.page, .int .i64 old.at_] 62)).alloc (.cells #[.int .i64 0, .int .i64 0, .slice none 0 0] 42)) = W3 at *
 clear hW3
 have TB3 := hbB.later A3
 have x0 := fun j => T0.cell j
 have l0 := T0.lt
 have x1 := fun j => T1.cell j
 have l1 := T1.lt
 have xB := fun j => TB3.cell j
 have lB := TB3.lt
 have kS : ∀ wx, Below W3.heap.size W3 wx → (fun wx => (∀ j, wx.cell? ⟨w.heap.size, j, none⟩ = (#[.int .i64 kd, .string key, .slice ka kn kc, .int .i64 fl, .int .i64 ex, .int .i64 nn, .string vl, .bool qt] : Array Value)[j]?) ∧ (∀ j, wx.cell? ⟨w.heap.size + 1, j, none⟩ = (#[.string old.key, .int .i64 old.flags, .int .i64 old.until_, .int .i64 old.cas, .int .i64 old.used, .string old.value, .bool old.far, .int .i64 old.page, .int .i64 old.at_] : Array Value)[j]?) ∧ (∀ j, wx.cell? ⟨B, j, none⟩ = (#[.int .i64 s.clock, .int .i64 s.cas, .int .i64 s.uses, .int .i64 s.most, .int .i64 s.h0, .int .i64 s.h1, .int .i64 s.h2, .int .i64 s.h3, .slice a s.items.length cp, .int .i64 s.fm, .int .i64 s.fx, .slice pa s.pages.length pc] : Array Value)[j]?) ∧ Below W3.heap.size W3 wx) wx := fun wx hx => ⟨fun j => by rw [hx.cell (p := ⟨w.heap.size, j, none⟩) l0]; exact x0 j, fun j => by rw [hx.cell (p := ⟨w.heap.size + 1, j, none⟩) l1]; exact x1 j, fun j => by rw [hx.cell (p := ⟨B, j, none⟩) lB]; exact xB j, hx⟩
 go_region_held3 (fun wx => (∀ j, wx.cell? ⟨w.heap.size, j, none⟩ = (#[.int .i64 kd, .string key, .slice ka kn kc, .int .i64 fl, .int .i64 ex, .int .i64 nn, .string vl, .bool qt] : Array Value)[j]?) ∧ (∀ j, wx.cell? ⟨w.heap.size + 1, j, none⟩ = (#[.string old.key, .int .i64 old.flags, .int .i64 old.until_, .int .i64 old.cas, .int .i64 old.used, .string old.value, .bool old.far, .int .i64 old.page, .int .i64 old.at_] : Array Value)[j]?) ∧ (∀ j, wx.cell? ⟨B, j, none⟩ = (#[.int .i64 s.clock, .int .i64 s.cas, .int .i64 s.uses, .int .i64 s.most, .int .i64 s.h0, .int .i64 s.h1, .int .i64 s.h2, .int .i64 s.h3, .slice a s.items.length cp, .int .i64 s.fm, .int .i64 s.fx, .slice pa s.pages.length pc] : Array Value)[j]?) ∧ Below W3.heap.size W3 wx) ((refine kS _ ?_; with_reducible (repeat (first | assumption | exact Below.refl _ _ | refine Below.drew ?_ | refine below_thru ?_ hbv)))) ((go_at_call 82; refine (hval pa pc _ (hPA.later (below_thru A3 (by with_reducible (repeat (first | assumption | exact Below.refl _ _ | refine Below.drew ?_)))))).mono ?_; rintro e wv ⟨rfl, hbv⟩))
 have BV : Below W3.heap.size W3 wv := below_thru (Below.drew (Below.refl W3.heap.size W3)) hbv
 have B0 : Below w.heap.size w wv := below_thru A3 BV
 have U0 := T0.later BV
 have UI := T1.later BV
 have U2 := T2.later BV
 have q0 := fun j => U0.cell j
 have lq0 := U0.lt
 have qI := fun j => UI.cell j
 have lqI := UI.lt
 have hno0 : ¬ O w.heap.size := fun e => by have := hlt _ e; omega
 have hnoI : ¬ O (w.heap.size + 1) := fun e => by have := hlt _ e; omega
 have hno2 : ¬ O (w.heap.size + 1 + 1) := fun e => by have := hlt _ e; omega
 have HL1 : Hid (w.heap.size + 1 + 1 < wv.heap.size) := U2.lt
 clear kS x0 l0 x1 l1 xB lB T0 T1 T2 TB3 hbB h hval
 have kS : ∀ wy, Below wv.heap.size wv wy → (fun wy : World => (∀ j, wy.cell? ⟨w.heap.size, j, none⟩ = (#[.int .i64 kd, .string key, .slice ka kn kc, .int .i64 fl, .int .i64 ex, .int .i64 nn, .string vl, .bool qt] : Array Value)[j]?) ∧ (∀ j, wy.cell? ⟨w.heap.size + 1, j, none⟩ = (#[.string old.key, .int .i64 old.flags, .int .i64 old.until_, .int .i64 old.cas, .int .i64 old.used, .string old.value, .bool old.far, .int .i64 old.page, .int .i64 old.at_] : Array Value)[j]?)) wy := fun wy hy => ⟨fun j => by rw [hy.cell (p := ⟨w.heap.size, j, none⟩) lq0]; exact q0 j, fun j => by rw [hy.cell (p := ⟨w.heap.size + 1, j, none⟩) lqI]; exact qI j⟩
 go_wp2_with fail
 refine wp_region_last (S := (fun wy : World => (∀ j, wy.cell? ⟨w.heap.size, j, none⟩ = (#[.int .i64 kd, .string key, .slice ka kn kc, .int .i64 fl, .int .i64 ex, .int .i64 nn, .string vl, .bool qt] : Array Value)[j]?) ∧ (∀ j, wy.cell? ⟨w.heap.size + 1, j, none⟩ = (#[.string old.key, .int .i64 old.flags, .int .i64 old.until_, .int .i64 old.cas, .int .i64 old.used, .string old.value, .bool old.far, .int .i64 old.page, .int .i64 old.at_] : Array Value)[j]?))) 7 _ (by kernel_rfl) (by rfl) (by rfl) (by rfl) (by kernel_rfl) ?_
 have hS0 := kS wv.drew (Below.drew (Below.refl wv.heap.size wv))
 simp only [sIB, sZB, sSB]
 refine wpAnyH_take (i := 0) (v := ?tv301) rfl (by kernel_rfl) (by kernel_rfl) (by kernel_rfl) (fun _ _ _ h => h) (Or.inl ⟨by rfl, ?th301⟩) (by assumption) ?tr301
 case th301 => (intro w hSw; (try dsimp only at hSw); go_simp; try with_reducible rfl)
 try simp only [Act.put, sIB, sZB, sSB]
 refine wpAnyH_take (i := 1) (v := ?tv302) rfl (by kernel_rfl) (by kernel_rfl) (by kernel_rfl) (fun _ _ _ h => h) (Or.inl ⟨by rfl, ?th302⟩) (by assumption) ?tr302
 case th302 => (intro w hSw; (try dsimp only at hSw); go_simp; try with_reducible rfl)
 try simp only [Act.put, sIB, sZB, sSB]
 refine wpAnyH_take (i := 2) (v := ?tv303) rfl (by kernel_rfl) (by kernel_rfl) (by kernel_rfl) (fun _ _ _ h => h) (Or.inl ⟨by rfl, ?th303⟩) (by assumption) ?tr303
 case th303 => (intro w hSw; (try dsimp only at hSw); go_simp; try with_reducible rfl)
 try simp only [Act.put, sIB, sZB, sSB]
 refine wpAnyH_take (i := 3) (v := ?tv304) rfl (by kernel_rfl) (by kernel_rfl) (by kernel_rfl) (fun _ _ _ h => h) (Or.inl ⟨by rfl, ?th304⟩) (by assumption) ?tr304
 case th304 => (intro w hSw; (try dsimp only at hSw); go_simp; try with_reducible rfl)
 try simp only [Act.put, sIB, sZB, sSB]
 refine wpAnyH_take (i := 4) (v := ?tv305) rfl (by kernel_rfl) (by kernel_rfl) (by kernel_rfl) (fun _ _ _ h => h) (Or.inl ⟨by rfl, ?th305⟩) (by assumption) ?tr305
 case th305 => (intro w hSw; (try dsimp only at hSw); go_simp; try with_reducible rfl)
 try simp only [Act.put, sIB, sZB, sSB]
 refine wpAnyH_ready (rs := [5]) (by kernel_rfl) (by simp) ?_
 refine AllReadyH.cons rfl (fun K hK => ?_) AllReadyH.nil
 go_simp
 refine (htl _).mono ?_
 rintro e wc306 ⟨rfl, hbc306⟩
 have Bc306 : Below wv.heap.size wv wc306 := below_thru (Below.drew (Below.refl wv.heap.size wv)) hbc306
 have hSc306 := kS _ Bc306
 refine hK.out _ _ hSc306 ?_
 intro hSd306
 clear hK K
 try simp only [Act.put, sIB, sZB, sSB]
 refine wpAnyH_ready (rs := [6]) (by kernel_rfl) (by simp) ?_
 refine AllReadyH.cons rfl (fun K hK => ?_) AllReadyH.nil
 go_simp
 refine (HPV.out _ (below_thru B0 Bc306)).mono ?_
 rintro e wc307 ⟨rfl, hbc307⟩
 skip
 have hSc307 := (show (fun wy : World => (∀ j, wy.cell? ⟨w.heap.size, j, none⟩ = (#[.int .i64 kd, .string key, .slice ka kn kc, .int .i64 fl, .int .i64 ex, .int .i64 nn, .string vl, .bool qt] : Array Value)[j]?) ∧ (∀ j, wy.cell? ⟨w.heap.size + 1, j, none⟩ = (#[.string old.key, .int .i64 old.flags, .int .i64 old.until_, .int .i64 old.cas, .int .i64 old.used, .string old.value, .bool old.far, .int .i64 old.page, .int .i64 old.at_] : Array Value)[j]?)) wc307 from ⟨fun j => by rw [hbc307.2.cell (Nat.lt_of_lt_of_le lq0 (Below.size Bc306)) hno0]; exact (kS _ Bc306).1 j, fun j => by rw [hbc307.2.cell (Nat.lt_of_lt_of_le lqI (Below.size Bc306)) hnoI]; exact (kS _ Bc306).2 j⟩)
 refine hK.out _ _ hSc307 ?_
 intro hSd307
 clear hK K
 try simp only [Act.put, sIB, sZB, sSB]
 refine wpAnyH_ready (rs := [7]) (by kernel_rfl) (by simp) ?_
 refine AllReadyH.cons rfl (fun K hK => ?_) AllReadyH.nil
 go_simp
 refine hK.out _ _ hSd307 ?_
 intro hSl308
 clear hK K
 try simp only [Act.put, sIB, sZB, sSB]
 refine wpAnyH_done (by kernel_rfl) ?_ _
 refine LastPost.step rfl (fun K hK => ?_)
 have V1 := hbc307.2.tb (U2.later Bc306) hno2
 have x1 := fun j => V1.cell j
 have z1 := fun j => V1.frozen j
 have l1 := V1.lt
 have hQ : Hid (StQ O w _ B P.1 _) := StQ.of (below_thru B0 Bc306) hbc307
 have hsz : w.heap.size + 1 + 1 < _ := Nat.lt_of_lt_of_le (show w.heap.size + 1 + 1 < wv.heap.size from HL1.out) (Below.size Bc306)
 have HZ : Hid _ := hsz
 clear hsz
 go_simp
 refine hK _ _ ?_
 go_wp2_with fail
 refine bodyPost_ret (v := .agg #[.int .i64 KK, .int .i64 0, .slice none 0 0]) (by simp [results, Tryz.results84, go_sem, x1, l1]) rfl ⟨rfl, ?_⟩
 exact StQ.post (StQ.set (StQ.set (StQ.set (O := O) (w0 := w) (B := B) (s := P.1) hQ.out (by omega) HZ.out hlt 0 _) (by omega) HZ.out hlt 1 _) (by omega) HZ.out hlt 2 _) (Nat.le_trans B0.size (Below.size Bc306))

end Go.Proofs.YtdblegdgmjakfaaGreatDoor
