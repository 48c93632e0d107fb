/- What a row's listed package-level tables give the walks: arrays of texts and of numbers, cell by cell. -/
import Derived.Test.YtkjfkonekajffaaDoorRows
import Derived.ProofKit
import Derived.OpenShut
import Derived.LaidMore
import Derived.Lay
import Derived.Lib.LaidTab
import Derived.Lib.ItoaNum
import Derived.Stop.LaidErr
import Derived.Stop.Joined
namespace Go.Proofs.YtkjfkonekajffaaDoor
open Go.ChangeShapes Go.WideShapes Go.ChangeAt Go.RowKit

theorem strs_of_tab {H : Type} {enc : TypeId × Value → H} {P : Program} {w : World} {base : Nat} {sp : Nat → Bool} {held : Bool} {fuel : Nat} {t e : TypeId} {n : Nat} {cs : List Value} {l : List ByteArray} {p : List MemPlace}
    (ht : P.underlying t = some (.array n e)) (he : P.underlying e = some .string) (hce : P.cellsOf e = 1)
    (h : DataW.trod enc P w base sp held fuel t cs = some (.agg (l.map fun s => .lit (.string s.data.toList)), p)) : ∀ k, k < l.length → cs[k]? = some (.string (l.getD k ByteArray.empty)) := by
  obtain ⟨xs, m, _, ex, _, hl, hel⟩ := DataW.trod_array ht h
  have e3 : (xs.map (·.1)) = l.map fun s => (.lit (.string s.data.toList) : DataW H) := (DataW.agg.inj (Prod.mk.inj ex).1).symm
  have hlen : l.length = n := by
    have := congrArg List.length e3
    simp at this
    omega
  intro k hk
  have hE := hel k (by omega)
  rw [hce, Nat.mul_one, List.getElem?_eq_getElem (by omega)] at hE
  obtain ⟨s, e1, e2, _⟩ := DataW.trod_string he hE
  have e4 : (xs.map (·.1))[k]? = (l.map fun s => (.lit (.string s.data.toList) : DataW H))[k]? := by rw [e3]
  rw [List.getElem?_map, List.getElem?_map, List.getElem?_eq_getElem (by omega : k < xs.length), List.getElem?_eq_getElem hk, e2] at e4
  simp only [Option.map_some, Option.some.injEq, DataW.lit.injEq, Lit.string.injEq] at e4
  have hs : s = l.getD k ByteArray.empty := by
    rw [List.getD_eq_getElem?_getD, List.getElem?_eq_getElem hk]
    apply ByteArray.ext
    exact Array.toList_inj.1 e4
  rw [← hs]
  have h0 : ((cs.drop k).take 1)[0]? = some (.string s) := by rw [e1]; rfl
  simpa using h0

theorem strsIs_of_head {P : Program} {W : World} {name : String} {l : List ByteArray} {rest : List (String × DataW Unit)} {g : Nat} {t e : TypeId} {n : Nat}
    (hg : P.globalNamed name = some g) (hty : (P.globals[g]?).map (·.type) = some t) (ht : P.underlying t = some (.array n e)) (he : P.underlying e = some .string) (hce : P.cellsOf e = 1)
    (h : laidMet P ((name, .agg (l.map fun s => .lit (.string s.data.toList))) :: rest) W) : g < W.heap.size ∧ ∀ k, k < l.length → W.cell? ⟨g, k, none⟩ = some (.string (l.getD k ByteArray.empty)) := by
  obtain ⟨ps, ⟨g', t', cs, fuel, p, q, hg', ht', hvar, hd, _, _⟩, _⟩ := h
  obtain rfl := Option.some.inj (hg.symm.trans hg')
  obtain rfl := Option.some.inj (hty.symm.trans ht')
  have hc := strs_of_tab ht he hce hd
  refine ⟨?_, fun k hk => ?_⟩
  · unfold World.var? at hvar
    rw [hg] at hvar
    simp only [Option.bind_some] at hvar
    rcases Nat.lt_or_ge g W.heap.size with h' | h'
    · exact h'
    · rw [Array.getElem?_eq_none h'] at hvar; cases hvar
  · rw [World.var?_cell hg hvar k]
    simpa using hc k hk
end Go.Proofs.YtkjfkonekajffaaDoor
