/- The walk of dovecoteref.FlashRead. -/
import Derived.Test.YtbabiandegianaaFReadR
namespace Go.Proofs.Ytbabiandegianaa
open Go.ChangeShapes Go.WideShapes Go.ChangeAt Go.RowKit
set_option linter.unusedVariables false
set_option linter.unusedSimpArgs false

theorem cell_lt {W : World} {b o : Nat} {v : Value} (h : W.cell? ⟨b, o, none⟩ = some v) : b < W.heap.size := by
  rcases Nat.lt_or_ge b W.heap.size with h' | h'
  · exact h'
  · simp [World.cell?, Array.getElem?_eq_none h'] at h

def VIn : Prop := ∀ (l : List UInt8) (a : Option Addr) (c : Nat) (w : World), BytesAt w a l → l.length ≤ 256 → l.length ≤ c → c ≤ maxLen → Calls Try.prog 27 #[.slice a l.length c] w fun e w' =>
  ∃ u v, e = .returned (.tuple #[u, v, .bool (recsB l)]) ∧ Below w.heap.size w w' ∧ (recsB l = true → ∃ vs os, OwnS w w' u vs ∧ OwnI w w' v os ∧ vs.length = os.length ∧ vs.length ≤ 256 ∧ valsAt 0 l = os.zip vs)

end Go.Proofs.Ytbabiandegianaa
