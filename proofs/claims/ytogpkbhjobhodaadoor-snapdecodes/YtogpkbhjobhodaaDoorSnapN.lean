/- The contract of snap.appendNumbers. -/
import Derived.Test.YtogpkbhjobhodaaDoorSnapB
namespace Go.Proofs.YtogpkbhjobhodaaDoor
open Go.ChangeShapes Go.WideShapes Go.ChangeAt Go.RowKit
set_option linter.unusedVariables false
set_option linter.unusedSimpArgs false

theorem take_len (ns : List Nat) (hs : ∀ m ∈ ns, m < 9223372036854775808) (k : Nat) : ((ns.take k).flatMap sev).length ≤ ns.length * 9 := by
  induction ns generalizing k with
  | nil => simp
  | cons x r ih =>
    cases k with
    | zero => simp
    | succ k =>
      have h1 := ih (fun m hm => hs m (List.mem_cons_of_mem _ hm)) k
      have h2 := sev_len 8 x (by have := hs x (List.mem_cons_self ..); omega)
      simp only [List.take_succ_cons, List.flatMap_cons, List.length_append, List.length_cons]
      omega

def AppPost (n : Nat) (v : Value) (l : List UInt8) (w : World) (e : Ending) (w' : World) : Prop := ∃ v', e = .returned v' ∧ RowB n w' v' l ∧ Grew w v w' v'

end Go.Proofs.YtogpkbhjobhodaaDoor
