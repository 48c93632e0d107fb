/- A region's end under a relation: what follows is walked once. -/
import Derived.Test.YtbabiandegianaaTB
namespace Go.Proofs.Ytbabiandegianaa
open Go.ChangeShapes Go.WideShapes Go.ChangeAt Go.RowKit
set_option linter.unusedVariables false

def RelPost (R : Act → World → Prop) : Exit → Act → World → Prop
  | .normal, a, w => R a w
  | _, _, _ => False

theorem region_rel {P : Program} {c : Code} {Q : Exit → Act → World → Prop} {a : Act} {w : World} (R : Act → World → Prop) (h1 : c.wp P (RelPost R) a w) (h2 : ∀ a' w', R a' w' → Q Exit.normal a' w') : c.wp P Q a w :=
  Code.wp_mono (fun e a' w' h => by
    cases e <;> first | exact h2 _ _ h | exact (h : False).elim) h1

end Go.Proofs.Ytbabiandegianaa
