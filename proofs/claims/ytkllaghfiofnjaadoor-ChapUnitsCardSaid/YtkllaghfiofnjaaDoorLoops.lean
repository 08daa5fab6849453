/- The bodies of loops. -/
import Derived.Control
namespace Go.Proofs.YtkllaghfiofnjaaDoor
/-- The bodies of the loops of a piece of code that lie in no other loop, in the text's order. -/
def loopsOf : Code → List Code
  | .loop c => [c]
  | .seq a b => loopsOf a ++ loopsOf b
  | .block _ c => loopsOf c
  | .scope c => loopsOf c
  | .cond _ a b => loopsOf a ++ loopsOf b
  | _ => []
end Go.Proofs.YtkllaghfiofnjaaDoor
