/- Check and Moved of an edit (laid by gen_dmoved.py). -/
import Derived.Test.YtneelmmikaefgaaDTwice
namespace Go.Proofs.Ytneelmmikaefgaa
open Go.RowKit
set_option linter.unusedSimpArgs false

/-- is one car, one stop, one car's hold named twice? -/
def twiceE (d : Edit) : Bool := twiceI (d.turns.map Turn.c) || twiceI (d.locks.map Hold.n) || twiceI (d.ices.map Hold.n)
end Go.Proofs.Ytneelmmikaefgaa
