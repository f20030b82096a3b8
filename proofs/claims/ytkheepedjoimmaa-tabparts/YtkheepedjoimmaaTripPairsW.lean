/- trip.pairsWhole: what it answers of a problem in memory. -/
import Derived.Test.YtkheepedjoimmaaTripParts
import Derived.Deep.Cut
import Derived.Deep.CutRange
import Derived.Deep.CutBlock
namespace Go.Proofs.Ytkheepedjoimmaa
open Go.RowKit
set_option linter.unusedSimpArgs false

end Go.Proofs.Ytkheepedjoimmaa
