/- trip.pairsWhole: what it answers of a problem in memory. -/
import Derived.Test.YtpccoflebfblbaaTripParts
import Derived.Deep.Cut
import Derived.Deep.CutRange
import Derived.Deep.CutBlock
namespace Go.Proofs.Ytpccoflebfblbaa
open Go.RowKit
set_option linter.unusedSimpArgs false

end Go.Proofs.Ytpccoflebfblbaa
