/-
  The contract of values.Order, for every two values: what it tells, and that nothing old has turned; utf8.ValidString's and strings.Compare's contracts are hypotheses here.
-/
import Derived.Test.YthamkbahiidenaaDoorWa
import Derived.Deep.RegionHeld3
import Derived.Deep.DeepFit
import Derived.Lib.Bytealg
namespace Go.Proofs.YthamkbahiidenaaDoor
open Go.RowKit
variable (V : ByteArray → Bool) (Tabs : World → Prop)
/-- what values.Order tells -/
def ordZ (so n : Int) (s : ByteArray) (so' n' : Int) (s' : ByteArray) : Int := firstNZ [cmpZ so so', cmpZ n n', Lib.compareBytes s.data.toList s'.data.toList]

end Go.Proofs.YthamkbahiidenaaDoor
