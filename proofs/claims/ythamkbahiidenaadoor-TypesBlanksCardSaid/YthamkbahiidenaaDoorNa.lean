/-
  The contracts of values.checkAll (of one value) and values.needTexts (of one, of two), for every value; utf8.ValidString's contract is a hypothesis here.
-/
import Derived.Test.YthamkbahiidenaaDoorWa
namespace Go.Proofs.YthamkbahiidenaaDoor
open Go.RowKit
variable (V : ByteArray → Bool) (Tabs : World → Prop)

/-- what values.needTexts says of one value -/
def needZ1 (V : ByteArray → Bool) (so n : Int) (s : ByteArray) : Int := if chkZ V so n s = 0 then (if so = 3 then 0 else 5) else chkZ V so n s
/-- .. of two -/
def needZ2 (V : ByteArray → Bool) (so n : Int) (s : ByteArray) (so' n' : Int) (s' : ByteArray) : Int :=
  if firstNZ [chkZ V so n s, chkZ V so' n' s'] = 0 then (if so = 3 then (if so' = 3 then 0 else 5) else 5) else firstNZ [chkZ V so n s, chkZ V so' n' s']

end Go.Proofs.YthamkbahiidenaaDoor
