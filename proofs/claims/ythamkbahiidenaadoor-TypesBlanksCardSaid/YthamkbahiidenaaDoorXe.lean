/-
  Plain: a value and an expression as data.
-/
import Derived.WalkKit
namespace Go.Proofs.YthamkbahiidenaaDoor

structure Vl where
  so : Int
  n : Int
  s : ByteArray
structure Ex where
  kind : Int
  name : ByteArray
  so : Int
  n : Int
  s : ByteArray
  kids : List Ex
end Go.Proofs.YthamkbahiidenaaDoor
