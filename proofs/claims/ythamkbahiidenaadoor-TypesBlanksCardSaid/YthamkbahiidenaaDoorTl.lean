/-
  The contract of values.Length, for every value; utf8.ValidString's contract is a hypothesis here.
-/
import Derived.Test.YthamkbahiidenaaDoorNa
import Derived.Test.YthamkbahiidenaaDoorBu
import Derived.Test.YthamkbahiidenaaDoorUb
import Derived.Lib.OwnBridge
namespace Go.Proofs.YthamkbahiidenaaDoor
open Go.RowKit Go.Shelf
variable (V : ByteArray → Bool) (Tabs : World → Prop)

theorem count_any (s : ByteArray) (w : World) (hs : s.size < 9223372036854775807) :
    Calls Tryd.prog 59 #[.string s] w fun e w' => e = .returned (.int .i64 (Lib.runeCount s)) ∧ Below w.heap.size w w' :=
  (Any.utf8_RuneCountInString Tryd.lays195 s w hs).mono (by
    rintro e w' ⟨rfl, pos, rfl⟩
    exact ⟨rfl, (Below.refl _ _).alloc (Nat.le_refl _) _⟩)

/-- what values.Length tells of a value that may be any -/
def lenZ (V : ByteArray → Bool) (so n : Int) (s : ByteArray) : Int := if needZ1 V so n s = 0 then (Lib.runeCount s : Int) else 0

end Go.Proofs.YthamkbahiidenaaDoor
