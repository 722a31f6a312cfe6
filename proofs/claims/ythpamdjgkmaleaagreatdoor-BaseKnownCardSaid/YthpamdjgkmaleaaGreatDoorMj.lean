/-
The document's own Num and Str (package palaverref01) over this translation: they answer the plain bytes.
-/
import Derived.Test.YthpamdjgkmaleaaGreatDoorMi
import Derived.Test.YthpamdjgkmaleaaGreatDoorMa
namespace Go.Proofs.YthpamdjgkmaleaaGreatDoor
open Go.RowKit
set_option linter.unusedVariables false

theorem B_append (l t : List UInt8) : B l ++ B t = B (l ++ t) := by
  apply ByteArray.ext; simp

end Go.Proofs.YthpamdjgkmaleaaGreatDoor
