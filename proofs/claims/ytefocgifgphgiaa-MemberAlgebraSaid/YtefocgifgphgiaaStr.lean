/-
  The Reader's Below, Str, Left, End, and Of, strings.Clone over this translation.
-/
import Derived.Test.YtefocgifgphgiaaNum
import Derived.Lib.UnsafeStr
import Derived.Lib.BufferWrite
import Derived.Laws.MakeOwn
namespace Go.Proofs.Ytefocgifgphgiaa
open Go.RowKit
set_option linter.unusedVariables false

theorem info_u8 : (Try.prog.info? 5).map (fun i => (i.zero, i.size, i.bytes)) = some (some (.int .u8 0), 1, 1) := by kernel_rfl

end Go.Proofs.Ytefocgifgphgiaa
