/-
The document's own Num and Str (package palaverref01) over this translation: they answer the plain bytes.
The document's own reader (package palaverref01) over this translation: it answers what the plain reader answers.
-/
import Derived.Test.YtjidadolfpjdeaaGreatDoorMi
import Derived.Test.YtjidadolfpjdeaaGreatDoorMa
import Derived.RegionTactic
import Derived.ChangeAlike
import Derived.Deep.QuietTactic
import Derived.BigQuiet
namespace Go.Proofs.YtjidadolfpjdeaaGreatDoor
open Go.RowKit
set_option linter.unusedVariables false

theorem B_append (l t : List UInt8) : B l ++ B t = B (l ++ t) := by
  apply ByteArray.ext; simp

end Go.Proofs.YtjidadolfpjdeaaGreatDoor

namespace Go.Proofs.YtjidadolfpjdeaaGreatDoor
open Go.RowKit
set_option linter.unusedVariables false

/-- The document's reader's value for what the plain reader holds. -/
def refV (s : St) : Value := .agg #[.string (B (if s.e = 0 then s.l else [])), .int .i64 s.e]
theorem refV_ok (l : List UInt8) : refV ⟨0, l⟩ = .agg #[.string (B l), .int .i64 0] := rfl
theorem refV_err (e : Int) (l : List UInt8) (h : e ≠ 0) : refV ⟨e, l⟩ = .agg #[.string ⟨#[]⟩, .int .i64 e] := by simp [refV, h]

theorem below_steps : True := trivial

theorem B_tail (c : UInt8) (t : List UInt8) : (B (c :: t)).extract 1 (t.length + 1) = B t := by
  rw [B_extract]; simp

end Go.Proofs.YtjidadolfpjdeaaGreatDoor
