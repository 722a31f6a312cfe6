/-
  The document's own reader (package palaverref01) over this translation: it answers what the plain reader answers.
-/
import Derived.Test.YtddicpgkagkmiaaRefNum
import Derived.RegionTactic
import Derived.ChangeAlike
import Derived.Deep.QuietTactic
import Derived.BigQuiet
namespace Go.Proofs.Ytddicpgkagkmiaa
open Go.RowKit
set_option linter.unusedVariables false

/-- The document's reader's value for what the plain reader holds. -/
def refV (s : St) : Value := .agg #[.string (B (if s.e = 0 then s.l else [])), .int .i64 s.e]
theorem refV_ok (l : List UInt8) : refV ⟨0, l⟩ = .agg #[.string (B l), .int .i64 0] := rfl
theorem refV_err (e : Int) (l : List UInt8) (h : e ≠ 0) : refV ⟨e, l⟩ = .agg #[.string ⟨#[]⟩, .int .i64 e] := by simp [refV, h]

theorem none_any (e : Int) (w : World) : Calls Try.prog 44 #[.int .i64 e] w fun r w' => r = .returned (.agg #[.string ⟨#[]⟩, .int .i64 e]) ∧ w.alloc (.cells #[.string ⟨#[]⟩, .int .i64 e] 57) = w' := by
  go_enter Try.func44, Try.ntmps44
  go_wp2
  exact bodyPost_ret (v := .agg #[.string ⟨#[]⟩, .int .i64 e]) (by simp [results, Try.results44, go_sem]) rfl ⟨rfl, rfl⟩

theorem below_steps : True := trivial

theorem B_tail (c : UInt8) (t : List UInt8) : (B (c :: t)).extract 1 (t.length + 1) = B t := by
  rw [B_extract]; simp

end Go.Proofs.Ytddicpgkagkmiaa
