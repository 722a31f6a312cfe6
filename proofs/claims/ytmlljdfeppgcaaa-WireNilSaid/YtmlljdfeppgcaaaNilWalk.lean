/-
  The walks of the laws WireNil and WireKnown over this translation.
-/
import Derived.Test.YtmlljdfeppgcaaaWakes
import Derived.Test.YtmlljdfeppgcaaaRowLib
namespace Go.Proofs.Ytmlljdfeppgcaaa
open Go.RowKit
set_option linter.unusedVariables false

set_option maxHeartbeats 1000000 in
theorem wireNil_walk (a0 : Int) (w0 : (Lit.int .u64 a0).wf = true) (a1 : Int) (w1 : (Lit.int .i64 a1).wf = true) (w : World) :
    Calls Try.prog 7 #[.int .u64 a0, .int .i64 a1] w fun e w' => e = .returned (.bool true) ∧ Below w.heap.size w w' := by
  have hb := bounds_i64 w1
  obtain ⟨h0, h1⟩ := hb
  go_enter Try.func7, Try.ntmps7
  go_wp2_with (first | (go_at_call 23; refine (bad_nil _).mono ?_; rintro r w2 ⟨rfl, rfl⟩) | (go_at_call 24; refine (byte_nil _).mono ?_; rintro r w2 ⟨rfl, rfl⟩) | (go_at_call 21; refine (num_nil _).mono ?_; rintro r w2 ⟨rfl, rfl⟩) | (go_at_call 22; refine (below_nil _ _).mono ?_; rintro r w2 ⟨rfl, rfl⟩) | (go_at_call 20; refine (str_nil _ _ h0 h1).mono ?_; rintro r w3 ⟨rfl, b3⟩) | (go_at_call 17; refine (left_nil _).mono ?_; rintro r w2 ⟨rfl, rfl⟩) | (go_at_call 16; refine (err_nil _).mono ?_; rintro r w2 ⟨rfl, rfl⟩) | (go_at_call 18; refine (end_nil _).mono ?_; rintro r w2 ⟨rfl, rfl⟩) | (go_at_call 9; refine (wakes_any _).mono ?_; rintro r w4 ⟨rfl, b4⟩))
  go_ret
  exact ⟨rfl, b3.trans (b4.mono b3.size)⟩

end Go.Proofs.Ytmlljdfeppgcaaa
