/-
  LogNil and LogKnown over this translation: they answer true, whatever the input; of what was there nothing has turned.
-/
import Derived.Test.YtjidadolfpjdeaaGreatDoorMf
import Derived.Test.YtjidadolfpjdeaaGreatDoorLgNil
import Derived.Test.YtjidadolfpjdeaaGreatDoorLgKnWalk
namespace Go.Proofs.YtjidadolfpjdeaaGreatDoor
open Go.RowKit
set_option linter.unusedVariables false

theorem logNil_walk (s : ByteArray) (hs : s.size ≤ maxLen) {W : World} (E : Env W) : Calls Tryz.prog 3 #[.string s] W fun e w' => e = .returned (.bool true) ∧ Below W.heap.size W w' := by
  have := logNil_go logSpec s.data.toList E
  rw [show B s.data.toList = s from (B_data s).symm] at this
  exact this
theorem logKnown_walk {W : World} (E : Env W) : Calls Tryz.prog 7 #[] W fun e w' => e = .returned (.bool true) ∧ Below W.heap.size W w' := logKnown_go logSpec E

end Go.Proofs.YtjidadolfpjdeaaGreatDoor
