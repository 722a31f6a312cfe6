/-
  The document's own answers of layer 2 (palaverref02): what they give.
-/
import Derived.Test.YthpamdjgkmaleaaGreatDoorRows
import Derived.Test.YthpamdjgkmaleaaGreatDoorCrcInt
import Derived.WalkKit
import Derived.WalkSpells
import Derived.WalkLawsBesides
import Derived.Lib.Hide
import Derived.Deep.DeepCutAuto
namespace Go.Proofs.YthpamdjgkmaleaaGreatDoor
open Go.RowKit Crc
set_option linter.unusedVariables false

theorem feed_take (x : Crc.W) (l : List UInt8) (k : Nat) (h : k < l.length) : feed x (l.take (k + 1)) = steps 8 (feed x (l.take k) ^^^ byte l[k]) := by
  rw [List.take_succ_eq_append_getElem h, feed_snoc]

/-- A byte of a text, put over a number. -/
theorem byte_step (y : Crc.W) (l : List UInt8) (k : Nat) (h0 : k < l.length) (h : k < (⟨l.toArray⟩ : ByteArray).size) :
    bits .xor .u64 (I y) (IntKind.u64.wrap (((⟨l.toArray⟩ : ByteArray)[k]'h).toNat : Int)) = I (y ^^^ byte l[k]) := by
  have e : (⟨l.toArray⟩ : ByteArray)[k]'h = l[k] := rfl
  rw [e, byteI, wrapI, xorI]

theorem not_max (x : Crc.W) : bits .xor .u64 IntKind.u64.max (I x) = I (~~~ x) := notI x

end Go.Proofs.YthpamdjgkmaleaaGreatDoor
