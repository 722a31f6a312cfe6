/-
The document's own frames (package palaverref03) over this translation: they answer the plain ones.
The document's own Split (package palaverref03), and its Same of two rows of texts, over this translation.
-/
import Derived.Test.YtjidadolfpjdeaaGreatDoorRefRdN
import Derived.Test.YtjidadolfpjdeaaGreatDoorRefCrc
import Derived.Test.YtjidadolfpjdeaaGreatDoorFrSplit
import Derived.Deep.RegionWith
namespace Go.Proofs.YtjidadolfpjdeaaGreatDoor
open Go.RowKit
set_option linter.unusedVariables false

theorem low_rest (x k : Nat) : ((UInt8.ofNat (x / 256 ^ k % 256)).toNat : Int) = ((x / 256 ^ k : Nat) : Int) % 256 := by
  rw [UInt8.toNat_ofNat']
  omega

theorem frameL_pos (l : List UInt8) : 9 ≤ (frameL l).length := by
  rw [frameL_length, enc_length]; omega
theorem frameL_le (l : List UInt8) (hl : l.length ≤ 1000000) : (frameL l).length ≤ l.length + 17 := by
  have := nb_le8 (show l.length < 2 ^ 64 by omega)
  rw [frameL_length, enc_length]; omega

end Go.Proofs.YtjidadolfpjdeaaGreatDoor

namespace Go.Proofs.YtjidadolfpjdeaaGreatDoor
open Go.RowKit
set_option linter.unusedVariables false

/-- An owned row of texts whose value is written out. -/
theorem row_val {W : World} {b : Nat} {e : TypeId} {size : Nat} {v : Value} {k : Nat} {xs : List Value} (h : W.ownsRow b e size v k xs) : ∃ a c, v = .slice a k c := by
  rcases h.2 with ⟨rfl, rfl⟩ | ⟨g, cap, cur, rfl, _⟩
  · exact ⟨_, _, rfl⟩
  · exact ⟨_, _, rfl⟩

theorem ownsRow_below {W W' : World} {b : Nat} {e : TypeId} {size : Nat} {v : Value} {k : Nat} {xs : List Value} (h : W.ownsRow b e size v k xs) (hb : Below W.heap.size W W') : W'.ownsRow b e size v k xs := by
  refine h.kept (grown_of_below (row := none) hb) ?_
  cases hv : v.ownBlock with
  | none => exact .inl rfl
  | some g => exact .inr (by simp)

end Go.Proofs.YtjidadolfpjdeaaGreatDoor
