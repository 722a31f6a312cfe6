/-
  The document's own reader (package palaverref01), its Num, over this translation.
-/
import Derived.Test.YtjidadolfpjdeaaGreatDoorMj
import Derived.Test.YtjidadolfpjdeaaGreatDoorWakes
import Derived.Deep.RegionWith
import Derived.Deep.DrawnRows
namespace Go.Proofs.YtjidadolfpjdeaaGreatDoor
open Go.RowKit
set_option linter.unusedVariables false
attribute [local go_sem ↓] Go.wp_at_zero Go.wp_at_succ

/-- The first byte, and k bytes behind it: are they the bytes of the number that they make? -/
theorem enc_be (c : UInt8) (u : List UInt8) (k : Nat) (hk : u.length = k) (hc : k + 247 = c.toNat) (hk1 : 1 ≤ k) : (enc (be u) = c :: u) ↔ nb (be u) = k := by
  constructor
  · intro h
    have := congrArg List.length h
    rw [enc_length, List.length_cons, hk] at this; omega
  · intro h
    have h5 : ¬ be u < 248 := fun hh => by rw [nb_small hh] at h; omega
    rw [enc_big (by omega), h, dig_be k u hk, show 247 + k = c.toNat from by omega]
    simp

end Go.Proofs.YtjidadolfpjdeaaGreatDoor
