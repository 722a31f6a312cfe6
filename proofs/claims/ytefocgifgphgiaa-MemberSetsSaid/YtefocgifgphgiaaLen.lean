/-
  math/bits.Len64 and wire's bytesBehind over this translation: what they answer; the world is as it was.
-/
import Derived.Test.YtefocgifgphgiaaRows
import Derived.Lib.Strings
import Derived.Lib.Small
import Derived.Lib.Walk
import Derived.Lib.BitFns
namespace Go.Proofs.Ytefocgifgphgiaa
set_option linter.unusedVariables false

/-- The eight ways of Len64 end alike: k bits were cut off, the table has the rest. -/
theorem len_way (k : Nat) (K y x : Int) (D : Nat) (hD : D = 2 ^ k) (hK : K = (k : Int)) (hk : k ≤ 56) (h0 : 0 ≤ x) (h1 : x ≤ 18446744073709551615) (hlo : (D : Int) ≤ x) (hy : y = x / (D : Int)) (hy1 : y ≤ 255) :
    (K + ((Lib.len8 y + 9223372036854775808) % 18446744073709551616 - 9223372036854775808) + 9223372036854775808) % 18446744073709551616 - 9223372036854775808 = (Lib.bitLen x.toNat : Int) := by
  obtain ⟨n, rfl⟩ := Int.eq_ofNat_of_zero_le h0
  have e1 : y = ((n / D : Nat) : Int) := by rw [hy]; simp
  have h3 : 0 ≤ y := by rw [e1]; exact Int.natCast_nonneg _
  have h2 : n / D ≤ 255 := by omega
  have e3 := Lib.bitLen_shift k n (by omega) (by omega)
  rw [← hD] at e3
  have e4 := Lib.bitLen_le8' y h3 hy1
  rw [Lib.len8_of y h3 hy1]
  rw [e1] at e4 ⊢
  simp only [Int.toNat_natCast] at e4 ⊢
  rw [e3]
  omega

theorem len_last (y x : Int) (h0 : 0 ≤ x) (hy : y = x) (hy1 : y ≤ 255) :
    (Lib.len8 y + 9223372036854775808) % 18446744073709551616 - 9223372036854775808 = (Lib.bitLen x.toNat : Int) := by
  subst hy
  have e4 := Lib.bitLen_le8' y h0 hy1
  rw [Lib.len8_of y h0 hy1]
  omega

end Go.Proofs.Ytefocgifgphgiaa
