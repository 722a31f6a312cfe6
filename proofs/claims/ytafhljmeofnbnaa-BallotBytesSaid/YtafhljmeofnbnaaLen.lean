/-
  math/bits.Len64 and wire's bytesBehind over this translation: what they answer; the world is as it was.
-/
import Derived.Test.YtafhljmeofnbnaaRows
import Derived.Lib.Strings
import Derived.Lib.Small
import Derived.Lib.Walk
import Derived.Lib.BitFns
namespace Go.Proofs.Ytafhljmeofnbnaa
set_option linter.unusedVariables false

/-- The eight ways of Len64 end alike: k bits were cut off, the table has the rest. -/
theorem len_way (k : Nat) (K y x : Int) (D : Nat) (hD : D = 2 ^ k) (hK : K = (k : Int)) (hk : k ≤ 56) (h0 : 0 ≤ x) (h1 : x ≤ 18446744073709551615) (hlo : (D : Int) ≤ x) (hy : y = x / (D : Int)) (hy1 : y ≤ 255) :
    (K + ((Lib.len8 y + 9223372036854775808) % 18446744073709551616 - 9223372036854775808) + 9223372036854775808) % 18446744073709551616 - 9223372036854775808 = (Lib.bitLen x.toNat : Int) := by
  obtain ⟨n, rfl⟩ := Int.eq_ofNat_of_zero_le h0
  have e1 : y = ((n / D : Nat) : Int) := by rw [hy]; simp
  have h3 : 0 ≤ y := by rw [e1]; exact Int.natCast_nonneg _
  have h2 : n / D ≤ 255 := by omega
  have e3 := Lib.bitLen_shift k n (by omega) (by omega)
  rw [← hD] at e3
  have e4 := Lib.bitLen_le8' y h3 hy1
  rw [Lib.len8_of y h3 hy1]
  rw [e1] at e4 ⊢
  simp only [Int.toNat_natCast] at e4 ⊢
  rw [e3]
  omega

theorem len_last (y x : Int) (h0 : 0 ≤ x) (hy : y = x) (hy1 : y ≤ 255) :
    (Lib.len8 y + 9223372036854775808) % 18446744073709551616 - 9223372036854775808 = (Lib.bitLen x.toNat : Int) := by
  subst hy
  have e4 := Lib.bitLen_le8' y h0 hy1
  rw [Lib.len8_of y h0 hy1]
  omega

set_option maxHeartbeats 4000000 in
set_option maxRecDepth 100000 in
theorem len64_any (x : Int) (w : World) (h0 : 0 ≤ x) (h1 : x ≤ 18446744073709551615) :
    Calls Try.prog 48 #[.int .u64 x] w fun r w' => r = .returned (.int .i64 (Lib.bitLen x.toNat)) ∧ w = w' := by
  go_enter Try.func48, Try.ntmps48
  go_wp2
  all_goals (go_ret; refine ⟨congrArg Ending.returned (congrArg (Value.int IntKind.i64) ?_), rfl⟩)
  · exact len_way 56 56 _ x 72057594037927936 rfl rfl (by decide) h0 h1 (by omega) (by omega) (by omega)
  · exact len_way 48 48 _ x 281474976710656 rfl rfl (by decide) h0 h1 (by omega) (by omega) (by omega)
  · exact len_way 40 40 _ x 1099511627776 rfl rfl (by decide) h0 h1 (by omega) (by omega) (by omega)
  · exact len_way 32 32 _ x 4294967296 rfl rfl (by decide) h0 h1 (by omega) (by omega) (by omega)
  · exact len_way 24 24 _ x 16777216 rfl rfl (by decide) h0 h1 (by omega) (by omega) (by omega)
  · exact len_way 16 16 _ x 65536 rfl rfl (by decide) h0 h1 (by omega) (by omega) (by omega)
  · exact len_way 8 8 _ x 256 rfl rfl (by decide) h0 h1 (by omega) (by omega) (by omega)
  · exact len_last _ x h0 (by omega) (by omega)

end Go.Proofs.Ytafhljmeofnbnaa
