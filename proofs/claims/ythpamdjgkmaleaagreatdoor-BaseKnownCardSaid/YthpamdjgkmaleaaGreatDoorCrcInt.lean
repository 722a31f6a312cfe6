/-
  Layer 2: numbers of 64 bits as the model holds them.
-/
import Derived.Test.YthpamdjgkmaleaaGreatDoorMa
import Derived.Laws.BitsLemmas
namespace Go.Proofs.YthpamdjgkmaleaaGreatDoor.Crc
open Go

/-- A number of 64 bits, as the model holds it. -/
def I (x : W) : Int := (x.toNat : Int)

theorem I_lt (x : W) : I x < 18446744073709551616 := by unfold I; have := x.isLt; omega
theorem I_le (x : W) : I x ≤ 18446744073709551615 := by have := I_lt x; omega
theorem I_nonneg (x : W) : 0 ≤ I x := Int.natCast_nonneg _
theorem I_of {n : Int} (h0 : 0 ≤ n) (h1 : n ≤ 18446744073709551615) : ∃ x : W, n = I x :=
  ⟨BitVec.ofNat 64 n.toNat, by unfold I; rw [BitVec.toNat_ofNat, Nat.mod_eq_of_lt (by omega)]; omega⟩
theorem I_inj {x y : W} (h : I x = I y) : x = y := by unfold I at h; exact BitVec.eq_of_toNat_eq (by omega)
theorem I_beq (x y : W) : (I x == I y) = (x == y) := by
  by_cases h : x = y
  · subst h; simp
  · have : I x ≠ I y := fun e => h (I_inj e)
    rw [beq_eq_false_iff_ne.mpr h, beq_eq_false_iff_ne.mpr this]

theorem ofI (x : W) : BitVec.ofInt 64 (I x) = x := by unfold I; rw [BitVec.ofInt_natCast, BitVec.ofNat_toNat, BitVec.setWidth_eq]

theorem wrapI (x : W) : IntKind.u64.wrap (I x) = I x := by
  have h0 := I_nonneg x
  have h1 := I_lt x
  simp only [IntKind.wrap, IntKind.bits, IntKind.signed]
  generalize I x = n at h0 h1
  simp
  omega

theorem xorI (x y : W) : bits .xor .u64 (I x) (I y) = I (x ^^^ y) := by
  show IntKind.u64.wrap (((BitVec.ofInt 64 (I x) ^^^ BitVec.ofInt 64 (I y)).toNat : Nat) : Int) = _
  rw [ofI, ofI]; exact wrapI _
theorem andI (x y : W) : bits .and .u64 (I x) (I y) = I (x &&& y) := by
  show IntKind.u64.wrap (((BitVec.ofInt 64 (I x) &&& BitVec.ofInt 64 (I y)).toNat : Nat) : Int) = _
  rw [ofI, ofI]; exact wrapI _
theorem I_ones : I (BitVec.allOnes 64) = 18446744073709551615 := by decide
theorem I_poly : I poly = 14514072000185962306 := by decide
theorem I_zero : I 0#64 = 0 := by decide
theorem I_one : I 1#64 = 1 := by decide
theorem notI (x : W) : bits .xor .u64 18446744073709551615 (I x) = I (~~~ x) := by rw [← I_ones, xorI, not_xor]
theorem polyI (x : W) : bits .xor .u64 (I x) 14514072000185962306 = I (x ^^^ poly) := by rw [← I_poly, xorI]

theorem halfI (x : W) : I x / (2 : Int) = I (x >>> 1) := by
  unfold I
  rw [BitVec.toNat_ushiftRight, Nat.shiftRight_eq_div_pow]
  rfl

theorem lsb_nat (x : W) : x.getLsbD 0 = decide (x.toNat % 2 = 1) := by
  rw [← BitVec.testBit_toNat, Nat.testBit_zero]

theorem oddI (x : W) : I x % 2 = if x.getLsbD 0 then 1 else 0 := by
  rw [lsb_nat]
  unfold I
  by_cases h : x.toNat % 2 = 1
  · simp [h]; omega
  · simp [h]; omega

theorem low_one (x : W) : x &&& 1#64 = if x.getLsbD 0 then 1#64 else 0#64 := by
  apply BitVec.eq_of_getLsbD_eq
  intro i hi
  rw [BitVec.getLsbD_and, BitVec.getLsbD_one]
  by_cases h : i = 0
  · subst h
    cases h0 : x.getLsbD 0 <;> simp
  · have : decide (0 < 64 ∧ i = 0) = false := by simp [h]
    cases h0 : x.getLsbD 0 <;> simp [h]

theorem lowI (x : W) : bits .and .u64 (I x) 1 = if x.getLsbD 0 then 1 else 0 := by
  rw [← I_one, andI, low_one]
  cases x.getLsbD 0 <;> rfl

theorem byteI (c : UInt8) : (c.toNat : Int) = I (byte c) := by
  unfold I byte
  have := c.toNat_lt
  rw [BitVec.toNat_ofNat, Nat.mod_eq_of_lt (by omega)]

/-! ### A linear map is what it makes of each bit -/
def ap (M : Nat → W) (f : Nat → Bool) : Nat → W
  | 0 => 0#64
  | k + 1 => ap M f k ^^^ (if f k then M k else 0#64)

theorem ap_word (T : W → W) (h0 : T 0#64 = 0#64) (hx : ∀ x y, T (x ^^^ y) = T x ^^^ T y) (f : Nat → Bool) : ∀ k, T (word f k) = ap (fun i => T (1#64 <<< i)) f k
  | 0 => h0
  | k + 1 => by
    rw [word, hx, ap_word T h0 hx f k, ap]
    cases f k
    · rw [if_neg (by simp), if_neg (by simp), h0]
    · rw [if_pos rfl, if_pos rfl]

theorem ap_all (T : W → W) (h0 : T 0#64 = 0#64) (hx : ∀ x y, T (x ^^^ y) = T x ^^^ T y) (x : W) : ap (fun i => T (1#64 <<< i)) x.getLsbD 64 = T x := by
  rw [← ap_word T h0 hx, word_all x.getLsbD x 64 (by omega)]
  intro i hi
  simp [hi]

theorem ap_congr {M N : Nat → W} (f : Nat → Bool) : ∀ k, (∀ i, i < k → M i = N i) → ap M f k = ap N f k
  | 0, _ => rfl
  | k + 1, h => by rw [ap, ap, ap_congr f k (fun i hi => h i (by omega)), h k (by omega)]

/-- The columns of so many steps: what they make of a number. -/
theorem ap_steps (n : Nat) (x : W) : ap (fun i => steps n (1#64 <<< i)) x.getLsbD 64 = steps n x := ap_all (steps n) (steps_zero n) (steps_xor n) x

end Go.Proofs.YthpamdjgkmaleaaGreatDoor.Crc
