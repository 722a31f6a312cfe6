/-
  Plain facts (no Go in it) of layer 2: a text bit by bit; up to 64 bits side by side that changed.
-/
import Derived.Test.YtddicpgkagkmiaaCrcPure
namespace Go.Proofs.Ytddicpgkagkmiaa.Crc

def bit (b : Bool) : W := if b then 1#64 else 0#64

/-- So many bits, one behind the other. -/
def G (x : W) (f : Nat → Bool) : Nat → W
  | 0 => x
  | n + 1 => stp (G x f n ^^^ bit (f n))

theorem G_congr (x : W) {f g : Nat → Bool} : ∀ n, (∀ i, i < n → f i = g i) → G x f n = G x g n
  | 0, _ => rfl
  | n + 1, h => by rw [G, G, G_congr x n (fun i hi => h i (by omega)), h n (by omega)]

theorem G_add (x : W) (f : Nat → Bool) (n : Nat) : ∀ m, G x f (n + m) = G (G x f n) (fun i => f (n + i)) m
  | 0 => rfl
  | m + 1 => by rw [← Nat.add_assoc, G, G_add x f n m]; rfl

theorem G_none (x : W) (f : Nat → Bool) : ∀ n, (∀ i, i < n → f i = false) → G x f n = steps n x
  | 0, _ => rfl
  | n + 1, h => by
    rw [G, G_none x f n (fun i hi => h i (by omega)), h n (by omega)]
    show stp (steps n x ^^^ 0#64) = _
    rw [BitVec.xor_zero]; rfl

theorem G_ahead (f : Nat → Bool) (x : W) : ∀ n, G x f n = steps n x ^^^ G 0#64 f n
  | 0 => by show x = x ^^^ 0#64; rw [BitVec.xor_zero]
  | n + 1 => by rw [G, G_ahead f x n, BitVec.xor_assoc, stp_xor]; rfl

/-- Bits as a number. -/
def word (f : Nat → Bool) : Nat → W
  | 0 => 0#64
  | k + 1 => word f k ^^^ (if f k then 1#64 <<< k else 0#64)

theorem stp_shl : ∀ k : Fin 63, stp (1#64 <<< (k.val + 1)) = 1#64 <<< k.val := by decide

theorem steps_shl : ∀ (k : Nat), k ≤ 63 → steps k (1#64 <<< k) = 1#64
  | 0, _ => by decide
  | k + 1, h => by rw [steps_succ', stp_shl ⟨k, by omega⟩]; exact steps_shl k (by omega)

theorem G_word (f : Nat → Bool) : ∀ k, k ≤ 64 → G 0#64 f k = steps k (word f k)
  | 0, _ => rfl
  | k + 1, h => by
    rw [G, G_word f k (by omega), word, steps, steps_xor]
    congr 2
    cases f k with
    | true => rw [if_pos rfl, steps_shl k (by omega)]; rfl
    | false => rw [if_neg (by simp), steps_zero]; rfl

theorem word_bit (f : Nat → Bool) : ∀ k, k ≤ 64 → ∀ i, i < 64 → (word f k).getLsbD i = (decide (i < k) && f i)
  | 0, _, i, _ => by simp [word]
  | k + 1, h, i, hi => by
    rw [word, BitVec.getLsbD_xor, word_bit f k (by omega) i hi]
    by_cases he : i = k
    · subst he
      cases f i <;> simp [hi]
    · have h1 : (if f k then 1#64 <<< k else 0#64 : W).getLsbD i = false := by
        cases f k with
        | true =>
          rw [if_pos rfl, BitVec.getLsbD_shiftLeft]
          by_cases hk : i < k
          · simp [hk]
          · have : (1#64 : W).getLsbD (i - k) = false := by
              obtain ⟨j, hj⟩ : ∃ j, i - k = j + 1 := ⟨i - k - 1, by omega⟩
              rw [hj]; simp [BitVec.getLsbD_one]
            simp [this]
        | false => rw [if_neg (by simp)]; exact BitVec.getLsbD_zero
      rw [h1, Bool.xor_false]
      by_cases hk : i < k
      · simp [hk, show i < k + 1 by omega]
      · simp [hk, show ¬ i < k + 1 by omega]

theorem word_ne (f : Nat → Bool) (k : Nat) (h : k ≤ 64) (i : Nat) (hi : i < k) (hf : f i = true) : word f k ≠ 0#64 := by
  intro h0
  have := word_bit f k h i (by omega)
  rw [h0, BitVec.getLsbD_zero, hf] at this
  simp [hi] at this

theorem word_all (f : Nat → Bool) (x : W) (k : Nat) (h : k ≤ 64) (hx : ∀ i, i < 64 → x.getLsbD i = (decide (i < k) && f i)) : word f k = x := by
  apply BitVec.eq_of_getLsbD_eq
  intro i hi
  rw [word_bit f k h i hi, hx i hi]

/-- One bit, or more, of 64 side by side. -/
theorem burst (f : Nat → Bool) (b N : Nat) (h0 : ∀ p, p < b → f p = false) (h1 : ∀ p, b + 64 ≤ p → f p = false) (p : Nat) (hp : p < N) (hf : f p = true) : G 0#64 f N ≠ 0#64 := by
  have hb : b ≤ p := by
    rcases Nat.lt_or_ge p b with h | h
    · rw [h0 p h] at hf; cases hf
    · exact h
  have hb64 : p < b + 64 := by
    rcases Nat.lt_or_ge p (b + 64) with h | h
    · exact h
    · rw [h1 p h] at hf; cases hf
  obtain ⟨k, r, hk, hN, hpk, hr⟩ : ∃ k r, k ≤ 64 ∧ N = b + k + r ∧ p < b + k ∧ (r = 0 ∨ k = 64) := by
    by_cases h : N ≤ b + 64
    · exact ⟨N - b, 0, by omega, by omega, by omega, .inl rfl⟩
    · exact ⟨64, N - b - 64, by omega, by omega, by omega, .inr rfl⟩
  subst hN
  rw [G_add, G_add, G_none _ f b h0, steps_zero, G_word _ k hk]
  rw [G_none]
  · intro h
    have h2 := steps_ne _ (steps_ne _ h)
    refine word_ne (fun i => f (b + i)) k hk (p - b) (by omega) ?_ h2
    show f (b + (p - b)) = true
    rw [show b + (p - b) = p by omega]; exact hf
  · intro i hi
    apply h1
    rcases hr with h | h <;> omega

/-! ### The bits of a text -/
def bitOf (l : List UInt8) (p : Nat) : Bool := (l.getD (p / 8) 0).toNat.testBit (p % 8)

theorem byte_bits (c : UInt8) : word (fun i => c.toNat.testBit i) 8 = byte c := by
  apply word_all _ _ _ (by omega)
  intro i hi
  unfold byte
  rw [BitVec.getLsbD_ofNat]
  by_cases h : i < 8
  · simp [h, hi]
  · have : c.toNat.testBit i = false := Nat.testBit_lt_two_pow (Nat.lt_of_lt_of_le c.toNat_lt (Nat.pow_le_pow_right (by omega) (by omega : 8 ≤ i)))
    simp [h, this]

theorem feed_bits : ∀ (l : List UInt8) (x : W), feed x l = G x (bitOf l) (8 * l.length)
  | [], _ => rfl
  | c :: t, x => by
    rw [feed, feed_bits t, List.length_cons, Nat.mul_add, Nat.add_comm (8 * t.length), G_add]
    have e1 : G x (bitOf (c :: t)) 8 = steps 8 (x ^^^ byte c) := by
      rw [G_ahead, steps_xor, ← byte_bits, ← G_word _ 8 (by omega)]
      congr 1
    rw [show 8 * 1 = 8 from rfl, e1]
    apply G_congr
    intro i _
    unfold bitOf
    rw [Nat.add_div_left i (by omega), Nat.add_mod_left]
    rfl

theorem over_length : ∀ (s t : List UInt8), s.length = t.length → (over s t).length = s.length
  | [], [], _ => rfl
  | c :: s, d :: t, h => by rw [over, List.length_cons, over_length s t (by simpa using h)]; rfl

theorem over_getD : ∀ (s t : List UInt8) (i : Nat), s.length = t.length → (over s t).getD i 0 = s.getD i 0 ^^^ t.getD i 0
  | [], [], i, _ => by simp [over]
  | c :: s, d :: t, 0, h => by simp [over]
  | c :: s, d :: t, i + 1, h => by
    have := over_getD s t i (by simpa using h)
    simpa [over] using this

theorem bitOf_over (s t : List UInt8) (p : Nat) (h : s.length = t.length) : bitOf (over s t) p = (bitOf s p ^^ bitOf t p) := by
  unfold bitOf
  rw [over_getD s t _ h, UInt8.toNat_xor, Nat.testBit_xor]

/-- Texts of one length that differ in a bit, but nowhere beside 64 bits side by side, have two checksums. -/
theorem sum_ne (s t : List UInt8) (h : s.length = t.length) (b p : Nat) (h0 : ∀ q, q < b → bitOf s q = bitOf t q) (h1 : ∀ q, b + 64 ≤ q → bitOf s q = bitOf t q) (hp : p < 8 * s.length)
    (hne : bitOf s p ≠ bitOf t p) : sum s ≠ sum t := by
  intro he
  unfold sum more at he
  have he : feed (~~~ 0#64) s = feed (~~~ 0#64) t := by
    have := congrArg (fun x : W => ~~~ x) he
    simpa only [BitVec.not_not] using this
  have h2 := feed_over s t (~~~ 0#64) (~~~ 0#64) h
  rw [he, BitVec.xor_self, BitVec.xor_self, feed_bits, over_length s t h] at h2
  refine burst _ b _ (fun q hq => ?_) (fun q hq => ?_) p hp ?_ h2
  · rw [bitOf_over s t q h, h0 q hq, Bool.xor_self]
  · rw [bitOf_over s t q h, h1 q hq, Bool.xor_self]
  · rw [bitOf_over s t p h]
    revert hne
    cases bitOf s p <;> cases bitOf t p <;> simp

theorem over_none : ∀ (s : List UInt8), over s (List.replicate s.length 0) = s
  | [] => rfl
  | c :: s => by rw [List.length_cons, List.replicate_succ, over, over_none s]; simp

/-- Three texts over one another. -/
theorem sum_over (s t : List UInt8) (h : s.length = t.length) : sum s ^^^ sum t ^^^ sum (List.replicate s.length 0) = sum (over s t) := by
  unfold sum more
  generalize ho : (~~~ 0#64 : W) = o
  have h1 := feed_over s t o o h
  have hl := over_length s t h
  have h2 := feed_over (over s t) (List.replicate s.length 0) (o ^^^ o) o (by rw [hl, List.length_replicate])
  rw [h1] at h2
  have h3 := over_none (over s t)
  rw [hl] at h3
  rw [h3, BitVec.xor_self, BitVec.zero_xor] at h2
  rw [h2]
  generalize feed o s = x
  generalize feed o t = y
  generalize feed o (List.replicate s.length 0) = z
  rw [not_xor x, not_xor y, not_xor z, not_xor (x ^^^ y ^^^ z)]
  generalize (BitVec.allOnes 64 : W) = u
  simp only [BitVec.xor_assoc, xlc x u, xlc y u, xcc]

end Go.Proofs.Ytddicpgkagkmiaa.Crc
