/-
Plain facts on the reader (no Go in it): what was put is read, bytes that are wholly one number are that number's bytes.
Plain facts (no Go in it) of layer 2: steps of a number of 64 bits, the checksum of a text, bits that changed.
Plain facts (no Go in it) of layer 2: a text bit by bit; up to 64 bits side by side that changed.
Plain facts of layer 3 (no Go in it): a frame's bytes, the frame at the beginning of bytes, all of them one behind the other.
Plain facts of layer 3 (no Go in it): frames in a row, as they are told one by one, and all at once.
Plain facts of layer 3 (no Go in it): what Walk tells next, and what Split has told of it.
Plain facts of layer 3 (no Go in it): frames in a row, cut anywhere, or with a byte turned in an inside or in a checksum.
A disk, plainly: its files in the order of their names, the room, the fuse, whether the power has gone; what each call answers and leaves.
The names of a log's segments: a letter, and eight digits.
What stays behind a crash, file by file: plain facts.
A base on a disk, plainly: its file's name and bytes, which file is young, good or spoilt, what Open and Save leave, by the document's words.
Numbers to the base 16, plainly: as digits without noughts ahead, and told back; a base file's slot by its name.
-/
import Derived.Test.YthpamdjgkmaleaaGreatDoorPure
import Derived.Test.YthpamdjgkmaleaaGreatDoorRows
import Derived.RowKit
import Derived.Sort.KeysCollected
namespace Go.Proofs.YthpamdjgkmaleaaGreatDoor

theorem longR_dig (n : Nat) (t : List UInt8) (h : n < 2 ^ 64) (h1 : 248 ≤ n) : longR (nb n) (dig (nb n) n ++ t) = (n, ⟨0, t⟩) := by
  have hl := dig_length (nb n) n
  have hb := be_dig (nb n) n (nb_lt h h1)
  have ht : (dig (nb n) n ++ t).take (nb n) = dig (nb n) n := by rw [List.take_append_of_le_length (by omega), List.take_of_length_le (by omega)]
  have hd : (dig (nb n) n ++ t).drop (nb n) = t := by rw [List.drop_append_of_le_length (by omega), List.drop_of_length_le (by omega)]; rfl
  have := longR_ok (nb n) (dig (nb n) n ++ t) (by simp; omega) (by rw [ht, hb])
  rw [this, ht, hb, hd]

/-- What was put is read. -/
theorem num_enc (n : Nat) (t : List UInt8) (h : n < 2 ^ 64) : St.num ⟨0, enc n ++ t⟩ = (n, ⟨0, t⟩) := by
  by_cases hn : n < 248
  · have e : (UInt8.ofNat n).toNat = n := by rw [UInt8.toNat_ofNat']; omega
    rw [enc_small hn]
    simp only [St.num, List.cons_append, List.nil_append, e, hn, if_true]
  · have h1 : 248 ≤ n := by omega
    have h8 := nb_bounds h h1
    have e : (UInt8.ofNat (247 + nb n)).toNat = 247 + nb n := by rw [UInt8.toNat_ofNat']; omega
    rw [enc_big h1]
    simp only [St.num, List.cons_append, e, if_true]
    rw [if_neg (by omega), show 247 + nb n - 247 = nb n from by omega]
    exact longR_dig n t h h1

theorem enc_inj {n m : Nat} (hn : n < 2 ^ 64) (hm : m < 2 ^ 64) (h : enc n = enc m) : n = m := by
  have a := num_enc n [] hn
  have b := num_enc m [] hm
  rw [h, b] at a
  exact (Prod.mk.inj a).1.symm

theorem nb_mono {n m : Nat} (h : n ≤ m) (hm : m < 2 ^ 64) : nb n ≤ nb m := by
  by_cases hn : n < 248
  · rw [nb_small hn]; omega
  · obtain ⟨a, b, c, d⟩ := nb_bounds (show n < 2 ^ 64 by omega) (by omega)
    have e := nb_lt hm (by omega)
    by_cases hh : nb m < nb n
    · have : 256 ^ nb m ≤ 256 ^ (nb n - 1) := Nat.pow_le_pow_right (by decide) (by omega)
      omega
    · omega

/-- Bytes that are wholly one number are that number's bytes. -/
theorem one_form (l : List UInt8) (h : (St.num ⟨0, l⟩).2.fin.e = 0) : enc (St.num ⟨0, l⟩).1 = l := by
  have hfin : ∀ s : St, s.fin.e = 0 → s.e = 0 ∧ s.l = [] := by
    intro s hs
    obtain ⟨e, l⟩ := s
    by_cases he : e = 0
    · subst he
      cases l with
      | nil => exact ⟨rfl, rfl⟩
      | cons c t => simp [St.fin, St.left, St.fail] at hs
    · simp [St.fin, St.left, he] at hs
  obtain ⟨he, hl⟩ := hfin _ h
  clear h hfin
  match l, he, hl with
  | [], he, hl => simp [St.num] at he
  | c :: t, he, hl =>
    have hcl := c.toNat_lt
    by_cases hc : c.toNat < 248
    · have e1 : St.num ⟨0, c :: t⟩ = (c.toNat, ⟨0, t⟩) := by simp [St.num, hc]
      rw [e1] at hl ⊢
      simp only at hl ⊢
      rw [hl, enc_small hc]; simp
    · have e1 : St.num ⟨0, c :: t⟩ = longR (c.toNat - 247) t := by simp [St.num, hc]
      rw [e1] at he hl ⊢
      generalize hk : c.toNat - 247 = k at he hl ⊢
      by_cases h1 : t.length < k
      · rw [longR_short k t h1] at he; simp at he
      · by_cases h2 : nb (be (t.take k)) = k
        · rw [longR_ok k t (by omega) h2] at hl ⊢
          simp only at hl ⊢
          have h3 : t.length ≤ k := by simpa using hl
          have h4 : t.take k = t := List.take_of_length_le h3
          rw [h4] at h2 ⊢
          have h5 : ¬ be t < 248 := fun hh => by rw [nb_small hh] at h2; omega
          rw [enc_big (by omega), h2, dig_be k t (by omega), show 247 + k = c.toNat from by omega]
          simp
        · rw [longR_form k t (by omega) h2] at he; simp at he

/-- One byte more, ahead. -/
theorem dig_cons : ∀ (j n : Nat), dig (j + 1) n = UInt8.ofNat (n / 256 ^ j % 256) :: dig j n
  | 0, n => by simp [dig]
  | j + 1, n => by
    have e : dig (j + 1 + 1) n = dig (j + 1) (n / 256) ++ [UInt8.ofNat (n % 256)] := rfl
    have e2 : dig (j + 1) n = dig j (n / 256) ++ [UInt8.ofNat (n % 256)] := rfl
    rw [e, dig_cons j (n / 256), Nat.div_div_eq_div_mul, ← Nat.pow_succ', List.cons_append, e2]

theorem more_left {n j : Nat} (h : n < 2 ^ 64) (h1 : 248 ≤ n) (hj : j < nb n) : 0 < n / 256 ^ j := by
  obtain ⟨a, b, c, d⟩ := nb_bounds h h1
  have : 256 ^ j ≤ 256 ^ (nb n - 1) := Nat.pow_le_pow_right (by decide) (by omega)
  exact Nat.div_pos (by omega) (Nat.pow_pos (by decide))

theorem none_left {n : Nat} (h : n < 2 ^ 64) (h1 : 248 ≤ n) : n / 256 ^ nb n = 0 := Nat.div_eq_of_lt (nb_lt h h1)

end Go.Proofs.YthpamdjgkmaleaaGreatDoor

namespace Go.Proofs.YthpamdjgkmaleaaGreatDoor.Crc

abbrev W := BitVec 64
def poly : W := 0xc96c5795d7870f42#64

def stp (x : W) : W := if x.getLsbD 0 then (x >>> 1) ^^^ poly else x >>> 1
def steps : Nat → W → W
  | 0, x => x
  | n + 1, x => stp (steps n x)

theorem xlc (x y z : W) : x ^^^ (y ^^^ z) = y ^^^ (x ^^^ z) := by rw [← BitVec.xor_assoc, BitVec.xor_comm x y, BitVec.xor_assoc]
theorem xcc (x y : W) : x ^^^ (x ^^^ y) = y := by rw [← BitVec.xor_assoc, BitVec.xor_self, BitVec.zero_xor]

theorem stp_zero : stp 0#64 = 0#64 := by decide

theorem stp_xor (x y : W) : stp (x ^^^ y) = stp x ^^^ stp y := by
  unfold stp
  rw [BitVec.getLsbD_xor, BitVec.ushiftRight_xor_distrib]
  generalize x >>> 1 = u
  generalize y >>> 1 = v
  generalize poly = p
  cases x.getLsbD 0 <;> cases y.getLsbD 0 <;> simp only [Bool.xor_false, Bool.xor_true, Bool.not_false, Bool.not_true, Bool.false_eq_true, if_true, if_false]
  · rw [BitVec.xor_assoc]
  · rw [BitVec.xor_assoc, BitVec.xor_assoc, BitVec.xor_comm v p]
  · rw [BitVec.xor_assoc, BitVec.xor_comm v, ← BitVec.xor_assoc, ← BitVec.xor_assoc, BitVec.xor_assoc u p p, BitVec.xor_self, BitVec.xor_zero]

theorem steps_zero : ∀ n, steps n 0#64 = 0#64
  | 0 => rfl
  | n + 1 => by rw [steps, steps_zero n, stp_zero]

theorem steps_xor : ∀ (n : Nat) (x y : W), steps n (x ^^^ y) = steps n x ^^^ steps n y
  | 0, _, _ => rfl
  | n + 1, x, y => by rw [steps, steps_xor n, stp_xor]; rfl

theorem steps_add (n : Nat) : ∀ (m : Nat) (x : W), steps (n + m) x = steps m (steps n x)
  | 0, _ => rfl
  | m + 1, x => by rw [← Nat.add_assoc, steps, steps_add n m x]; rfl

theorem steps_comm (n m : Nat) (x : W) : steps n (steps m x) = steps m (steps n x) := by
  rw [← steps_add, ← steps_add, Nat.add_comm]

theorem steps_one (x : W) : steps 1 x = stp x := rfl
theorem steps_succ' (n : Nat) (x : W) : steps (n + 1) x = steps n (stp x) := by rw [Nat.add_comm, steps_add]; rfl

/-- Only of 0 a stp is 0. -/
theorem stp_ne {x : W} (h : stp x = 0#64) : x = 0#64 := by
  unfold stp at h
  split at h
  · have h63 : ((x >>> 1) ^^^ poly).getLsbD 63 = (0#64 : W).getLsbD 63 := by rw [h]
    rw [BitVec.getLsbD_xor, BitVec.getLsbD_ushiftRight] at h63
    rw [BitVec.getLsbD_of_ge _ _ (by omega)] at h63
    exact absurd h63 (by decide)
  · rename_i h0
    apply BitVec.eq_of_getLsbD_eq
    intro i hi
    rw [BitVec.getLsbD_zero]
    cases i with
    | zero => simpa using h0
    | succ j =>
      have : (x >>> 1).getLsbD j = (0#64 : W).getLsbD j := by rw [h]
      rw [BitVec.getLsbD_ushiftRight, BitVec.getLsbD_zero, Nat.add_comm] at this
      exact this

theorem steps_ne : ∀ (n : Nat) {x : W}, steps n x = 0#64 → x = 0#64
  | 0, _, h => h
  | n + 1, _, h => steps_ne n (stp_ne h)

theorem xor_eq_zero {x y : W} (h : x ^^^ y = 0#64) : x = y := by
  have : x ^^^ y ^^^ y = 0#64 ^^^ y := by rw [h]
  rw [BitVec.xor_assoc, BitVec.xor_self, BitVec.xor_zero, BitVec.zero_xor] at this
  exact this

theorem steps_inj (n : Nat) {x y : W} (h : steps n x = steps n y) : x = y := by
  apply xor_eq_zero
  apply steps_ne n
  rw [steps_xor, h, BitVec.xor_self]

/-! ### A text's bytes -/
def byte (c : UInt8) : W := BitVec.ofNat 64 c.toNat

def feed : W → List UInt8 → W
  | x, [] => x
  | x, c :: t => feed (steps 8 (x ^^^ byte c)) t

theorem feed_append : ∀ (s t : List UInt8) (x : W), feed x (s ++ t) = feed (feed x s) t
  | [], _, _ => rfl
  | c :: s, t, x => by rw [List.cons_append, feed, feed_append s t]; rfl

theorem feed_snoc (x : W) (s : List UInt8) (c : UInt8) : feed x (s ++ [c]) = steps 8 (feed x s ^^^ byte c) := by rw [feed_append]; rfl

/-- What was there ahead goes on by itself. -/
theorem feed_ahead : ∀ (s : List UInt8) (x y : W), feed (x ^^^ y) s = steps (8 * s.length) x ^^^ feed y s
  | [], _, _ => rfl
  | c :: s, x, y => by
    rw [feed, BitVec.xor_assoc, steps_xor, feed_ahead s, feed, List.length_cons, Nat.mul_add, Nat.add_comm (8 * s.length), steps_add]

theorem feed_zero (s : List UInt8) (x : W) : feed x s = steps (8 * s.length) x ^^^ feed 0#64 s := by
  have := feed_ahead s x 0#64
  rwa [BitVec.xor_zero] at this

def allOnes : W := BitVec.allOnes 64
def more (sum : W) (s : List UInt8) : W := ~~~ feed (~~~ sum) s
def sum (s : List UInt8) : W := more 0#64 s
def join (a b : W) (n : Nat) : W := steps (8 * n) a ^^^ b

theorem not_xor (x : W) : ~~~ x = BitVec.allOnes 64 ^^^ x := by rw [BitVec.allOnes_xor]

theorem more_more (x : W) (s t : List UInt8) : more (more x s) t = more x (s ++ t) := by
  unfold more
  rw [BitVec.not_not, feed_append]

/-- The text's checksum is that of its parts, joined. -/
theorem sum_join (s t : List UInt8) : join (sum s) (sum t) t.length = sum (s ++ t) := by
  unfold join sum more
  rw [feed_append, feed_zero t (feed _ s), feed_zero t (~~~ 0#64)]
  generalize feed 0#64 t = z
  generalize feed (~~~ 0#64) s = y
  have h0 : ~~~ (0#64 : W) = BitVec.allOnes 64 := by decide
  rw [h0, not_xor, not_xor, not_xor, steps_xor]
  generalize steps (8 * t.length) (BitVec.allOnes 64) = u
  generalize steps (8 * t.length) y = v
  generalize (BitVec.allOnes 64 : W) = o
  simp only [BitVec.xor_assoc, xlc v o, xlc u o, xlc v u, xcc]

theorem join_join (a b c : W) (n m : Nat) : join (join a b n) c m = join a (join b c m) (n + m) := by
  unfold join
  rw [steps_xor, ← steps_add, Nat.mul_add, BitVec.xor_assoc]

theorem join_none (a : W) : join a 0#64 0 = a := by unfold join; rw [BitVec.xor_zero]; rfl

/-! ### Texts over one another -/
def over : List UInt8 → List UInt8 → List UInt8
  | c :: s, d :: t => (c ^^^ d) :: over s t
  | _, _ => []

theorem byte_xor (c d : UInt8) : byte (c ^^^ d) = byte c ^^^ byte d := by
  unfold byte
  rw [UInt8.toNat_xor]
  apply BitVec.eq_of_toNat_eq
  have h1 := c.toNat_lt
  have h2 := d.toNat_lt
  have h3 : c.toNat ^^^ d.toNat < 2 ^ 8 := Nat.xor_lt_two_pow h1 h2
  rw [BitVec.toNat_xor, BitVec.toNat_ofNat, BitVec.toNat_ofNat, BitVec.toNat_ofNat, Nat.mod_eq_of_lt (by omega), Nat.mod_eq_of_lt (by omega), Nat.mod_eq_of_lt (by omega)]

theorem feed_over : ∀ (s t : List UInt8) (x y : W), s.length = t.length → feed (x ^^^ y) (over s t) = feed x s ^^^ feed y t
  | [], [], _, _, _ => rfl
  | c :: s, d :: t, x, y, h => by
    rw [over, feed, feed, feed, byte_xor, ← feed_over s t _ _ (by simpa using h), ← steps_xor]
    congr 2
    simp only [BitVec.xor_assoc, xlc y (byte c)]

end Go.Proofs.YthpamdjgkmaleaaGreatDoor.Crc

namespace Go.Proofs.YthpamdjgkmaleaaGreatDoor.Crc

def bit (b : Bool) : W := if b then 1#64 else 0#64

/-- So many bits, one behind the other. -/
def G (x : W) (f : Nat → Bool) : Nat → W
  | 0 => x
  | n + 1 => stp (G x f n ^^^ bit (f n))

theorem G_congr (x : W) {f g : Nat → Bool} : ∀ n, (∀ i, i < n → f i = g i) → G x f n = G x g n
  | 0, _ => rfl
  | n + 1, h => by rw [G, G, G_congr x n (fun i hi => h i (by omega)), h n (by omega)]

theorem G_add (x : W) (f : Nat → Bool) (n : Nat) : ∀ m, G x f (n + m) = G (G x f n) (fun i => f (n + i)) m
  | 0 => rfl
  | m + 1 => by rw [← Nat.add_assoc, G, G_add x f n m]; rfl

theorem G_none (x : W) (f : Nat → Bool) : ∀ n, (∀ i, i < n → f i = false) → G x f n = steps n x
  | 0, _ => rfl
  | n + 1, h => by
    rw [G, G_none x f n (fun i hi => h i (by omega)), h n (by omega)]
    show stp (steps n x ^^^ 0#64) = _
    rw [BitVec.xor_zero]; rfl

theorem G_ahead (f : Nat → Bool) (x : W) : ∀ n, G x f n = steps n x ^^^ G 0#64 f n
  | 0 => by show x = x ^^^ 0#64; rw [BitVec.xor_zero]
  | n + 1 => by rw [G, G_ahead f x n, BitVec.xor_assoc, stp_xor]; rfl

/-- Bits as a number. -/
def word (f : Nat → Bool) : Nat → W
  | 0 => 0#64
  | k + 1 => word f k ^^^ (if f k then 1#64 <<< k else 0#64)

theorem stp_shl : ∀ k : Fin 63, stp (1#64 <<< (k.val + 1)) = 1#64 <<< k.val := by decide

theorem steps_shl : ∀ (k : Nat), k ≤ 63 → steps k (1#64 <<< k) = 1#64
  | 0, _ => by decide
  | k + 1, h => by rw [steps_succ', stp_shl ⟨k, by omega⟩]; exact steps_shl k (by omega)

theorem G_word (f : Nat → Bool) : ∀ k, k ≤ 64 → G 0#64 f k = steps k (word f k)
  | 0, _ => rfl
  | k + 1, h => by
    rw [G, G_word f k (by omega), word, steps, steps_xor]
    congr 2
    cases f k with
    | true => rw [if_pos rfl, steps_shl k (by omega)]; rfl
    | false => rw [if_neg (by simp), steps_zero]; rfl

theorem word_bit (f : Nat → Bool) : ∀ k, k ≤ 64 → ∀ i, i < 64 → (word f k).getLsbD i = (decide (i < k) && f i)
  | 0, _, i, _ => by simp [word]
  | k + 1, h, i, hi => by
    rw [word, BitVec.getLsbD_xor, word_bit f k (by omega) i hi]
    by_cases he : i = k
    · subst he
      cases f i <;> simp [hi]
    · have h1 : (if f k then 1#64 <<< k else 0#64 : W).getLsbD i = false := by
        cases f k with
        | true =>
          rw [if_pos rfl, BitVec.getLsbD_shiftLeft]
          by_cases hk : i < k
          · simp [hk]
          · have : (1#64 : W).getLsbD (i - k) = false := by
              obtain ⟨j, hj⟩ : ∃ j, i - k = j + 1 := ⟨i - k - 1, by omega⟩
              rw [hj]; simp [BitVec.getLsbD_one]
            simp [this]
        | false => rw [if_neg (by simp)]; exact BitVec.getLsbD_zero
      rw [h1, Bool.xor_false]
      by_cases hk : i < k
      · simp [hk, show i < k + 1 by omega]
      · simp [hk, show ¬ i < k + 1 by omega]

theorem word_ne (f : Nat → Bool) (k : Nat) (h : k ≤ 64) (i : Nat) (hi : i < k) (hf : f i = true) : word f k ≠ 0#64 := by
  intro h0
  have := word_bit f k h i (by omega)
  rw [h0, BitVec.getLsbD_zero, hf] at this
  simp [hi] at this

theorem word_all (f : Nat → Bool) (x : W) (k : Nat) (h : k ≤ 64) (hx : ∀ i, i < 64 → x.getLsbD i = (decide (i < k) && f i)) : word f k = x := by
  apply BitVec.eq_of_getLsbD_eq
  intro i hi
  rw [word_bit f k h i hi, hx i hi]

/-- One bit, or more, of 64 side by side. -/
theorem burst (f : Nat → Bool) (b N : Nat) (h0 : ∀ p, p < b → f p = false) (h1 : ∀ p, b + 64 ≤ p → f p = false) (p : Nat) (hp : p < N) (hf : f p = true) : G 0#64 f N ≠ 0#64 := by
  have hb : b ≤ p := by
    rcases Nat.lt_or_ge p b with h | h
    · rw [h0 p h] at hf; cases hf
    · exact h
  have hb64 : p < b + 64 := by
    rcases Nat.lt_or_ge p (b + 64) with h | h
    · exact h
    · rw [h1 p h] at hf; cases hf
  obtain ⟨k, r, hk, hN, hpk, hr⟩ : ∃ k r, k ≤ 64 ∧ N = b + k + r ∧ p < b + k ∧ (r = 0 ∨ k = 64) := by
    by_cases h : N ≤ b + 64
    · exact ⟨N - b, 0, by omega, by omega, by omega, .inl rfl⟩
    · exact ⟨64, N - b - 64, by omega, by omega, by omega, .inr rfl⟩
  subst hN
  rw [G_add, G_add, G_none _ f b h0, steps_zero, G_word _ k hk]
  rw [G_none]
  · intro h
    have h2 := steps_ne _ (steps_ne _ h)
    refine word_ne (fun i => f (b + i)) k hk (p - b) (by omega) ?_ h2
    show f (b + (p - b)) = true
    rw [show b + (p - b) = p by omega]; exact hf
  · intro i hi
    apply h1
    rcases hr with h | h <;> omega

/-! ### The bits of a text -/
def bitOf (l : List UInt8) (p : Nat) : Bool := (l.getD (p / 8) 0).toNat.testBit (p % 8)

theorem byte_bits (c : UInt8) : word (fun i => c.toNat.testBit i) 8 = byte c := by
  apply word_all _ _ _ (by omega)
  intro i hi
  unfold byte
  rw [BitVec.getLsbD_ofNat]
  by_cases h : i < 8
  · simp [h, hi]
  · have : c.toNat.testBit i = false := Nat.testBit_lt_two_pow (Nat.lt_of_lt_of_le c.toNat_lt (Nat.pow_le_pow_right (by omega) (by omega : 8 ≤ i)))
    simp [h, this]

theorem feed_bits : ∀ (l : List UInt8) (x : W), feed x l = G x (bitOf l) (8 * l.length)
  | [], _ => rfl
  | c :: t, x => by
    rw [feed, feed_bits t, List.length_cons, Nat.mul_add, Nat.add_comm (8 * t.length), G_add]
    have e1 : G x (bitOf (c :: t)) 8 = steps 8 (x ^^^ byte c) := by
      rw [G_ahead, steps_xor, ← byte_bits, ← G_word _ 8 (by omega)]
      congr 1
    rw [show 8 * 1 = 8 from rfl, e1]
    apply G_congr
    intro i _
    unfold bitOf
    rw [Nat.add_div_left i (by omega), Nat.add_mod_left]
    rfl

theorem over_length : ∀ (s t : List UInt8), s.length = t.length → (over s t).length = s.length
  | [], [], _ => rfl
  | c :: s, d :: t, h => by rw [over, List.length_cons, over_length s t (by simpa using h)]; rfl

theorem over_getD : ∀ (s t : List UInt8) (i : Nat), s.length = t.length → (over s t).getD i 0 = s.getD i 0 ^^^ t.getD i 0
  | [], [], i, _ => by simp [over]
  | c :: s, d :: t, 0, h => by simp [over]
  | c :: s, d :: t, i + 1, h => by
    have := over_getD s t i (by simpa using h)
    simpa [over] using this

theorem bitOf_over (s t : List UInt8) (p : Nat) (h : s.length = t.length) : bitOf (over s t) p = (bitOf s p ^^ bitOf t p) := by
  unfold bitOf
  rw [over_getD s t _ h, UInt8.toNat_xor, Nat.testBit_xor]

/-- Texts of one length that differ in a bit, but nowhere beside 64 bits side by side, have two checksums. -/
theorem sum_ne (s t : List UInt8) (h : s.length = t.length) (b p : Nat) (h0 : ∀ q, q < b → bitOf s q = bitOf t q) (h1 : ∀ q, b + 64 ≤ q → bitOf s q = bitOf t q) (hp : p < 8 * s.length)
    (hne : bitOf s p ≠ bitOf t p) : sum s ≠ sum t := by
  intro he
  unfold sum more at he
  have he : feed (~~~ 0#64) s = feed (~~~ 0#64) t := by
    have := congrArg (fun x : W => ~~~ x) he
    simpa only [BitVec.not_not] using this
  have h2 := feed_over s t (~~~ 0#64) (~~~ 0#64) h
  rw [he, BitVec.xor_self, BitVec.xor_self, feed_bits, over_length s t h] at h2
  refine burst _ b _ (fun q hq => ?_) (fun q hq => ?_) p hp ?_ h2
  · rw [bitOf_over s t q h, h0 q hq, Bool.xor_self]
  · rw [bitOf_over s t q h, h1 q hq, Bool.xor_self]
  · rw [bitOf_over s t p h]
    revert hne
    cases bitOf s p <;> cases bitOf t p <;> simp

theorem over_none : ∀ (s : List UInt8), over s (List.replicate s.length 0) = s
  | [] => rfl
  | c :: s => by rw [List.length_cons, List.replicate_succ, over, over_none s]; simp

/-- Three texts over one another. -/
theorem sum_over (s t : List UInt8) (h : s.length = t.length) : sum s ^^^ sum t ^^^ sum (List.replicate s.length 0) = sum (over s t) := by
  unfold sum more
  generalize ho : (~~~ 0#64 : W) = o
  have h1 := feed_over s t o o h
  have hl := over_length s t h
  have h2 := feed_over (over s t) (List.replicate s.length 0) (o ^^^ o) o (by rw [hl, List.length_replicate])
  rw [h1] at h2
  have h3 := over_none (over s t)
  rw [hl] at h3
  rw [h3, BitVec.xor_self, BitVec.zero_xor] at h2
  rw [h2]
  generalize feed o s = x
  generalize feed o t = y
  generalize feed o (List.replicate s.length 0) = z
  rw [not_xor x, not_xor y, not_xor z, not_xor (x ^^^ y ^^^ z)]
  generalize (BitVec.allOnes 64 : W) = u
  simp only [BitVec.xor_assoc, xlc x u, xlc y u, xcc]

end Go.Proofs.YthpamdjgkmaleaaGreatDoor.Crc

namespace Go.Proofs.YthpamdjgkmaleaaGreatDoor
set_option linter.unusedVariables false

/-- k bytes of n, the lowest first. -/
def low : Nat → Nat → List UInt8
  | 0, _ => []
  | k + 1, n => UInt8.ofNat (n % 256) :: low k (n / 256)

/-- Bytes as a number, the lowest first. -/
def ln : List UInt8 → Nat
  | [] => 0
  | c :: t => c.toNat + 256 * ln t

theorem low_length : ∀ (k n : Nat), (low k n).length = k
  | 0, _ => rfl
  | k + 1, n => by rw [low, List.length_cons, low_length k]

theorem low_snoc : ∀ (k n : Nat), low (k + 1) n = low k n ++ [UInt8.ofNat (n / 256 ^ k % 256)]
  | 0, n => by simp [low]
  | k + 1, n => by
    rw [low, low_snoc k (n / 256), low, List.cons_append, Nat.div_div_eq_div_mul, show 256 * 256 ^ k = 256 ^ (k + 1) from by rw [Nat.pow_succ, Nat.mul_comm]]

theorem low_ln : ∀ (t : List UInt8), low t.length (ln t) = t
  | [] => rfl
  | c :: t => by
    have hc := c.toNat_lt
    have e1 : (c.toNat + 256 * ln t) % 256 = c.toNat := by omega
    have e2 : (c.toNat + 256 * ln t) / 256 = ln t := by omega
    rw [List.length_cons, low, ln, e1, e2, low_ln t]
    simp

theorem ln_lt : ∀ (t : List UInt8), ln t < 256 ^ t.length
  | [] => by simp [ln]
  | c :: t => by
    have hc := c.toNat_lt
    have := ln_lt t
    rw [List.length_cons, ln, Nat.pow_succ]
    omega

theorem ln_low : ∀ (k n : Nat), n < 256 ^ k → ln (low k n) = n
  | 0, n, h => by simp at h; subst h; rfl
  | k + 1, n, h => by
    rw [low, ln, ln_low k (n / 256) (by rw [Nat.pow_succ] at h; omega), UInt8.toNat_ofNat']
    omega

theorem ln_snoc : ∀ (t : List UInt8) (c : UInt8), ln (t ++ [c]) = ln t + 256 ^ t.length * c.toNat
  | [], c => by simp [ln]
  | d :: t, c => by
    rw [List.cons_append, ln, ln_snoc t c, ln, List.length_cons, Nat.pow_succ, Nat.mul_add]
    rw [show 256 ^ t.length * 256 * c.toNat = 256 * (256 ^ t.length * c.toNat) from by rw [Nat.mul_comm (256 ^ t.length), Nat.mul_assoc]]
    omega

/-- Eight bytes and a number of 64 bits tell one another. -/
theorem low8 (t : List UInt8) (n : Nat) (ht : t.length = 8) (hn : n < 2 ^ 64) : t = low 8 n ↔ ln t = n := by
  constructor
  · rintro rfl; exact ln_low 8 n (by simpa using hn)
  · rintro rfl; rw [← ht, low_ln]

/-- A checksum's number. -/
def sm (l : List UInt8) : Nat := (Crc.sum l).toNat
theorem sm_lt (l : List UInt8) : sm l < 2 ^ 64 := (Crc.sum l).isLt

/-- A frame of l. -/
def frameL (l : List UInt8) : List UInt8 := enc l.length ++ (low 8 (sm l) ++ l)
theorem frameL_length (l : List UInt8) : (frameL l).length = (enc l.length).length + 8 + l.length := by
  simp [frameL, low_length]; omega

/-! ### A reader's eight bytes -/
/-- The reader behind k bytes. -/
def St.skip : Nat → St → St
  | 0, s => s
  | k + 1, s => (St.skip k s).byte.2
/-- What k bytes come to. -/
def St.low : Nat → St → Nat
  | 0, _ => 0
  | k + 1, s => St.low k s + 256 ^ k * (St.skip k s).byte.1.toNat

theorem St.low_lt (s : St) : ∀ k, St.low k s < 256 ^ k
  | 0 => by simp [St.low]
  | k + 1 => by
    have h := St.low_lt s k
    have hc := (St.skip k s).byte.1.toNat_lt
    generalize (St.skip k s).byte.1.toNat = c at hc
    rw [St.low, Nat.pow_succ]
    have : 256 ^ k * (St.skip k s).byte.1.toNat ≤ 256 ^ k * 255 := Nat.mul_le_mul_left _ (by have := (St.skip k s).byte.1.toNat_lt; omega)
    omega

theorem skip_err (e : Int) (l : List UInt8) (h : e ≠ 0) : ∀ k, St.skip k ⟨e, l⟩ = ⟨e, l⟩
  | 0 => rfl
  | k + 1 => by rw [St.skip, skip_err e l h k]; simp [St.byte, h]

theorem skip_ok (l : List UInt8) : ∀ k, k ≤ l.length → St.skip k ⟨0, l⟩ = ⟨0, l.drop k⟩
  | 0, _ => rfl
  | k + 1, h => by
    rw [St.skip, skip_ok l k (by omega), St.byte, if_pos rfl]
    simp only
    rw [List.drop_eq_getElem_cons (by omega : k < l.length)]

theorem skip_short (l : List UInt8) : ∀ k, l.length < k → St.skip k ⟨0, l⟩ = ⟨3, []⟩
  | 0, h => by omega
  | k + 1, h => by
    rw [St.skip]
    by_cases hk : l.length < k
    · rw [skip_short l k hk]; rfl
    · have e : l.length = k := by omega
      rw [skip_ok l k (by omega), List.drop_of_length_le (by omega)]
      rfl

theorem St.low_ok (l : List UInt8) : ∀ k, k ≤ l.length → St.low k ⟨0, l⟩ = ln (l.take k)
  | 0, _ => rfl
  | k + 1, h => by
    rw [St.low, St.low_ok l k (by omega), skip_ok l k (by omega), List.take_succ_eq_append_getElem (by omega : k < l.length), ln_snoc, List.length_take, Nat.min_eq_left (by omega : k ≤ l.length), St.byte, if_pos rfl]
    simp only
    rw [List.drop_eq_getElem_cons (by omega : k < l.length)]

theorem byte_e (s : St) (h : s.e ≠ 0) : s.byte = (0, s) := by simp [St.byte, h]
theorem skip_len (s : St) : ∀ k, (St.skip k s).l.length ≤ s.l.length
  | 0 => Nat.le_refl _
  | k + 1 => Nat.le_trans (byte_len _) (skip_len s k)

/-! ### The frame at the beginning -/
/-- A number that is read stands there as its own bytes. -/
theorem num_parts {s : List UInt8} {n : Nat} {r : List UInt8} (h : St.num ⟨0, s⟩ = (n, ⟨0, r⟩)) : s = enc n ++ r := by
  unfold St.num at h
  rw [if_pos rfl] at h
  cases s with
  | nil => simp at h
  | cons c t =>
    have hc := c.toNat_lt
    simp only at h
    split at h
    · rename_i h1
      obtain ⟨rfl, h2⟩ := Prod.mk.inj h
      obtain ⟨_, rfl⟩ := St.mk.inj h2
      rw [enc_small h1]; simp
    · rename_i h1
      unfold longR at h
      split at h
      · simp at h
      · rename_i h2
        split at h
        · rename_i h3
          obtain ⟨rfl, h4⟩ := Prod.mk.inj h
          obtain ⟨_, rfl⟩ := St.mk.inj h4
          generalize hk : c.toNat - 247 = k at h2 h3
          have hl : (t.take k).length = k := by simp; omega
          have hb : 248 ≤ be (t.take k) := by
            by_cases h5 : be (t.take k) < 248
            · rw [nb_small h5] at h3; omega
            · omega
          rw [enc_big hb, h3, dig_be k _ hl, show 247 + k = c.toNat from by omega]
          simp
        · simp at h

/-- The frame at the beginning: its inside, how many bytes it has, and the error. -/
def takeL (s : List UInt8) : List UInt8 × Nat × Int :=
  let r := St.num ⟨0, s⟩
  if r.2.e ≠ 0 then ([], 0, r.2.e)
  else if r.1 < 1 ∨ 65536 < r.1 then ([], 0, 4)
  else if r.2.l.length < 8 + r.1 then ([], 0, 3)
  else if ln (r.2.l.take 8) ≠ sm ((r.2.l.drop 8).take r.1) then ([], 0, 5)
  else ((r.2.l.drop 8).take r.1, s.length - r.2.l.length + 8 + r.1, 0)

theorem takeL_num {s : List UInt8} (h : (St.num ⟨0, s⟩).2.e ≠ 0) : takeL s = ([], 0, (St.num ⟨0, s⟩).2.e) := by
  unfold takeL; simp only; rw [if_pos h]
theorem takeL_size {s : List UInt8} {n : Nat} {r : List UInt8} (h : St.num ⟨0, s⟩ = (n, ⟨0, r⟩)) (hn : n < 1 ∨ 65536 < n) : takeL s = ([], 0, 4) := by
  unfold takeL; rw [h]; simp only; rw [if_neg (by simp), if_pos hn]
theorem takeL_short {s : List UInt8} {n : Nat} {r : List UInt8} (h : St.num ⟨0, s⟩ = (n, ⟨0, r⟩)) (h1 : 1 ≤ n) (h2 : n ≤ 65536) (hr : r.length < 8 + n) : takeL s = ([], 0, 3) := by
  unfold takeL; rw [h]; simp only; rw [if_neg (by simp), if_neg (by omega), if_pos hr]
theorem takeL_sum {s : List UInt8} {n : Nat} {r : List UInt8} (h : St.num ⟨0, s⟩ = (n, ⟨0, r⟩)) (h1 : 1 ≤ n) (h2 : n ≤ 65536) (hr : 8 + n ≤ r.length) (hs : ln (r.take 8) ≠ sm ((r.drop 8).take n)) : takeL s = ([], 0, 5) := by
  unfold takeL; rw [h]; simp only; rw [if_neg (by simp), if_neg (by omega), if_neg (by omega), if_pos hs]
theorem takeL_ok {s : List UInt8} {n : Nat} {r : List UInt8} (h : St.num ⟨0, s⟩ = (n, ⟨0, r⟩)) (h1 : 1 ≤ n) (h2 : n ≤ 65536) (hr : 8 + n ≤ r.length) (hs : ln (r.take 8) = sm ((r.drop 8).take n)) :
    takeL s = ((r.drop 8).take n, s.length - r.length + 8 + n, 0) := by
  unfold takeL; rw [h]; simp only; rw [if_neg (by simp), if_neg (by omega), if_neg (by omega), if_neg (by simp [hs])]

/-- What is told is a frame, and stands there. -/
theorem takeL_stands {s inside : List UInt8} {n : Nat} (h : takeL s = (inside, n, 0)) : 1 ≤ inside.length ∧ inside.length ≤ 65536 ∧ n = (frameL inside).length ∧ s = frameL inside ++ s.drop n := by
  generalize hp : St.num ⟨0, s⟩ = p
  obtain ⟨k, e, r⟩ := p
  by_cases he : e = 0
  · subst he
    by_cases hk : k < 1 ∨ 65536 < k
    · rw [takeL_size hp hk] at h; simp at h
    · by_cases hr : r.length < 8 + k
      · rw [takeL_short hp (by omega) (by omega) hr] at h; simp at h
      · by_cases hs : ln (r.take 8) = sm ((r.drop 8).take k)
        · rw [takeL_ok hp (by omega) (by omega) (by omega) hs] at h
          obtain ⟨rfl, h2⟩ := Prod.mk.inj h
          obtain ⟨rfl, _⟩ := Prod.mk.inj h2
          have hst := num_parts hp
          have hl : ((r.drop 8).take k).length = k := by simp; omega
          have h8 : (r.take 8).length = 8 := by simp; omega
          have hlow : r.take 8 = low 8 (sm ((r.drop 8).take k)) := (low8 _ _ h8 (sm_lt _)).2 hs
          have hfl : (frameL ((r.drop 8).take k)).length = (enc k).length + 8 + k := by rw [frameL_length, hl]
          have hsl : s.length = (enc k).length + r.length := by rw [hst]; simp
          refine ⟨by omega, by omega, by omega, ?_⟩
          have hfr : frameL ((r.drop 8).take k) ++ r.drop (8 + k) = s := by
            unfold frameL
            rw [hl, ← hlow, hst, List.append_assoc, List.append_assoc]
            congr 1
            rw [← List.drop_drop, List.take_append_drop, List.take_append_drop]
          have hdr : s.drop (s.length - r.length + 8 + k) = r.drop (8 + k) := by
            rw [← hfr, show (frameL ((r.drop 8).take k) ++ r.drop (8 + k)).length - r.length + 8 + k = (frameL ((r.drop 8).take k)).length from by rw [hfr]; omega, List.drop_left]
          rw [hdr, hfr]
        · rw [takeL_sum hp (by omega) (by omega) (by omega) hs] at h; simp at h
  · rw [takeL_num (by rw [hp]; exact he), hp] at h
    simp only [Prod.mk.injEq] at h
    exact absurd h.2.2 he

/-- A frame of what may be is told. -/
theorem takeL_frame (l t : List UInt8) (h1 : 1 ≤ l.length) (h2 : l.length ≤ 65536) : takeL (frameL l ++ t) = (l, (frameL l).length, 0) := by
  have hp : St.num ⟨0, frameL l ++ t⟩ = (l.length, ⟨0, low 8 (sm l) ++ l ++ t⟩) := by
    unfold frameL; rw [List.append_assoc, List.append_assoc]
    have := num_enc l.length (low 8 (sm l) ++ (l ++ t)) (by omega)
    rw [this]
  have ht : (low 8 (sm l) ++ l ++ t).take 8 = low 8 (sm l) := by
    rw [List.append_assoc, List.take_append_of_le_length (by rw [low_length]; omega), List.take_of_length_le (by rw [low_length]; omega)]
  have hd : ((low 8 (sm l) ++ l ++ t).drop 8).take l.length = l := by
    rw [List.append_assoc, List.drop_append_of_le_length (by rw [low_length]; omega), List.drop_of_length_le (by rw [low_length]; omega), List.nil_append, List.take_left]
  have hn : ln ((low 8 (sm l) ++ l ++ t).take 8) = sm l := by rw [ht]; exact ln_low 8 _ (by have := sm_lt l; simpa using this)
  rw [takeL_ok hp h1 h2 (by simp [low_length]) (by rw [hn, hd]), hd]
  simp [frameL, low_length]; omega

theorem takeL_bad {s : List UInt8} (h : (takeL s).2.2 ≠ 0) : takeL s = ([], 0, (takeL s).2.2) := by
  generalize hp : St.num ⟨0, s⟩ = p
  obtain ⟨k, e, r⟩ := p
  by_cases he : e = 0
  · subst he
    by_cases hk : k < 1 ∨ 65536 < k
    · rw [takeL_size hp hk]
    · by_cases hr : r.length < 8 + k
      · rw [takeL_short hp (by omega) (by omega) hr]
      · by_cases hs : ln (r.take 8) = sm ((r.drop 8).take k)
        · rw [takeL_ok hp (by omega) (by omega) (by omega) hs] at h; simp at h
        · rw [takeL_sum hp (by omega) (by omega) (by omega) hs]
  · rw [takeL_num (by rw [hp]; exact he)]

theorem takeL_pos {s : List UInt8} (h : (takeL s).2.2 = 0) : 10 ≤ (takeL s).2.1 ∧ (takeL s).2.1 ≤ s.length := by
  obtain ⟨a, b, c, d⟩ := takeL_stands (s := s) (inside := (takeL s).1) (n := (takeL s).2.1) (by rw [← h])
  have := congrArg List.length d
  rw [List.length_append] at this
  have hf := frameL_length (takeL s).1
  have he : (enc (takeL s).1.length).length = 1 + nb (takeL s).1.length := enc_length
  omega

/-! ### All of them -/
/-- What is told of bytes from a place on: (where, (inside, size, why)), the last one perhaps none. -/
def foundL (s : List UInt8) (at_ : Nat) : List (Nat × (List UInt8 × Nat × Int)) :=
  if s.length ≤ at_ then []
  else if h : (takeL (s.drop at_)).2.2 = 0 then (at_, takeL (s.drop at_)) :: foundL s (at_ + (takeL (s.drop at_)).2.1)
  else [(at_, takeL (s.drop at_))]
termination_by s.length - at_
decreasing_by
  have := takeL_pos h
  simp at this
  omega

theorem foundL_end {s : List UInt8} {a : Nat} (h : s.length ≤ a) : foundL s a = [] := by rw [foundL, if_pos h]
theorem foundL_go {s : List UInt8} {a : Nat} (h : a < s.length) (h0 : (takeL (s.drop a)).2.2 = 0) : foundL s a = (a, takeL (s.drop a)) :: foundL s (a + (takeL (s.drop a)).2.1) := by
  rw [foundL, if_neg (by omega), dif_pos h0]
theorem foundL_stop {s : List UInt8} {a : Nat} (h : a < s.length) (h0 : (takeL (s.drop a)).2.2 ≠ 0) : foundL s a = [(a, takeL (s.drop a))] := by
  rw [foundL, if_neg (by omega), dif_neg h0]

/-- All frames from a place on: the insides, where they end, and why. -/
def splitL (s : List UInt8) (at_ : Nat) : List (List UInt8) × Nat × Int :=
  if s.length ≤ at_ then ([], at_, 0)
  else if h : (takeL (s.drop at_)).2.2 = 0 then
    let r := splitL s (at_ + (takeL (s.drop at_)).2.1)
    ((takeL (s.drop at_)).1 :: r.1, r.2)
  else ([], at_, (takeL (s.drop at_)).2.2)
termination_by s.length - at_
decreasing_by
  have := takeL_pos h
  simp at this
  omega

theorem splitL_end {s : List UInt8} {a : Nat} (h : s.length ≤ a) : splitL s a = ([], a, 0) := by rw [splitL, if_pos h]
theorem splitL_go {s : List UInt8} {a : Nat} (h : a < s.length) (h0 : (takeL (s.drop a)).2.2 = 0) :
    splitL s a = ((takeL (s.drop a)).1 :: (splitL s (a + (takeL (s.drop a)).2.1)).1, (splitL s (a + (takeL (s.drop a)).2.1)).2) := by
  rw [splitL, if_neg (by omega), dif_pos h0]
theorem splitL_stop {s : List UInt8} {a : Nat} (h : a < s.length) (h0 : (takeL (s.drop a)).2.2 ≠ 0) : splitL s a = ([], a, (takeL (s.drop a)).2.2) := by
  rw [splitL, if_neg (by omega), dif_neg h0]

end Go.Proofs.YthpamdjgkmaleaaGreatDoor

namespace Go.Proofs.YthpamdjgkmaleaaGreatDoor
set_option linter.unusedVariables false

abbrev Found := Nat × (List UInt8 × Nat × Int)

def okL (xs : List Found) : Prop := ∀ x ∈ xs, x.2.2.2 = 0
def insides (xs : List Found) : List (List UInt8) := xs.map (·.2.1)
def endOf : Nat → List Found → Nat
  | a, [] => a
  | _, x :: t => endOf (x.1 + x.2.2.1) t
def told (x : Found) : Nat × List UInt8 := (x.1, x.2.1)

theorem okL_nil : okL [] := by intro x h; cases h
theorem okL_snoc {xs : List Found} {x : Found} (h : okL xs) (hx : x.2.2.2 = 0) : okL (xs ++ [x]) := by
  intro y hy
  rcases List.mem_append.1 hy with h1 | h1
  · exact h y h1
  · simp at h1; subst h1; exact hx
theorem insides_snoc (xs : List Found) (x : Found) : insides (xs ++ [x]) = insides xs ++ [x.2.1] := by simp [insides]
theorem insides_length (xs : List Found) : (insides xs).length = xs.length := by simp [insides]
theorem endOf_snoc : ∀ (xs : List Found) (a : Nat) (x : Found), endOf a (xs ++ [x]) = x.1 + x.2.2.1
  | [], _, _ => rfl
  | y :: t, a, x => by rw [List.cons_append, endOf, endOf_snoc t]

/-- What all that is told comes to. -/
def summed : Nat → List Found → List (List UInt8) × Nat × Int
  | a, [] => ([], a, 0)
  | _, x :: t => if x.2.2.2 = 0 then (x.2.1 :: (summed (x.1 + x.2.2.1) t).1, (summed (x.1 + x.2.2.1) t).2) else ([], x.1, x.2.2.2)

theorem split_found (l : List UInt8) : ∀ (m a : Nat), l.length - a ≤ m → splitL l a = summed a (foundL l a) := by
  intro m
  induction m with
  | zero => intro a h; rw [splitL_end (by omega), foundL_end (by omega), summed]
  | succ m ih =>
    intro a h
    by_cases ha : l.length ≤ a
    · rw [splitL_end ha, foundL_end ha, summed]
    · by_cases h0 : (takeL (l.drop a)).2.2 = 0
      · have hp := takeL_pos h0
        rw [splitL_go (by omega) h0, foundL_go (by omega) h0, summed, if_pos h0, ih _ (by simp at hp; omega)]
      · rw [splitL_stop (by omega) h0, foundL_stop (by omega) h0, summed, if_neg h0]

theorem summed_append : ∀ (xs ys : List Found) (a : Nat), okL xs → summed a (xs ++ ys) = (insides xs ++ (summed (endOf a xs) ys).1, (summed (endOf a xs) ys).2)
  | [], _, _, _ => rfl
  | x :: t, ys, a, h => by
    rw [List.cons_append, summed, if_pos (h x (by simp)), summed_append t ys _ (fun y hy => h y (by simp [hy]))]
    rfl

theorem found_length (l : List UInt8) : ∀ (m a : Nat), l.length - a ≤ m → (foundL l a).length ≤ l.length - a := by
  intro m
  induction m with
  | zero => intro a h; rw [foundL_end (by omega)]; simp
  | succ m ih =>
    intro a h
    by_cases ha : l.length ≤ a
    · rw [foundL_end ha]; simp
    · by_cases h0 : (takeL (l.drop a)).2.2 = 0
      · have hp := takeL_pos h0
        rw [foundL_go (by omega) h0, List.length_cons]
        simp at hp
        have := ih (a + (takeL (l.drop a)).2.1) (by omega)
        omega
      · rw [foundL_stop (by omega) h0]; simp; omega

theorem found_le (l : List UInt8) : ∀ (m a : Nat), l.length - a ≤ m → ∀ x ∈ foundL l a, x.1 + x.2.2.1 ≤ l.length := by
  intro m
  induction m with
  | zero => intro a h x hx; rw [foundL_end (by omega)] at hx; cases hx
  | succ m ih =>
    intro a h x hx
    by_cases ha : l.length ≤ a
    · rw [foundL_end ha] at hx; cases hx
    · by_cases h0 : (takeL (l.drop a)).2.2 = 0
      · have hp := takeL_pos h0
        simp at hp
        rw [foundL_go (by omega) h0] at hx
        rcases List.mem_cons.1 hx with rfl | hx
        · simp only; omega
        · exact ih _ (by omega) x hx
      · rw [foundL_stop (by omega) h0] at hx
        simp at hx
        subst hx
        have := takeL_bad h0
        rw [this]
        simp only
        omega

/-- One that is none is the last one. -/
theorem none_last (l : List UInt8) : ∀ (m a : Nat) (pre : List Found) (x : Found), l.length - a ≤ m → pre ++ [x] <+: foundL l a → x.2.2.2 ≠ 0 → foundL l a = pre ++ [x] := by
  intro m
  induction m with
  | zero =>
    intro a pre x h hp hx
    rw [foundL_end (by omega)] at hp
    have := hp.length_le
    simp at this
  | succ m ih =>
    intro a pre x h hp hx
    by_cases ha : l.length ≤ a
    · rw [foundL_end ha] at hp
      have := hp.length_le
      simp at this
    · by_cases h0 : (takeL (l.drop a)).2.2 = 0
      · have hpo := takeL_pos h0
        rw [foundL_go (by omega) h0] at hp ⊢
        cases pre with
        | nil =>
          obtain ⟨t, ht⟩ := hp
          simp at ht
          rw [ht.1] at hx
          exact absurd h0 hx
        | cons y t =>
          rw [List.cons_append, List.cons_prefix_cons] at hp
          obtain ⟨rfl, hp⟩ := hp
          rw [List.cons_append, ← ih _ t x (by simp at hpo; omega) hp hx]
      · rw [foundL_stop (by omega) h0] at hp ⊢
        have hl := hp.length_le
        simp at hl
        subst hl
        obtain ⟨t, ht⟩ := hp
        simp at ht
        simp [ht]

/-- Each one begins where those ahead of it end. -/
theorem found_at (l : List UInt8) : ∀ (m a : Nat) (pre : List Found) (x : Found), l.length - a ≤ m → pre ++ [x] <+: foundL l a → x.1 = endOf a pre := by
  intro m
  induction m with
  | zero =>
    intro a pre x h hp
    rw [foundL_end (by omega)] at hp
    have := hp.length_le
    simp at this
  | succ m ih =>
    intro a pre x h hp
    by_cases ha : l.length ≤ a
    · rw [foundL_end ha] at hp
      have := hp.length_le
      simp at this
    · by_cases h0 : (takeL (l.drop a)).2.2 = 0
      · have hpo := takeL_pos h0
        rw [foundL_go (by omega) h0] at hp
        cases pre with
        | nil =>
          obtain ⟨t, ht⟩ := hp
          simp at ht
          rw [ht.1]; rfl
        | cons y t =>
          rw [List.cons_append, List.cons_prefix_cons] at hp
          obtain ⟨rfl, hp⟩ := hp
          exact ih (a + (takeL (l.drop a)).2.1) t x (by simp at hpo; omega) hp
      · rw [foundL_stop (by omega) h0] at hp
        have hl := hp.length_le
        simp at hl
        subst hl
        obtain ⟨t, ht⟩ := hp
        simp at ht
        rw [ht.1]; rfl

/-- What Walk tells. -/
def walkF (x : Found) : Option (Nat × List UInt8) := if x.2.2.2 = 0 then some (told x) else none
def walkL (l : List UInt8) (a : Nat) : List (Nat × List UInt8) := (foundL l a).filterMap walkF

theorem walk_ok {xs : List Found} (h : okL xs) : xs.filterMap walkF = xs.map told := by
  induction xs with
  | nil => rfl
  | cons x t ih =>
    have hx : walkF x = some (told x) := by unfold walkF; rw [if_pos (h x (by simp))]
    rw [List.filterMap_cons, hx, List.map_cons, ih (fun y hy => h y (by simp [hy]))]

theorem walk_stop {xs : List Found} {x : Found} (h : okL xs) (hx : x.2.2.2 ≠ 0) : (xs ++ [x]).filterMap walkF = xs.map told := by
  have hx' : walkF x = none := by unfold walkF; rw [if_neg hx]
  rw [List.filterMap_append, walk_ok h, List.filterMap_cons, hx']
  simp

/-- Each begins where the one ahead of it ends. -/
def chain : Nat → List (Nat × List UInt8) → Prop
  | _, [] => True
  | a, y :: t => y.1 = a ∧ 1 ≤ y.2.length ∧ chain (a + (frameL y.2).length) t

theorem walk_split (l : List UInt8) : ∀ (m a : Nat), l.length - a ≤ m → chain a (walkL l a) ∧ (walkL l a).map (·.2) = (splitL l a).1 := by
  intro m
  induction m with
  | zero => intro a h; unfold walkL; rw [foundL_end (by omega), splitL_end (by omega)]; exact ⟨trivial, rfl⟩
  | succ m ih =>
    intro a h
    by_cases ha : l.length ≤ a
    · unfold walkL; rw [foundL_end ha, splitL_end ha]; exact ⟨trivial, rfl⟩
    · by_cases h0 : (takeL (l.drop a)).2.2 = 0
      · have hpo := takeL_pos h0
        obtain ⟨s1, s2, s3, s4⟩ := takeL_stands (s := l.drop a) (inside := (takeL (l.drop a)).1) (n := (takeL (l.drop a)).2.1) (by rw [← h0])
        obtain ⟨i1, i2⟩ := ih (a + (takeL (l.drop a)).2.1) (by simp at hpo; omega)
        have hw : walkL l a = (a, (takeL (l.drop a)).1) :: walkL l (a + (takeL (l.drop a)).2.1) := by
          unfold walkL
          rw [foundL_go (by omega) h0, List.filterMap_cons]
          have : walkF (a, takeL (l.drop a)) = some (a, (takeL (l.drop a)).1) := by unfold walkF; rw [if_pos h0]; rfl
          rw [this]
        rw [hw, splitL_go (by omega) h0]
        refine ⟨⟨rfl, s1, ?_⟩, ?_⟩
        · simp only; rw [← s3]; exact i1
        · rw [List.map_cons, i2]
      · have hw : walkL l a = [] := by
          unfold walkL
          rw [foundL_stop (by omega) h0, List.filterMap_cons]
          have : walkF (a, takeL (l.drop a)) = none := by unfold walkF; rw [if_neg h0]
          rw [this]; rfl
        rw [hw, splitL_stop (by omega) h0]
        exact ⟨trivial, rfl⟩

/-- Where the frames end. -/
def sizes : List (List UInt8) → Nat
  | [] => 0
  | x :: t => (frameL x).length + sizes t

theorem split_end (l : List UInt8) : ∀ (m a : Nat), l.length - a ≤ m → (splitL l a).2.1 = a + sizes (splitL l a).1 := by
  intro m
  induction m with
  | zero => intro a h; rw [splitL_end (by omega)]; rfl
  | succ m ih =>
    intro a h
    by_cases ha : l.length ≤ a
    · rw [splitL_end ha]; rfl
    · by_cases h0 : (takeL (l.drop a)).2.2 = 0
      · have hpo := takeL_pos h0
        obtain ⟨s1, s2, s3, s4⟩ := takeL_stands (s := l.drop a) (inside := (takeL (l.drop a)).1) (n := (takeL (l.drop a)).2.1) (by rw [← h0])
        rw [splitL_go (by omega) h0]
        simp only [sizes]
        rw [ih _ (by simp at hpo; omega), s3]; omega
      · rw [splitL_stop (by omega) h0]; rfl

end Go.Proofs.YthpamdjgkmaleaaGreatDoor

namespace Go.Proofs.YthpamdjgkmaleaaGreatDoor
set_option linter.unusedVariables false

theorem sizes_append : ∀ (xs ys : List (List UInt8)), sizes (xs ++ ys) = sizes xs + sizes ys
  | [], ys => by simp [sizes]
  | x :: t, ys => by rw [List.cons_append, sizes, sizes_append t, sizes]; omega
theorem sizes_snoc (xs : List (List UInt8)) (y : List UInt8) : sizes (xs ++ [y]) = sizes xs + (frameL y).length := by rw [sizes_append]; simp [sizes]

theorem split_le (l : List UInt8) : ∀ (m a : Nat), l.length - a ≤ m → a ≤ l.length → (splitL l a).2.1 ≤ l.length := by
  intro m
  induction m with
  | zero => intro a h ha; rw [splitL_end (by omega)]; exact ha
  | succ m ih =>
    intro a h ha
    by_cases he : l.length ≤ a
    · rw [splitL_end he]; exact ha
    · by_cases h0 : (takeL (l.drop a)).2.2 = 0
      · have hpo := takeL_pos h0
        simp at hpo
        rw [splitL_go (by omega) h0]
        exact ih _ (by omega) (by omega)
      · rw [splitL_stop (by omega) h0]; exact ha

theorem chain_at : ∀ (L : List (Nat × List UInt8)) (a : Nat) (pre : List (Nat × List UInt8)) (x : Nat × List UInt8), chain a L → pre ++ [x] <+: L →
    x.1 = a + sizes (pre.map (·.2)) ∧ 1 ≤ x.2.length
  | [], a, pre, x, _, hp => by have := hp.length_le; simp at this
  | y :: t, a, [], x, hc, hp => by
    obtain ⟨u, hu⟩ := hp
    simp at hu
    obtain ⟨rfl, _⟩ := hu
    exact ⟨by rw [hc.1]; simp [sizes], hc.2.1⟩
  | y :: t, a, z :: pre, x, hc, hp => by
    rw [List.cons_append, List.cons_prefix_cons] at hp
    obtain ⟨rfl, hp⟩ := hp
    obtain ⟨h1, h2⟩ := chain_at t _ pre x hc.2.2 hp
    refine ⟨?_, h2⟩
    rw [h1, List.map_cons, sizes]; omega

/-- What Walk tells next, and what Split has told of it. -/
theorem walk_next (l : List UInt8) (pre : List (Nat × List UInt8)) (x : Nat × List UInt8) (hp : pre ++ [x] <+: walkL l 0) :
    ∃ h : pre.length < (splitL l 0).1.length, (splitL l 0).1[pre.length] = x.2 ∧ x.1 = sizes (pre.map (·.2)) ∧ sizes (pre.map (·.2)) + (frameL x.2).length ≤ (splitL l 0).2.1 ∧ (splitL l 0).2.1 ≤ l.length := by
  obtain ⟨hc, hm⟩ := walk_split l l.length 0 (by omega)
  have he := split_end l l.length 0 (by omega)
  obtain ⟨t, ht⟩ := hp
  have hm' : (splitL l 0).1 = pre.map (·.2) ++ (x.2 :: t.map (·.2)) := by rw [← hm, ← ht]; simp
  have hx := chain_at _ 0 pre x hc ⟨t, ht⟩
  refine ⟨by rw [hm']; simp, ?_, by omega, ?_, split_le l l.length 0 (by omega) (by omega)⟩
  · simp only [hm']
    rw [List.getElem_append_right (by simp)]
    simp
  · rw [he, hm', sizes_append, sizes]; omega

theorem walk_all (l : List UInt8) : (walkL l 0).length = (splitL l 0).1.length := by
  obtain ⟨_, hm⟩ := walk_split l l.length 0 (by omega)
  rw [← hm]; simp

theorem frame_len (x : List UInt8) : x.length + 9 ≤ (frameL x).length := by
  rw [frameL_length, enc_length]; omega

end Go.Proofs.YthpamdjgkmaleaaGreatDoor

namespace Go.Proofs.YthpamdjgkmaleaaGreatDoor
set_option linter.unusedVariables false

/-- Frames in a row. -/
def rowL (ls : List (List UInt8)) : List UInt8 := ls.flatMap frameL
theorem rowL_nil : rowL [] = [] := rfl
theorem rowL_cons (x : List UInt8) (t : List (List UInt8)) : rowL (x :: t) = frameL x ++ rowL t := by simp [rowL]
theorem rowL_append (s t : List (List UInt8)) : rowL (s ++ t) = rowL s ++ rowL t := by simp [rowL]
theorem rowL_length : ∀ ls : List (List UInt8), (rowL ls).length = sizes ls
  | [] => rfl
  | x :: t => by rw [rowL_cons, List.length_append, rowL_length t, sizes]

/-- Insides of at least one byte and at most 200. -/
def Small (ls : List (List UInt8)) : Prop := ∀ x ∈ ls, 1 ≤ x.length ∧ x.length ≤ 200
theorem Small.take {ls : List (List UInt8)} (h : Small ls) (k : Nat) : Small (ls.take k) := fun x hx => h x (List.mem_of_mem_take hx)

theorem frame_small {x : List UInt8} (h : x.length ≤ 200) : frameL x = enc x.length ++ (low 8 (sm x) ++ x) := rfl
theorem enc_one {x : List UInt8} (h : x.length ≤ 200) : enc x.length = [UInt8.ofNat x.length] := enc_small (by omega)
theorem frame_small_length {x : List UInt8} (h : x.length ≤ 200) : (frameL x).length = x.length + 9 := by
  rw [frameL_length, enc_one h]; simp; omega

theorem sizes_take {ls : List (List UInt8)} (hs : Small ls) {m : Nat} (h : m < ls.length) : sizes (ls.take (m + 1)) = sizes (ls.take m) + (ls[m].length + 9) := by
  rw [List.take_succ_eq_append_getElem h, sizes_snoc, frame_small_length (hs _ (List.getElem_mem h)).2]
theorem rowL_take {ls : List (List UInt8)} {m : Nat} (h : m < ls.length) : rowL (ls.take (m + 1)) = rowL (ls.take m) ++ frameL ls[m] := by
  rw [List.take_succ_eq_append_getElem h, rowL_append, rowL_cons, rowL_nil, List.append_nil]
theorem sizes_take_le (ls : List (List UInt8)) (m : Nat) : sizes (ls.take m) ≤ sizes ls := by
  have h := congrArg sizes (List.take_append_drop m ls)
  rw [sizes_append] at h; omega
theorem sizes_take_mono (ls : List (List UInt8)) {m k : Nat} (h : m ≤ k) : sizes (ls.take m) ≤ sizes (ls.take k) := by
  have := sizes_take_le (ls.take k) m
  rwa [List.take_take, Nat.min_eq_left h] at this
theorem sizes_small : ∀ {ls : List (List UInt8)}, Small ls → sizes ls ≤ 209 * ls.length
  | [], _ => Nat.zero_le _
  | x :: t, hs => by
    have h1 := frame_small_length (hs x (by simp)).2
    have h2 := (hs x (by simp)).2
    have h3 := sizes_small (ls := t) (fun y hy => hs y (by simp [hy]))
    rw [sizes, List.length_cons]; omega

/-- All frames in a row are told. -/
theorem split_row : ∀ (ls : List (List UInt8)) (p t : List UInt8), Small ls →
    splitL (p ++ (rowL ls ++ t)) p.length = (ls ++ (splitL (p ++ (rowL ls ++ t)) (p.length + sizes ls)).1, (splitL (p ++ (rowL ls ++ t)) (p.length + sizes ls)).2)
  | [], p, t, _ => by simp [sizes]
  | x :: ls, p, t, hs => by
    obtain ⟨h1, h2⟩ := hs x (by simp)
    have hd : (p ++ (rowL (x :: ls) ++ t)).drop p.length = frameL x ++ (rowL ls ++ t) := by rw [List.drop_left, rowL_cons, List.append_assoc]
    have ht := takeL_frame x (rowL ls ++ t) h1 (by omega)
    have hl := frame_small_length h2
    have hlt : p.length < (p ++ (rowL (x :: ls) ++ t)).length := by rw [rowL_cons]; simp; omega
    rw [splitL_go hlt (by rw [hd, ht]), hd, ht]
    simp only
    have ih := split_row ls (p ++ frameL x) t (fun y hy => hs y (by simp [hy]))
    have e : p ++ frameL x ++ (rowL ls ++ t) = p ++ (rowL (x :: ls) ++ t) := by rw [rowL_cons]; simp
    rw [e, List.length_append] at ih
    rw [ih, sizes, Nat.add_assoc]
    simp

theorem split_then {ls : List (List UInt8)} {t : List UInt8} {e : Int} (hs : Small ls) (ht : t ≠ []) (h : (takeL t).2.2 = e) (he : e ≠ 0) : splitL (rowL ls ++ t) 0 = (ls, sizes ls, e) := by
  have h1 := split_row ls [] t hs
  simp only [List.nil_append, List.length_nil, Nat.zero_add] at h1
  have hd : (rowL ls ++ t).drop (sizes ls) = t := by rw [← rowL_length, List.drop_left]
  have hp : 0 < t.length := by cases t with | nil => exact absurd rfl ht | cons c t => simp
  have h2 := splitL_stop (s := rowL ls ++ t) (a := sizes ls) (by rw [List.length_append, rowL_length]; omega) (by rw [hd, h]; exact he)
  rw [h1, h2, hd, h, List.append_nil]

theorem split_whole {ls : List (List UInt8)} (hs : Small ls) : splitL (rowL ls) 0 = (ls, sizes ls, 0) := by
  have h1 := split_row ls [] [] hs
  simp only [List.nil_append, List.length_nil, Nat.zero_add, List.append_nil] at h1
  rw [h1, splitL_end (by rw [rowL_length]; omega), List.append_nil]

/-- A frame that is cut. -/
theorem takeL_cut {x : List UInt8} (h1 : 1 ≤ x.length) (h2 : x.length ≤ 200) {k : Nat} (h0 : 0 < k) (hk : k < x.length + 9) : (takeL ((frameL x).take k)).2.2 = 3 := by
  obtain ⟨j, rfl⟩ : ∃ j, k = j + 1 := ⟨k - 1, by omega⟩
  have e : (frameL x).take (j + 1) = enc x.length ++ (low 8 (sm x) ++ x).take j := by
    rw [frame_small h2, enc_one h2, List.cons_append, List.nil_append, List.take_succ_cons]; rfl
  rw [e, takeL_short (num_enc _ _ (by omega)) h1 (by omega) (by simp [low_length]; omega)]

/-- A row of frames that is cut. -/
theorem split_cut {ls : List (List UInt8)} {n m : Nat} (hs : Small ls) (hm : m ≤ ls.length) (h1 : sizes (ls.take m) ≤ n) (h2 : m < ls.length → n < sizes (ls.take (m + 1))) (hn : n ≤ sizes ls) :
    splitL ((rowL ls).take n) 0 = (ls.take m, sizes (ls.take m), if sizes (ls.take m) = n then 0 else 3) := by
  by_cases he : sizes (ls.take m) = n
  · rw [if_pos he]
    have e : (rowL ls).take n = rowL (ls.take m) := by
      conv => lhs; rw [← List.take_append_drop m ls, rowL_append]
      rw [← he, ← rowL_length, List.take_left]
    rw [e, split_whole (hs.take m)]
  · rw [if_neg he]
    by_cases hlt : m < ls.length
    · have h3 := h2 hlt
      have h4 := sizes_take hs hlt
      obtain ⟨s1, s2⟩ := hs _ (List.getElem_mem hlt)
      have e : (rowL ls).take n = rowL (ls.take m) ++ (frameL ls[m]).take (n - sizes (ls.take m)) := by
        have hx : rowL ls = rowL (ls.take m) ++ (frameL ls[m] ++ rowL (ls.drop (m + 1))) := by
          conv => lhs; rw [← List.take_append_drop m ls, List.drop_eq_getElem_cons hlt, rowL_append, rowL_cons]
        rw [hx, List.take_append, rowL_length, List.take_of_length_le (by rw [rowL_length]; omega), List.take_append_of_le_length (by rw [frame_small_length s2]; omega)]
      have h5 := takeL_cut s1 s2 (k := n - sizes (ls.take m)) (by omega) (by omega)
      rw [e]
      refine split_then (hs.take m) ?_ h5 (by decide)
      intro h6
      have := congrArg List.length h6
      rw [List.length_take, frame_small_length s2] at this
      simp at this
      omega
    · obtain rfl : m = ls.length := by omega
      rw [List.take_length] at h1 he
      omega

/-- Texts that differ in one byte have two checksums. -/
theorem sum_set_ne {x : List UInt8} {j : Nat} {c : UInt8} (hj : j < x.length) (hc : c ≠ x[j]) : sm (x.set j c) ≠ sm x := by
  have hb : ∃ i, i < 8 ∧ c.toNat.testBit i ≠ x[j].toNat.testBit i := by
    apply Classical.byContradiction
    intro h
    apply hc
    apply UInt8.toNat_inj.1
    apply Nat.eq_of_testBit_eq
    intro i
    by_cases hi : i < 8
    · exact Classical.byContradiction fun h2 => h ⟨i, hi, h2⟩
    · have e1 := Nat.testBit_lt_two_pow (i := i) (x := c.toNat) (Nat.lt_of_lt_of_le c.toNat_lt (Nat.pow_le_pow_right (by decide) (by omega)))
      have e2 := Nat.testBit_lt_two_pow (i := i) (x := x[j].toNat) (Nat.lt_of_lt_of_le x[j].toNat_lt (Nat.pow_le_pow_right (by decide) (by omega)))
      rw [e1, e2]
  obtain ⟨i, hi, hne⟩ := hb
  have hq : ∀ q, q / 8 ≠ j → Crc.bitOf (x.set j c) q = Crc.bitOf x q := fun q h => by
    unfold Crc.bitOf
    rw [List.getD_eq_getElem?_getD, List.getD_eq_getElem?_getD, List.getElem?_set_ne (by omega)]
  have h := Crc.sum_ne (x.set j c) x (by simp) (8 * j) (8 * j + i) (fun q h => hq q (by omega)) (fun q h => hq q (by omega)) (by simp; omega) (by
    unfold Crc.bitOf
    rw [show (8 * j + i) / 8 = j from by omega, show (8 * j + i) % 8 = i from by omega, List.getD_eq_getElem?_getD, List.getD_eq_getElem?_getD, List.getElem?_set_self hj, List.getElem?_eq_getElem hj]
    exact hne)
  intro he
  exact h (BitVec.eq_of_toNat_eq he)

/-- A frame in which a byte of the checksum or of the inside is turned. -/
theorem takeL_flip {x t : List UInt8} (h1 : 1 ≤ x.length) (h2 : x.length ≤ 200) {q : Nat} (hq : q < 8 + x.length) {c : UInt8} (hc : (low 8 (sm x) ++ x)[q]? ≠ some c) : (takeL ((frameL x).set (q + 1) c ++ t)).2.2 = 5 := by
  have hll := low_length 8 (sm x)
  have hln : ln (low 8 (sm x)) = sm x := ln_low 8 _ (by have := sm_lt x; simpa using this)
  have e : (frameL x).set (q + 1) c ++ t = enc x.length ++ ((low 8 (sm x) ++ x).set q c ++ t) := by
    rw [frame_small h2, enc_one h2]; simp
  have hYl : ((low 8 (sm x) ++ x).set q c).length = 8 + x.length := by simp [hll]
  have t8 : ((low 8 (sm x) ++ x).set q c ++ t).take 8 = ((low 8 (sm x) ++ x).set q c).take 8 := List.take_append_of_le_length (by omega)
  have d8 : (((low 8 (sm x) ++ x).set q c ++ t).drop 8).take x.length = ((low 8 (sm x) ++ x).set q c).drop 8 := by
    rw [List.drop_append_of_le_length (by omega), List.take_append_of_le_length (by simp [hll]), List.take_of_length_le (by simp [hll])]
  rw [e, takeL_sum (num_enc _ _ (by omega)) h1 (by omega) (by rw [List.length_append]; omega) ?_]
  rw [t8, d8]
  by_cases h8 : q < 8
  · have hne : (low 8 (sm x))[q]? ≠ some c := by rwa [List.getElem?_append_left (by omega)] at hc
    have a1 : ((low 8 (sm x) ++ x).set q c).take 8 = (low 8 (sm x)).set q c := by
      rw [List.set_append_left _ _ (by omega), List.take_append_of_le_length (by simp [hll]), List.take_of_length_le (by simp [hll])]
    have a2 : ((low 8 (sm x) ++ x).set q c).drop 8 = x := by
      rw [List.set_append_left _ _ (by omega), List.drop_append_of_le_length (by simp [hll]), List.drop_of_length_le (by simp [hll]), List.nil_append]
    rw [a1, a2]
    intro h
    have := (low8 ((low 8 (sm x)).set q c) (sm x) (by simp [hll]) (sm_lt x)).2 h
    apply hne
    rw [← this, List.getElem?_set_self (by omega)]
  · have hj : q - 8 < x.length := by omega
    have hne : c ≠ x[q - 8] := by
      rw [List.getElem?_append_right (by omega), hll, List.getElem?_eq_getElem hj] at hc
      intro h; exact hc (by rw [h])
    have a1 : ((low 8 (sm x) ++ x).set q c).take 8 = low 8 (sm x) := by
      rw [List.set_append_right _ _ (by omega), List.take_append_of_le_length (by omega), List.take_of_length_le (by omega)]
    have a2 : ((low 8 (sm x) ++ x).set q c).drop 8 = x.set (q - 8) c := by
      rw [List.set_append_right _ _ (by omega), hll, List.drop_append_of_le_length (by omega), List.drop_of_length_le (by omega), List.nil_append]
    rw [a1, a2, hln]
    exact fun h => sum_set_ne hj hne h.symm

/-- A row of frames in which a byte of a checksum or of an inside is turned. -/
theorem split_flip {ls : List (List UInt8)} {i q : Nat} {c : UInt8} (hs : Small ls) (hi : i < ls.length) (hq : q < 8 + ls[i].length) (hc : (rowL ls)[sizes (ls.take i) + (q + 1)]? ≠ some c) :
    splitL ((rowL ls).set (sizes (ls.take i) + (q + 1)) c) 0 = (ls.take i, sizes (ls.take i), 5) := by
  obtain ⟨s1, s2⟩ := hs _ (List.getElem_mem hi)
  have hx : rowL ls = rowL (ls.take i) ++ (frameL ls[i] ++ rowL (ls.drop (i + 1))) := by
    conv => lhs; rw [← List.take_append_drop i ls, List.drop_eq_getElem_cons hi, rowL_append, rowL_cons]
  have hfl := frame_small_length s2
  rw [hx, List.getElem?_append_right (by rw [rowL_length]; omega), rowL_length, Nat.add_sub_cancel_left, List.getElem?_append_left (by omega), frame_small s2, enc_one s2, List.cons_append, List.nil_append, List.getElem?_cons_succ] at hc
  have hcut := takeL_flip (t := rowL (ls.drop (i + 1))) s1 s2 hq hc
  rw [hx, List.set_append_right _ _ (by rw [rowL_length]; omega), rowL_length, Nat.add_sub_cancel_left, List.set_append_left _ _ (by omega)]
  refine split_then (hs.take i) ?_ hcut (by decide)
  intro h6
  have := congrArg List.length h6
  rw [List.length_append, List.length_set, hfl] at this
  simp at this

end Go.Proofs.YthpamdjgkmaleaaGreatDoor

namespace Go.Proofs.YthpamdjgkmaleaaGreatDoor
set_option linter.unusedVariables false

/-- A file. -/
structure PF where
  name : List UInt8
  bytes : List UInt8
  synced : Nat

/-- A disk. -/
structure PD where
  files : List PF
  room : Int
  fuse : Int
  dead : Bool

def PD.find (d : PD) (nm : List UInt8) : Option PF := d.files.find? fun f => f.name = nm
/-- The file of a name turned. -/
def setF (nm : List UInt8) (g : PF → PF) (l : List PF) : List PF := l.map fun f => if f.name = nm then g f else f
/-- A new file, in its place. -/
def insF (f : PF) : List PF → List PF
  | [] => [f]
  | g :: r => if f.name < g.name then f :: g :: r else g :: insF f r
def totF (l : List PF) : Nat := (l.map fun f => f.bytes.length).sum

/-- A file with more bytes. -/
def PF.more (f : PF) (s : List UInt8) : PF := { f with bytes := f.bytes ++ s }
/-- A disk that has the file. -/
def PD.withFile (d : PD) (nm : List UInt8) : PD := { d with files := if (d.find nm).isSome then d.files else insF ⟨nm, [], 0⟩ d.files }
/-- Bytes written behind a file that is there. -/
def PD.write (d : PD) (nm s : List UInt8) : PD × Int :=
  if 0 ≤ d.fuse ∧ d.fuse < s.length then ({ files := setF nm (fun f => f.more (s.take d.fuse.toNat)) d.files, room := d.room - d.fuse, fuse := -1, dead := true }, 9)
  else ({ files := setF nm (fun f => f.more s) d.files, room := d.room - s.length, fuse := if 0 ≤ d.fuse then d.fuse - s.length else d.fuse, dead := d.dead }, 0)
def PD.append (d : PD) (nm s : List UInt8) : PD × Int :=
  if d.dead then (d, 8)
  else if nm = [] ∨ 24 < nm.length then (d, 2)
  else if d.room < s.length ∨ (d.find nm = none ∧ 1000 ≤ d.files.length) then (d, 7)
  else (d.withFile nm).write nm s
/-- What asks for power and a file. -/
def PD.within (d : PD) (nm : List UInt8) (act : PF → PD × Int) : PD × Int :=
  if d.dead then (d, 8) else match d.find nm with
    | none => (d, 11)
    | some f => act f
def PD.sync (d : PD) (nm : List UInt8) : PD × Int :=
  d.within nm fun _ => ({ d with files := setF nm (fun f => { f with synced := f.bytes.length }) d.files }, 0)
def PD.cut (d : PD) (nm : List UInt8) (n : Int) : PD × Int :=
  d.within nm fun f => if n < f.synced ∨ f.bytes.length < n then (d, 2)
    else ({ d with files := setF nm (fun f => { f with bytes := f.bytes.take n.toNat }) d.files, room := d.room + (f.bytes.length - n) }, 0)
def PD.remove (d : PD) (nm : List UInt8) : PD × Int :=
  d.within nm fun f => ({ d with files := d.files.filter (fun g => g.name ≠ nm), room := d.room + f.bytes.length }, 0)
/-- Of the bytes that are not synced the first keep in all stay (none: all of them). -/
def crashF : Option Nat → List PF → List PF
  | _, [] => []
  | none, l => l
  | some k, f :: r => { f with bytes := f.bytes.take (f.synced + min k (f.bytes.length - f.synced)) } :: crashF (some (k - min k (f.bytes.length - f.synced))) r
def PD.crash (d : PD) (keep : Int) : PD × Int :=
  if d.dead then (d, 8)
  else ({ files := crashF (if keep < 0 then none else some keep.toNat) d.files, room := d.room + (totF d.files - totF (crashF (if keep < 0 then none else some keep.toNat) d.files) : Int), fuse := -1, dead := true }, 0)
def PD.setFuse (d : PD) (n : Int) : PD × Int := if d.dead then (d, 8) else ({ d with fuse := max n (-1) }, 0)
def PD.start (d : PD) : PD := { d with dead := false }
/-- A bit turned. -/
def flip (b : UInt8) (k : Nat) : UInt8 := b ^^^ (1 <<< k.toUInt8)
/-- The byte at a place of all files' bytes turned. -/
def turnF (at_ : Nat) (g : UInt8 → UInt8) : List PF → Option (List PF)
  | [] => none
  | f :: r => if at_ < f.bytes.length then some ({ f with bytes := f.bytes.set at_ (g (f.bytes.getD at_ 0)) } :: r) else (turnF (at_ - f.bytes.length) g r).map (f :: ·)
def PD.new : PD := { files := [], room := 4194304, fuse := -1, dead := false }

/-- A disk whose files stand in the order of their names, each once. -/
def sortedN (l : List (List UInt8)) : Prop := l.Pairwise (· < ·)

theorem nm_lt_irrefl (a : List UInt8) : ¬ a < a := List.lt_irrefl a
theorem nm_lt_of_le {a b : List UInt8} (h : ¬ b < a) (hne : a ≠ b) : a < b := by
  by_cases h' : a < b
  · exact h'
  · exact absurd (List.le_antisymm (show a ≤ b from h) (show b ≤ a from h')) hne

theorem sortedN_nodup {l : List (List UInt8)} (h : sortedN l) : l.Nodup := h.imp fun {a b} h e => by subst e; exact nm_lt_irrefl a h

/-- Sorting what is a permutation of names in order tells those names. -/
theorem sort_names {l ss : List (List UInt8)} (h : sortedN l) (hp : ss.Perm l) : ss.mergeSort (fun x y => decide (x ≤ y)) = l := by
  rw [show ss.mergeSort (fun x y => decide (x ≤ y)) = l.mergeSort (fun x y => decide (x ≤ y)) from mergeSort_of_perm hp]
  exact List.mergeSort_of_pairwise (h.imp fun {a b} h => by simpa using List.le_of_lt h)

theorem ins_end : ∀ (l : List PF) (f : PF), (∀ g ∈ l, g.name < f.name) → insF f l = l ++ [f]
  | [], f, _ => rfl
  | g :: r, f, h => by
    have hg := h g (by simp)
    rw [insF, if_neg (fun h2 => nm_lt_irrefl _ (List.lt_trans hg h2)), ins_end r f (fun x hx => h x (by simp [hx])), List.cons_append]

/-! ### Append, by its two ways -/
theorem app_ok {d : PD} {nm s : List UInt8} (hd : d.dead = false) (hn : nm ≠ []) (hn2 : nm.length ≤ 24) (hr : (s.length : Int) ≤ d.room) (hl : d.find nm = none → d.files.length < 1000) (hf : ¬ (0 ≤ d.fuse ∧ d.fuse < s.length)) :
    d.append nm s = ({ files := setF nm (fun f => f.more s) (d.withFile nm).files, room := d.room - s.length, fuse := if 0 ≤ d.fuse then d.fuse - s.length else d.fuse, dead := false }, 0) := by
  unfold PD.append
  rw [if_neg (by simp [hd]), if_neg (by simp [hn]; omega), if_neg (by rintro (h | ⟨h, h2⟩); omega; have := hl h; omega)]
  unfold PD.write
  rw [if_neg (show ¬ (0 ≤ (d.withFile nm).fuse ∧ (d.withFile nm).fuse < s.length) from hf)]
  rw [show (d.withFile nm).dead = false from hd]
  rfl
theorem app_torn {d : PD} {nm s : List UInt8} (hd : d.dead = false) (hn : nm ≠ []) (hn2 : nm.length ≤ 24) (hr : (s.length : Int) ≤ d.room) (hl : d.find nm = none → d.files.length < 1000) {f : Nat} (hf : d.fuse = f) (hf2 : f < s.length) :
    d.append nm s = ({ files := setF nm (fun g => g.more (s.take f)) (d.withFile nm).files, room := d.room - f, fuse := -1, dead := true }, 9) := by
  unfold PD.append
  rw [if_neg (by simp [hd]), if_neg (by simp [hn]; omega), if_neg (by rintro (h | ⟨h, h2⟩); omega; have := hl h; omega)]
  unfold PD.write
  have e1 : (d.withFile nm).fuse = f := hf
  rw [if_pos (by rw [e1]; omega), e1, Int.toNat_natCast]
  rfl

end Go.Proofs.YthpamdjgkmaleaaGreatDoor

namespace Go.Proofs.YthpamdjgkmaleaaGreatDoor
set_option linter.unusedVariables false

/-- The last k digits of a number. -/
def digs : Nat → Nat → List UInt8
  | 0, _ => []
  | k + 1, n => digs k (n / 10) ++ [UInt8.ofNat (48 + n % 10)]
def nameL (n : Nat) : List UInt8 := 115 :: digs 8 n
def isDig (c : UInt8) : Bool := 48 ≤ c && c ≤ 57
def valL (s : List UInt8) : Nat := s.foldl (fun n c => 10 * n + (c.toNat - 48)) 0
/-- A segment's number; 0: it is none. -/
def numberL : List UInt8 → Nat
  | [] => 0
  | c :: s => if c = 115 ∧ s.length = 8 ∧ s.all isDig = true then valL s else 0

theorem digs_length : ∀ (k n : Nat), (digs k n).length = k
  | 0, n => rfl
  | k + 1, n => by rw [digs, List.length_append, digs_length k]; rfl
theorem dig_toNat (n : Nat) : (UInt8.ofNat (48 + n % 10)).toNat = 48 + n % 10 := by
  rw [UInt8.toNat_ofNat', Nat.mod_eq_of_lt (by omega)]
theorem digs_dig : ∀ (k n : Nat), (digs k n).all isDig = true
  | 0, n => rfl
  | k + 1, n => by
    rw [digs, List.all_append, digs_dig k, List.all_cons, List.all_nil]
    have h := dig_toNat n
    simp only [isDig, Bool.true_and, Bool.and_true, Bool.and_eq_true, decide_eq_true_eq, UInt8.le_iff_toNat_le]
    rw [h]
    refine ⟨?_, ?_⟩
    · show 48 ≤ 48 + n % 10; omega
    · show 48 + n % 10 ≤ 57; omega
theorem valL_digs : ∀ (k n : Nat), n < 10 ^ k → valL (digs k n) = n
  | 0, n, h => by simp at h; subst h; rfl
  | k + 1, n, h => by
    have ih := valL_digs k (n / 10) (by rw [Nat.pow_succ] at h; omega)
    unfold valL at ih ⊢
    rw [digs, List.foldl_append, ih]
    simp only [List.foldl_cons, List.foldl_nil, dig_toNat]
    omega
theorem number_cons (c : UInt8) (s : List UInt8) : numberL (c :: s) = if c = 115 ∧ s.length = 8 ∧ s.all isDig = true then valL s else 0 := rfl
theorem number_name {n : Nat} (h : n ≤ 99999999) : numberL (nameL n) = n := by
  unfold nameL
  rw [number_cons, if_pos ⟨rfl, digs_length 8 n, digs_dig 8 n⟩, valL_digs 8 n (by omega)]

/-- Digits told back. -/
theorem digs_val : ∀ (k : Nat) (s : List UInt8), s.length = k → s.all isDig = true → digs k (valL s) = s
  | 0, s, hl, _ => by rw [List.eq_nil_of_length_eq_zero hl]; rfl
  | k + 1, s, hl, h => by
    have hne : s ≠ [] := fun e => by rw [e] at hl; simp at hl
    obtain ⟨t, c, rfl⟩ : ∃ t c, s = t ++ [c] := ⟨s.dropLast, s.getLast hne, (List.dropLast_concat_getLast hne).symm⟩
    rw [List.all_append, Bool.and_eq_true] at h
    obtain ⟨h1, h2⟩ := h
    simp only [List.all_cons, List.all_nil, Bool.and_true, isDig, Bool.and_eq_true, decide_eq_true_eq, UInt8.le_iff_toNat_le] at h2
    have h3 : 48 ≤ c.toNat ∧ c.toNat ≤ 57 := h2
    have hv : valL (t ++ [c]) = 10 * valL t + (c.toNat - 48) := by unfold valL; rw [List.foldl_append]; rfl
    rw [digs, hv, show (10 * valL t + (c.toNat - 48)) / 10 = valL t from by omega, digs_val k t (by simpa using hl) h1, show 48 + (10 * valL t + (c.toNat - 48)) % 10 = c.toNat from by omega]
    simp
theorem name_number {s : List UInt8} (h : 0 < numberL s) : s = nameL (numberL s) := by
  cases s with
  | nil => simp [numberL] at h
  | cons c s =>
    rw [number_cons] at h ⊢
    by_cases hc : c = 115 ∧ s.length = 8 ∧ s.all isDig = true
    · rw [if_pos hc]
      unfold nameL
      rw [digs_val 8 s hc.2.1 hc.2.2, hc.1]
    · rw [if_neg hc] at h; omega

theorem lex_append : ∀ (a b : List UInt8) (c d : List UInt8), a.length = b.length → a < b → a ++ c < b ++ d
  | [], [], c, d, _, h => absurd h (List.lt_irrefl _)
  | [], _ :: _, _, _, h, _ => by simp at h
  | _ :: _, [], _, _, h, _ => by simp at h
  | x :: a, y :: b, c, d, hl, h => by
    rw [List.cons_append, List.cons_append]
    rcases List.cons_lt_cons_iff.1 h with h1 | ⟨h1, h2⟩
    · exact List.cons_lt_cons_iff.2 (.inl h1)
    · exact List.cons_lt_cons_iff.2 (.inr ⟨h1, lex_append a b c d (by simpa using hl) h2⟩)
theorem lex_same : ∀ (a : List UInt8) (c d : List UInt8), c < d → a ++ c < a ++ d
  | [], _, _, h => h
  | x :: a, c, d, h => by
    rw [List.cons_append, List.cons_append]
    exact List.cons_lt_cons_iff.2 (.inr ⟨rfl, lex_same a c d h⟩)
theorem digs_lt : ∀ (k a b : Nat), a < b → b < 10 ^ k → digs k a < digs k b
  | 0, a, b, h, h2 => by simp at h2; omega
  | k + 1, a, b, h, h2 => by
    rw [digs, digs]
    by_cases hq : a / 10 = b / 10
    · rw [hq]
      refine lex_same _ _ _ (List.cons_lt_cons_iff.2 (.inl ?_))
      rw [UInt8.lt_iff_toNat_lt, dig_toNat, dig_toNat]
      omega
    · exact lex_append _ _ _ _ (by rw [digs_length, digs_length]) (digs_lt k (a / 10) (b / 10) (by omega) (by rw [Nat.pow_succ] at h2; omega))
theorem name_lt {a b : Nat} (h : a < b) (hb : b ≤ 99999999) : nameL a < nameL b := by
  unfold nameL
  exact List.cons_lt_cons_iff.2 (.inr ⟨rfl, digs_lt 8 a b h (by omega)⟩)
theorem name_inj {a b : Nat} (ha : a ≤ 99999999) (hb : b ≤ 99999999) (h : nameL a = nameL b) : a = b := by
  rw [← number_name ha, h, number_name hb]
theorem name_length (n : Nat) : (nameL n).length = 9 := by unfold nameL; rw [List.length_cons, digs_length]

end Go.Proofs.YthpamdjgkmaleaaGreatDoor

namespace Go.Proofs.YthpamdjgkmaleaaGreatDoor
set_option linter.unusedVariables false

/-- How many of a file's bytes that are not synced stay. -/
def stayF (k : Nat) (f : PF) : Nat := min k (f.bytes.length - f.synced)
def cutF (n : Nat) (f : PF) : PF := { f with bytes := f.bytes.take n }
def crL : Nat → List PF → List PF
  | _, [] => []
  | k, f :: r => cutF (f.synced + stayF k f) f :: crL (k - stayF k f) r
def leftN : Nat → List PF → Nat
  | k, [] => k
  | k, f :: r => leftN (k - stayF k f) r

theorem crL_some (k : Nat) (l : List PF) : crashF (some k) l = crL k l := by
  induction l generalizing k with
  | nil => rfl
  | cons f r ih => unfold crashF crL; rw [ih]; rfl
theorem crL_snoc (f : PF) : ∀ (l : List PF) (k : Nat), crL k (l ++ [f]) = crL k l ++ [cutF (f.synced + stayF (leftN k l) f) f]
  | [], k => rfl
  | g :: l, k => by
    rw [List.cons_append, crL, crL_snoc f l, crL, leftN, List.cons_append]
theorem leftN_snoc (f : PF) : ∀ (l : List PF) (k : Nat), leftN k (l ++ [f]) = leftN k l - stayF (leftN k l) f
  | [], k => rfl
  | g :: l, k => by
    rw [List.cons_append, leftN, leftN_snoc f l, leftN]
theorem leftN_le : ∀ (l : List PF) (k : Nat), leftN k l ≤ k
  | [], k => Nat.le_refl _
  | g :: l, k => Nat.le_trans (leftN_le l _) (Nat.sub_le _ _)
theorem totF_append (l m : List PF) : totF (l ++ m) = totF l + totF m := by simp [totF]
theorem totF_one (f : PF) : totF [f] = f.bytes.length := by simp [totF]
theorem totF_cons (f : PF) (l : List PF) : totF (f :: l) = f.bytes.length + totF l := by simp [totF]
theorem cutF_length {f : PF} (hs : f.synced ≤ f.bytes.length) (k : Nat) : (cutF (f.synced + stayF k f) f).bytes.length = f.synced + stayF k f := by
  unfold cutF stayF
  simp
  omega
theorem crL_le : ∀ (l : List PF) (k : Nat), totF (crL k l) ≤ totF l
  | [], k => Nat.le_refl _
  | f :: r, k => by
    have := crL_le r (k - stayF k f)
    rw [crL, totF_cons, totF_cons]
    have h2 : (cutF (f.synced + stayF k f) f).bytes.length ≤ f.bytes.length := by unfold cutF; simp; omega
    omega
/-- Room enough: all stays. -/
theorem crL_all : ∀ (l : List PF) (k : Nat), (∀ f ∈ l, f.synced ≤ f.bytes.length) → totF l ≤ k → crL k l = l
  | [], k, _, _ => rfl
  | f :: r, k, hs, hk => by
    rw [totF_cons] at hk
    have h1 := hs f (List.mem_cons_self ..)
    have h2 : stayF k f = f.bytes.length - f.synced := by unfold stayF; omega
    rw [crL, crL_all r _ (fun g hg => hs g (List.mem_cons_of_mem _ hg)) (by rw [h2]; omega), h2]
    congr 1
    unfold cutF
    rw [List.take_of_length_le (by omega)]

/-- How many stay, as the call counts. -/
def keepN (keep : Int) : Nat := if keep < 0 then 9223372036854775807 else keep.toNat
theorem crash_keep (l : List PF) (keep : Int) (hs : ∀ f ∈ l, f.synced ≤ f.bytes.length) (ht : totF l ≤ 9223372036854775807) : crashF (if keep < 0 then none else some keep.toNat) l = crL (keepN keep) l := by
  unfold keepN
  by_cases h : keep < 0
  · rw [if_pos h, if_pos h, crL_all l _ hs ht]
    cases l <;> rfl
  · rw [if_neg h, if_neg h, crL_some]

end Go.Proofs.YthpamdjgkmaleaaGreatDoor

namespace Go.Proofs.YthpamdjgkmaleaaGreatDoor
set_option linter.unusedVariables false

/-! ### names -/
/-- A digit to the base 16. -/
def hx (n : Nat) : UInt8 := if n < 10 then UInt8.ofNat (48 + n) else UInt8.ofNat (87 + n)
def hexs : Nat → Nat → List UInt8
  | 0, _ => []
  | k + 1, n => hexs k (n / 16) ++ [hx (n % 16)]
def bname (n : Nat) : List UInt8 := 98 :: hexs 16 n
def isHx (c : UInt8) : Bool := (48 ≤ c && c ≤ 57) || (97 ≤ c && c ≤ 102)
def unhx (c : UInt8) : Nat := if c ≤ 57 then c.toNat - 48 else c.toNat - 87
def hval (s : List UInt8) : Nat := s.foldl (fun n c => 16 * n + unhx c) 0
/-- A base file's slot; 0: it is none. -/
def bnum : List UInt8 → Nat
  | [] => 0
  | c :: s => if c = 98 ∧ s.length = 16 ∧ s.all isHx = true then hval s else 0

theorem hexs_length : ∀ (k n : Nat), (hexs k n).length = k
  | 0, n => rfl
  | k + 1, n => by rw [hexs, List.length_append, hexs_length k]; rfl
theorem hx_ok : ∀ d < 16, isHx (hx d) = true ∧ unhx (hx d) = d := by decide
theorem hx_lt : ∀ b < 16, ∀ a < b, hx a < hx b := by decide
theorem hexs_hex : ∀ (k n : Nat), (hexs k n).all isHx = true
  | 0, n => rfl
  | k + 1, n => by
    rw [hexs, List.all_append, hexs_hex k, List.all_cons, List.all_nil, (hx_ok (n % 16) (by omega)).1]
    rfl
theorem hval_hexs : ∀ (k n : Nat), n < 16 ^ k → hval (hexs k n) = n
  | 0, n, h => by simp at h; subst h; rfl
  | k + 1, n, h => by
    have ih := hval_hexs k (n / 16) (by rw [Nat.pow_succ] at h; omega)
    unfold hval at ih ⊢
    rw [hexs, List.foldl_append, ih]
    simp only [List.foldl_cons, List.foldl_nil, (hx_ok (n % 16) (by omega)).2]
    omega
theorem pow16 : (16 : Nat) ^ 16 = 2 ^ 64 := by decide
theorem bnum_cons (c : UInt8) (s : List UInt8) : bnum (c :: s) = if c = 98 ∧ s.length = 16 ∧ s.all isHx = true then hval s else 0 := rfl
theorem bnum_name {n : Nat} (h : n < 2 ^ 64) : bnum (bname n) = n := by
  unfold bname
  rw [bnum_cons, if_pos ⟨rfl, hexs_length 16 n, hexs_hex 16 n⟩, hval_hexs 16 n (Nat.lt_of_lt_of_eq h pow16.symm)]
theorem hexs_lt : ∀ (k a b : Nat), a < b → b < 16 ^ k → hexs k a < hexs k b
  | 0, a, b, h, h2 => by simp at h2; omega
  | k + 1, a, b, h, h2 => by
    rw [hexs, hexs]
    by_cases hq : a / 16 = b / 16
    · rw [hq]
      exact lex_same _ _ _ (List.cons_lt_cons_iff.2 (.inl (hx_lt _ (by omega) _ (by omega))))
    · exact lex_append _ _ _ _ (by rw [hexs_length, hexs_length]) (hexs_lt k (a / 16) (b / 16) (by omega) (by rw [Nat.pow_succ] at h2; omega))
theorem bname_lt {a b : Nat} (h : a < b) (hb : b < 2 ^ 64) : bname a < bname b := by
  have hb2 : b < 16 ^ 16 := by rw [pow16]; exact hb
  have h3 := hexs_lt 16 a b h hb2
  unfold bname
  generalize hexs 16 a = x at h3 ⊢
  generalize hexs 16 b = y at h3 ⊢
  exact List.cons_lt_cons_iff.2 (.inr ⟨rfl, h3⟩)
theorem bname_ne {a b : Nat} (h : a < b) (hb : b < 2 ^ 64) : bname a ≠ bname b := by
  have h2 := bname_lt h hb
  intro e
  rw [e] at h2
  exact nm_lt_irrefl _ h2
theorem bname_length (n : Nat) : (bname n).length = 17 := by unfold bname; rw [List.length_cons, hexs_length]
theorem bname_nil (n : Nat) : bname n ≠ [] := by unfold bname; simp

/-! ### a base's bytes -/
def insideB (n : Nat) (t : List UInt8) : List UInt8 := enc n ++ encS t
/-- The slot and the text that an inside tells, and the error. -/
def readB (s : List UInt8) : Nat × List UInt8 × Int := ((St.num ⟨0, s⟩).1, ((St.num ⟨0, s⟩).2.str 65536).1, ((St.num ⟨0, s⟩).2.str 65536).2.fin.e)

theorem str_put (s : List UInt8) (h : s.length ≤ 65536) : St.str ⟨0, encS s⟩ 65536 = (s, ⟨0, []⟩) := by
  have hn := num_enc s.length s (by omega)
  have hb : St.below ⟨0, encS s⟩ 65537 = (s.length, ⟨0, s⟩) := by
    unfold St.below
    rw [show (⟨0, encS s⟩ : St) = ⟨0, enc s.length ++ s⟩ from rfl, hn]
    simp only
    rw [if_neg (by omega)]
  unfold St.str
  rw [show (max (65536 : Int) 0).toNat + 1 = 65537 from rfl, hb]
  simp
theorem read_inside {n : Nat} {t : List UInt8} (hn : n < 2 ^ 64) (ht : t.length ≤ 65536) : readB (insideB n t) = (n, t, 0) := by
  unfold readB insideB
  rw [num_enc _ _ hn]
  simp only
  rw [str_put t ht]
  rfl
theorem inside_length (n : Nat) (t : List UInt8) : (insideB n t).length = (enc n).length + (enc t.length).length + t.length := by
  unfold insideB encS
  rw [List.length_append, List.length_append]
  omega
theorem enc_len_le {n : Nat} (h : n < 2 ^ 64) : 1 ≤ (enc n).length ∧ (enc n).length ≤ 9 := by
  rw [enc_length]
  have := nb_le8 h
  omega
theorem inside_small {n : Nat} {t : List UInt8} (hn : n < 2 ^ 64) (ht : t.length ≤ 300) : 1 ≤ (insideB n t).length ∧ (insideB n t).length ≤ 318 := by
  rw [inside_length]
  have h1 := enc_len_le hn
  have h2 := enc_len_le (show t.length < 2 ^ 64 by omega)
  omega

/-! ### files -/
/-- The text of a good one. -/
def goodB (f : PF) : Option (List UInt8) :=
  if f.synced = f.bytes.length ∧ (takeL f.bytes).2.2 = 0 ∧ (takeL f.bytes).2.1 = f.bytes.length ∧ (readB (takeL f.bytes).1).2.2 = 0 ∧ (readB (takeL f.bytes).1).1 = bnum f.name then some (readB (takeL f.bytes).1).2.1 else none
def spoiltB (f : PF) : Bool := decide (bnum f.name ≠ 0) && decide (f.synced ≠ 0) && (goodB f).isNone
def baseGo : Nat × List UInt8 → List PF → Nat × List UInt8
  | b, [] => b
  | b, f :: r => baseGo (match goodB f with
    | some t => if b.1 < bnum f.name then (bnum f.name, t) else b
    | none => b) r
theorem baseGo_cons (b : Nat × List UInt8) (f : PF) (r : List PF) : baseGo b (f :: r) = baseGo (match goodB f with
    | some t => if b.1 < bnum f.name then (bnum f.name, t) else b
    | none => b) r := rfl
/-- The good one of the greatest slot; 0: there is none. -/
def baseL (l : List PF) : Nat × List UInt8 := baseGo (0, []) l
/-- No base file, or the base's. -/
def stayB (n : Nat) (f : PF) : Bool := decide (bnum f.name = 0) || decide (bnum f.name = n)
def openB (d : PD) : PD × Int :=
  if d.dead then (d, 8) else if d.files.any spoiltB = true then (d, 10)
  else ({ d with files := d.files.filter (stayB (baseL d.files).1), room := d.room + ((totF d.files : Int) - totF (d.files.filter (stayB (baseL d.files).1))) }, 0)
/-- .. as long as all goes well. -/
def thenD (r : PD × Int) (f : PD → PD × Int) : PD × Int := if r.2 ≠ 0 then r else f r.1
def saveB (d : PD) (n : Nat) (t : List UInt8) : PD × Int :=
  if n ≤ (baseL d.files).1 then (d, 2) else if 65536 < (insideB n t).length then (d, 6)
  else thenD (d.append (bname n) (frameL (insideB n t))) fun d1 => thenD (d1.sync (bname n)) fun d2 => if (baseL d.files).1 = 0 then (d2, 0) else d2.remove (bname (baseL d.files).1)

/-- A base's file. -/
def bfile (n : Nat) (t : List UInt8) : PF := ⟨bname n, frameL (insideB n t), (frameL (insideB n t)).length⟩
def bfiles (n : Nat) (t : List UInt8) : List PF := if n = 0 then [] else [bfile n t]

theorem good_file {n : Nat} {t : List UInt8} (hn : n < 2 ^ 64) (ht : (insideB n t).length ≤ 65536) : goodB (bfile n t) = some t := by
  have h1 : 1 ≤ (insideB n t).length := by rw [inside_length]; have := enc_len_le hn; omega
  have h2 := takeL_frame (insideB n t) [] h1 ht
  rw [List.append_nil] at h2
  have h3 := read_inside (t := t) hn (by rw [inside_length] at ht; omega)
  unfold goodB bfile
  simp only
  rw [h2]
  simp only
  rw [h3, bnum_name hn]
  simp
theorem bnum_bfile {n : Nat} (t : List UInt8) (hn : n < 2 ^ 64) : bnum (bfile n t).name = n := bnum_name hn
theorem base_files {n : Nat} {t : List UInt8} (hn : n < 2 ^ 64) (ht : (insideB n t).length ≤ 65536) (h0 : n = 0 → t = []) : baseL (bfiles n t) = (n, t) := by
  unfold bfiles baseL
  by_cases h : n = 0
  · rw [if_pos h, h0 h, h]; rfl
  · rw [if_neg h]
    simp only [baseGo]
    rw [good_file hn ht]
    simp only
    rw [bnum_bfile t hn, if_pos (by omega)]
/-- Files that are young, or none, are no base. -/
theorem base_young : ∀ (l m : List PF) (b : Nat × List UInt8), (∀ f ∈ m, goodB f = none ∨ bnum f.name = 0) → baseGo b (l ++ m) = baseGo b l
  | [], [], b, _ => rfl
  | [], f :: m, b, h => by
    have ih := base_young [] m b (fun g hg => h g (by simp [hg]))
    rw [List.nil_append] at ih ⊢
    rw [baseGo_cons]
    rcases h f (by simp) with h1 | h1
    · rw [h1]; exact ih
    · cases hg : goodB f with
      | none => exact ih
      | some t => simp only; rw [h1, if_neg (by omega)]; exact ih
  | f :: l, m, b, h => by
    rw [List.cons_append, baseGo, baseGo]
    exact base_young l m _ h

/-- A frame in which a byte of the checksum or of the inside is turned, whatever its length. -/
theorem take_turn {x : List UInt8} (h1 : 1 ≤ x.length) (h2 : x.length ≤ 65536) {q : Nat} (hq : q < 8 + x.length) {c : UInt8} (hc : (low 8 (sm x) ++ x)[q]? ≠ some c) : (takeL ((frameL x).set ((enc x.length).length + q) c)).2.2 = 5 := by
  have hll := low_length 8 (sm x)
  have hln : ln (low 8 (sm x)) = sm x := ln_low 8 _ (by have := sm_lt x; simpa using this)
  have e : (frameL x).set ((enc x.length).length + q) c = enc x.length ++ (low 8 (sm x) ++ x).set q c := by
    unfold frameL
    rw [List.set_append_right _ _ (by omega), Nat.add_sub_cancel_left]
  have hYl : ((low 8 (sm x) ++ x).set q c).length = 8 + x.length := by simp [hll]
  have d8 : (((low 8 (sm x) ++ x).set q c).drop 8).take x.length = ((low 8 (sm x) ++ x).set q c).drop 8 := List.take_of_length_le (by simp [hll])
  rw [e, takeL_sum (num_enc _ _ (by omega)) h1 h2 (by omega) ?_]
  rw [d8]
  by_cases h8 : q < 8
  · have hne : (low 8 (sm x))[q]? ≠ some c := by rwa [List.getElem?_append_left (by omega)] at hc
    have a1 : ((low 8 (sm x) ++ x).set q c).take 8 = (low 8 (sm x)).set q c := by
      rw [List.set_append_left _ _ (by omega), List.take_append_of_le_length (by simp [hll]), List.take_of_length_le (by simp [hll])]
    have a2 : ((low 8 (sm x) ++ x).set q c).drop 8 = x := by
      rw [List.set_append_left _ _ (by omega), List.drop_append_of_le_length (by simp [hll]), List.drop_of_length_le (by simp [hll]), List.nil_append]
    rw [a1, a2]
    intro h
    have := (low8 ((low 8 (sm x)).set q c) (sm x) (by simp [hll]) (sm_lt x)).2 h
    apply hne
    rw [← this, List.getElem?_set_self (by omega)]
  · have hj : q - 8 < x.length := by omega
    have hne : c ≠ x[q - 8] := by
      rw [List.getElem?_append_right (by omega), hll, List.getElem?_eq_getElem hj] at hc
      intro h; exact hc (by rw [h])
    have a1 : ((low 8 (sm x) ++ x).set q c).take 8 = low 8 (sm x) := by
      rw [List.set_append_right _ _ (by omega), List.take_append_of_le_length (by omega), List.take_of_length_le (by omega)]
    have a2 : ((low 8 (sm x) ++ x).set q c).drop 8 = x.set (q - 8) c := by
      rw [List.set_append_right _ _ (by omega), hll, List.drop_append_of_le_length (by omega), List.drop_of_length_le (by omega), List.nil_append]
    rw [a1, a2, hln]
    exact fun h => sum_set_ne hj hne h.symm

end Go.Proofs.YthpamdjgkmaleaaGreatDoor

namespace Go.Proofs.YthpamdjgkmaleaaGreatDoor
set_option linter.unusedVariables false

/-- The digits of a number, no noughts ahead. -/
def hexF : Nat → Nat → List UInt8
  | 0, _ => []
  | k + 1, n => if n < 16 then [hx n] else hexF k (n / 16) ++ [hx (n % 16)]
def hexN (n : Nat) : List UInt8 := hexF 16 n
theorem hexF_pad : ∀ (k n : Nat), n < 16 ^ (k + 1) → 1 ≤ (hexF (k + 1) n).length ∧ (hexF (k + 1) n).length ≤ k + 1 ∧ hexs (k + 1) n = List.replicate (k + 1 - (hexF (k + 1) n).length) 48 ++ hexF (k + 1) n
  | 0, n, h => by
    have h' : n < 16 := by simpa using h
    rw [hexF, if_pos h']
    refine ⟨by simp, by simp, ?_⟩
    simp [hexs, Nat.mod_eq_of_lt h']
  | k + 1, n, h => by
    rw [hexF]
    by_cases h' : n < 16
    · rw [if_pos h']
      refine ⟨by simp, by simp, ?_⟩
      rw [hexs, Nat.div_eq_of_lt h', Nat.mod_eq_of_lt h', List.length_singleton]
      have hz : ∀ j, hexs j 0 = List.replicate j 48 := by
        intro j
        induction j with
        | zero => rfl
        | succ j ih => rw [hexs, Nat.zero_div, ih, List.replicate_succ']; rfl
      rw [hz]
      rfl
    · rw [if_neg h']
      have hq : n / 16 < 16 ^ (k + 1) := by rw [Nat.pow_succ] at h; omega
      obtain ⟨h1, h2, h3⟩ := hexF_pad k (n / 16) hq
      refine ⟨by simp, by rw [List.length_append, List.length_singleton]; omega, ?_⟩
      rw [hexs, h3, List.length_append, List.length_singleton, List.append_assoc]
      congr 2
      omega
theorem hexF_more : ∀ (k n : Nat), n < 16 ^ (k + 1) → hexF (k + 2) n = hexF (k + 1) n
  | 0, n, h => by
    have h' : n < 16 := by simpa using h
    rw [hexF, if_pos h', hexF, if_pos h']
  | k + 1, n, h => by
    rw [hexF]
    conv => rhs; rw [hexF]
    split
    · rfl
    · rw [hexF_more k (n / 16) (by rw [Nat.pow_succ] at h; omega)]
theorem hexN_small {n : Nat} (h : n < 16) : hexN n = [hx n] := by unfold hexN; rw [hexF, if_pos h]
theorem hexN_big {n : Nat} (h : 16 ≤ n) (h2 : n < 2 ^ 64) : hexN n = hexN (n / 16) ++ [hx (n % 16)] := by
  unfold hexN
  rw [hexF, if_neg (by omega), hexF_more 14 (n / 16) (by rw [show (16 : Nat) ^ (14 + 1) = 2 ^ 60 from by decide]; omega)]
theorem hexN_len {n : Nat} (h : n < 2 ^ 64) : 1 ≤ (hexN n).length ∧ (hexN n).length ≤ 16 := by
  obtain ⟨h1, h2, _⟩ := hexF_pad 15 n (by rw [pow16]; exact h)
  exact ⟨h1, h2⟩
theorem bname_pad {n : Nat} (h : n < 2 ^ 64) : bname n = 98 :: (List.replicate (16 - (hexN n).length) 48 ++ hexN n) := by
  unfold bname
  rw [(hexF_pad 15 n (by rw [pow16]; exact h)).2.2]
  rfl

/-! ### told back -/
def low_ (c : UInt8) : UInt8 := c ||| 32
def dg (c : UInt8) : Option Nat := if 48 ≤ c.toNat ∧ c.toNat ≤ 57 then some (c.toNat - 48) else if 97 ≤ (low_ c).toNat ∧ (low_ c).toNat ≤ 102 then some ((low_ c).toNat - 87) else none
theorem dg_hx : ∀ d < 16, dg (hx d) = some d := by decide
theorem dg_lt {c : UInt8} {d : Nat} (h : dg c = some d) : d < 16 := by
  unfold dg at h
  split at h
  · cases h; omega
  · split at h
    · cases h; omega
    · cases h
inductive PU where
  | ok (n : Nat)
  | far
  | bad
/-- A text as a number to the base 16. -/
def pu (acc : Nat) : List UInt8 → PU
  | [] => .ok acc
  | c :: r => match dg c with
    | none => .bad
    | some d => if 1152921504606846976 ≤ acc then .far else pu (acc * 16 + d) r
theorem pu_append : ∀ (a b : List UInt8) (acc : Nat), pu acc (a ++ b) = match pu acc a with
    | .ok m => pu m b
    | e => e
  | [], b, acc => rfl
  | c :: a, b, acc => by
    rw [List.cons_append, pu, pu]
    cases dg c with
    | none => rfl
    | some d =>
      simp only
      split
      · rfl
      · exact pu_append a b _
theorem pu_hexs : ∀ (k n : Nat), n < 16 ^ k → n < 2 ^ 64 → pu 0 (hexs k n) = .ok n
  | 0, n, h, _ => by simp at h; subst h; rfl
  | k + 1, n, h, h2 => by
    rw [hexs, pu_append, pu_hexs k (n / 16) (by rw [Nat.pow_succ] at h; omega) (by omega)]
    simp only
    rw [pu, dg_hx _ (by omega)]
    simp only
    rw [if_neg (by omega), pu]
    congr 1
    omega
theorem pu_lt : ∀ (l : List UInt8) (acc v : Nat), acc < 2 ^ 64 → pu acc l = .ok v → v < 2 ^ 64
  | [], acc, v, h, e => by rw [pu] at e; cases e; exact h
  | c :: r, acc, v, h, e => by
    rw [pu] at e
    cases hd : dg c with
    | none => rw [hd] at e; cases e
    | some d =>
      rw [hd] at e
      simp only at e
      have := dg_lt hd
      split at e
      · cases e
      · exact pu_lt r _ v (by omega) e
/-- A name without its letter. -/
def strip : List UInt8 → List UInt8
  | [] => []
  | c :: s => if c = 98 then s else c :: s
def slotL (nm : List UInt8) : Nat := match pu 0 (strip nm) with
  | .ok v => if bname v = nm then v else 0
  | _ => 0
theorem hexs_hval : ∀ (k : Nat) (s : List UInt8), s.length = k → s.all isHx = true → hexs k (hval s) = s ∧ hval s < 16 ^ k
  | 0, s, hl, _ => by rw [List.eq_nil_of_length_eq_zero hl]; exact ⟨rfl, by decide⟩
  | k + 1, s, hl, h => by
    have hne : s ≠ [] := fun e => by rw [e] at hl; simp at hl
    obtain ⟨t, c, rfl⟩ : ∃ t c, s = t ++ [c] := ⟨s.dropLast, s.getLast hne, (List.dropLast_concat_getLast hne).symm⟩
    rw [List.all_append, Bool.and_eq_true] at h
    obtain ⟨h1, h2⟩ := h
    obtain ⟨e1, e2⟩ := hexs_hval k t (by simpa using hl) h1
    have h3 : isHx c = true := by simpa using h2
    have hc : hx (unhx c) = c ∧ unhx c < 16 := by
      have all : ∀ b : UInt8, isHx b = true → hx (unhx b) = b ∧ unhx b < 16 := by
        intro b hb
        have hb2 : b = UInt8.ofNat b.toNat := by simp
        have : ∀ n < 256, isHx (UInt8.ofNat n) = true → hx (unhx (UInt8.ofNat n)) = UInt8.ofNat n ∧ unhx (UInt8.ofNat n) < 16 := by decide +kernel
        rw [hb2] at hb ⊢
        exact this _ b.toNat_lt hb
      exact all c h3
    have hv : hval (t ++ [c]) = 16 * hval t + unhx c := by unfold hval; rw [List.foldl_append]; rfl
    rw [hexs, hv, show (16 * hval t + unhx c) / 16 = hval t from by omega, e1, show (16 * hval t + unhx c) % 16 = unhx c from by omega, hc.1]
    exact ⟨rfl, by rw [Nat.pow_succ]; omega⟩
theorem bname_cons (n : Nat) : bname n = 98 :: hexs 16 n := rfl
theorem bnum_is {nm : List UInt8} (h : bnum nm ≠ 0) : bnum nm < 2 ^ 64 ∧ nm = bname (bnum nm) := by
  cases nm with
  | nil => exact absurd rfl h
  | cons c s =>
    rw [bnum_cons] at h ⊢
    by_cases hc : c = 98 ∧ s.length = 16 ∧ s.all isHx = true
    · obtain ⟨e1, e2⟩ := hexs_hval 16 s hc.2.1 hc.2.2
      rw [if_pos hc, bname_cons, e1, hc.1]
      exact ⟨by rw [← pow16]; exact e2, rfl⟩
    · rw [if_neg hc] at h; exact absurd rfl h
theorem slot_bnum (nm : List UInt8) : slotL nm = bnum nm := by
  by_cases hk : ∃ k, k < 2 ^ 64 ∧ nm = bname k
  · obtain ⟨k, h1, rfl⟩ := hk
    rw [bnum_name h1]
    unfold slotL
    rw [bname_cons, strip, if_pos rfl, pu_hexs 16 k (by rw [pow16]; exact h1) h1]
    simp only
    rw [if_pos (bname_cons k)]
  · have h0 : bnum nm = 0 := Classical.byContradiction fun h => hk ⟨_, (bnum_is h).1, (bnum_is h).2⟩
    rw [h0]
    unfold slotL
    cases hp : pu 0 (strip nm) with
    | ok v =>
      simp only
      rw [if_neg]
      intro e
      exact hk ⟨v, pu_lt _ 0 v (by decide) hp, e.symm⟩
    | far => rfl
    | bad => rfl

end Go.Proofs.YthpamdjgkmaleaaGreatDoor
