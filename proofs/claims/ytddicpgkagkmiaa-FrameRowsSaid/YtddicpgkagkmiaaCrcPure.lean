/-
  Plain facts (no Go in it) of layer 2: steps of a number of 64 bits, the checksum of a text, bits that changed.
-/
import Derived.RowKit
namespace Go.Proofs.Ytddicpgkagkmiaa.Crc

abbrev W := BitVec 64
def poly : W := 0xc96c5795d7870f42#64

def stp (x : W) : W := if x.getLsbD 0 then (x >>> 1) ^^^ poly else x >>> 1
def steps : Nat → W → W
  | 0, x => x
  | n + 1, x => stp (steps n x)

theorem xlc (x y z : W) : x ^^^ (y ^^^ z) = y ^^^ (x ^^^ z) := by rw [← BitVec.xor_assoc, BitVec.xor_comm x y, BitVec.xor_assoc]
theorem xcc (x y : W) : x ^^^ (x ^^^ y) = y := by rw [← BitVec.xor_assoc, BitVec.xor_self, BitVec.zero_xor]

theorem stp_zero : stp 0#64 = 0#64 := by decide

theorem stp_xor (x y : W) : stp (x ^^^ y) = stp x ^^^ stp y := by
  unfold stp
  rw [BitVec.getLsbD_xor, BitVec.ushiftRight_xor_distrib]
  generalize x >>> 1 = u
  generalize y >>> 1 = v
  generalize poly = p
  cases x.getLsbD 0 <;> cases y.getLsbD 0 <;> simp only [Bool.xor_false, Bool.xor_true, Bool.not_false, Bool.not_true, Bool.false_eq_true, if_true, if_false]
  · rw [BitVec.xor_assoc]
  · rw [BitVec.xor_assoc, BitVec.xor_assoc, BitVec.xor_comm v p]
  · rw [BitVec.xor_assoc, BitVec.xor_comm v, ← BitVec.xor_assoc, ← BitVec.xor_assoc, BitVec.xor_assoc u p p, BitVec.xor_self, BitVec.xor_zero]

theorem steps_zero : ∀ n, steps n 0#64 = 0#64
  | 0 => rfl
  | n + 1 => by rw [steps, steps_zero n, stp_zero]

theorem steps_xor : ∀ (n : Nat) (x y : W), steps n (x ^^^ y) = steps n x ^^^ steps n y
  | 0, _, _ => rfl
  | n + 1, x, y => by rw [steps, steps_xor n, stp_xor]; rfl

theorem steps_add (n : Nat) : ∀ (m : Nat) (x : W), steps (n + m) x = steps m (steps n x)
  | 0, _ => rfl
  | m + 1, x => by rw [← Nat.add_assoc, steps, steps_add n m x]; rfl

theorem steps_comm (n m : Nat) (x : W) : steps n (steps m x) = steps m (steps n x) := by
  rw [← steps_add, ← steps_add, Nat.add_comm]

theorem steps_one (x : W) : steps 1 x = stp x := rfl
theorem steps_succ' (n : Nat) (x : W) : steps (n + 1) x = steps n (stp x) := by rw [Nat.add_comm, steps_add]; rfl

/-- Only of 0 a stp is 0. -/
theorem stp_ne {x : W} (h : stp x = 0#64) : x = 0#64 := by
  unfold stp at h
  split at h
  · have h63 : ((x >>> 1) ^^^ poly).getLsbD 63 = (0#64 : W).getLsbD 63 := by rw [h]
    rw [BitVec.getLsbD_xor, BitVec.getLsbD_ushiftRight] at h63
    rw [BitVec.getLsbD_of_ge _ _ (by omega)] at h63
    exact absurd h63 (by decide)
  · rename_i h0
    apply BitVec.eq_of_getLsbD_eq
    intro i hi
    rw [BitVec.getLsbD_zero]
    cases i with
    | zero => simpa using h0
    | succ j =>
      have : (x >>> 1).getLsbD j = (0#64 : W).getLsbD j := by rw [h]
      rw [BitVec.getLsbD_ushiftRight, BitVec.getLsbD_zero, Nat.add_comm] at this
      exact this

theorem steps_ne : ∀ (n : Nat) {x : W}, steps n x = 0#64 → x = 0#64
  | 0, _, h => h
  | n + 1, _, h => steps_ne n (stp_ne h)

theorem xor_eq_zero {x y : W} (h : x ^^^ y = 0#64) : x = y := by
  have : x ^^^ y ^^^ y = 0#64 ^^^ y := by rw [h]
  rw [BitVec.xor_assoc, BitVec.xor_self, BitVec.xor_zero, BitVec.zero_xor] at this
  exact this

theorem steps_inj (n : Nat) {x y : W} (h : steps n x = steps n y) : x = y := by
  apply xor_eq_zero
  apply steps_ne n
  rw [steps_xor, h, BitVec.xor_self]

/-! ### A text's bytes -/
def byte (c : UInt8) : W := BitVec.ofNat 64 c.toNat

def feed : W → List UInt8 → W
  | x, [] => x
  | x, c :: t => feed (steps 8 (x ^^^ byte c)) t

theorem feed_append : ∀ (s t : List UInt8) (x : W), feed x (s ++ t) = feed (feed x s) t
  | [], _, _ => rfl
  | c :: s, t, x => by rw [List.cons_append, feed, feed_append s t]; rfl

theorem feed_snoc (x : W) (s : List UInt8) (c : UInt8) : feed x (s ++ [c]) = steps 8 (feed x s ^^^ byte c) := by rw [feed_append]; rfl

/-- What was there ahead goes on by itself. -/
theorem feed_ahead : ∀ (s : List UInt8) (x y : W), feed (x ^^^ y) s = steps (8 * s.length) x ^^^ feed y s
  | [], _, _ => rfl
  | c :: s, x, y => by
    rw [feed, BitVec.xor_assoc, steps_xor, feed_ahead s, feed, List.length_cons, Nat.mul_add, Nat.add_comm (8 * s.length), steps_add]

theorem feed_zero (s : List UInt8) (x : W) : feed x s = steps (8 * s.length) x ^^^ feed 0#64 s := by
  have := feed_ahead s x 0#64
  rwa [BitVec.xor_zero] at this

def allOnes : W := BitVec.allOnes 64
def more (sum : W) (s : List UInt8) : W := ~~~ feed (~~~ sum) s
def sum (s : List UInt8) : W := more 0#64 s
def join (a b : W) (n : Nat) : W := steps (8 * n) a ^^^ b

theorem not_xor (x : W) : ~~~ x = BitVec.allOnes 64 ^^^ x := by rw [BitVec.allOnes_xor]

theorem more_more (x : W) (s t : List UInt8) : more (more x s) t = more x (s ++ t) := by
  unfold more
  rw [BitVec.not_not, feed_append]

/-- The text's checksum is that of its parts, joined. -/
theorem sum_join (s t : List UInt8) : join (sum s) (sum t) t.length = sum (s ++ t) := by
  unfold join sum more
  rw [feed_append, feed_zero t (feed _ s), feed_zero t (~~~ 0#64)]
  generalize feed 0#64 t = z
  generalize feed (~~~ 0#64) s = y
  have h0 : ~~~ (0#64 : W) = BitVec.allOnes 64 := by decide
  rw [h0, not_xor, not_xor, not_xor, steps_xor]
  generalize steps (8 * t.length) (BitVec.allOnes 64) = u
  generalize steps (8 * t.length) y = v
  generalize (BitVec.allOnes 64 : W) = o
  simp only [BitVec.xor_assoc, xlc v o, xlc u o, xlc v u, xcc]

theorem join_join (a b c : W) (n m : Nat) : join (join a b n) c m = join a (join b c m) (n + m) := by
  unfold join
  rw [steps_xor, ← steps_add, Nat.mul_add, BitVec.xor_assoc]

theorem join_none (a : W) : join a 0#64 0 = a := by unfold join; rw [BitVec.xor_zero]; rfl

/-! ### Texts over one another -/
def over : List UInt8 → List UInt8 → List UInt8
  | c :: s, d :: t => (c ^^^ d) :: over s t
  | _, _ => []

theorem byte_xor (c d : UInt8) : byte (c ^^^ d) = byte c ^^^ byte d := by
  unfold byte
  rw [UInt8.toNat_xor]
  apply BitVec.eq_of_toNat_eq
  have h1 := c.toNat_lt
  have h2 := d.toNat_lt
  have h3 : c.toNat ^^^ d.toNat < 2 ^ 8 := Nat.xor_lt_two_pow h1 h2
  rw [BitVec.toNat_xor, BitVec.toNat_ofNat, BitVec.toNat_ofNat, BitVec.toNat_ofNat, Nat.mod_eq_of_lt (by omega), Nat.mod_eq_of_lt (by omega), Nat.mod_eq_of_lt (by omega)]

theorem feed_over : ∀ (s t : List UInt8) (x y : W), s.length = t.length → feed (x ^^^ y) (over s t) = feed x s ^^^ feed y t
  | [], [], _, _, _ => rfl
  | c :: s, d :: t, x, y, h => by
    rw [over, feed, feed, feed, byte_xor, ← feed_over s t _ _ (by simpa using h), ← steps_xor]
    congr 2
    simp only [BitVec.xor_assoc, xlc y (byte c)]

end Go.Proofs.Ytddicpgkagkmiaa.Crc
