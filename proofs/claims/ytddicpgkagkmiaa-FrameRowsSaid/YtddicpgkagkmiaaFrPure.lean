/-
  Plain facts of layer 3 (no Go in it): a frame's bytes, the frame at the beginning of bytes, all of them one behind the other.
-/
import Derived.Test.YtddicpgkagkmiaaPureB
import Derived.Test.YtddicpgkagkmiaaCrcBits
namespace Go.Proofs.Ytddicpgkagkmiaa
set_option linter.unusedVariables false

/-- k bytes of n, the lowest first. -/
def low : Nat → Nat → List UInt8
  | 0, _ => []
  | k + 1, n => UInt8.ofNat (n % 256) :: low k (n / 256)

/-- Bytes as a number, the lowest first. -/
def ln : List UInt8 → Nat
  | [] => 0
  | c :: t => c.toNat + 256 * ln t

theorem low_length : ∀ (k n : Nat), (low k n).length = k
  | 0, _ => rfl
  | k + 1, n => by rw [low, List.length_cons, low_length k]

theorem low_snoc : ∀ (k n : Nat), low (k + 1) n = low k n ++ [UInt8.ofNat (n / 256 ^ k % 256)]
  | 0, n => by simp [low]
  | k + 1, n => by
    rw [low, low_snoc k (n / 256), low, List.cons_append, Nat.div_div_eq_div_mul, show 256 * 256 ^ k = 256 ^ (k + 1) from by rw [Nat.pow_succ, Nat.mul_comm]]

theorem low_ln : ∀ (t : List UInt8), low t.length (ln t) = t
  | [] => rfl
  | c :: t => by
    have hc := c.toNat_lt
    have e1 : (c.toNat + 256 * ln t) % 256 = c.toNat := by omega
    have e2 : (c.toNat + 256 * ln t) / 256 = ln t := by omega
    rw [List.length_cons, low, ln, e1, e2, low_ln t]
    simp

theorem ln_lt : ∀ (t : List UInt8), ln t < 256 ^ t.length
  | [] => by simp [ln]
  | c :: t => by
    have hc := c.toNat_lt
    have := ln_lt t
    rw [List.length_cons, ln, Nat.pow_succ]
    omega

theorem ln_low : ∀ (k n : Nat), n < 256 ^ k → ln (low k n) = n
  | 0, n, h => by simp at h; subst h; rfl
  | k + 1, n, h => by
    rw [low, ln, ln_low k (n / 256) (by rw [Nat.pow_succ] at h; omega), UInt8.toNat_ofNat']
    omega

theorem ln_snoc : ∀ (t : List UInt8) (c : UInt8), ln (t ++ [c]) = ln t + 256 ^ t.length * c.toNat
  | [], c => by simp [ln]
  | d :: t, c => by
    rw [List.cons_append, ln, ln_snoc t c, ln, List.length_cons, Nat.pow_succ, Nat.mul_add]
    rw [show 256 ^ t.length * 256 * c.toNat = 256 * (256 ^ t.length * c.toNat) from by rw [Nat.mul_comm (256 ^ t.length), Nat.mul_assoc]]
    omega

/-- Eight bytes and a number of 64 bits tell one another. -/
theorem low8 (t : List UInt8) (n : Nat) (ht : t.length = 8) (hn : n < 2 ^ 64) : t = low 8 n ↔ ln t = n := by
  constructor
  · rintro rfl; exact ln_low 8 n (by simpa using hn)
  · rintro rfl; rw [← ht, low_ln]

/-- A checksum's number. -/
def sm (l : List UInt8) : Nat := (Crc.sum l).toNat
theorem sm_lt (l : List UInt8) : sm l < 2 ^ 64 := (Crc.sum l).isLt

/-- A frame of l. -/
def frameL (l : List UInt8) : List UInt8 := enc l.length ++ (low 8 (sm l) ++ l)
theorem frameL_length (l : List UInt8) : (frameL l).length = (enc l.length).length + 8 + l.length := by
  simp [frameL, low_length]; omega

/-! ### A reader's eight bytes -/
/-- The reader behind k bytes. -/
def St.skip : Nat → St → St
  | 0, s => s
  | k + 1, s => (St.skip k s).byte.2
/-- What k bytes come to. -/
def St.low : Nat → St → Nat
  | 0, _ => 0
  | k + 1, s => St.low k s + 256 ^ k * (St.skip k s).byte.1.toNat

theorem St.low_lt (s : St) : ∀ k, St.low k s < 256 ^ k
  | 0 => by simp [St.low]
  | k + 1 => by
    have h := St.low_lt s k
    have hc := (St.skip k s).byte.1.toNat_lt
    generalize (St.skip k s).byte.1.toNat = c at hc
    rw [St.low, Nat.pow_succ]
    have : 256 ^ k * (St.skip k s).byte.1.toNat ≤ 256 ^ k * 255 := Nat.mul_le_mul_left _ (by have := (St.skip k s).byte.1.toNat_lt; omega)
    omega

theorem skip_err (e : Int) (l : List UInt8) (h : e ≠ 0) : ∀ k, St.skip k ⟨e, l⟩ = ⟨e, l⟩
  | 0 => rfl
  | k + 1 => by rw [St.skip, skip_err e l h k]; simp [St.byte, h]

theorem skip_ok (l : List UInt8) : ∀ k, k ≤ l.length → St.skip k ⟨0, l⟩ = ⟨0, l.drop k⟩
  | 0, _ => rfl
  | k + 1, h => by
    rw [St.skip, skip_ok l k (by omega), St.byte, if_pos rfl]
    simp only
    rw [List.drop_eq_getElem_cons (by omega : k < l.length)]

theorem skip_short (l : List UInt8) : ∀ k, l.length < k → St.skip k ⟨0, l⟩ = ⟨3, []⟩
  | 0, h => by omega
  | k + 1, h => by
    rw [St.skip]
    by_cases hk : l.length < k
    · rw [skip_short l k hk]; rfl
    · have e : l.length = k := by omega
      rw [skip_ok l k (by omega), List.drop_of_length_le (by omega)]
      rfl

theorem St.low_ok (l : List UInt8) : ∀ k, k ≤ l.length → St.low k ⟨0, l⟩ = ln (l.take k)
  | 0, _ => rfl
  | k + 1, h => by
    rw [St.low, St.low_ok l k (by omega), skip_ok l k (by omega), List.take_succ_eq_append_getElem (by omega : k < l.length), ln_snoc, List.length_take, Nat.min_eq_left (by omega : k ≤ l.length), St.byte, if_pos rfl]
    simp only
    rw [List.drop_eq_getElem_cons (by omega : k < l.length)]

theorem byte_e (s : St) (h : s.e ≠ 0) : s.byte = (0, s) := by simp [St.byte, h]
theorem skip_len (s : St) : ∀ k, (St.skip k s).l.length ≤ s.l.length
  | 0 => Nat.le_refl _
  | k + 1 => Nat.le_trans (byte_len _) (skip_len s k)

/-! ### The frame at the beginning -/
/-- A number that is read stands there as its own bytes. -/
theorem num_parts {s : List UInt8} {n : Nat} {r : List UInt8} (h : St.num ⟨0, s⟩ = (n, ⟨0, r⟩)) : s = enc n ++ r := by
  unfold St.num at h
  rw [if_pos rfl] at h
  cases s with
  | nil => simp at h
  | cons c t =>
    have hc := c.toNat_lt
    simp only at h
    split at h
    · rename_i h1
      obtain ⟨rfl, h2⟩ := Prod.mk.inj h
      obtain ⟨_, rfl⟩ := St.mk.inj h2
      rw [enc_small h1]; simp
    · rename_i h1
      unfold longR at h
      split at h
      · simp at h
      · rename_i h2
        split at h
        · rename_i h3
          obtain ⟨rfl, h4⟩ := Prod.mk.inj h
          obtain ⟨_, rfl⟩ := St.mk.inj h4
          generalize hk : c.toNat - 247 = k at h2 h3
          have hl : (t.take k).length = k := by simp; omega
          have hb : 248 ≤ be (t.take k) := by
            by_cases h5 : be (t.take k) < 248
            · rw [nb_small h5] at h3; omega
            · omega
          rw [enc_big hb, h3, dig_be k _ hl, show 247 + k = c.toNat from by omega]
          simp
        · simp at h

/-- The frame at the beginning: its inside, how many bytes it has, and the error. -/
def takeL (s : List UInt8) : List UInt8 × Nat × Int :=
  let r := St.num ⟨0, s⟩
  if r.2.e ≠ 0 then ([], 0, r.2.e)
  else if r.1 < 1 ∨ 65536 < r.1 then ([], 0, 4)
  else if r.2.l.length < 8 + r.1 then ([], 0, 3)
  else if ln (r.2.l.take 8) ≠ sm ((r.2.l.drop 8).take r.1) then ([], 0, 5)
  else ((r.2.l.drop 8).take r.1, s.length - r.2.l.length + 8 + r.1, 0)

theorem takeL_num {s : List UInt8} (h : (St.num ⟨0, s⟩).2.e ≠ 0) : takeL s = ([], 0, (St.num ⟨0, s⟩).2.e) := by
  unfold takeL; simp only; rw [if_pos h]
theorem takeL_size {s : List UInt8} {n : Nat} {r : List UInt8} (h : St.num ⟨0, s⟩ = (n, ⟨0, r⟩)) (hn : n < 1 ∨ 65536 < n) : takeL s = ([], 0, 4) := by
  unfold takeL; rw [h]; simp only; rw [if_neg (by simp), if_pos hn]
theorem takeL_short {s : List UInt8} {n : Nat} {r : List UInt8} (h : St.num ⟨0, s⟩ = (n, ⟨0, r⟩)) (h1 : 1 ≤ n) (h2 : n ≤ 65536) (hr : r.length < 8 + n) : takeL s = ([], 0, 3) := by
  unfold takeL; rw [h]; simp only; rw [if_neg (by simp), if_neg (by omega), if_pos hr]
theorem takeL_sum {s : List UInt8} {n : Nat} {r : List UInt8} (h : St.num ⟨0, s⟩ = (n, ⟨0, r⟩)) (h1 : 1 ≤ n) (h2 : n ≤ 65536) (hr : 8 + n ≤ r.length) (hs : ln (r.take 8) ≠ sm ((r.drop 8).take n)) : takeL s = ([], 0, 5) := by
  unfold takeL; rw [h]; simp only; rw [if_neg (by simp), if_neg (by omega), if_neg (by omega), if_pos hs]
theorem takeL_ok {s : List UInt8} {n : Nat} {r : List UInt8} (h : St.num ⟨0, s⟩ = (n, ⟨0, r⟩)) (h1 : 1 ≤ n) (h2 : n ≤ 65536) (hr : 8 + n ≤ r.length) (hs : ln (r.take 8) = sm ((r.drop 8).take n)) :
    takeL s = ((r.drop 8).take n, s.length - r.length + 8 + n, 0) := by
  unfold takeL; rw [h]; simp only; rw [if_neg (by simp), if_neg (by omega), if_neg (by omega), if_neg (by simp [hs])]

/-- What is told is a frame, and stands there. -/
theorem takeL_stands {s inside : List UInt8} {n : Nat} (h : takeL s = (inside, n, 0)) : 1 ≤ inside.length ∧ inside.length ≤ 65536 ∧ n = (frameL inside).length ∧ s = frameL inside ++ s.drop n := by
  generalize hp : St.num ⟨0, s⟩ = p
  obtain ⟨k, e, r⟩ := p
  by_cases he : e = 0
  · subst he
    by_cases hk : k < 1 ∨ 65536 < k
    · rw [takeL_size hp hk] at h; simp at h
    · by_cases hr : r.length < 8 + k
      · rw [takeL_short hp (by omega) (by omega) hr] at h; simp at h
      · by_cases hs : ln (r.take 8) = sm ((r.drop 8).take k)
        · rw [takeL_ok hp (by omega) (by omega) (by omega) hs] at h
          obtain ⟨rfl, h2⟩ := Prod.mk.inj h
          obtain ⟨rfl, _⟩ := Prod.mk.inj h2
          have hst := num_parts hp
          have hl : ((r.drop 8).take k).length = k := by simp; omega
          have h8 : (r.take 8).length = 8 := by simp; omega
          have hlow : r.take 8 = low 8 (sm ((r.drop 8).take k)) := (low8 _ _ h8 (sm_lt _)).2 hs
          have hfl : (frameL ((r.drop 8).take k)).length = (enc k).length + 8 + k := by rw [frameL_length, hl]
          have hsl : s.length = (enc k).length + r.length := by rw [hst]; simp
          refine ⟨by omega, by omega, by omega, ?_⟩
          have hfr : frameL ((r.drop 8).take k) ++ r.drop (8 + k) = s := by
            unfold frameL
            rw [hl, ← hlow, hst, List.append_assoc, List.append_assoc]
            congr 1
            rw [← List.drop_drop, List.take_append_drop, List.take_append_drop]
          have hdr : s.drop (s.length - r.length + 8 + k) = r.drop (8 + k) := by
            rw [← hfr, show (frameL ((r.drop 8).take k) ++ r.drop (8 + k)).length - r.length + 8 + k = (frameL ((r.drop 8).take k)).length from by rw [hfr]; omega, List.drop_left]
          rw [hdr, hfr]
        · rw [takeL_sum hp (by omega) (by omega) (by omega) hs] at h; simp at h
  · rw [takeL_num (by rw [hp]; exact he), hp] at h
    simp only [Prod.mk.injEq] at h
    exact absurd h.2.2 he

/-- A frame of what may be is told. -/
theorem takeL_frame (l t : List UInt8) (h1 : 1 ≤ l.length) (h2 : l.length ≤ 65536) : takeL (frameL l ++ t) = (l, (frameL l).length, 0) := by
  have hp : St.num ⟨0, frameL l ++ t⟩ = (l.length, ⟨0, low 8 (sm l) ++ l ++ t⟩) := by
    unfold frameL; rw [List.append_assoc, List.append_assoc]
    have := num_enc l.length (low 8 (sm l) ++ (l ++ t)) (by omega)
    rw [this]
  have ht : (low 8 (sm l) ++ l ++ t).take 8 = low 8 (sm l) := by
    rw [List.append_assoc, List.take_append_of_le_length (by rw [low_length]; omega), List.take_of_length_le (by rw [low_length]; omega)]
  have hd : ((low 8 (sm l) ++ l ++ t).drop 8).take l.length = l := by
    rw [List.append_assoc, List.drop_append_of_le_length (by rw [low_length]; omega), List.drop_of_length_le (by rw [low_length]; omega), List.nil_append, List.take_left]
  have hn : ln ((low 8 (sm l) ++ l ++ t).take 8) = sm l := by rw [ht]; exact ln_low 8 _ (by have := sm_lt l; simpa using this)
  rw [takeL_ok hp h1 h2 (by simp [low_length]) (by rw [hn, hd]), hd]
  simp [frameL, low_length]; omega

theorem takeL_bad {s : List UInt8} (h : (takeL s).2.2 ≠ 0) : takeL s = ([], 0, (takeL s).2.2) := by
  generalize hp : St.num ⟨0, s⟩ = p
  obtain ⟨k, e, r⟩ := p
  by_cases he : e = 0
  · subst he
    by_cases hk : k < 1 ∨ 65536 < k
    · rw [takeL_size hp hk]
    · by_cases hr : r.length < 8 + k
      · rw [takeL_short hp (by omega) (by omega) hr]
      · by_cases hs : ln (r.take 8) = sm ((r.drop 8).take k)
        · rw [takeL_ok hp (by omega) (by omega) (by omega) hs] at h; simp at h
        · rw [takeL_sum hp (by omega) (by omega) (by omega) hs]
  · rw [takeL_num (by rw [hp]; exact he)]

theorem takeL_pos {s : List UInt8} (h : (takeL s).2.2 = 0) : 10 ≤ (takeL s).2.1 ∧ (takeL s).2.1 ≤ s.length := by
  obtain ⟨a, b, c, d⟩ := takeL_stands (s := s) (inside := (takeL s).1) (n := (takeL s).2.1) (by rw [← h])
  have := congrArg List.length d
  rw [List.length_append] at this
  have hf := frameL_length (takeL s).1
  have he : (enc (takeL s).1.length).length = 1 + nb (takeL s).1.length := enc_length
  omega

/-! ### All of them -/
/-- What is told of bytes from a place on: (where, (inside, size, why)), the last one perhaps none. -/
def foundL (s : List UInt8) (at_ : Nat) : List (Nat × (List UInt8 × Nat × Int)) :=
  if s.length ≤ at_ then []
  else if h : (takeL (s.drop at_)).2.2 = 0 then (at_, takeL (s.drop at_)) :: foundL s (at_ + (takeL (s.drop at_)).2.1)
  else [(at_, takeL (s.drop at_))]
termination_by s.length - at_
decreasing_by
  have := takeL_pos h
  simp at this
  omega

theorem foundL_end {s : List UInt8} {a : Nat} (h : s.length ≤ a) : foundL s a = [] := by rw [foundL, if_pos h]
theorem foundL_go {s : List UInt8} {a : Nat} (h : a < s.length) (h0 : (takeL (s.drop a)).2.2 = 0) : foundL s a = (a, takeL (s.drop a)) :: foundL s (a + (takeL (s.drop a)).2.1) := by
  rw [foundL, if_neg (by omega), dif_pos h0]
theorem foundL_stop {s : List UInt8} {a : Nat} (h : a < s.length) (h0 : (takeL (s.drop a)).2.2 ≠ 0) : foundL s a = [(a, takeL (s.drop a))] := by
  rw [foundL, if_neg (by omega), dif_neg h0]

/-- All frames from a place on: the insides, where they end, and why. -/
def splitL (s : List UInt8) (at_ : Nat) : List (List UInt8) × Nat × Int :=
  if s.length ≤ at_ then ([], at_, 0)
  else if h : (takeL (s.drop at_)).2.2 = 0 then
    let r := splitL s (at_ + (takeL (s.drop at_)).2.1)
    ((takeL (s.drop at_)).1 :: r.1, r.2)
  else ([], at_, (takeL (s.drop at_)).2.2)
termination_by s.length - at_
decreasing_by
  have := takeL_pos h
  simp at this
  omega

theorem splitL_end {s : List UInt8} {a : Nat} (h : s.length ≤ a) : splitL s a = ([], a, 0) := by rw [splitL, if_pos h]
theorem splitL_go {s : List UInt8} {a : Nat} (h : a < s.length) (h0 : (takeL (s.drop a)).2.2 = 0) :
    splitL s a = ((takeL (s.drop a)).1 :: (splitL s (a + (takeL (s.drop a)).2.1)).1, (splitL s (a + (takeL (s.drop a)).2.1)).2) := by
  rw [splitL, if_neg (by omega), dif_pos h0]
theorem splitL_stop {s : List UInt8} {a : Nat} (h : a < s.length) (h0 : (takeL (s.drop a)).2.2 ≠ 0) : splitL s a = ([], a, (takeL (s.drop a)).2.2) := by
  rw [splitL, if_neg (by omega), dif_neg h0]

end Go.Proofs.Ytddicpgkagkmiaa
