/-
  Plain facts on numbers as bytes (no Go in it): how many bytes a number has behind its first one, its digits to base 256, and reading them back.
-/
import Derived.Lib.BitFns
import Derived.Lib.ItoaNum
namespace Go.Proofs.Ytefocgifgphgiaa

/-- How many bytes a number has behind its first one. -/
def nb (n : Nat) : Nat := if n < 248 then 0 else (Lib.bitLen n + 7) / 8

/-- Bytes as a number, the greatest byte first. -/
def be (l : List UInt8) : Nat := l.foldl (fun a c => a * 256 + c.toNat) 0

/-- k bytes of n, the greatest first. -/
def dig : Nat → Nat → List UInt8
  | 0, _ => []
  | k + 1, n => dig k (n / 256) ++ [UInt8.ofNat (n % 256)]

/-- A number's bytes. -/
def enc (n : Nat) : List UInt8 := if n < 248 then [UInt8.ofNat n] else UInt8.ofNat (247 + nb n) :: dig (nb n) n

/-- A text's bytes. -/
def encS (l : List UInt8) : List UInt8 := enc l.length ++ l

theorem pow256 (k : Nat) : 256 ^ k = 2 ^ (8 * k) := by rw [Nat.pow_mul]

theorem nb_small {n : Nat} (h : n < 248) : nb n = 0 := by simp [nb, h]

theorem nb_bounds {n : Nat} (h : n < 2 ^ 64) (h1 : 248 ≤ n) : 1 ≤ nb n ∧ nb n ≤ 8 ∧ 256 ^ (nb n - 1) ≤ n ∧ n < 256 ^ nb n := by
  obtain ⟨a, b, c⟩ := Lib.bitLenAux_bounds 64 n h (by omega)
  have d : Lib.bitLenAux 64 n ≤ 64 := Lib.bitLen_le n 64 (Nat.le_refl _) h
  have e : nb n = (Lib.bitLenAux 64 n + 7) / 8 := by simp [nb, show ¬ n < 248 by omega, Lib.bitLen]
  rw [e]
  generalize Lib.bitLenAux 64 n = L at a b c d ⊢
  refine ⟨by omega, by omega, ?_, ?_⟩
  · rw [pow256]; exact Nat.le_trans (Nat.pow_le_pow_right (by decide) (by omega)) b
  · rw [pow256]; exact Nat.lt_of_lt_of_le c (Nat.pow_le_pow_right (by decide) (by omega))

theorem nb_le8 {n : Nat} (h : n < 2 ^ 64) : nb n ≤ 8 := by
  by_cases h1 : n < 248
  · rw [nb_small h1]; omega
  · exact (nb_bounds h (by omega)).2.1

theorem nb_lt {n : Nat} (h : n < 2 ^ 64) (h1 : 248 ≤ n) : n < 256 ^ nb n := (nb_bounds h h1).2.2.2

/-- A number of k bytes that needs them all has k bytes. -/
theorem nb_eq {n k : Nat} (h1 : 248 ≤ n) (hk : 1 ≤ k) (hk8 : k ≤ 8) (a : 256 ^ (k - 1) ≤ n) (b : n < 256 ^ k) : nb n = k := by
  have h : n < 2 ^ 64 := Nat.lt_of_lt_of_le b (by rw [pow256]; exact Nat.pow_le_pow_right (by decide) (by omega))
  obtain ⟨c, d, e, f⟩ := nb_bounds h h1
  have x : ¬ nb n < k := fun hh => by
    have : 256 ^ nb n ≤ 256 ^ (k - 1) := Nat.pow_le_pow_right (by decide) (by omega)
    omega
  have y : ¬ k < nb n := fun hh => by
    have : 256 ^ k ≤ 256 ^ (nb n - 1) := Nat.pow_le_pow_right (by decide) (by omega)
    omega
  omega

theorem be_nil : be [] = 0 := rfl
theorem be_snoc (l : List UInt8) (c : UInt8) : be (l ++ [c]) = be l * 256 + c.toNat := by simp [be, List.foldl_append]
theorem be_one (c : UInt8) : be [c] = c.toNat := by simp [be]

theorem snoc_cases {α : Type} (l : List α) : l = [] ∨ ∃ t c, l = t ++ [c] := by
  rcases List.eq_nil_or_concat l with h | ⟨t, c, h⟩
  · exact .inl h
  · exact .inr ⟨t, c, by simpa using h⟩

theorem be_lt : ∀ (k : Nat) (l : List UInt8), l.length = k → be l < 256 ^ k
  | 0, l, h => by rw [List.eq_nil_of_length_eq_zero h]; simp [be]
  | k + 1, l, h => by
    rcases snoc_cases l with rfl | ⟨t, c, rfl⟩
    · simp at h
    · have := be_lt k t (by simpa using h)
      have hc := c.toNat_lt
      rw [be_snoc, Nat.pow_succ]; omega

theorem dig_length : ∀ (k n : Nat), (dig k n).length = k
  | 0, _ => rfl
  | k + 1, n => by simp [dig, dig_length k]

theorem be_dig : ∀ (k n : Nat), n < 256 ^ k → be (dig k n) = n
  | 0, n, h => by simp at h; subst h; rfl
  | k + 1, n, h => by
    rw [dig, be_snoc, be_dig k (n / 256) (by rw [Nat.pow_succ] at h; omega), UInt8.toNat_ofNat']
    omega

theorem dig_be : ∀ (k : Nat) (l : List UInt8), l.length = k → dig k (be l) = l
  | 0, l, h => by rw [List.eq_nil_of_length_eq_zero h]; rfl
  | k + 1, l, h => by
    rcases snoc_cases l with rfl | ⟨t, c, rfl⟩
    · simp at h
    · have hc := c.toNat_lt
      have e1 : (be t * 256 + c.toNat) / 256 = be t := by omega
      have e2 : (be t * 256 + c.toNat) % 256 = c.toNat := by omega
      rw [be_snoc, dig, e1, e2, dig_be k t (by simpa using h)]
      simp

/-- The step of putNum's loop: the next byte of the k. -/
theorem dig_step (n k j : Nat) (h : j < k) : dig (j + 1) (n / 256 ^ (k - (j + 1))) = dig j (n / 256 ^ (k - j)) ++ [UInt8.ofNat (n / 256 ^ (k - (j + 1)) % 256)] := by
  have e : k - j = k - (j + 1) + 1 := by omega
  rw [dig, Nat.div_div_eq_div_mul, e, Nat.pow_succ]

theorem enc_small {n : Nat} (h : n < 248) : enc n = [UInt8.ofNat n] := by simp [enc, h]
theorem enc_big {n : Nat} (h : 248 ≤ n) : enc n = UInt8.ofNat (247 + nb n) :: dig (nb n) n := by simp [enc, show ¬ n < 248 by omega]
theorem enc_length {n : Nat} : (enc n).length = 1 + nb n := by
  by_cases h : n < 248
  · simp [enc_small h, nb_small h]
  · rw [enc_big (by omega)]; simp [dig_length]; omega

/-! ### Reading -/

/-- What a reader holds: its first error (0: none) and the bytes that are left. -/
structure St where
  e : Int
  l : List UInt8

/-- Behind an error all stays; else it fails. -/
def St.fail (s : St) (x : Int) : St := if s.e = 0 then ⟨x, s.l⟩ else s

def St.byte (s : St) : UInt8 × St := if s.e = 0 then (match s.l with | [] => (0, ⟨3, []⟩) | c :: t => (c, ⟨0, t⟩)) else (0, s)

/-- The k bytes behind a first byte of 248 or more. -/
def longR (k : Nat) (t : List UInt8) : Nat × St :=
  if t.length < k then (0, ⟨3, t⟩)
  else if nb (be (t.take k)) = k then (be (t.take k), ⟨0, t.drop k⟩) else (0, ⟨4, t.drop k⟩)

def St.num (s : St) : Nat × St :=
  if s.e = 0 then (match s.l with
    | [] => (0, ⟨3, []⟩)
    | c :: t => if c.toNat < 248 then (c.toNat, ⟨0, t⟩) else longR (c.toNat - 247) t)
  else (0, s)

def St.below (s : St) (m : Nat) : Nat × St := if m ≤ s.num.1 then (0, s.num.2.fail 4) else s.num

def St.str (s : St) (most : Int) : List UInt8 × St :=
  let r := s.below ((max most 0).toNat + 1)
  if r.2.e = 0 then (if r.2.l.length < r.1 then ([], ⟨3, r.2.l⟩) else (r.2.l.take r.1, ⟨0, r.2.l.drop r.1⟩)) else ([], r.2)

def St.left (s : St) : Nat := if s.e = 0 then s.l.length else 0
def St.fin (s : St) : St := if 0 < s.left then s.fail 4 else s

theorem longR_ok (k : Nat) (t : List UInt8) (hl : k ≤ t.length) (hn : nb (be (t.take k)) = k) : longR k t = (be (t.take k), ⟨0, t.drop k⟩) := by
  rw [longR, if_neg (by omega), if_pos hn]
theorem longR_form (k : Nat) (t : List UInt8) (hl : k ≤ t.length) (hn : nb (be (t.take k)) ≠ k) : longR k t = (0, ⟨4, t.drop k⟩) := by
  rw [longR, if_neg (by omega), if_neg hn]
theorem longR_short (k : Nat) (t : List UInt8) (hl : t.length < k) : longR k t = (0, ⟨3, t⟩) := by
  rw [longR, if_pos hl]

theorem longR_lt (k : Nat) (t : List UInt8) (hk : k ≤ 8) : (longR k t).1 ≤ 18446744073709551615 := by
  unfold longR
  split
  · simp
  · split
    · have := be_lt k (t.take k) (by simp; omega)
      have h2 : 256 ^ k ≤ 256 ^ 8 := Nat.pow_le_pow_right (by decide) hk
      simp only; omega
    · simp

theorem num_le (s : St) : s.num.1 ≤ 18446744073709551615 := by
  unfold St.num
  split
  · split
    · simp
    · rename_i c t _
      have := c.toNat_lt
      split
      · simp only; omega
      · exact longR_lt _ _ (by omega)
  · simp

theorem longR_len (k : Nat) (t : List UInt8) : (longR k t).2.l.length ≤ t.length := by
  unfold longR
  split
  · simp
  · split <;> simp

theorem num_len (s : St) : s.num.2.l.length ≤ s.l.length := by
  unfold St.num
  split
  · split
    · simp
    · rename_i c t h
      rw [h]
      split
      · simp
      · have := longR_len (c.toNat - 247) t
        simp only [List.length_cons]; omega
  · simp

theorem byte_len (s : St) : s.byte.2.l.length ≤ s.l.length := by
  unfold St.byte
  split
  · split
    · simp
    · rename_i c t h; rw [h]; simp
  · simp

theorem fail_len (s : St) (x : Int) : (s.fail x).l = s.l := by unfold St.fail; split <;> rfl

theorem below_len (s : St) (m : Nat) : (s.below m).2.l.length ≤ s.l.length := by
  unfold St.below
  split
  · simp only [fail_len]; exact num_len s
  · exact num_len s

theorem below_lt (s : St) (m : Nat) (hm : 0 < m) : (s.below m).1 < m := by
  unfold St.below
  split
  · exact hm
  · omega

theorem str_len (s : St) (most : Int) : (s.str most).2.l.length ≤ s.l.length := by
  have := below_len s ((max most 0).toNat + 1)
  unfold St.str
  simp only
  split
  · split
    · exact this
    · simp; omega
  · exact this

theorem fin_len (s : St) : s.fin.l = s.l := by unfold St.fin; split <;> simp [fail_len]

end Go.Proofs.Ytefocgifgphgiaa
