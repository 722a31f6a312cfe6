/-
  Plain facts on the reader (no Go in it): what was put is read, bytes that are wholly one number are that number's bytes.
-/
import Derived.Test.YtefocgifgphgiaaPure
namespace Go.Proofs.Ytefocgifgphgiaa

theorem longR_dig (n : Nat) (t : List UInt8) (h : n < 2 ^ 64) (h1 : 248 ≤ n) : longR (nb n) (dig (nb n) n ++ t) = (n, ⟨0, t⟩) := by
  have hl := dig_length (nb n) n
  have hb := be_dig (nb n) n (nb_lt h h1)
  have ht : (dig (nb n) n ++ t).take (nb n) = dig (nb n) n := by rw [List.take_append_of_le_length (by omega), List.take_of_length_le (by omega)]
  have hd : (dig (nb n) n ++ t).drop (nb n) = t := by rw [List.drop_append_of_le_length (by omega), List.drop_of_length_le (by omega)]; rfl
  have := longR_ok (nb n) (dig (nb n) n ++ t) (by simp; omega) (by rw [ht, hb])
  rw [this, ht, hb, hd]

/-- What was put is read. -/
theorem num_enc (n : Nat) (t : List UInt8) (h : n < 2 ^ 64) : St.num ⟨0, enc n ++ t⟩ = (n, ⟨0, t⟩) := by
  by_cases hn : n < 248
  · have e : (UInt8.ofNat n).toNat = n := by rw [UInt8.toNat_ofNat']; omega
    rw [enc_small hn]
    simp only [St.num, List.cons_append, List.nil_append, e, hn, if_true]
  · have h1 : 248 ≤ n := by omega
    have h8 := nb_bounds h h1
    have e : (UInt8.ofNat (247 + nb n)).toNat = 247 + nb n := by rw [UInt8.toNat_ofNat']; omega
    rw [enc_big h1]
    simp only [St.num, List.cons_append, e, if_true]
    rw [if_neg (by omega), show 247 + nb n - 247 = nb n from by omega]
    exact longR_dig n t h h1

theorem enc_inj {n m : Nat} (hn : n < 2 ^ 64) (hm : m < 2 ^ 64) (h : enc n = enc m) : n = m := by
  have a := num_enc n [] hn
  have b := num_enc m [] hm
  rw [h, b] at a
  exact (Prod.mk.inj a).1.symm

theorem nb_mono {n m : Nat} (h : n ≤ m) (hm : m < 2 ^ 64) : nb n ≤ nb m := by
  by_cases hn : n < 248
  · rw [nb_small hn]; omega
  · obtain ⟨a, b, c, d⟩ := nb_bounds (show n < 2 ^ 64 by omega) (by omega)
    have e := nb_lt hm (by omega)
    by_cases hh : nb m < nb n
    · have : 256 ^ nb m ≤ 256 ^ (nb n - 1) := Nat.pow_le_pow_right (by decide) (by omega)
      omega
    · omega

/-- Bytes that are wholly one number are that number's bytes. -/
theorem one_form (l : List UInt8) (h : (St.num ⟨0, l⟩).2.fin.e = 0) : enc (St.num ⟨0, l⟩).1 = l := by
  have hfin : ∀ s : St, s.fin.e = 0 → s.e = 0 ∧ s.l = [] := by
    intro s hs
    obtain ⟨e, l⟩ := s
    by_cases he : e = 0
    · subst he
      cases l with
      | nil => exact ⟨rfl, rfl⟩
      | cons c t => simp [St.fin, St.left, St.fail] at hs
    · simp [St.fin, St.left, he] at hs
  obtain ⟨he, hl⟩ := hfin _ h
  clear h hfin
  match l, he, hl with
  | [], he, hl => simp [St.num] at he
  | c :: t, he, hl =>
    have hcl := c.toNat_lt
    by_cases hc : c.toNat < 248
    · have e1 : St.num ⟨0, c :: t⟩ = (c.toNat, ⟨0, t⟩) := by simp [St.num, hc]
      rw [e1] at hl ⊢
      simp only at hl ⊢
      rw [hl, enc_small hc]; simp
    · have e1 : St.num ⟨0, c :: t⟩ = longR (c.toNat - 247) t := by simp [St.num, hc]
      rw [e1] at he hl ⊢
      generalize hk : c.toNat - 247 = k at he hl ⊢
      by_cases h1 : t.length < k
      · rw [longR_short k t h1] at he; simp at he
      · by_cases h2 : nb (be (t.take k)) = k
        · rw [longR_ok k t (by omega) h2] at hl ⊢
          simp only at hl ⊢
          have h3 : t.length ≤ k := by simpa using hl
          have h4 : t.take k = t := List.take_of_length_le h3
          rw [h4] at h2 ⊢
          have h5 : ¬ be t < 248 := fun hh => by rw [nb_small hh] at h2; omega
          rw [enc_big (by omega), h2, dig_be k t (by omega), show 247 + k = c.toNat from by omega]
          simp
        · rw [longR_form k t (by omega) h2] at he; simp at he

/-- One byte more, ahead. -/
theorem dig_cons : ∀ (j n : Nat), dig (j + 1) n = UInt8.ofNat (n / 256 ^ j % 256) :: dig j n
  | 0, n => by simp [dig]
  | j + 1, n => by
    have e : dig (j + 1 + 1) n = dig (j + 1) (n / 256) ++ [UInt8.ofNat (n % 256)] := rfl
    have e2 : dig (j + 1) n = dig j (n / 256) ++ [UInt8.ofNat (n % 256)] := rfl
    rw [e, dig_cons j (n / 256), Nat.div_div_eq_div_mul, ← Nat.pow_succ', List.cons_append, e2]

theorem more_left {n j : Nat} (h : n < 2 ^ 64) (h1 : 248 ≤ n) (hj : j < nb n) : 0 < n / 256 ^ j := by
  obtain ⟨a, b, c, d⟩ := nb_bounds h h1
  have : 256 ^ j ≤ 256 ^ (nb n - 1) := Nat.pow_le_pow_right (by decide) (by omega)
  exact Nat.div_pos (by omega) (Nat.pow_pos (by decide))

theorem none_left {n : Nat} (h : n < 2 ^ 64) (h1 : 248 ≤ n) : n / 256 ^ nb n = 0 := Nat.div_eq_of_lt (nb_lt h h1)

end Go.Proofs.Ytefocgifgphgiaa
