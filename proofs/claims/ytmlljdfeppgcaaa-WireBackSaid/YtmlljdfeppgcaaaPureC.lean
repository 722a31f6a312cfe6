/-
  Plain facts (no Go in it) for the law WireBack: a list of numbers and texts written one behind the other, and read again; with the last byte gone it ends too soon.
-/
import Derived.Test.YtmlljdfeppgcaaaPureB
namespace Go.Proofs.Ytmlljdfeppgcaaa

/-- A number, or a text. -/
structure Pi where
  t : Bool
  n : Nat
  s : List UInt8

def Pi.ok (x : Pi) : Prop := x.n < 2 ^ 64 ∧ x.s.length ≤ 100

def encI (x : Pi) : List UInt8 := if x.t then encS x.s else enc x.n
def encA (l : List Pi) : List UInt8 := l.flatMap encI

theorem enc_ne (n : Nat) : enc n ≠ [] := by
  intro h
  have := enc_length (n := n)
  rw [h] at this; simp at this; omega

theorem encI_ne (x : Pi) : encI x ≠ [] := by
  unfold encI
  split
  · unfold encS; simp [enc_ne]
  · exact enc_ne _

theorem encI_len (x : Pi) (h : x.ok) : 1 ≤ (encI x).length ∧ (encI x).length ≤ 109 := by
  obtain ⟨h1, h2⟩ := h
  have a := nb_le8 h1
  have b := nb_le8 (show x.s.length < 2 ^ 64 by omega)
  unfold encI
  split
  · simp only [encS, List.length_append, enc_length]; omega
  · simp only [enc_length]; omega

theorem encA_take (l : List Pi) (k : Nat) (h : k < l.length) : encA (l.take (k + 1)) = encA (l.take k) ++ encI l[k] := by
  unfold encA
  rw [List.take_succ_eq_append_getElem h, List.flatMap_append]
  simp only [List.flatMap_cons, List.flatMap_nil, List.append_nil]

theorem encA_drop (l : List Pi) (k : Nat) (h : k < l.length) : encA (l.drop k) = encI l[k] ++ encA (l.drop (k + 1)) := by
  unfold encA
  rw [List.drop_eq_getElem_cons h, List.flatMap_cons]

theorem encA_len : ∀ (l : List Pi), (∀ x ∈ l, x.ok) → l.length ≤ (encA l).length ∧ (encA l).length ≤ 109 * l.length
  | [], _ => by simp [encA]
  | x :: l, h => by
    have a := encI_len x (h x (by simp))
    have b := encA_len l (fun y hy => h y (by simp [hy]))
    have e : encA (x :: l) = encI x ++ encA l := by simp [encA]
    rw [e, List.length_append]
    simp only [List.length_cons]; omega

/-- What was put is read: a text. -/
theorem str_enc (s t : List UInt8) (h : s.length ≤ 100) : St.str ⟨0, encS s ++ t⟩ 100 = (s, ⟨0, t⟩) := by
  have hn := num_enc s.length (s ++ t) (by omega)
  have hb : St.below ⟨0, encS s ++ t⟩ 101 = (s.length, ⟨0, s ++ t⟩) := by
    unfold St.below encS
    rw [List.append_assoc, hn, if_neg (by simp only; omega)]
  have hm : (max (100 : Int) 0).toNat + 1 = 101 := by decide
  unfold St.str
  rw [hm, hb]
  simp

/-- One step of reading. -/
def stepI (s : St) (x : Pi) : St := if x.t then (s.str 100).2 else s.num.2

theorem stepI_len (s : St) (x : Pi) : (stepI s x).l.length ≤ s.l.length := by
  unfold stepI
  split
  · exact str_len s 100
  · exact num_len s

theorem stepI_enc (x : Pi) (t : List UInt8) (h : x.ok) : stepI ⟨0, encI x ++ t⟩ x = ⟨0, t⟩ := by
  obtain ⟨h1, h2⟩ := h
  unfold stepI encI
  by_cases ht : x.t = true
  · rw [if_pos ht, if_pos ht, str_enc _ _ h2]
  · rw [if_neg ht, if_neg ht, num_enc _ _ h1]

/-- A number without its last byte. -/
theorem num_cut (n : Nat) (h : n < 2 ^ 64) : ∃ t, St.num ⟨0, (enc n).dropLast⟩ = (0, ⟨3, t⟩) := by
  by_cases hn : n < 248
  · rw [enc_small hn]; exact ⟨[], rfl⟩
  · have h1 : 248 ≤ n := by omega
    obtain ⟨a, b, _, _⟩ := nb_bounds h h1
    have hl := dig_length (nb n) n
    have hne : dig (nb n) n ≠ [] := by intro e; rw [e] at hl; simp at hl; omega
    have e : (UInt8.ofNat (247 + nb n)).toNat = 247 + nb n := by rw [UInt8.toNat_ofNat']; omega
    rw [enc_big h1, List.dropLast_cons_of_ne_nil hne]
    refine ⟨(dig (nb n) n).dropLast, ?_⟩
    simp only [St.num, e, if_true]
    rw [if_neg (by omega), show 247 + nb n - 247 = nb n from by omega, longR_short _ _ (by rw [List.length_dropLast]; omega)]

theorem stepI_cut (x : Pi) (h : x.ok) : (stepI ⟨0, (encI x).dropLast⟩ x).e = 3 := by
  obtain ⟨h1, h2⟩ := h
  unfold stepI encI
  by_cases ht : x.t = true
  · rw [if_pos ht, if_pos ht]
    have hm : (max (100 : Int) 0).toNat + 1 = 101 := by decide
    by_cases hs : x.s = []
    · obtain ⟨t, e⟩ := num_cut 0 (by decide)
      have hb : St.below ⟨0, (encS x.s).dropLast⟩ 101 = (0, ⟨3, t⟩) := by
        unfold St.below encS
        rw [hs, List.append_nil, show ([] : List UInt8).length = 0 from rfl, e, if_neg (by simp)]
      unfold St.str
      rw [hm, hb]; simp
    · have hn := num_enc x.s.length x.s.dropLast (by omega)
      have hb : St.below ⟨0, (encS x.s).dropLast⟩ 101 = (x.s.length, ⟨0, x.s.dropLast⟩) := by
        unfold St.below encS
        rw [List.dropLast_append_of_ne_nil hs, hn, if_neg (by simp only; omega)]
      have hpos : 0 < x.s.length := List.length_pos_iff.mpr hs
      unfold St.str
      rw [hm, hb]
      simp only [if_true, List.length_dropLast]
      rw [if_pos (by omega)]
  · rw [if_neg ht, if_neg ht]
    obtain ⟨t, e⟩ := num_cut x.n h1
    rw [e]

/-- With the last byte gone it ends too soon. -/
theorem cut_ends : ∀ (l : List Pi), l ≠ [] → (∀ x ∈ l, x.ok) → (l.foldl stepI ⟨0, (encA l).dropLast⟩).e = 3
  | [], h, _ => absurd rfl h
  | [x], _, h => by
    have e : encA [x] = encI x := by simp [encA]
    rw [e]
    exact stepI_cut x (h x (by simp))
  | x :: y :: r, _, h => by
    have hne : encA (y :: r) ≠ [] := by
      have := (encA_len (y :: r) (fun z hz => h z (by simp [hz]))).1
      intro e; rw [e] at this; simp at this
    have e : encA (x :: y :: r) = encI x ++ encA (y :: r) := by simp [encA]
    rw [e, List.dropLast_append_of_ne_nil hne, List.foldl_cons, stepI_enc x _ (h x (by simp))]
    exact cut_ends (y :: r) (by simp) (fun z hz => h z (by simp [hz]))

theorem foldl_take (l : List Pi) (s : St) (k : Nat) (h : k < l.length) : (l.take (k + 1)).foldl stepI s = stepI ((l.take k).foldl stepI s) l[k] := by
  rw [List.take_succ_eq_append_getElem h, List.foldl_append]; rfl

theorem foldl_len : ∀ (l : List Pi) (s : St), (l.foldl stepI s).l.length ≤ s.l.length
  | [], _ => Nat.le_refl _
  | x :: l, s => Nat.le_trans (foldl_len l (stepI s x)) (stepI_len s x)

end Go.Proofs.Ytmlljdfeppgcaaa
