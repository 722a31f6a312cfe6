/-
  Plain facts of layer 3 (no Go in it): frames in a row, cut anywhere, or with a byte turned in an inside or in a checksum.
-/
import Derived.Test.YtddicpgkagkmiaaFrNext
namespace Go.Proofs.Ytddicpgkagkmiaa
set_option linter.unusedVariables false

/-- Frames in a row. -/
def rowL (ls : List (List UInt8)) : List UInt8 := ls.flatMap frameL
theorem rowL_nil : rowL [] = [] := rfl
theorem rowL_cons (x : List UInt8) (t : List (List UInt8)) : rowL (x :: t) = frameL x ++ rowL t := by simp [rowL]
theorem rowL_append (s t : List (List UInt8)) : rowL (s ++ t) = rowL s ++ rowL t := by simp [rowL]
theorem rowL_length : ∀ ls : List (List UInt8), (rowL ls).length = sizes ls
  | [] => rfl
  | x :: t => by rw [rowL_cons, List.length_append, rowL_length t, sizes]

/-- Insides of at least one byte and at most 200. -/
def Small (ls : List (List UInt8)) : Prop := ∀ x ∈ ls, 1 ≤ x.length ∧ x.length ≤ 200
theorem Small.take {ls : List (List UInt8)} (h : Small ls) (k : Nat) : Small (ls.take k) := fun x hx => h x (List.mem_of_mem_take hx)

theorem frame_small {x : List UInt8} (h : x.length ≤ 200) : frameL x = enc x.length ++ (low 8 (sm x) ++ x) := rfl
theorem enc_one {x : List UInt8} (h : x.length ≤ 200) : enc x.length = [UInt8.ofNat x.length] := enc_small (by omega)
theorem frame_small_length {x : List UInt8} (h : x.length ≤ 200) : (frameL x).length = x.length + 9 := by
  rw [frameL_length, enc_one h]; simp; omega

theorem sizes_take {ls : List (List UInt8)} (hs : Small ls) {m : Nat} (h : m < ls.length) : sizes (ls.take (m + 1)) = sizes (ls.take m) + (ls[m].length + 9) := by
  rw [List.take_succ_eq_append_getElem h, sizes_snoc, frame_small_length (hs _ (List.getElem_mem h)).2]
theorem rowL_take {ls : List (List UInt8)} {m : Nat} (h : m < ls.length) : rowL (ls.take (m + 1)) = rowL (ls.take m) ++ frameL ls[m] := by
  rw [List.take_succ_eq_append_getElem h, rowL_append, rowL_cons, rowL_nil, List.append_nil]
theorem sizes_take_le (ls : List (List UInt8)) (m : Nat) : sizes (ls.take m) ≤ sizes ls := by
  have h := congrArg sizes (List.take_append_drop m ls)
  rw [sizes_append] at h; omega
theorem sizes_take_mono (ls : List (List UInt8)) {m k : Nat} (h : m ≤ k) : sizes (ls.take m) ≤ sizes (ls.take k) := by
  have := sizes_take_le (ls.take k) m
  rwa [List.take_take, Nat.min_eq_left h] at this
theorem sizes_small : ∀ {ls : List (List UInt8)}, Small ls → sizes ls ≤ 209 * ls.length
  | [], _ => Nat.zero_le _
  | x :: t, hs => by
    have h1 := frame_small_length (hs x (by simp)).2
    have h2 := (hs x (by simp)).2
    have h3 := sizes_small (ls := t) (fun y hy => hs y (by simp [hy]))
    rw [sizes, List.length_cons]; omega

/-- All frames in a row are told. -/
theorem split_row : ∀ (ls : List (List UInt8)) (p t : List UInt8), Small ls →
    splitL (p ++ (rowL ls ++ t)) p.length = (ls ++ (splitL (p ++ (rowL ls ++ t)) (p.length + sizes ls)).1, (splitL (p ++ (rowL ls ++ t)) (p.length + sizes ls)).2)
  | [], p, t, _ => by simp [sizes]
  | x :: ls, p, t, hs => by
    obtain ⟨h1, h2⟩ := hs x (by simp)
    have hd : (p ++ (rowL (x :: ls) ++ t)).drop p.length = frameL x ++ (rowL ls ++ t) := by rw [List.drop_left, rowL_cons, List.append_assoc]
    have ht := takeL_frame x (rowL ls ++ t) h1 (by omega)
    have hl := frame_small_length h2
    have hlt : p.length < (p ++ (rowL (x :: ls) ++ t)).length := by rw [rowL_cons]; simp; omega
    rw [splitL_go hlt (by rw [hd, ht]), hd, ht]
    simp only
    have ih := split_row ls (p ++ frameL x) t (fun y hy => hs y (by simp [hy]))
    have e : p ++ frameL x ++ (rowL ls ++ t) = p ++ (rowL (x :: ls) ++ t) := by rw [rowL_cons]; simp
    rw [e, List.length_append] at ih
    rw [ih, sizes, Nat.add_assoc]
    simp

theorem split_then {ls : List (List UInt8)} {t : List UInt8} {e : Int} (hs : Small ls) (ht : t ≠ []) (h : (takeL t).2.2 = e) (he : e ≠ 0) : splitL (rowL ls ++ t) 0 = (ls, sizes ls, e) := by
  have h1 := split_row ls [] t hs
  simp only [List.nil_append, List.length_nil, Nat.zero_add] at h1
  have hd : (rowL ls ++ t).drop (sizes ls) = t := by rw [← rowL_length, List.drop_left]
  have hp : 0 < t.length := by cases t with | nil => exact absurd rfl ht | cons c t => simp
  have h2 := splitL_stop (s := rowL ls ++ t) (a := sizes ls) (by rw [List.length_append, rowL_length]; omega) (by rw [hd, h]; exact he)
  rw [h1, h2, hd, h, List.append_nil]

theorem split_whole {ls : List (List UInt8)} (hs : Small ls) : splitL (rowL ls) 0 = (ls, sizes ls, 0) := by
  have h1 := split_row ls [] [] hs
  simp only [List.nil_append, List.length_nil, Nat.zero_add, List.append_nil] at h1
  rw [h1, splitL_end (by rw [rowL_length]; omega), List.append_nil]

/-- A frame that is cut. -/
theorem takeL_cut {x : List UInt8} (h1 : 1 ≤ x.length) (h2 : x.length ≤ 200) {k : Nat} (h0 : 0 < k) (hk : k < x.length + 9) : (takeL ((frameL x).take k)).2.2 = 3 := by
  obtain ⟨j, rfl⟩ : ∃ j, k = j + 1 := ⟨k - 1, by omega⟩
  have e : (frameL x).take (j + 1) = enc x.length ++ (low 8 (sm x) ++ x).take j := by
    rw [frame_small h2, enc_one h2, List.cons_append, List.nil_append, List.take_succ_cons]; rfl
  rw [e, takeL_short (num_enc _ _ (by omega)) h1 (by omega) (by simp [low_length]; omega)]

/-- A row of frames that is cut. -/
theorem split_cut {ls : List (List UInt8)} {n m : Nat} (hs : Small ls) (hm : m ≤ ls.length) (h1 : sizes (ls.take m) ≤ n) (h2 : m < ls.length → n < sizes (ls.take (m + 1))) (hn : n ≤ sizes ls) :
    splitL ((rowL ls).take n) 0 = (ls.take m, sizes (ls.take m), if sizes (ls.take m) = n then 0 else 3) := by
  by_cases he : sizes (ls.take m) = n
  · rw [if_pos he]
    have e : (rowL ls).take n = rowL (ls.take m) := by
      conv => lhs; rw [← List.take_append_drop m ls, rowL_append]
      rw [← he, ← rowL_length, List.take_left]
    rw [e, split_whole (hs.take m)]
  · rw [if_neg he]
    by_cases hlt : m < ls.length
    · have h3 := h2 hlt
      have h4 := sizes_take hs hlt
      obtain ⟨s1, s2⟩ := hs _ (List.getElem_mem hlt)
      have e : (rowL ls).take n = rowL (ls.take m) ++ (frameL ls[m]).take (n - sizes (ls.take m)) := by
        have hx : rowL ls = rowL (ls.take m) ++ (frameL ls[m] ++ rowL (ls.drop (m + 1))) := by
          conv => lhs; rw [← List.take_append_drop m ls, List.drop_eq_getElem_cons hlt, rowL_append, rowL_cons]
        rw [hx, List.take_append, rowL_length, List.take_of_length_le (by rw [rowL_length]; omega), List.take_append_of_le_length (by rw [frame_small_length s2]; omega)]
      have h5 := takeL_cut s1 s2 (k := n - sizes (ls.take m)) (by omega) (by omega)
      rw [e]
      refine split_then (hs.take m) ?_ h5 (by decide)
      intro h6
      have := congrArg List.length h6
      rw [List.length_take, frame_small_length s2] at this
      simp at this
      omega
    · obtain rfl : m = ls.length := by omega
      rw [List.take_length] at h1 he
      omega

/-- Texts that differ in one byte have two checksums. -/
theorem sum_set_ne {x : List UInt8} {j : Nat} {c : UInt8} (hj : j < x.length) (hc : c ≠ x[j]) : sm (x.set j c) ≠ sm x := by
  have hb : ∃ i, i < 8 ∧ c.toNat.testBit i ≠ x[j].toNat.testBit i := by
    apply Classical.byContradiction
    intro h
    apply hc
    apply UInt8.toNat_inj.1
    apply Nat.eq_of_testBit_eq
    intro i
    by_cases hi : i < 8
    · exact Classical.byContradiction fun h2 => h ⟨i, hi, h2⟩
    · have e1 := Nat.testBit_lt_two_pow (i := i) (x := c.toNat) (Nat.lt_of_lt_of_le c.toNat_lt (Nat.pow_le_pow_right (by decide) (by omega)))
      have e2 := Nat.testBit_lt_two_pow (i := i) (x := x[j].toNat) (Nat.lt_of_lt_of_le x[j].toNat_lt (Nat.pow_le_pow_right (by decide) (by omega)))
      rw [e1, e2]
  obtain ⟨i, hi, hne⟩ := hb
  have hq : ∀ q, q / 8 ≠ j → Crc.bitOf (x.set j c) q = Crc.bitOf x q := fun q h => by
    unfold Crc.bitOf
    rw [List.getD_eq_getElem?_getD, List.getD_eq_getElem?_getD, List.getElem?_set_ne (by omega)]
  have h := Crc.sum_ne (x.set j c) x (by simp) (8 * j) (8 * j + i) (fun q h => hq q (by omega)) (fun q h => hq q (by omega)) (by simp; omega) (by
    unfold Crc.bitOf
    rw [show (8 * j + i) / 8 = j from by omega, show (8 * j + i) % 8 = i from by omega, List.getD_eq_getElem?_getD, List.getD_eq_getElem?_getD, List.getElem?_set_self hj, List.getElem?_eq_getElem hj]
    exact hne)
  intro he
  exact h (BitVec.eq_of_toNat_eq he)

/-- A frame in which a byte of the checksum or of the inside is turned. -/
theorem takeL_flip {x t : List UInt8} (h1 : 1 ≤ x.length) (h2 : x.length ≤ 200) {q : Nat} (hq : q < 8 + x.length) {c : UInt8} (hc : (low 8 (sm x) ++ x)[q]? ≠ some c) : (takeL ((frameL x).set (q + 1) c ++ t)).2.2 = 5 := by
  have hll := low_length 8 (sm x)
  have hln : ln (low 8 (sm x)) = sm x := ln_low 8 _ (by have := sm_lt x; simpa using this)
  have e : (frameL x).set (q + 1) c ++ t = enc x.length ++ ((low 8 (sm x) ++ x).set q c ++ t) := by
    rw [frame_small h2, enc_one h2]; simp
  have hYl : ((low 8 (sm x) ++ x).set q c).length = 8 + x.length := by simp [hll]
  have t8 : ((low 8 (sm x) ++ x).set q c ++ t).take 8 = ((low 8 (sm x) ++ x).set q c).take 8 := List.take_append_of_le_length (by omega)
  have d8 : (((low 8 (sm x) ++ x).set q c ++ t).drop 8).take x.length = ((low 8 (sm x) ++ x).set q c).drop 8 := by
    rw [List.drop_append_of_le_length (by omega), List.take_append_of_le_length (by simp [hll]), List.take_of_length_le (by simp [hll])]
  rw [e, takeL_sum (num_enc _ _ (by omega)) h1 (by omega) (by rw [List.length_append]; omega) ?_]
  rw [t8, d8]
  by_cases h8 : q < 8
  · have hne : (low 8 (sm x))[q]? ≠ some c := by rwa [List.getElem?_append_left (by omega)] at hc
    have a1 : ((low 8 (sm x) ++ x).set q c).take 8 = (low 8 (sm x)).set q c := by
      rw [List.set_append_left _ _ (by omega), List.take_append_of_le_length (by simp [hll]), List.take_of_length_le (by simp [hll])]
    have a2 : ((low 8 (sm x) ++ x).set q c).drop 8 = x := by
      rw [List.set_append_left _ _ (by omega), List.drop_append_of_le_length (by simp [hll]), List.drop_of_length_le (by simp [hll]), List.nil_append]
    rw [a1, a2]
    intro h
    have := (low8 ((low 8 (sm x)).set q c) (sm x) (by simp [hll]) (sm_lt x)).2 h
    apply hne
    rw [← this, List.getElem?_set_self (by omega)]
  · have hj : q - 8 < x.length := by omega
    have hne : c ≠ x[q - 8] := by
      rw [List.getElem?_append_right (by omega), hll, List.getElem?_eq_getElem hj] at hc
      intro h; exact hc (by rw [h])
    have a1 : ((low 8 (sm x) ++ x).set q c).take 8 = low 8 (sm x) := by
      rw [List.set_append_right _ _ (by omega), List.take_append_of_le_length (by omega), List.take_of_length_le (by omega)]
    have a2 : ((low 8 (sm x) ++ x).set q c).drop 8 = x.set (q - 8) c := by
      rw [List.set_append_right _ _ (by omega), hll, List.drop_append_of_le_length (by omega), List.drop_of_length_le (by omega), List.nil_append]
    rw [a1, a2, hln]
    exact fun h => sum_set_ne hj hne h.symm

/-- A row of frames in which a byte of a checksum or of an inside is turned. -/
theorem split_flip {ls : List (List UInt8)} {i q : Nat} {c : UInt8} (hs : Small ls) (hi : i < ls.length) (hq : q < 8 + ls[i].length) (hc : (rowL ls)[sizes (ls.take i) + (q + 1)]? ≠ some c) :
    splitL ((rowL ls).set (sizes (ls.take i) + (q + 1)) c) 0 = (ls.take i, sizes (ls.take i), 5) := by
  obtain ⟨s1, s2⟩ := hs _ (List.getElem_mem hi)
  have hx : rowL ls = rowL (ls.take i) ++ (frameL ls[i] ++ rowL (ls.drop (i + 1))) := by
    conv => lhs; rw [← List.take_append_drop i ls, List.drop_eq_getElem_cons hi, rowL_append, rowL_cons]
  have hfl := frame_small_length s2
  rw [hx, List.getElem?_append_right (by rw [rowL_length]; omega), rowL_length, Nat.add_sub_cancel_left, List.getElem?_append_left (by omega), frame_small s2, enc_one s2, List.cons_append, List.nil_append, List.getElem?_cons_succ] at hc
  have hcut := takeL_flip (t := rowL (ls.drop (i + 1))) s1 s2 hq hc
  rw [hx, List.set_append_right _ _ (by rw [rowL_length]; omega), rowL_length, Nat.add_sub_cancel_left, List.set_append_left _ _ (by omega)]
  refine split_then (hs.take i) ?_ hcut (by decide)
  intro h6
  have := congrArg List.length h6
  rw [List.length_append, List.length_set, hfl] at this
  simp at this

end Go.Proofs.Ytddicpgkagkmiaa
