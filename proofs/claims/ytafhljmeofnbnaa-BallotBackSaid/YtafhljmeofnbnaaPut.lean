/-
  wire's withRoom, putNum, Num and Str over this translation: new memory, the bytes that there were and the new ones behind them.
-/
import Derived.Test.YtafhljmeofnbnaaStr
import Derived.Lib.Hide
import Derived.Lib.BufferRead
import Derived.Laws.IdiomStrings
namespace Go.Proofs.Ytafhljmeofnbnaa
open Go.RowKit
set_option linter.unusedVariables false

/-- The slice of bytes (a, n, c) holds the bytes l (and may be nil where there are none). -/
structure Src (w : World) (a : Option Addr) (n c : Nat) (l : List UInt8) : Prop where
  len : l.length = n
  nul : a = none → n = 0 ∧ c = 0
  cell : ∀ ad, a = some ad → ∀ j u, (Lib.byteCells l)[j]? = some u → w.cell? (ad.add j) = some u

theorem Src.kept {w w' : World} {a : Option Addr} {n c : Nat} {l : List UInt8} (h : Src w a n c l) (hg : w.grownBy w' none) : Src w' a n c l :=
  ⟨h.len, h.nul, fun ad ha j u hu => hg.cell (h.cell ad ha j u hu) (by simp)⟩

theorem Src.below {w w' : World} {a : Option Addr} {n c : Nat} {l : List UInt8} (h : Src w a n c l) (hg : Below w.heap.size w w') : Src w' a n c l :=
  h.kept (grown_of_below hg)

theorem Src.nil (w : World) : Src w none 0 0 [] := ⟨rfl, fun _ => ⟨rfl, rfl⟩, by simp⟩

/-- What is owned may be a source. -/
theorem Src.of_own {w : World} {base g n c : Nat} {l : List UInt8} (h : w.ownsRow base 5 1 (.slice (some ⟨g, 0, none⟩) n c) n (Lib.byteCells l)) : Src w (some ⟨g, 0, none⟩) n c l := by
  refine ⟨by have := h.1; simpa [Lib.byteCells_length] using this, by simp, ?_⟩
  rintro ad ⟨rfl⟩ j u hu
  exact h.cells (g := g) rfl j u hu

theorem bytes_one (l : List UInt8) : ∀ u ∈ Lib.byteCells l, u.oneCell' = true := by
  intro u hu
  obtain ⟨x, _, rfl⟩ := List.mem_map.1 hu
  rfl

set_option maxHeartbeats 1000000 in
theorem room_any (a : Option Addr) (n c : Nat) (l : List UInt8) (more : Int) (w : World) (h : Src w a n c l) (h0 : 0 ≤ more) (hsz : (n : Int) + more ≤ 140737488355328) :
    Calls Try.prog 41 #[.slice a n c, .int .i64 more] w fun r w' =>
      r = .returned (.slice (some ⟨w.heap.size, 0, none⟩) n (n + more.toNat)) ∧ w'.ownsRow w.heap.size 5 1 (.slice (some ⟨w.heap.size, 0, none⟩) n (n + more.toNat)) n (Lib.byteCells l) ∧ Below w.heap.size w w' := by
  obtain ⟨ti, hi, hz, hs1, hby⟩ := info_parts info_u8
  obtain ⟨m, rfl⟩ := Int.eq_ofNat_of_zero_le h0
  rw [Int.toNat_natCast]
  go_enter Try.func41, Try.ntmps41
  go_wp2_with (at_make; refine wpList_make_own _ rfl _ _ 36 rfl w.heap.size 5 ti (.int .u8 0) 1 Try.underlying36 hi hz hs1 _ _ _ (n + m) rfl rfl (by omega) ?b1 ?b2 ?b3 ?_)
  case b1 => rw [hby]; omega
  case b2 => unfold maxLen; omega
  case b3 => exact Nat.le_refl _
  intro w1 hown hgrow
  have hS := h.kept hgrow
  have hlen : (Lib.byteCells l).length = n := by rw [Lib.byteCells_length]; exact h.len
  go_wp2_with (at_builtin; refine wpList_append_fits_any _ rfl _ _ 36 rfl w.heap.size 5 ti 1 Try.underlying36 hi hs1 w.heap.size 0 (n + m) [] rfl hown a n c (Lib.byteCells l) rfl ?c1 h.nul hS.cell (bytes_one l) ?c2 ?_)
  case c1 => rw [hlen]; omega
  case c2 => omega
  intro w2 hown2 hgrow2
  try simp only [Nat.zero_add, List.nil_append] at hown2
  go_wp2
  go_ret
  refine ⟨by simp, hown2, ?_⟩
  have b1 : Below w.heap.size w w1 := (Below.refl _ _).grown hgrow (Nat.le_refl _) (by simp)
  exact b1.grown hgrow2 hgrow.size (by rintro k ⟨rfl⟩; exact Nat.le_refl _)

/-- The owned slice of bytes at the head of block g. -/
def Own (w : World) (base g n cap : Nat) (l : List UInt8) : Prop := w.ownsRow base 5 1 (.slice (some ⟨g, 0, none⟩) n cap) n (Lib.byteCells l)

theorem Own.len {w : World} {base g n cap : Nat} {l : List UInt8} (h : Own w base g n cap l) : l.length = n := by
  have := h.1; simpa [Lib.byteCells_length] using this

theorem one_cell (w : World) (x : UInt8) (n : Int) (hn : (x.toNat : Int) = n) : ∀ j u, (Lib.byteCells [x])[j]? = some u → (w.alloc (.cells #[.int .u8 n] 5)).cell? ((⟨w.heap.size, 0, none⟩ : Addr).add j) = some u := by
  intro j u hu
  subst hn
  match j, hu with
  | 0, hu => simp [Lib.byteCells] at hu; subst hu; simp [Addr.add]
  | j + 1, hu => simp [Lib.byteCells] at hu

/-- Behind an append of one byte that fits. -/
theorem Own.one {w1 : World} {base g n cap : Nat} {l : List UInt8} {x : UInt8} (h : w1.ownsRow base 5 1 (.slice (some ⟨g, 0, none⟩) (n + 1) cap) (n + 1) (Lib.byteCells l ++ Lib.byteCells [x])) : Own w1 base g (n + 1) cap (l ++ [x]) := by
  unfold Own; rw [Lib.byteCells_append]; exact h

set_option maxHeartbeats 1000000 in
/-- A number of one byte. -/
theorem put_small (base g len cap : Nat) (l : List UInt8) (n : Int) (w : World) (hown : Own w base g len cap l) (hroom : len + 9 ≤ cap) (h0 : 0 ≤ n) (h1 : n < 248) :
    Calls Try.prog 40 #[.slice (some ⟨g, 0, none⟩) len cap, .int .u64 n] w fun r w' =>
      r = .returned (.slice (some ⟨g, 0, none⟩) (len + (enc n.toNat).length) cap) ∧ Own w' base g (len + (enc n.toNat).length) cap (l ++ enc n.toNat) ∧ w.grownBy w' (some g) := by
  obtain ⟨ti, hi, hz, hs1, hby⟩ := info_parts info_u8
  have e1 : enc n.toNat = [UInt8.ofNat n.toNat] := enc_small (by omega)
  have e2 : nb n.toNat = 0 := nb_small (by omega)
  rw [e1]
  have e3 : ((UInt8.ofNat n.toNat).toNat : Int) = n := by rw [UInt8.toNat_ofNat']; omega
  generalize UInt8.ofNat n.toNat = x at e3 ⊢
  have E3 := Lib.hid e3
  have E2 := Lib.hid e2
  clear e1 e2 e3
  go_enter Try.func40, Try.ntmps40
  go_wp2_with (first | (go_at_call 43; refine (behind_any n _ h0 (by omega)).mono ?_; rintro r w' ⟨rfl, rfl⟩; rw [E2.out]) | (at_builtin; refine wpList_append_fits _ rfl _ _ 36 rfl base 5 ti 1 Try.underlying36 hi hs1 g len cap (Lib.byteCells l) rfl (hown.alloc _) ⟨w.heap.size, 0, none⟩ 1 1 (Lib.byteCells [x]) rfl rfl (one_cell w x n E3.out) (bytes_one [x]) (by omega) ?_))
  intro w1 hown1 hgrow1
  go_wp2
  go_ret
  exact ⟨rfl, Own.one hown1, grown_trans (World.grownBy_alloc _ _ _) hgrow1⟩

theorem byte_at (n K j : Nat) (h : j < K) : ((UInt8.ofNat (n / 256 ^ (K - (j + 1)) % 256)).toNat : Int) = (n : Int) / 2 ^ (8 * (K - 1 - j)) % 256 := by
  rw [UInt8.toNat_ofNat', pow256, show K - (j + 1) = K - 1 - j from by omega]
  have e : n / 2 ^ (8 * (K - 1 - j)) % 256 % 2 ^ 8 = n / 2 ^ (8 * (K - 1 - j)) % 256 := by
    generalize n / 2 ^ (8 * (K - 1 - j)) = y; omega
  rw [e, Int.natCast_emod, Int.natCast_ediv, Int.natCast_pow]
  rfl

set_option maxHeartbeats 1000000 in
set_option maxRecDepth 100000 in
/-- A number of more bytes. -/
theorem put_big (base g len cap : Nat) (l : List UInt8) (n : Nat) (w : World) (hown : Own w base g len cap l) (hroom : len + 9 ≤ cap) (hcap : cap ≤ 140737488355328) (h0 : 248 ≤ n) (h1 : (n : Int) ≤ 18446744073709551615) :
    Calls Try.prog 40 #[.slice (some ⟨g, 0, none⟩) len cap, .int .u64 n] w fun r w' =>
      r = .returned (.slice (some ⟨g, 0, none⟩) (len + (enc n).length) cap) ∧ Own w' base g (len + (enc n).length) cap (l ++ enc n) ∧ w.grownBy w' (some g) := by
  obtain ⟨ti, hi, hz, hs1, hby⟩ := info_parts info_u8
  obtain ⟨k1, k2, k3, k4⟩ := nb_bounds (show n < 2 ^ 64 by omega) h0
  have hen := enc_big h0
  have hel : (enc n).length = 1 + nb n := enc_length
  generalize hK : nb n = K at *
  have e3 : ((UInt8.ofNat (247 + K)).toNat : Int) = 247 + (K : Int) := by rw [UInt8.toNat_ofNat']; omega
  generalize UInt8.ofNat (247 + K) = x at e3 hen
  have E3 := Lib.hid e3
  have HK := Lib.hid hK
  have HEN := Lib.hid hen
  have HEL := Lib.hid hel
  have H3 := Lib.hid k3
  have H4 := Lib.hid k4
  clear e3 hK hen hel k3 k4
  go_enter Try.func40, Try.ntmps40
  go_wp2_with (first | (go_at_call 43; refine (behind_any _ _ (by omega) h1).mono ?_; rintro r w' ⟨rfl, rfl⟩; rw [Int.toNat_natCast, HK.out]) | (at_builtin; refine wpList_append_fits _ rfl _ _ 36 rfl base 5 ti 1 Try.underlying36 hi hs1 g len cap (Lib.byteCells l) rfl (hown.alloc _) ⟨w.heap.size, 0, none⟩ 1 1 (Lib.byteCells [x]) rfl rfl (one_cell w x _ E3.out) (bytes_one [x]) (by omega) ?_))
  intro w1 hown1 hgrow1
  have O1 := Own.one hown1
  have G1 := grown_trans (World.grownBy_alloc w _ _) hgrow1
  clear hown1 hgrow1 hown
  go_wp2
  go_loopw [0, 6] (fun bv i wr => ∃ j : Nat, j ≤ K ∧ i = .int .i64 ((K : Int) - 1 - j) ∧ bv = .slice (some ⟨g, 0, none⟩) (len + 1 + j) cap ∧ Own wr base g (len + 1 + j) cap (l ++ [x] ++ dig j (n / 256 ^ (K - j))) ∧ w.grownBy wr (some g)) (fun _ i _ => (intOf i + 1).toNat)
  case atStart => exact ⟨0, Nat.zero_le _, by simp, rfl, by simpa [dig] using O1, G1⟩
  case round =>
    obtain ⟨j, hj, rfl, rfl, hown, hgr⟩ := hrel
    by_cases hlt : j < K
    · have hst := dig_step n K j hlt
      have E4 := byte_at n K j hlt
      generalize UInt8.ofNat (n / 256 ^ (K - (j + 1)) % 256) = y at hst E4
      have HST := Lib.hid hst
      have HE4 := Lib.hid E4
      clear hst E4
      go_wp2_with (at_builtin; refine wpList_append_fits _ rfl _ _ 36 rfl base 5 ti 1 Try.underlying36 hi hs1 g (len + 1 + j) cap (Lib.byteCells (l ++ [x] ++ dig j (n / 256 ^ (K - j)))) rfl (hown.alloc _) ⟨wr.heap.size, 0, none⟩ 1 1 (Lib.byteCells [y]) rfl rfl (one_cell wr y _ HE4.out) (bytes_one [y]) (by omega) ?_)
      intro w2 hown2 hgrow2
      have O2 := Own.one hown2
      have G2 := grown_trans hgr (grown_trans (World.grownBy_alloc wr _ _) hgrow2)
      clear hown2 hgrow2 hown hgr
      go_wp2
      go_roundw
      case rel => exact ⟨j + 1, by omega, by go_num, rfl, by rw [HST.out]; simpa [Nat.add_assoc] using O2, G2⟩
      case measure => simp [intOf]; omega
    · obtain rfl : j = K := by omega
      go_wp2
      go_ret
      rw [HEL.out, HEN.out]
      have ed : n / 256 ^ (j - j) = n := by simp
      rw [ed] at hown
      have el : len + (1 + j) = len + 1 + j := by omega
      rw [el]
      exact ⟨rfl, by simpa using hown, hgr⟩

/-- putNum, of whatever number. -/
theorem put_any (base g len cap : Nat) (l : List UInt8) (n : Int) (w : World) (hown : Own w base g len cap l) (hroom : len + 9 ≤ cap) (hcap : cap ≤ 140737488355328) (h0 : 0 ≤ n) (h1 : n ≤ 18446744073709551615) :
    Calls Try.prog 40 #[.slice (some ⟨g, 0, none⟩) len cap, .int .u64 n] w fun r w' =>
      r = .returned (.slice (some ⟨g, 0, none⟩) (len + (enc n.toNat).length) cap) ∧ Own w' base g (len + (enc n.toNat).length) cap (l ++ enc n.toNat) ∧ w.grownBy w' (some g) := by
  by_cases h : n < 248
  · exact put_small base g len cap l n w hown hroom h0 h
  · obtain ⟨k, rfl⟩ := Int.eq_ofNat_of_zero_le h0
    rw [Int.toNat_natCast]
    exact put_big base g len cap l k w hown hroom hcap (by omega) h1

/-- string(b) of such a slice. -/
theorem Src.string {w : World} {a : Option Addr} {n c : Nat} {l : List UInt8} (h : Src w a n c l) :
    (convert 36 9 (.slice a n c)).run Try.prog w = .ok (.string (B l)) w := by
  obtain ⟨hl, hn, hc⟩ := h
  cases a with
  | none =>
    obtain ⟨rfl, rfl⟩ := hn rfl
    obtain rfl := List.eq_nil_of_length_eq_zero hl
    exact Lib.run_convert_nil_bytes w 36 9 5 0 Try.underlying36 Try.underlying5 Try.underlying9
  | some ad =>
    subst hl
    exact run_convert_bytes_back w 36 9 5 ad c l Try.underlying36 Try.underlying5 Try.underlying9 (fun j hj => hc ad rfl j _ (by simp [Lib.byteCells, hj]))

set_option maxHeartbeats 1000000 in
/-- Num: the bytes that there were, and the number's behind them, in new memory. -/
theorem wnum_any (a : Option Addr) (n c : Nat) (l : List UInt8) (x : Int) (w : World) (h : Src w a n c l) (hsz : n ≤ 70368744177664) (h0 : 0 ≤ x) (h1 : x ≤ 18446744073709551615) :
    Calls Try.prog 29 #[.slice a n c, .int .u64 x] w fun r w' => ∃ g n' c', r = .returned (.slice (some ⟨g, 0, none⟩) n' c') ∧ Own w' w.heap.size g n' c' (l ++ enc x.toNat) ∧ Below w.heap.size w w' := by
  go_enter Try.func29, Try.ntmps29
  go_wp2_with (first | (go_at_call 41; refine (room_any a n c l 9 _ h (by decide) (by omega)).mono ?_; rintro r w1 ⟨rfl, ho1, hb1⟩) | (go_at_call 40; refine (put_any w.heap.size w.heap.size n _ l x _ ho1 (by simp) (by simp; omega) h0 h1).mono ?_; rintro r w2 ⟨rfl, ho2, hg2⟩))
  go_ret
  exact ⟨_, _, _, rfl, ho2, hb1.grown hg2 hb1.size (by rintro k ⟨rfl⟩; exact Nat.le_refl _)⟩

end Go.Proofs.Ytafhljmeofnbnaa
