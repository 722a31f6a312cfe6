/-
  The document's own Num and Str (package palaverref01) over this translation: they answer the plain bytes.
-/
import Derived.Test.YtafhljmeofnbnaaApp
import Derived.Test.YtafhljmeofnbnaaPureB
namespace Go.Proofs.Ytafhljmeofnbnaa
open Go.RowKit
set_option linter.unusedVariables false

set_option maxHeartbeats 1000000 in
theorem refNum_small (n : Nat) (w : World) (h1 : (n : Int) < 248) :
    Calls Try.prog 30 #[.int .u64 n] w fun r w' => r = .returned (.string (B (enc n))) ∧ Below w.heap.size w w' := by
  have e1 := enc_small (show n < 248 by omega)
  have e3 : ((UInt8.ofNat n).toNat : Int) = (n : Int) := by rw [UInt8.toNat_ofNat']; omega
  rw [e1]
  generalize UInt8.ofNat n = x at e3 ⊢
  have hcv := (Src.of_own (own_one w x _ e3)).string
  have E3 := Lib.hid e3
  clear e1 e3
  go_enter Try.func30, Try.ntmps30
  go_wp2
  go_ret
  exact ⟨rfl, (Below.refl _ _).alloc (Nat.le_refl _) _⟩

set_option maxHeartbeats 1000000 in
set_option maxRecDepth 100000 in
theorem refNum_big (n : Nat) (w : World) (h0 : 248 ≤ n) (h1 : (n : Int) ≤ 18446744073709551615) :
    Calls Try.prog 30 #[.int .u64 n] w fun r w' => r = .returned (.string (B (enc n))) ∧ Below w.heap.size w w' := by
  have h64 : n < 2 ^ 64 := by omega
  have hen := enc_big h0
  have hnb := (nb_bounds h64 h0).2.1
  have hmore := fun j (hj : j < nb n) => more_left h64 h0 hj
  have hnone := none_left h64 h0
  generalize hK : nb n = K at hen hmore hnone hnb
  have e3 : ((UInt8.ofNat (247 + K)).toNat : Int) = 247 + (K : Int) := by rw [UInt8.toNat_ofNat']; omega
  generalize UInt8.ofNat (247 + K) = x at e3 hen
  have E3 := Lib.hid e3
  have HEN := Lib.hid hen
  have HM := Lib.hid hmore
  have HZ := Lib.hid hnone
  clear e3 hen hmore hnone hK h64
  go_enter Try.func30, Try.ntmps30
  go_wp2
  go_loopw [0, 3] (fun nv bv wr => ∃ j a c, j ≤ K ∧ nv = .int .u64 ((n / 256 ^ j : Nat) : Int) ∧ bv = .slice a j c ∧ Src wr a j c (dig j n) ∧ Below w.heap.size w wr) (fun nv _ _ => (intOf nv).toNat)
  case atStart => exact ⟨0, none, 0, Nat.zero_le _, by simp, rfl, Src.nil w, Below.refl _ _⟩
  case round =>
    obtain ⟨j, a, c, hj, rfl, rfl, hs, hb⟩ := hrel
    by_cases hlt : j < K
    · have hpos := HM.out j hlt
      have hdc := dig_cons j n
      have hdiv : n / 256 ^ j / 256 = n / 256 ^ (j + 1) := by rw [Nat.div_div_eq_div_mul, ← Nat.pow_succ]
      have hq : ((n / 256 ^ j : Nat) : Int) ≤ 18446744073709551615 := by
        have : n / 256 ^ j ≤ n := Nat.div_le_self _ _
        omega
      generalize n / 256 ^ j = q at hpos hdc hdiv hq
      have e4 : ((UInt8.ofNat (q % 256)).toNat : Int) = (q : Int) % 256 := by rw [UInt8.toNat_ofNat']; omega
      generalize UInt8.ofNat (q % 256) = y at hdc e4
      have hso := hs.below ((Below.refl _ wr).alloc (Nat.le_refl _) (.cells #[.int .u8 ((q : Int) % 256)] 5))
      have how := own_one wr y _ e4
      have HDC := Lib.hid hdc
      have HD := Lib.hid hdiv
      clear hdc hdiv e4 hs
      go_wp2_with (at_builtin; refine wpList_append_src _ rfl _ _ rfl wr.heap.size _ 1 [y] rfl how a j c (dig j n) rfl hso (by omega) (by simp) ?_)
      intro v w2 ho2 hg2
      obtain ⟨a2, c2, rfl, hs2⟩ := src_of_owns ho2
      have hb2 : Below w.heap.size w w2 := bgo (hb.alloc hb.size _) hg2 (by rintro k ⟨rfl⟩; exact hb.size)
      clear ho2 hg2 hso how hb
      go_wp2
      go_roundw
      case rel => exact ⟨j + 1, a2, c2, by omega, by rw [← HD.out]; go_num, by rw [Nat.add_comm], by rw [HDC.out, Nat.add_comm j 1]; exact hs2, hb2⟩
      case measure => simp [intOf]; omega
    · obtain rfl : j = K := by omega
      have hz : ((n / 256 ^ j : Nat) : Int) = 0 := by rw [HZ.out]; rfl
      rw [hz]
      have hso := hs.below ((Below.refl _ wr).alloc (Nat.le_refl _) (.cells #[.int .u8 (247 + (j : Int))] 5))
      have how := own_one wr x _ E3.out
      clear hs hz
      go_wp2_with (at_builtin; refine wpList_append_src _ rfl _ _ rfl wr.heap.size _ 1 [x] rfl how a j c (dig j n) rfl hso (by omega) (by simp) ?_)
      intro v w2 ho2 hg2
      obtain ⟨a2, c2, rfl, hs2⟩ := src_of_owns ho2
      have hb2 : Below w.heap.size w w2 := bgo (hb.alloc hb.size _) hg2 (by rintro k ⟨rfl⟩; exact hb.size)
      have hcv := hs2.string
      clear ho2 hg2 hso how hb
      go_wp2
      go_ret
      rw [HEN.out]
      exact ⟨rfl, hb2⟩

theorem refNum_any (n : Int) (w : World) (h0 : 0 ≤ n) (h1 : n ≤ 18446744073709551615) :
    Calls Try.prog 30 #[.int .u64 n] w fun r w' => r = .returned (.string (B (enc n.toNat))) ∧ Below w.heap.size w w' := by
  obtain ⟨k, rfl⟩ := Int.eq_ofNat_of_zero_le h0
  rw [Int.toNat_natCast]
  by_cases h : (k : Int) < 248
  · exact refNum_small k w h
  · exact refNum_big k w (by omega) h1

theorem B_append (l t : List UInt8) : B l ++ B t = B (l ++ t) := by
  apply ByteArray.ext; simp

end Go.Proofs.Ytafhljmeofnbnaa
