/-
  Layer 2's laws CrcTells, CrcJoins, CrcParts, CrcFar over what the calls of package crc answer.
-/
import Derived.Test.YthhmeoenndimkaaCrcWakes
import Derived.OpenShut
namespace Go.Proofs.Ythhmeoenndimkaa
open Go.RowKit Crc Go.ChangeShapes
set_option linter.unusedVariables false

theorem ba_data (s : ByteArray) : s = ⟨s.data.toList.toArray⟩ := by apply ByteArray.ext; simp
theorem ba_size (s : ByteArray) : s.size = s.data.toList.length := (Array.length_toList (xs := s.data)).symm
theorem ba_add (l t : List UInt8) : (⟨l.toArray⟩ : ByteArray) ++ ⟨t.toArray⟩ = ⟨(l ++ t).toArray⟩ := by
  apply ByteArray.ext; simp

theorem crcTells_main (C : CrcSpec) (l t : List UInt8) (x : Crc.W) (w : World) (hl : (l.length : Int) ≤ 5000) (ht : (t.length : Int) ≤ 5000) :
    Calls Try.prog 3 #[.string ⟨l.toArray⟩, .int .u64 (I x), .string ⟨t.toArray⟩] w fun e w' => e = .returned (.bool true) ∧ Below w.heap.size w w' := by
  have h1 := fun w1 => C.sum l w1 (by omega)
  have h2 := fun w1 => C.more x t w1 (by omega)
  have h3 := fun w1 => refSum_any l w1 (by omega)
  have h4 := fun w1 => refMore_any x t w1 (by omega)
  have H1 := Lib.hid h1
  have H2 := Lib.hid h2
  have H3 := Lib.hid h3
  have H4 := Lib.hid h4
  have HC := Lib.hid C
  clear h1 h2 h3 h4 C
  generalize sum l = s at H1 H3
  generalize more x t = m at H2 H4
  go_enter Try.func3, Try.ntmps3
  go_wp2_with (first
    | (go_at_call 9; refine (H1.out _).mono ?_; rintro r w1 ⟨rfl, b1⟩)
    | (go_at_call 11; refine (H2.out _).mono ?_; rintro r w2 ⟨rfl, b2⟩)
    | (go_at_call 10; refine (H3.out _).mono ?_; rintro r w3 ⟨rfl, rfl⟩)
    | (go_at_call 12; refine (H4.out _).mono ?_; rintro r w4 ⟨rfl, rfl⟩)
    | (go_at_call 8; refine (cwakes_any HC.out _).mono ?_; rintro r w5 ⟨rfl, b5⟩))
  go_ret
  exact ⟨rfl, crb (crb b1 b2) b5⟩

theorem crcJoins_main (C : CrcSpec) (a b : Crc.W) (n : Int) (w : World) (h0 : -9223372036854775808 ≤ n) (hn : n ≤ 5000) :
    Calls Try.prog 4 #[.int .u64 (I a), .int .u64 (I b), .int .i64 n] w fun e w' => e = .returned (.bool true) ∧ Below w.heap.size w w' := by
  have h1 := fun w1 => C.join a b n w1 (by omega) (by omega)
  have h2 := fun w1 => refJoin_any a b n w1 (by omega) (by omega)
  have H1 := Lib.hid h1
  have H2 := Lib.hid h2
  have HC := Lib.hid C
  clear h1 h2 C
  generalize join a b n.toNat = s at H1 H2
  go_enter Try.func4, Try.ntmps4
  go_wp2_with (first
    | (go_at_call 13; refine (H1.out _).mono ?_; rintro r w1 ⟨rfl, b1⟩)
    | (go_at_call 14; refine (H2.out _).mono ?_; rintro r w3 ⟨rfl, rfl⟩)
    | (go_at_call 8; refine (cwakes_any HC.out _).mono ?_; rintro r w5 ⟨rfl, b5⟩))
  go_ret
  exact ⟨rfl, crb b1 b5⟩

set_option maxRecDepth 100000 in
set_option maxHeartbeats 4000000 in
theorem crcParts_main (C : CrcSpec) (a b c : List UInt8) (w : World) (ha : (a.length : Int) ≤ 3000) (hb : (b.length : Int) ≤ 3000) (hc : (c.length : Int) ≤ 3000) :
    Calls Try.prog 5 #[.string ⟨a.toArray⟩, .string ⟨b.toArray⟩, .string ⟨c.toArray⟩] w fun e w' => e = .returned (.bool true) ∧ Below w.heap.size w w' := by
  have e1 := sum_join a b
  have e2 := sum_join (a ++ b) c
  have e3 := sum_join b c
  have e4 := sum_join a (b ++ c)
  have e5 : more (sum a) b = sum (a ++ b) := more_more 0#64 a b
  have e6 : more (sum (a ++ b)) c = sum (a ++ b ++ c) := more_more 0#64 (a ++ b) c
  have e7 := join_none (sum a)
  rw [List.length_append] at e4
  have s1 := fun w1 => C.sum a w1 (by omega)
  have s2 := fun w1 => C.sum b w1 (by omega)
  have s3 := fun w1 => C.sum c w1 (by omega)
  have s4 := fun w1 => C.sum (a ++ (b ++ c)) w1 (by simp only [List.length_append]; omega)
  rw [← List.append_assoc a b c] at e4
  have ea : sum (a ++ (b ++ c)) = sum (a ++ b ++ c) := by rw [List.append_assoc]
  rw [ea] at s4
  have j1 := fun w1 => C.join (sum a) (sum b) (b.length : Int) w1 (by omega) (by omega)
  have j2 := fun w1 => C.join (sum (a ++ b)) (sum c) (c.length : Int) w1 (by omega) (by omega)
  have j3 := fun w1 => C.join (sum b) (sum c) (c.length : Int) w1 (by omega) (by omega)
  have j4 := fun w1 => C.join (sum a) (sum (b ++ c)) ((b.length : Int) + (c.length : Int)) w1 (by omega) (by omega)
  have j5 := fun w1 => C.join (sum a) 0#64 0 w1 (by omega) (by omega)
  have m1 := fun w1 => C.more (sum a) b w1 (by omega)
  have m2 := fun w1 => C.more (sum (a ++ b)) c w1 (by omega)
  have en : ((b.length : Int) + (c.length : Int)).toNat = b.length + c.length := by omega
  rw [Int.toNat_natCast, e1] at j1
  rw [Int.toNat_natCast, e2] at j2
  rw [Int.toNat_natCast, e3] at j3
  rw [en, e4] at j4
  have e7' : join (sum a) 0#64 (0 : Int).toNat = sum a := e7
  rw [e7', I_zero] at j5
  rw [e5] at m1
  rw [e6] at m2
  generalize sum (a ++ b ++ c) = t at *
  generalize sum (a ++ b) = u at *
  generalize sum (b ++ c) = v at *
  generalize sum a = x at *
  generalize sum b = y at *
  generalize sum c = z at *
  have S1 := Lib.hid s1
  have S2 := Lib.hid s2
  have S3 := Lib.hid s3
  have S4 := Lib.hid s4
  have J1 := Lib.hid j1
  have J2 := Lib.hid j2
  have J3 := Lib.hid j3
  have J4 := Lib.hid j4
  have J5 := Lib.hid j5
  have M1 := Lib.hid m1
  have M2 := Lib.hid m2
  have HC := Lib.hid C
  have hab := ba_add a b
  have habc := ba_add (a ++ b) c
  have hl1 : ¬ 9223372036854775807 < a.length + b.length := by omega
  have hl2 : ¬ 9223372036854775807 < a.length + b.length + c.length := by omega
  clear e1 e2 e3 e4 e5 e6 e7 e7' en ea s1 s2 s3 s4 j1 j2 j3 j4 j5 m1 m2 C
  go_enter Try.func5, Try.ntmps5
  go_wp2_with (first
    | (go_at_call 9; (with_reducible refine (S1.out _).mono ?_); rintro r w1 ⟨rfl, b1⟩)
    | (go_at_call 9; (with_reducible refine (S2.out _).mono ?_); rintro r w2 ⟨rfl, b2⟩)
    | (go_at_call 9; (with_reducible refine (S3.out _).mono ?_); rintro r w3 ⟨rfl, b3⟩)
    | (go_at_call 9; (with_reducible refine (S4.out _).mono ?_); rintro r w4 ⟨rfl, b4⟩)
    | (go_at_call 13; (with_reducible refine (J1.out _).mono ?_); rintro r w5 ⟨rfl, b5⟩)
    | (go_at_call 13; (with_reducible refine (J2.out _).mono ?_); rintro r w6 ⟨rfl, b6⟩)
    | (go_at_call 13; (with_reducible refine (J3.out _).mono ?_); rintro r w7 ⟨rfl, b7⟩)
    | (go_at_call 13; (with_reducible refine (J4.out _).mono ?_); rintro r w8 ⟨rfl, b8⟩)
    | (go_at_call 13; (with_reducible refine (J5.out _).mono ?_); rintro r w9 ⟨rfl, b9⟩)
    | (go_at_call 11; (with_reducible refine (M1.out _).mono ?_); rintro r w10 ⟨rfl, b10⟩)
    | (go_at_call 11; (with_reducible refine (M2.out _).mono ?_); rintro r w11 ⟨rfl, b11⟩)
    | (go_at_call 8; refine (cwakes_any HC.out _).mono ?_; rintro r w12 ⟨rfl, b12⟩))
  go_ret
  exact ⟨rfl, crb (crb (crb (crb (crb (crb (crb (crb (crb (crb (crb b1 b2) b3) b4) b5) b6) b7) b8) b10) b11) b9) b12⟩

theorem join_far (a b : Crc.W) (n m : Nat) : join (join a 0#64 n) b m = join a b (n + m) := by
  rw [join_join]
  unfold join
  rw [steps_zero, BitVec.zero_xor]

set_option maxRecDepth 100000 in
set_option maxHeartbeats 4000000 in
theorem crcFar_main (C : CrcSpec) (a b : Crc.W) (n m : Int) (w : World) (n0 : 0 ≤ n) (n1 : n ≤ 18446744073709551615) (m0 : 0 ≤ m) (m1 : m ≤ 18446744073709551615) :
    Calls Try.prog 7 #[.int .u64 (I a), .int .u64 (I b), .int .u64 n, .int .u64 m] w fun e w' => e = .returned (.bool true) ∧ Below w.heap.size w w' := by
  obtain ⟨p, hp⟩ := Int.eq_ofNat_of_zero_le (show 0 ≤ n % 1152921504606846976 by omega)
  obtain ⟨q, hq⟩ := Int.eq_ofNat_of_zero_le (show 0 ≤ m % 1152921504606846976 by omega)
  have hp1 : (p : Int) ≤ 1152921504606846975 := by omega
  have hq1 : (q : Int) ≤ 1152921504606846975 := by omega
  have hp0 : (0 : Int) ≤ (p : Int) := by omega
  have hq0 : (0 : Int) ≤ (q : Int) := by omega
  have hp' : n.tmod 1152921504606846976 = (p : Int) := by rw [Int.tmod_eq_emod_of_nonneg n0]; exact hp
  have hq' : m.tmod 1152921504606846976 = (q : Int) := by rw [Int.tmod_eq_emod_of_nonneg m0]; exact hq
  clear n1 m1 hp hq
  have e1 := join_far a b p q
  have e2 := join_far a b q p
  rw [Nat.add_comm q p] at e2
  have e3 := xorI a b
  have j1 := fun w1 => C.join a 0#64 (p : Int) w1 (by omega) (by omega)
  have j2 := fun w1 => C.join (join a 0#64 p) b (q : Int) w1 (by omega) (by omega)
  have j3 := fun w1 => C.join a b ((p : Int) + (q : Int)) w1 (by omega) (by omega)
  have j4 := fun w1 => C.join a 0#64 (q : Int) w1 (by omega) (by omega)
  have j5 := fun w1 => C.join (join a 0#64 q) b (p : Int) w1 (by omega) (by omega)
  have j6 := fun w1 => C.join a b (-(p : Int) - 1) w1 (by omega) (by omega)
  have en : ((p : Int) + (q : Int)).toNat = p + q := by omega
  have e0 : (-(p : Int) - 1).toNat = 0 := by omega
  have e6 : join a b 0 = a ^^^ b := rfl
  rw [Int.toNat_natCast, I_zero] at j1
  rw [Int.toNat_natCast, e1] at j2
  rw [en] at j3
  rw [Int.toNat_natCast, I_zero] at j4
  rw [Int.toNat_natCast, e2] at j5
  rw [e0, e6] at j6
  generalize join a b (p + q) = t at *
  generalize join a 0#64 p = u at *
  generalize join a 0#64 q = v at *
  generalize a ^^^ b = z at *
  have J1 := Lib.hid j1
  have J2 := Lib.hid j2
  have J3 := Lib.hid j3
  have J4 := Lib.hid j4
  have J5 := Lib.hid j5
  have J6 := Lib.hid j6
  have HC := Lib.hid C
  clear j1 j2 j3 j4 j5 j6 C en e0 e1 e2 e6
  have hb := Below.refl w.heap.size w
  go_enter Try.func7, Try.ntmps7
  go_wp2_with (first
    | (go_at_call 13; (with_reducible refine (J1.out _).mono ?_); rintro r w1 ⟨rfl, b1⟩; have hb := crb hb b1)
    | (go_at_call 13; (with_reducible refine (J2.out _).mono ?_); rintro r w2 ⟨rfl, b2⟩; have hb := crb hb b2)
    | (go_at_call 13; (with_reducible refine (J3.out _).mono ?_); rintro r w3 ⟨rfl, b3⟩; have hb := crb hb b3)
    | (go_at_call 13; (with_reducible refine (J4.out _).mono ?_); rintro r w4 ⟨rfl, b4⟩; have hb := crb hb b4)
    | (go_at_call 13; (with_reducible refine (J5.out _).mono ?_); rintro r w5 ⟨rfl, b5⟩; have hb := crb hb b5)
    | (go_at_call 13; (with_reducible refine (J6.out _).mono ?_); rintro r w6 ⟨rfl, b6⟩; have hb := crb hb b6)
    | (go_at_call 8; refine (cwakes_any HC.out _).mono ?_; rintro r w12 ⟨rfl, b12⟩; have hb := crb hb b12))
  go_ret
  exact ⟨rfl, hb⟩

end Go.Proofs.Ythhmeoenndimkaa
