/-
  The walk of the law WireOne over this translation.
-/
import Derived.Test.YtmlljdfeppgcaaaWakes
import Derived.Test.YtmlljdfeppgcaaaPureB
import Derived.Test.YtmlljdfeppgcaaaRowLib
import Derived.Deep.RegionWith
import Derived.Deep.DeepCutAuto
namespace Go.Proofs.Ytmlljdfeppgcaaa
open Go.RowKit Go.ChangeShapes Go.WideShapes Go.ChangeAt
set_option linter.unusedVariables false

set_option maxRecDepth 100000 in
set_option maxHeartbeats 4000000 in
/-- The law on short texts. -/
theorem wireOne_long (l : List UInt8) (n m : Nat) (hn : (n : Int) ≤ 18446744073709551615) (hm : (m : Int) ≤ 18446744073709551615) (hl : ¬ (12 : Int) < l.length) (w : World) :
    Calls Try.prog 6 #[.string (B l), .int .u64 n, .int .u64 m] w fun e w' => e = .returned (.bool true) ∧ Below w.heap.size w w' := by
  have hnum := fun b w1 (h : RS w1 b ⟨0, l⟩) => num_any b _ w1 h (by simp only; omega)
  have hone := one_form l
  have hxle := num_le ⟨0, l⟩
  generalize St.num ⟨0, l⟩ = r0 at hnum hone hxle
  obtain ⟨x, s1⟩ := r0
  simp only at hnum hone hxle
  have hEx := fun w1 => wnum_any none 0 0 [] (x : Int) w1 (Src.nil w1) (by decide) (by omega) (by omega)
  have hEn := fun w1 => wnum_any none 0 0 [] (n : Int) w1 (Src.nil w1) (by decide) (by omega) hn
  have hEm := fun w1 => wnum_any none 0 0 [] (m : Int) w1 (Src.nil w1) (by decide) (by omega) hm
  simp only [List.nil_append, Int.toNat_natCast] at hEx hEn hEm
  have hN2 : n < 2 ^ 64 := by omega
  have hM2 : m < 2 ^ 64 := by omega
  have hbel := fun b w1 (h : RS w1 b ⟨0, enc n⟩) => belowM_any b _ (m : Int) w1 h (by have := nb_le8 hN2; simp only [enc_length]; omega) (by omega)
  simp only [Int.toNat_natCast] at hbel
  have hnu := num_enc n [] hN2
  rw [List.append_nil] at hnu
  have hlen : n < m → (enc n).length ≤ (enc m).length := fun h => by have := nb_mono (Nat.le_of_lt h) hM2; rw [enc_length, enc_length]; omega
  have hinj : n ≠ m → enc n ≠ enc m := fun h e => h (enc_inj hN2 hM2 e)
  have hbe : St.below ⟨0, enc n⟩ m = if n < m then (n, ⟨0, []⟩) else (0, ⟨4, []⟩) := by
    unfold St.below
    rw [hnu]
    by_cases h : n < m
    · rw [if_neg (by simp only; omega), if_pos h]
    · rw [if_pos (by simp only; omega), if_neg h]; rfl
  rw [hbe] at hbel
  have HB := Lib.hid hbel
  have HLEN := Lib.hid hlen
  have HINJ := Lib.hid hinj
  clear hbel hnu hlen hinj hbe hN2 hM2
  have HN := Lib.hid hnum
  have HO := Lib.hid hone
  have HX := Lib.hid hEx
  have HEN := Lib.hid hEn
  have HEM := Lib.hid hEm
  clear hnum hone hEx hEn hEm
  go_enter Try.func6, Try.ntmps6
  go_wp2_with fail
  refine (of_any l _).mono ?_
  rintro r w1 ⟨rfl, a1, b1⟩
  go_wp2_with fail
  refine (HN.out _ _ a1).mono ?_
  rintro r w2 ⟨rfl, a2, g2⟩
  have b2 := bg b1 g2 (Nat.le_refl _)
  go_upto_region 5 with fail
  go_cut [30] (fun t wx => t = .bool false ∧ Below w.heap.size w wx)
  case first =>
    by_cases hf : s1.fin.e = 0
    · have hx := HO.out hf
      have HX' := HX.out
      rw [hx] at HX'
      have HX2 := Lib.hid HX'
      clear HX' hx
      go_wp2_with (first | (go_at_call 18; refine (end_st _ _ _ a2).mono ?_; rintro r w3 ⟨rfl, a3, g3⟩) | (go_at_call 10; refine (HX2.out _).mono ?_; rintro r w4 ⟨g4, n4, c4, rfl, o4, b4⟩; have cv4 := (Src.of_own o4).string))
      go_meet
      case rel => exact ⟨rfl, bb (bg b2 g3 (Nat.le_refl _)) b4⟩
    · have hf' : (s1.fin.e == 0) = false := by simpa using hf
      go_wp2_with (first | (go_at_call 18; refine (end_st _ _ _ a2).mono ?_; rintro r w3 ⟨rfl, a3, g3⟩))
      go_meet
      case rel => exact ⟨rfl, bg b2 g3 (Nat.le_refl _)⟩
  case rest =>
    obtain ⟨rfl, b3⟩ := hcut
    clear a1 a2 b1 b2 g2
    go_upto_region 7 with fail
    go_cut [9, 10] (fun s9 s10 wx => s9 = .string (B (enc n)) ∧ s10 = .string (B (enc m)) ∧ Below w.heap.size w wx)
    case first =>
      go_region_with (first
        | (go_at_call_of 10 (Value.int .u64 n); refine (HEN.out _).mono ?_; rintro r w4 ⟨g4, n4, c4, rfl, o4, b4⟩; have cv4 := (Src.of_own o4).string; try have cv6 := ((Src.of_own o5).below b4).string)
        | (go_at_call_of 10 (Value.int .u64 m); refine (HEM.out _).mono ?_; rintro r w5 ⟨g5, n5, c5, rfl, o5, b5⟩; have cv5 := (Src.of_own o5).string; try have cv6 := ((Src.of_own o4).below b5).string))
      all_goals
        go_wp2_with fail
        go_meet
        case rel => first | exact ⟨rfl, rfl, bb (bb b3.drew b4) b5⟩ | exact ⟨rfl, rfl, bb (bb b3.drew b5) b4⟩
    case rest =>
      obtain ⟨rfl, rfl, b4⟩ := hcut
      clear b3
      go_wp2_with fail
      refine (of_any (enc n) _).mono ?_
      rintro r w5 ⟨rfl, a5, b5⟩
      have B5 := bb b4 b5
      go_wp2_with fail
      rcases Nat.lt_trichotomy n m with h | h | h
      · have HB2 := HB.out
        rw [if_pos h] at HB2
        have HB3 := Lib.hid HB2
        clear HB2
        refine (HB3.out _ _ a5).mono ?_
        rintro r w6 ⟨rfl, a6, g6⟩
        have B6 := bg B5 g6 b4.size
        have hne : enc n ≠ enc m := HINJ.out (by omega)
        have e1 : (enc n == enc m) = false := by simpa using hne
        have e2 : ((n : Int) == (m : Int)) = false := by simp; omega
        have e3 : (n : Int) < (m : Int) := by omega
        have hll := HLEN.out h
        by_cases h2 : (enc n).length < (enc m).length
        · go_wp2_with (first | (go_at_call 16; refine (err_st _ _ _ a6).mono ?_; rintro r w7 ⟨rfl, rfl⟩) | (go_at_call 9; refine (wakes_any _).mono ?_; rintro r w8 ⟨rfl, b8⟩))
          go_ret
          exact ⟨rfl, bb B6 b8⟩
        · have h3 : (((enc n).length : Int) == ((enc m).length : Int)) = true := by simp; omega
          go_wp2_with (first | (go_at_call 16; refine (err_st _ _ _ a6).mono ?_; rintro r w7 ⟨rfl, rfl⟩) | (go_at_call 9; refine (wakes_any _).mono ?_; rintro r w8 ⟨rfl, b8⟩))
          go_ret
          exact ⟨rfl, bb B6 b8⟩
      · subst h
        have HB2 := HB.out
        rw [if_neg (Nat.lt_irrefl _)] at HB2
        have HB3 := Lib.hid HB2
        clear HB2
        refine (HB3.out _ _ a5).mono ?_
        rintro r w6 ⟨rfl, a6, g6⟩
        have B6 := bg B5 g6 b4.size
        by_cases h0 : n = 0
        · subst h0
          go_wp2_with (first | (go_at_call 16; refine (err_st _ _ _ a6).mono ?_; rintro r w7 ⟨rfl, rfl⟩) | (go_at_call 9; refine (wakes_any _).mono ?_; rintro r w8 ⟨rfl, b8⟩))
          go_ret
          exact ⟨rfl, bb B6 b8⟩
        · have e5 : ((0 : Int) == (n : Int)) = false := by simp; omega
          go_wp2_with (first | (go_at_call 16; refine (err_st _ _ _ a6).mono ?_; rintro r w7 ⟨rfl, rfl⟩) | (go_at_call 9; refine (wakes_any _).mono ?_; rintro r w8 ⟨rfl, b8⟩))
          go_ret
          exact ⟨rfl, bb B6 b8⟩
      · have HB2 := HB.out
        rw [if_neg (by omega)] at HB2
        have HB3 := Lib.hid HB2
        clear HB2
        refine (HB3.out _ _ a5).mono ?_
        rintro r w6 ⟨rfl, a6, g6⟩
        have B6 := bg B5 g6 b4.size
        have hne : enc n ≠ enc m := HINJ.out (by omega)
        have e1 : (enc n == enc m) = false := by simpa using hne
        have e2 : ((n : Int) == (m : Int)) = false := by simp; omega
        have e3 : ¬ (n : Int) < (m : Int) := by omega
        have e5 : ((0 : Int) == (n : Int)) = false := by simp; omega
        have e4 : decide (n < m) = false := decide_eq_false (by omega)
        have e6 : m ≤ n := by omega
        go_wp2_with (first | (go_at_call 16; refine (err_st _ _ _ a6).mono ?_; rintro r w7 ⟨rfl, rfl⟩) | (go_at_call 9; refine (wakes_any _).mono ?_; rintro r w8 ⟨rfl, b8⟩))
        all_goals (go_ret; exact ⟨rfl, bb B6 b8⟩)

theorem wireOne_walk (a0 : ByteArray) (w0 : a0.size ≤ maxLen) (a1 : Int) (w1 : (Lit.int .u64 a1).wf = true) (a2 : Int) (w2 : (Lit.int .u64 a2).wf = true) (w : World) :
    Calls Try.prog 6 #[.string a0, .int .u64 a1, .int .u64 a2] w fun e w' => e = .returned (.bool true) ∧ Below w.heap.size w w' := by
  obtain ⟨h1, h1'⟩ := bounds_u64 w1
  obtain ⟨h2, h2'⟩ := bounds_u64 w2
  by_cases h : (12 : Int) < (a0.size : Int)
  · go_enter Try.func6, Try.ntmps6
    go_wp2_with (go_at_call 9; refine (wakes_any _).mono ?_; rintro r w8 ⟨rfl, b8⟩)
    go_ret
    exact ⟨rfl, b8⟩
  · obtain ⟨n, rfl⟩ := Int.eq_ofNat_of_zero_le h1
    obtain ⟨m, rfl⟩ := Int.eq_ofNat_of_zero_le h2
    rw [B_data a0]
    exact wireOne_long a0.data.toList n m h1' h2' (by rw [← Lib.size_eq]; exact h) w

end Go.Proofs.Ytmlljdfeppgcaaa
