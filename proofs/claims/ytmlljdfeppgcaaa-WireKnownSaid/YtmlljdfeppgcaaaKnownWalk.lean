/-
  The walk of the law WireKnown over this translation.
-/
import Derived.Test.YtmlljdfeppgcaaaWakes
namespace Go.Proofs.Ytmlljdfeppgcaaa
open Go.RowKit
set_option linter.unusedVariables false

theorem kn_a : St.num ⟨0, [248, 5]⟩ = (0, ⟨4, []⟩) := by kernel_rfl
theorem kn_b : St.str ⟨0, [5, 97]⟩ 9 = ([], ⟨3, [97]⟩) := by kernel_rfl
theorem kn_c : St.str ⟨0, [5, 97]⟩ 4 = ([], ⟨4, [97]⟩) := by kernel_rfl
theorem kn_d : St.num ⟨0, [255, 1, 2, 3, 4, 5, 6, 7, 8]⟩ = (72623859790382856, ⟨0, []⟩) := by kernel_rfl
theorem kn_e : ([] : List UInt8) ++ enc (247 : Int).toNat = [247] := by kernel_rfl
theorem kn_f : ([] : List UInt8) ++ enc (248 : Int).toNat = [248, 248] := by kernel_rfl
theorem kn_g : ([] : List UInt8) ++ encS [97, 98] = [2, 97, 98] := by kernel_rfl

set_option maxHeartbeats 2000000 in
set_option maxRecDepth 100000 in
theorem wireKnown_walk (w : World) : Calls Try.prog 8 #[] w fun e w' => e = .returned (.bool true) ∧ Below w.heap.size w w' := by
  have ha := fun b w1 (h : RS w1 b ⟨0, [248, 5]⟩) => num_any b _ w1 h (by decide)
  rw [kn_a] at ha
  have hb := fun b w1 (h : RS w1 b ⟨0, [5, 97]⟩) => str_any b _ 9 w1 h (by decide) (by decide) (by decide)
  rw [kn_b] at hb
  have hc := fun b w1 (h : RS w1 b ⟨0, [5, 97]⟩) => str_any b _ 4 w1 h (by decide) (by decide) (by decide)
  rw [kn_c] at hc
  have hd := fun b w1 (h : RS w1 b ⟨0, [255, 1, 2, 3, 4, 5, 6, 7, 8]⟩) => num_any b _ w1 h (by decide)
  rw [kn_d] at hd
  have he := fun w1 => wnum_any none 0 0 [] 247 w1 (Src.nil w1) (by decide) (by decide) (by decide)
  rw [kn_e] at he
  have hf := fun w1 => wnum_any none 0 0 [] 248 w1 (Src.nil w1) (by decide) (by decide) (by decide)
  rw [kn_f] at hf
  have hg := fun w1 => wstr_any none 0 0 [] [97, 98] w1 (Src.nil w1) (by decide) (by decide)
  rw [kn_g] at hg
  have hfin := fun b w1 (h : RS w1 b ⟨0, []⟩) => end_st b _ w1 h
  rw [wk_fin] at hfin
  have HA := Lib.hid ha
  have HB := Lib.hid hb
  have HC := Lib.hid hc
  have HD := Lib.hid hd
  have HE := Lib.hid he
  have HF := Lib.hid hf
  have HG := Lib.hid hg
  have HFIN := Lib.hid hfin
  clear ha hb hc hd he hf hg hfin
  go_enter Try.func8, Try.ntmps8
  go_wp2_with fail
  refine (of_any [248, 5] _).mono ?_
  rintro r w1 ⟨rfl, a1, b1⟩
  go_wp2_with fail
  refine (HA.out _ _ a1).mono ?_
  rintro r w2 ⟨rfl, a2, g2⟩
  have b2 := bg b1 g2 (Nat.le_refl _)
  go_wp2_with fail
  refine (of_any [5, 97] _).mono ?_
  rintro r w3 ⟨rfl, c3, b3⟩
  have a3 := a2.below b3
  have B3 := bb b2 b3
  go_wp2_with fail
  refine (HB.out _ _ c3).mono ?_
  rintro r w4 ⟨rfl, c4, g4⟩
  have a4 := a3.kept g4 (Nat.ne_of_lt a2.lt)
  have B4 := bg B3 g4 b2.size
  go_wp2_with fail
  refine (of_any [5, 97] _).mono ?_
  rintro r w5 ⟨rfl, d5, b5⟩
  have a5 := a4.below b5
  have c5 := c4.below b5
  have B5 := bb B4 b5
  go_wp2_with fail
  refine (HC.out _ _ d5).mono ?_
  rintro r w6 ⟨rfl, d6, g6⟩
  have a6 := a5.kept g6 (Nat.ne_of_lt a4.lt)
  have c6 := c5.kept g6 (Nat.ne_of_lt c4.lt)
  have B6 := bg B5 g6 B4.size
  go_wp2_with fail
  refine (of_any [255, 1, 2, 3, 4, 5, 6, 7, 8] _).mono ?_
  rintro r w7 ⟨rfl, e7, b7⟩
  have a7 := a6.below b7
  have c7 := c6.below b7
  have d7 := d6.below b7
  have B7 := bb B6 b7
  go_wp2_with fail
  refine (HE.out _).mono ?_
  rintro r w8 ⟨g8, n8, c8', rfl, o8, b8⟩
  have cv8 := (Src.of_own o8).string
  have B8 := bb B7 b8
  have a8 := a7.below b8
  have c8 := c7.below b8
  have d8 := d7.below b8
  have e8 := e7.below b8
  go_wp2_with fail
  refine (HF.out _).mono ?_
  rintro r w9 ⟨g9, n9, c9', rfl, o9, b9⟩
  have cv9 := (Src.of_own o9).string
  have B9 := bb B8 b9
  have a9 := a8.below b9
  have c9 := c8.below b9
  have d9 := d8.below b9
  have e9 := e8.below b9
  go_wp2_with fail
  refine (HG.out _).mono ?_
  rintro r w10 ⟨g10, n10, c10', rfl, o10, b10⟩
  have cv10 := (Src.of_own o10).string
  have B10 := bb B9 b10
  have a10 := a9.below b10
  have c10 := c9.below b10
  have d10 := d9.below b10
  have e10 := e9.below b10
  go_wp2_with fail
  refine (err_st _ _ _ a10).mono ?_
  rintro r w' ⟨rfl, rfl⟩
  go_wp2_with fail
  refine (err_st _ _ _ c10).mono ?_
  rintro r w' ⟨rfl, rfl⟩
  go_wp2_with fail
  refine (err_st _ _ _ d10).mono ?_
  rintro r w' ⟨rfl, rfl⟩
  go_wp2_with fail
  refine (HD.out _ _ e10).mono ?_
  rintro r w11 ⟨rfl, e11, g11⟩
  have B11 := bg B10 g11 B6.size
  go_wp2_with fail
  refine (HFIN.out _ _ e11).mono ?_
  rintro r w12 ⟨rfl, e12, g12⟩
  have B12 := bg B11 g12 B6.size
  go_wp2_with fail
  refine (wakes_any _).mono ?_
  rintro r w13 ⟨rfl, b13⟩
  go_wp2_with fail
  go_ret
  exact ⟨rfl, bb B12 b13⟩

end Go.Proofs.Ytmlljdfeppgcaaa
