/-
  The walk of the law WireWrites over this translation.
-/
import Derived.Test.YtmlljdfeppgcaaaWakes
import Derived.Test.YtmlljdfeppgcaaaRefNum
import Derived.Test.YtmlljdfeppgcaaaRowLib
namespace Go.Proofs.Ytmlljdfeppgcaaa
open Go.RowKit Go.ChangeShapes Go.WideShapes Go.ChangeAt
set_option linter.unusedVariables false

set_option maxRecDepth 100000 in
set_option maxHeartbeats 4000000 in
theorem wireWrites_main (a : Option Addr) (len cap : Nat) (l : List UInt8) (n : Nat) (t : List UInt8) (w : World) (hS : Src w a len cap l) (hn : (n : Int) ≤ 18446744073709551615) (hl : (len : Int) ≤ 2000) (ht : (t.length : Int) ≤ 2000) :
    Calls Try.prog 3 #[.slice a len cap, .int .u64 n, .string (B t)] w fun e w' => e = .returned (.bool true) ∧ Below w.heap.size w w' := by
  have cv := hS.string
  have hap1 := B_append l (enc n)
  have hap2 := B_append l (encS t)
  have hN := fun (a' : Option Addr) (c' : Nat) (w1 : World) (h : Src w1 a' len c' l) => wnum_any a' len c' l (n : Int) w1 h (by omega) (by omega) hn
  have hSt := fun (a' : Option Addr) (c' : Nat) (w1 : World) (h : Src w1 a' len c' l) => wstr_any a' len c' l t w1 h (by omega) (by omega)
  have hR := fun w1 => refNum_any (n : Int) w1 (by omega) hn
  have hT := fun w1 => refStr_any t w1 (by omega)
  simp only [Int.toNat_natCast] at hN hR
  have hle1 : ¬ 9223372036854775807 < l.length + (enc n).length := by have := nb_le8 (show n < 2 ^ 64 by omega); have := hS.len; rw [enc_length]; omega
  have hle2 : ¬ 9223372036854775807 < l.length + (encS t).length := by have := nb_le8 (show t.length < 2 ^ 64 by omega); have := hS.len; rw [encS, List.length_append, enc_length]; omega
  have HN := Lib.hid hN
  have HS := Lib.hid hSt
  have HR := Lib.hid hR
  have HT := Lib.hid hT
  clear hN hSt hR hT
  have hB : Below w.heap.size w w.drew := (Below.refl _ w).drew
  have hS1 := hS.drew
  go_enter Try.func3, Try.ntmps3
  go_wp2_with fail
  clear cv hS
  go_region_law (first
    | (rw [if_pos (by kernel_rfl)]; refine wp_append_nil _ _ _ (by rfl) (by rfl) a len cap l (by rfl) (by exact hS1) (by omega) ?_; intro a2 c2 w2 hs2 b2; have hS1 := hS1.below b2; have hB := bb hB b2)
    | (go_simp; first
      | (go_at_call 10; refine (HN.out _ _ _ hs2).mono ?_; rintro r w3 ⟨g3, n3, c3, rfl, o3, b3⟩; have cv3 := (Src.of_own o3).string; have hS1 := hS1.below b3; have hB := bb hB b3)
      | (go_at_call 11; refine (HR.out _).mono ?_; rintro r w4 ⟨rfl, b4⟩; have cv4 := ((Src.of_own o3).below b4).string; have hS1 := hS1.below b4; have hB := bb hB b4)
      | (go_at_call 12; refine (HS.out _ _ _ hs2).mono ?_; rintro r w5 ⟨g5, n5, c5, rfl, o5, b5⟩; have cv5 := (Src.of_own o5).string; have hS1 := hS1.below b5; have hB := bb hB b5)
      | (go_at_call 13; refine (HT.out _).mono ?_; rintro r w6 ⟨rfl, b6⟩; have cv6 := ((Src.of_own o5).below b6).string; have hS1 := hS1.below b6; have hB := bb hB b6)
      | (go_at_call 9; refine (wakes_any _).mono ?_; rintro r w7 ⟨rfl, b7⟩; have hB := bb hB b7)))
  all_goals go_wp2_with fail
  all_goals (go_ret; exact ⟨rfl, hB⟩)

theorem wireWrites_walk {w : World} (a0 : Option Addr) (len0 cap0 : Nat) (z0 : List Int) (w0 : IsRow .u8 w a0 len0 cap0 z0) (a1 : Int) (w1 : (Lit.int .u64 a1).wf = true) (a2 : ByteArray) (w2 : a2.size ≤ maxLen) (_w : World := w) :
    Calls Try.prog 3 #[.slice a0 len0 cap0, .int .u64 a1, .string a2] w fun e w' => e = .returned (.bool true) ∧ Below w.heap.size w w' := by
  obtain ⟨h1, h1'⟩ := bounds_u64 w1
  have hS := w0.src
  by_cases hl : (len0 : Int) ≤ 2000
  · by_cases ht : (a2.size : Int) ≤ 2000
    · obtain ⟨n, rfl⟩ := Int.eq_ofNat_of_zero_le h1
      rw [B_data a2]
      exact wireWrites_main a0 len0 cap0 _ n a2.data.toList w hS h1' hl (by rw [← Lib.size_eq]; exact ht)
    · have hl' : ¬ (2000 : Int) < (len0 : Int) := by omega
      have ht' : (2000 : Int) < (a2.size : Int) := by omega
      clear hl ht w0
      go_enter Try.func3, Try.ntmps3
      go_wp2_with (go_at_call 9; refine (wakes_any _).mono ?_; rintro r w8 ⟨rfl, b8⟩)
      go_ret
      exact ⟨rfl, b8⟩
  · have hl' : (2000 : Int) < (len0 : Int) := by omega
    clear hl w0
    go_enter Try.func3, Try.ntmps3
    go_wp2_with (go_at_call 9; refine (wakes_any _).mono ?_; rintro r w8 ⟨rfl, b8⟩)
    go_ret
    exact ⟨rfl, b8⟩

end Go.Proofs.Ytmlljdfeppgcaaa
