/-
  FramePuts over this translation: it answers true, whatever the input; of what was there nothing has turned.
-/
import Derived.Test.YtddicpgkagkmiaaRowLib
import Derived.Test.YtddicpgkagkmiaaFrWakes
import Derived.Test.YtddicpgkagkmiaaFrRef
namespace Go.Proofs.Ytddicpgkagkmiaa
open Go.RowKit
set_option linter.unusedVariables false

set_option maxRecDepth 100000 in
set_option maxHeartbeats 1000000 in
/-- Too long: 'wakes' alone. -/
theorem puts_long (a : Option Addr) (len cap : Nat) (s : ByteArray) (w : World) (h : 3000 < (len : Int) ∨ 3000 < (s.size : Int)) :
    Calls Try.prog 3 #[.slice a len cap, .string s] w fun e w' => e = .returned (.bool true) ∧ Below w.heap.size w w' := by
  by_cases h1 : 3000 < (len : Int)
  · go_enter Try.func3, Try.ntmps3
    go_wp2_with (go_at_call 8; refine (fwakes_any _).mono ?_; rintro r w1 ⟨rfl, b1⟩)
    go_ret
    exact ⟨rfl, b1⟩
  · have h2 := h.resolve_left h1
    clear h
    go_enter Try.func3, Try.ntmps3
    go_wp2_with (go_at_call 8; refine (fwakes_any _).mono ?_; rintro r w1 ⟨rfl, b1⟩)
    go_ret
    exact ⟨rfl, b1⟩

set_option maxRecDepth 100000 in
set_option maxHeartbeats 1000000 in
/-- No bytes inside. -/
theorem puts_none (a : Option Addr) (len cap : Nat) (l : List UInt8) (w : World) (h : Src w a len cap l) (hl : (len : Int) ≤ 3000) :
    Calls Try.prog 3 #[.slice a len cap, .string ⟨#[]⟩] w fun e w' => e = .returned (.bool true) ∧ Below w.heap.size w w' := by
  have hcv := h.string
  have hP := fun w1 a2 c2 (hs : Src w1 a2 len c2 l) => put_long a2 len c2 l [] w1 hs (by omega) (.inl rfl)
  have HP := Lib.hid hP
  clear hP
  go_enter Try.func3, Try.ntmps3
  go_wp2_with (first
    | (at_builtin; refine wpList_append_src _ rfl _ _ rfl w.heap.size _ 0 [] rfl (World.ownsRow_nil _ _ _ _) a len cap l rfl h (by omega) (Nat.le_refl _) ?_; intro v w1 ho1 hg1; replace hg1 : w.grownBy w1 none := hg1; simp only [Nat.zero_add, List.nil_append] at ho1; obtain ⟨a1, c1, rfl, s1⟩ := src_of_owns ho1)
    | (go_at_call 9; refine (HP.out _ _ _ s1).mono ?_; rintro r w2 ⟨a2, c2, rfl, s2, b2⟩; have hcv2 := s2.string)
    | (go_at_call 8; refine (fwakes_any _).mono ?_; rintro r w3 ⟨rfl, b3⟩))
  go_ret
  refine ⟨rfl, bb (bb ((Below.refl _ _).grown hg1 (Nat.le_refl _) (by simp)) b2) b3⟩

set_option maxRecDepth 100000 in
set_option maxHeartbeats 4000000 in
/-- An inside. -/
theorem puts_some (a : Option Addr) (len cap : Nat) (l t : List UInt8) (w : World) (h : Src w a len cap l) (hl : (len : Int) ≤ 3000) (ht0 : t ≠ []) (ht : t.length ≤ 3000) :
    Calls Try.prog 3 #[.slice a len cap, .string (B t)] w fun e w' => e = .returned (.bool true) ∧ Below w.heap.size w w' := by
  have hcv := h.string
  have hP := fun w1 a2 c2 (hs : Src w1 a2 len c2 l) => put_ok a2 len c2 l t w1 hs (by omega) ht0 (by omega)
  have hF := fun w1 => refFrame_any t w1 (by omega)
  have hll := h.len
  have hfl := frameL_le t (by omega)
  have hap : (B l ++ B (frameL t)) = B (l ++ frameL t) := B_append _ _
  have hgt : ((B t).size : Int) ≤ 3000 := by rw [B_size]; omega
  have he1 : ¬ (B t).toList = [] := by rw [ByteArray.toList_mk]; exact ht0
  have he2 : (B t).toList.isEmpty = false := by rw [ByteArray.toList_mk]; cases t with | nil => exact absurd rfl ht0 | cons x t => rfl
  have hb1 : l.length ≤ 3000 := by omega
  have hb2 : (frameL t).length ≤ 4000 := by omega
  generalize frameL t = fr at hP hF hap hb2
  generalize B t = S at *
  have HP := Lib.hid hP
  have HF := Lib.hid hF
  have HAP := Lib.hid hap
  clear hP hF hap ht ht0 hll hfl
  go_enter Try.func3, Try.ntmps3
  go_wp2_with (first
    | (at_builtin; refine wpList_append_src _ rfl _ _ rfl w.heap.size _ 0 [] rfl (World.ownsRow_nil _ _ _ _) a len cap l rfl h (by omega) (Nat.le_refl _) ?_; intro v w1 ho1 hg1; replace hg1 : w.grownBy w1 none := hg1; simp only [Nat.zero_add, List.nil_append] at ho1; obtain ⟨a1, c1, rfl, s1⟩ := src_of_owns ho1)
    | (go_at_call 9; refine (HP.out _ _ _ s1).mono ?_; rintro r w2 ⟨g2, n2, c2, rfl, o2, b2⟩; have s2 := Src.of_own o2; have hcv2 := s2.string; have hcv2d := s2.drew.string))
  have hap := HAP.out
  go_region_with (first
    | (go_at_call 10; (with_reducible refine (HF.out _).mono ?_); rintro r w3 ⟨rfl, b3⟩; have hcv3 := (s2.drew.below b3).string)
    | (go_at_call 8; (with_reducible refine (fwakes_any _).mono ?_); rintro r w4 ⟨rfl, b4⟩))
  all_goals go_wp2
  all_goals
    go_ret
    exact ⟨rfl, bb (bb (bb ((Below.refl _ _).grown hg1 (Nat.le_refl _) (by simp)) b2).drew b3) b4⟩

theorem framePuts_walk {w : World} (a0 : Option Addr) (len0 cap0 : Nat) (z0 : List Int) (w0 : IsRow .u8 w a0 len0 cap0 z0) (a1 : ByteArray) (w1 : a1.size ≤ maxLen) (_w : World := w) :
    Calls Try.prog 3 #[.slice a0 len0 cap0, .string a1] w fun e w' => e = .returned (.bool true) ∧ Below w.heap.size w w' := by
  by_cases hg : 3000 < (len0 : Int) ∨ 3000 < (a1.size : Int)
  · exact puts_long a0 len0 cap0 a1 w hg
  · have hS := w0.src
    have e1 := B_data a1
    have hsz : a1.data.toList.length ≤ 3000 := by have := Lib.size_eq a1; omega
    generalize a1.data.toList = t at e1 hsz
    subst e1
    by_cases h0 : t = []
    · subst h0
      exact puts_none a0 len0 cap0 _ w hS (by omega)
    · exact puts_some a0 len0 cap0 _ t w hS (by omega) h0 hsz

end Go.Proofs.Ytddicpgkagkmiaa
