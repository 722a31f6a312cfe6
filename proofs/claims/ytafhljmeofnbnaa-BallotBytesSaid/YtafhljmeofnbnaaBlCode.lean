/-
  The landed ballot's own calls: Check, its order (by cmp), Below.
-/
import Derived.Test.YtafhljmeofnbnaaBlOrder
namespace Go.Proofs.Ytafhljmeofnbnaa
open Go.RowKit
set_option linter.unusedVariables false

def cmpI (x y : Nat) : Int := if x < y then -1 else if y < x then 1 else 0
def ordI (a b : Bal) : Int := if cmpI a.1 b.1 ≠ 0 then cmpI a.1 b.1 else cmpI a.2 b.2
theorem ord_neg (a b : Bal) : (ordI a b < 0) = (belowL a b = true) := by
  rw [eq_iff_iff, below_iff]
  unfold ordI cmpI
  split <;> (repeat' split) <;> simp <;> omega
theorem ord_pos (a b : Bal) : (0 < ordI a b) = (belowL b a = true) := by
  rw [eq_iff_iff, below_iff]
  unfold ordI cmpI
  split <;> (repeat' split) <;> simp <;> omega

theorem isNode_any (r : Nat) (w : World) : Calls Try.prog 26 #[.int .u8 (r : Nat)] w fun e w' => e = .returned (.bool (decide (r < 7))) ∧ w = w' := by
  have hr : decide ((r : Int) < 7) = decide (r < 7) := by rw [decide_eq_decide]; omega
  go_enter Try.func26, Try.ntmps26
  go_wp2
  go_ret
  exact ⟨by rw [← hr]; rfl, rfl⟩
theorem nan64_any (x : Int) (w : World) : Calls Try.prog 46 #[.int .u64 x] w fun e w' => e = .returned (.bool false) ∧ w = w' := by
  go_enter Try.func46, Try.ntmps46
  go_wp2
  go_ret
  simp
theorem nan8_any (x : Int) (w : World) : Calls Try.prog 47 #[.int .u8 x] w fun e w' => e = .returned (.bool false) ∧ w = w' := by
  go_enter Try.func47, Try.ntmps47
  go_wp2
  go_ret
  simp
theorem cmp64_any (x y : Nat) (w : World) : Calls Try.prog 38 #[.int .u64 (x : Nat), .int .u64 (y : Nat)] w fun e w' => e = .returned (.int .i64 (cmpI x y)) ∧ w = w' := by
  rcases Nat.lt_trichotomy x y with h | h | h
  · have e1 : cmpI x y = -1 := by simp [cmpI, h]
    have h1 : (x : Int) < (y : Int) := by omega
    rw [e1]
    clear e1 h
    go_enter Try.func38, Try.ntmps38
    go_wp2_with (go_at_call 46; refine (nan64_any _ _).mono ?_; rintro r w1 ⟨rfl, rfl⟩)
    go_ret
    exact ⟨rfl, rfl⟩
  · subst h
    have e1 : cmpI x x = 0 := by simp [cmpI]
    rw [e1]
    clear e1
    go_enter Try.func38, Try.ntmps38
    go_wp2_with (go_at_call 46; refine (nan64_any _ _).mono ?_; rintro r w1 ⟨rfl, rfl⟩)
    go_ret
    exact ⟨rfl, rfl⟩
  · have e1 : cmpI x y = 1 := by simp [cmpI, h, show ¬ x < y by omega]
    have h1 : (y : Int) < (x : Int) := by omega
    have h2 : ¬ (x : Int) < (y : Int) := by omega
    rw [e1]
    clear e1 h
    go_enter Try.func38, Try.ntmps38
    go_wp2_with (go_at_call 46; refine (nan64_any _ _).mono ?_; rintro r w1 ⟨rfl, rfl⟩)
    go_ret
    exact ⟨rfl, rfl⟩
theorem cmp8_any (x y : Nat) (w : World) : Calls Try.prog 39 #[.int .u8 (x : Nat), .int .u8 (y : Nat)] w fun e w' => e = .returned (.int .i64 (cmpI x y)) ∧ w = w' := by
  rcases Nat.lt_trichotomy x y with h | h | h
  · have e1 : cmpI x y = -1 := by simp [cmpI, h]
    have h1 : (x : Int) < (y : Int) := by omega
    rw [e1]
    clear e1 h
    go_enter Try.func39, Try.ntmps39
    go_wp2_with (go_at_call 47; refine (nan8_any _ _).mono ?_; rintro r w1 ⟨rfl, rfl⟩)
    go_ret
    exact ⟨rfl, rfl⟩
  · subst h
    have e1 : cmpI x x = 0 := by simp [cmpI]
    rw [e1]
    clear e1
    go_enter Try.func39, Try.ntmps39
    go_wp2_with (go_at_call 47; refine (nan8_any _ _).mono ?_; rintro r w1 ⟨rfl, rfl⟩)
    go_ret
    exact ⟨rfl, rfl⟩
  · have e1 : cmpI x y = 1 := by simp [cmpI, h, show ¬ x < y by omega]
    have h1 : (y : Int) < (x : Int) := by omega
    have h2 : ¬ (x : Int) < (y : Int) := by omega
    rw [e1]
    clear e1 h
    go_enter Try.func39, Try.ntmps39
    go_wp2_with (go_at_call 47; refine (nan8_any _ _).mono ?_; rintro r w1 ⟨rfl, rfl⟩)
    go_ret
    exact ⟨rfl, rfl⟩
/-- cmp.Or of two numbers that lie in memory. -/
theorem or_two (b : Nat) (x y : Int) (w : World) (hx : w.cell? ⟨b, 0, none⟩ = some (.int .i64 x)) (hy : w.cell? ⟨b, 1, none⟩ = some (.int .i64 y)) (v : Int) (hv : (x ≠ 0 → v = x) ∧ (x = 0 → v = y)) :
    Calls Try.prog 37 #[.slice (some ⟨b, 0, none⟩) 2 2] w fun e w' => e = .returned (.int .i64 v) ∧ w = w' := by
  have HV := Lib.hid hv
  clear hv
  go_enter Try.func37, Try.ntmps37
  go_wp2_with fail
  go_loopw [8] (fun iv wx => wx = w ∧ (iv = .int .i64 0 ∨ iv = .int .i64 1 ∧ x = 0 ∨ iv = .int .i64 2 ∧ x = 0 ∧ y = 0)) (fun iv _ => 2 - (intOf iv).toNat)
  case atStart => exact ⟨rfl, .inl rfl⟩
  case round =>
    obtain ⟨rfl, hrel⟩ := hrel
    rcases hrel with rfl | ⟨rfl, rfl⟩ | ⟨rfl, rfl, rfl⟩
    · by_cases h : x = 0
      · subst h
        go_wp2_with fail
        go_roundw
        case rel => exact ⟨by first | rfl | trivial, .inr (.inl ⟨by go_num, by first | rfl | trivial⟩)⟩
        case measure => simp [intOf]
      · have e1 := Lib.hid (HV.out.1 h)
        go_wp2_with fail
        go_ret
        exact ⟨by rw [e1.out]; rfl, rfl⟩
    · by_cases h : y = 0
      · subst h
        go_wp2_with fail
        go_roundw
        case rel => exact ⟨by first | rfl | trivial, .inr (.inr ⟨by go_num, by simp⟩)⟩
        case measure => simp [intOf]
      · have e1 := Lib.hid (HV.out.2 rfl)
        go_wp2_with fail
        go_ret
        exact ⟨by rw [e1.out]; rfl, rfl⟩
    · have e1 := Lib.hid (HV.out.2 rfl)
      go_wp2_with fail
      go_ret
      exact ⟨by rw [e1.out]; rfl, rfl⟩

theorem check_is (b : Bal) (w : World) : Calls Try.prog 12 #[balV b] w fun r w' => r = .returned (.int .i64 (if mayL b = true then 0 else 2)) ∧ Below w.heap.size w w' := by
  have K := BalB.new w b
  have HB := Lib.hid ((Below.refl w.heap.size w).alloc (Nat.le_refl _) (.cells #[.int .u64 (b.1 : Nat), .int .u8 (b.2 : Nat)] 25))
  obtain ⟨k0, k1⟩ := K.vals
  clear K
  by_cases h1 : b.1 = 0
  · by_cases h2 : b.2 = 0
    · have e1 : (if mayL b = true then (0 : Int) else 2) = 0 := by simp [mayL, h1, h2]
      have n1 : (b.1 : Int) = 0 := by omega
      have n2 : (b.2 : Int) = 0 := by omega
      rw [e1]
      unfold balV
      clear e1 h1 h2
      go_enter Try.func12, Try.ntmps12
      go_wp2_with fail
      go_ret
      exact ⟨rfl, by simpa [n1, n2] using HB.out⟩
    · have e1 : (if mayL b = true then (0 : Int) else 2) = 2 := by simp [mayL, h1, h2]
      have n1 : (b.1 : Int) = 0 := by omega
      have n2 : ¬ (b.2 : Int) = 0 := by omega
      rw [e1]
      unfold balV
      clear e1 h1 h2
      go_enter Try.func12, Try.ntmps12
      go_wp2_with fail
      go_ret
      exact ⟨rfl, by simpa [n1] using HB.out⟩
  · have n1 : ¬ (b.1 : Int) = 0 := by omega
    have n2 : 0 < (b.1 : Int) := by omega
    have e1 : (if mayL b = true then (0 : Int) else 2) = if b.2 < 7 then 0 else 2 := by
      by_cases h7 : b.2 < 7
      · rw [if_pos h7, if_pos (may_iff.2 (.inr ⟨by omega, by omega⟩))]
      · rw [if_neg h7, if_neg (fun h => by rw [may_iff] at h; omega)]
    rw [e1]
    unfold balV
    have HN := Lib.hid (isNode_any b.2)
    clear e1 h1
    by_cases h7 : b.2 < 7
    · rw [if_pos h7]
      have H2 := HN.out
      rw [decide_eq_true h7] at H2
      have H3 := Lib.hid H2
      clear H2 h7
      go_enter Try.func12, Try.ntmps12
      go_wp2_with (go_at_call 26; refine (H3.out _).mono ?_; rintro r w1 ⟨rfl, rfl⟩)
      go_ret
      exact ⟨rfl, HB.out⟩
    · rw [if_neg h7]
      have H2 := HN.out
      rw [decide_eq_false h7] at H2
      have H3 := Lib.hid H2
      clear H2 h7
      go_enter Try.func12, Try.ntmps12
      go_wp2_with (go_at_call 26; refine (H3.out _).mono ?_; rintro r w1 ⟨rfl, rfl⟩)
      go_ret
      exact ⟨rfl, HB.out⟩
end Go.Proofs.Ytafhljmeofnbnaa
