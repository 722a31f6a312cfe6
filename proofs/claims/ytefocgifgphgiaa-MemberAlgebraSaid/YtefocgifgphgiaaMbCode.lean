/-
  The landed calls on sets, but for Of, First and All: what each answers, whatever the set.
-/
import Derived.Test.YtefocgifgphgiaaMbSpec
import Derived.Laws.BitsAllLaws
import Derived.Lib.BitFns
import Derived.Lib.Tables
namespace Go.Proofs.Ytefocgifgphgiaa
open Go.RowKit
set_option linter.unusedVariables false

theorem bt_test (x n : Nat) : bt x n = x.testBit n := by unfold bt; rw [Nat.testBit_eq_decide_div_mod_eq]
theorem test_127 : ∀ k : Fin 7, Nat.testBit 127 k.val = true := by decide
theorem and_lt (a : Nat) : a &&& 127 < 128 := Nat.and_lt_two_pow (n := 7) a (by omega)
theorem low_is {a : Nat} {f : Nat → Bool} (h : ∀ n, n < 7 → a.testBit n = f n) : a &&& 127 = mkL f :=
  set_ext (and_lt a) (mk_lt _) fun n hn => by rw [bt_mk _ hn, bt_test, Nat.testBit_and, test_127 ⟨n, hn⟩, Bool.and_true]; exact h n hn
theorem with_or (x y : Nat) : (x ||| y) &&& 127 = withL x y := low_is fun n _ => by rw [Nat.testBit_or, bt_test, bt_test]
theorem both_and (x y : Nat) : (x &&& y) &&& 127 = bothL x y := low_is fun n _ => by rw [Nat.testBit_and, bt_test, bt_test]
theorem without_and {x y : Nat} (hx : x < 256) (hy : y < 256) : (x &&& (255 - y)) &&& 127 = withoutL x y := low_is fun n hn => by
  rw [Nat.testBit_and, bt_test, bt_test, show 255 - y = 2 ^ 8 - (y + 1) by omega, Nat.testBit_two_pow_sub_succ (by omega)]
  have : decide (n < 8) = true := by simp; omega
  rw [this, Bool.true_and]
theorem and_255 (a b : Nat) (ha : a < 256) : a &&& b < 256 := Nat.lt_of_le_of_lt Nat.and_le_left ha
theorem or_255 {a b : Nat} (ha : a < 256) (hb : b < 256) : a ||| b < 256 := Nat.or_lt_two_pow (n := 8) (by omega) (by omega)

theorem with_is (w : World) (x y : Nat) (hx : x < 256) (hy : y < 256) :
    Calls Try.prog 17 #[.int .u8 (x : Nat), .int .u8 (y : Nat)] w fun r w' => r = .returned (.int .u8 (withL x y : Nat)) ∧ w = w' := by
  have h := (congrArg (fun z : Int => bits .and .u8 z 127) (u8_or_nat x y hx hy)).trans ((u8_and_nat (x ||| y) 127 (or_255 hx hy) (by omega)).trans (by rw [with_or]))
  go_enter Try.func17, Try.ntmps17
  go_wp2_with fail
  go_ret
  exact ⟨rfl, rfl⟩
theorem both_is (w : World) (x y : Nat) (hx : x < 256) (hy : y < 256) :
    Calls Try.prog 19 #[.int .u8 (x : Nat), .int .u8 (y : Nat)] w fun r w' => r = .returned (.int .u8 (bothL x y : Nat)) ∧ w = w' := by
  have h := (congrArg (fun z : Int => bits .and .u8 z 127) (u8_and_nat x y hx hy)).trans ((u8_and_nat (x &&& y) 127 (and_255 x y hx) (by omega)).trans (by rw [both_and]))
  go_enter Try.func19, Try.ntmps19
  go_wp2_with fail
  go_ret
  exact ⟨rfl, rfl⟩
theorem without_is (w : World) (x y : Nat) (hx : x < 256) (hy : y < 256) :
    Calls Try.prog 18 #[.int .u8 (x : Nat), .int .u8 (y : Nat)] w fun r w' => r = .returned (.int .u8 (withoutL x y : Nat)) ∧ w = w' := by
  have h := (congrArg (fun z : Int => bits .and .u8 z 127) (u8_andNot_nat x y hx hy)).trans ((u8_and_nat (x &&& (255 - y)) 127 (and_255 _ _ hx) (by omega)).trans (by rw [without_and hx hy]))
  go_enter Try.func18, Try.ntmps18
  go_wp2_with fail
  go_ret
  exact ⟨rfl, rfl⟩

/-- The set of one node. -/
def onlyL (n : Nat) : Nat := mkL fun k => decide (k = n)
theorem only_lt (n : Nat) : onlyL n < 128 := mk_lt _
theorem only_all : ∀ n : Fin 256, bits BinOp.and IntKind.u8 ((2 : Int) ^ (min n.val 8 : Nat) % 256) 127 = ((onlyL n.val : Nat) : Int) := by decide +kernel
theorem bt_only (k : Nat) {n : Nat} (h : n < 7) : bt (onlyL k) n = decide (n = k) := bt_mk _ h
theorem has_only (x k : Nat) : decide (bothL x (onlyL k) ≠ 0) = hasL x k := by
  have e : bothL x (onlyL k) = mkL fun n => decide (n = k) && bt x n := mk_ext fun n hn => by rw [bt_only k hn, Bool.and_comm]
  rw [Bool.eq_iff_iff, decide_eq_true_eq]
  unfold hasL
  constructor
  · intro h
    by_cases h7 : k < 7
    · by_cases hb : bt x k = true
      · simp [h7, hb]
      · exfalso
        apply h
        rw [e]
        have : mkL (fun n => decide (n = k) && bt x n) = mkL fun _ => false := mk_ext fun n hn => by
          by_cases hk : n = k
          · subst hk; simpa using hb
          · simp [hk]
        rw [this]
        rfl
    · exfalso
      apply h
      rw [e]
      have : mkL (fun n => decide (n = k) && bt x n) = mkL fun _ => false := mk_ext fun n hn => by
        have : n ≠ k := by omega
        simp [this]
      rw [this]
      rfl
  · intro h h0
    rw [Bool.and_eq_true, decide_eq_true_eq] at h
    have hb := bt_mk (fun n => decide (n = k) && bt x n) h.1
    rw [← e, h0, h.2] at hb
    simp [bt] at hb
theorem only_is (w : World) (n : Nat) (hn : n < 256) :
    Calls Try.prog 26 #[.int .u8 (n : Nat)] w fun r w' => r = .returned (.int .u8 (onlyL n : Nat)) ∧ w = w' := by
  have h := only_all ⟨n, hn⟩
  simp only at h
  go_enter Try.func26, Try.ntmps26
  go_wp2_with fail
  go_ret
  exact ⟨rfl, rfl⟩
set_option maxRecDepth 100000 in
theorem ones_is (w : World) (x : Int) (h0 : 0 ≤ x) (h1 : x ≤ 255) :
    Calls Try.prog 27 #[.int .u8 x] w fun r w' => r = .returned (.int .i64 (Lib.onesCount x.toNat)) ∧ w = w' := by
  have e : wrap64 (Lib.pop8 x) = (Lib.onesCount x.toNat : Int) := by
    have := Lib.pop8_int x h0 h1
    generalize Lib.pop8 x = p at *
    generalize Lib.onesCount x.toNat = q at *
    unfold wrap64
    first | exact this | (simp only [IntKind.wrap, IntKind.bits, IntKind.signed]; omega)
  go_enter Try.func27, Try.ntmps27
  go_wp2
  go_ret
  exact ⟨congrArg (fun z : Int => Ending.returned (.int .i64 z)) e, rfl⟩
set_option maxRecDepth 100000 in
theorem len_ones : ∀ x : Fin 256, Lib.onesCount (x.val &&& 127) = lenL x.val := by decide +kernel
theorem len_is (w : World) (x : Nat) (hx : x < 256) :
    Calls Try.prog 15 #[.int .u8 (x : Nat)] w fun r w' => r = .returned (.int .i64 (lenL x : Nat)) ∧ w = w' := by
  have h := u8_and_nat x 127 hx (by omega)
  have hl := and_lt x
  have hk := ones_is w ((x &&& 127 : Nat) : Int) (by omega) (by omega)
  rw [Int.toNat_natCast, len_ones ⟨x, hx⟩] at hk
  have HK := Lib.hid hk
  clear hk
  replace h : bits .and .u8 (x : Int) 127 = ((x &&& 127 : Nat) : Int) := h
  go_enter Try.func15, Try.ntmps15
  go_wp2_with (go_at_call 27; (with_reducible refine HK.out.mono ?_); rintro r w1 ⟨rfl, rfl⟩)
  go_ret
  exact ⟨rfl, rfl⟩
theorem has_is (w : World) (x n : Nat) (hx : x < 256) (hn : n < 256) :
    Calls Try.prog 13 #[.int .u8 (x : Nat), .int .u8 (n : Nat)] w fun r w' => r = .returned (.bool (hasL x n)) ∧ w = w' := by
  have H1 := Lib.hid (only_is w n hn)
  have H2 := Lib.hid (both_is w x (onlyL n) hx (by have := only_lt n; omega))
  have HH := Lib.hid (has_only x n)
  generalize onlyL n = o at *
  generalize bothL x o = b at *
  go_enter Try.func13, Try.ntmps13
  go_wp2_with (first
    | (go_at_call 26; (with_reducible refine H1.out.mono ?_); rintro r w1 ⟨rfl, rfl⟩)
    | (go_at_call 19; (with_reducible refine H2.out.mono ?_); rintro r w1 ⟨rfl, rfl⟩))
  go_ret
  refine ⟨?_, rfl⟩
  rw [← HH.out]
  exact congrArg (fun z => Ending.returned (.bool z)) (by rw [Bool.eq_iff_iff]; simp only [bne_iff_ne, decide_eq_true_eq, ne_eq]; omega)
theorem need_is (w : World) (x : Nat) (hx : x < 256) :
    Calls Try.prog 24 #[.int .u8 (x : Nat)] w fun r w' => r = .returned (.int .i64 (needL x : Nat)) ∧ w = w' := by
  have H1 := Lib.hid (len_is w x hx)
  have hl : lenL x ≤ 7 := lenF_le _
  have hn : ((needL x : Nat) : Int) = (lenL x : Int) / 2 + 1 := by unfold needL; omega
  rw [hn]
  clear hn
  generalize lenL x = m at *
  go_enter Try.func24, Try.ntmps24
  go_wp2_with (go_at_call 15; (with_reducible refine H1.out.mono ?_); rintro r w1 ⟨rfl, rfl⟩)
  go_ret
  exact ⟨rfl, rfl⟩
theorem major_is (w : World) (x y : Nat) (hx : x < 256) (hy : y < 256) :
    Calls Try.prog 20 #[.int .u8 (x : Nat), .int .u8 (y : Nat)] w fun r w' => r = .returned (.bool (majorL x y)) ∧ w = w' := by
  have H1 := Lib.hid (both_is w x y hx hy)
  have H2 := Lib.hid (len_is w (bothL x y) (by have := mk_lt fun n => bt x n && bt y n; unfold bothL; omega))
  have H3 := Lib.hid (need_is w x hx)
  have HM := Lib.hid (show majorL x y = decide (needL x ≤ lenL (bothL x y)) by unfold majorL needL; rw [decide_eq_decide]; omega)
  rw [HM.out]
  clear HM
  generalize lenL (bothL x y) = k at *
  generalize bothL x y = b at *
  generalize needL x = m at *
  go_enter Try.func20, Try.ntmps20
  go_wp2_with (first
    | (go_at_call 19; (with_reducible refine H1.out.mono ?_); rintro r w1 ⟨rfl, rfl⟩)
    | (go_at_call 15; (with_reducible refine H2.out.mono ?_); rintro r w1 ⟨rfl, rfl⟩)
    | (go_at_call 24; (with_reducible refine H3.out.mono ?_); rintro r w1 ⟨rfl, rfl⟩))
  go_ret
  exact ⟨rfl, rfl⟩
theorem may_is (w : World) (x y : Nat) (hx : x < 256) (hy : y < 256) :
    Calls Try.prog 22 #[.int .u8 (x : Nat), .int .u8 (y : Nat)] w fun r w' => r = .returned (.bool (mayS x y)) ∧ w = w' := by
  have hlt : withoutL x y < 128 := mk_lt _
  have H1 := Lib.hid (len_is w x hx)
  have H2 := Lib.hid (without_is w x y hx hy)
  have H3 := Lib.hid (len_is w (withoutL x y) (by omega))
  have HM := Lib.hid (show mayS x y = decide (0 < lenL x ∧ lenL (withoutL x y) = 0) by unfold mayS; rw [decide_eq_decide, len_zero hlt])
  rw [HM.out]
  clear HM hlt
  generalize lenL (withoutL x y) = k at *
  generalize withoutL x y = b at *
  generalize lenL x = m at *
  by_cases hm : 0 < m
  · go_enter Try.func22, Try.ntmps22
    go_wp2_with (first
      | (go_at_call 18; (with_reducible refine H2.out.mono ?_); rintro r w1 ⟨rfl, rfl⟩)
      | (go_at_call 15; (with_reducible refine H1.out.mono ?_); rintro r w1 ⟨rfl, rfl⟩)
      | (go_at_call 15; (with_reducible refine H3.out.mono ?_); rintro r w1 ⟨rfl, rfl⟩))
    go_ret
    exact ⟨congrArg (fun z => Ending.returned (.bool z)) (by rw [Bool.eq_iff_iff]; simp only [beq_iff_eq, decide_eq_true_eq]; omega), rfl⟩
  · obtain rfl : m = 0 := by omega
    go_enter Try.func22, Try.ntmps22
    go_wp2_with (first
      | (go_at_call 15; (with_reducible refine H1.out.mono ?_); rintro r w1 ⟨rfl, rfl⟩))
    go_ret
    exact ⟨congrArg (fun z => Ending.returned (.bool z)) (by simp), rfl⟩
end Go.Proofs.Ytefocgifgphgiaa
