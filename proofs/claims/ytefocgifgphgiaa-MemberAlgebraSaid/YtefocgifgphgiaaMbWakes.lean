/-
  Sets that are known: the laws' own 'wakes' over this translation, over a MemberSpec; majorities of the document's lists.
-/
import Derived.Test.YtefocgifgphgiaaMbRef
namespace Go.Proofs.Ytefocgifgphgiaa
open Go.RowKit
set_option linter.unusedVariables false

theorem lit_src (w : World) (l : List UInt8) (cs : Array Value) (h : cs.toList = Lib.byteCells l) (hl : l.length ≤ 100) : Src (w.alloc (.cells cs 5)) (some ⟨w.heap.size, 0, none⟩) l.length l.length l := by
  have hs : cs.size = l.length * 1 := by rw [← Array.length_toList, h, Lib.byteCells_length]; omega
  have := World.ownsRow_lit (e := 5) w cs l.length (Nat.le_refl _) (by unfold maxLen; omega) hs
  rw [h] at this
  exact Src.of_own this

set_option maxRecDepth 100000 in
set_option maxHeartbeats 2000000 in
theorem MemberSpec.wakes (S : MemberSpec) (w : World) : Calls Try.prog 7 #[] w fun e w' => e = .returned (.bool true) ∧ Below w.heap.size w w' := by
  have hof : ∀ (l : List UInt8) (cs : Array Value) (k n : Nat), l.length = n → cs.toList = Lib.byteCells l → l.length ≤ 100 → ofL l = k → ∀ (v : World), Calls Try.prog 10 #[.slice (some ⟨v.heap.size, 0, none⟩) n n] (v.alloc (.cells cs 5)) fun r w' => r = .returned (.int .u8 (k : Nat)) ∧ Below (v.alloc (.cells cs 5)).heap.size (v.alloc (.cells cs 5)) w' := by
    intro l cs k n h0 h1 h2 h3 v
    subst h3 h0
    exact S.of _ _ _ _ _ (lit_src v l cs h1 h2) h2
  have H1 := Lib.hid (hof [0, 2, 9] #[.int .u8 0, .int .u8 2, .int .u8 9] 5 3 rfl rfl (by decide) (by decide))
  have H2 := Lib.hid (hof [0, 1, 2] #[.int .u8 0, .int .u8 1, .int .u8 2] 7 3 rfl rfl (by decide) (by decide))
  have H3 := Lib.hid (hof [1, 2, 6] #[.int .u8 1, .int .u8 2, .int .u8 6] 70 3 rfl rfl (by decide) (by decide))
  have H4 := Lib.hid (show ∀ v, Calls Try.prog 10 #[.slice none 0 0] v fun r w' => r = .returned (.int .u8 0) ∧ Below v.heap.size v w' from fun v => S.of v none 0 0 [] (Src.nil v) (by decide))
  have H5 := Lib.hid (hof [0] #[.int .u8 0] 1 1 rfl rfl (by decide) (by decide))
  have H6 := Lib.hid (hof [0, 1, 2, 3] #[.int .u8 0, .int .u8 1, .int .u8 2, .int .u8 3] 15 4 rfl rfl (by decide) (by decide))
  have H7 := Lib.hid (show ∀ v, Calls Try.prog 12 #[.int .i64 3] v fun r w' => r = .returned (.int .u8 7) ∧ Below v.heap.size v w' from fun v => S.first v 3 (by decide) (by decide))
  have H8 := Lib.hid (show ∀ v, Calls Try.prog 13 #[.int .u8 5, .int .u8 2] v fun r w' => r = .returned (.bool true) ∧ Below v.heap.size v w' from fun v => S.has v 5 2 (by decide) (by decide))
  have H9 := Lib.hid (show ∀ v, Calls Try.prog 13 #[.int .u8 5, .int .u8 1] v fun r w' => r = .returned (.bool false) ∧ Below v.heap.size v w' from fun v => S.has v 5 1 (by decide) (by decide))
  have H10 := Lib.hid (show ∀ v, Calls Try.prog 15 #[.int .u8 5] v fun r w' => r = .returned (.int .i64 2) ∧ Below v.heap.size v w' from fun v => S.len v 5 (by decide))
  have H11 := Lib.hid (show ∀ v, Calls Try.prog 20 #[.int .u8 7, .int .u8 70] v fun r w' => r = .returned (.bool true) ∧ Below v.heap.size v w' from fun v => S.major v 7 70 (by decide) (by decide))
  have H12 := Lib.hid (show ∀ v, Calls Try.prog 20 #[.int .u8 0, .int .u8 1] v fun r w' => r = .returned (.bool false) ∧ Below v.heap.size v w' from fun v => S.major v 0 1 (by decide) (by decide))
  have H13 := Lib.hid (show ∀ v, Calls Try.prog 24 #[.int .u8 15] v fun r w' => r = .returned (.int .i64 3) ∧ Below v.heap.size v w' from fun v => S.need v 15 (by decide))
  clear hof
  have HB0 := Lib.hid (Below.refl w.heap.size w)
  go_enter Try.func7, Try.ntmps7
  go_wp2_with (first
    | (go_at_call 10; (first | (with_reducible refine (H1.out _).mono ?_) | (with_reducible refine (H2.out _).mono ?_) | (with_reducible refine (H3.out _).mono ?_) | (with_reducible refine (H5.out _).mono ?_) | (with_reducible refine (H6.out _).mono ?_)); rintro r w1 ⟨rfl, b1⟩; have HB0 := Lib.hid (HB0.out.trans (((Below.refl _ _).alloc (Nat.le_refl _) _).trans (b1.mono (by simp)) |>.mono HB0.out.size)); clear b1)
    | (go_at_call 10; (with_reducible refine (H4.out _).mono ?_); rintro r w1 ⟨rfl, b1⟩; have HB0 := Lib.hid (HB0.out.trans (b1.mono HB0.out.size)); clear b1)
    | (go_at_call 12; (with_reducible refine (H7.out _).mono ?_); rintro r w1 ⟨rfl, b1⟩; have HB0 := Lib.hid (HB0.out.trans (b1.mono HB0.out.size)); clear b1)
    | (go_at_call 13; (first | (with_reducible refine (H8.out _).mono ?_) | (with_reducible refine (H9.out _).mono ?_)); rintro r w1 ⟨rfl, b1⟩; have HB0 := Lib.hid (HB0.out.trans (b1.mono HB0.out.size)); clear b1)
    | (go_at_call 15; (with_reducible refine (H10.out _).mono ?_); rintro r w1 ⟨rfl, b1⟩; have HB0 := Lib.hid (HB0.out.trans (b1.mono HB0.out.size)); clear b1)
    | (go_at_call 20; (first | (with_reducible refine (H11.out _).mono ?_) | (with_reducible refine (H12.out _).mono ?_)); rintro r w1 ⟨rfl, b1⟩; have HB0 := Lib.hid (HB0.out.trans (b1.mono HB0.out.size)); clear b1)
    | (go_at_call 24; (with_reducible refine (H13.out _).mono ?_); rintro r w1 ⟨rfl, b1⟩; have HB0 := Lib.hid (HB0.out.trans (b1.mono HB0.out.size)); clear b1))
  go_ret
  exact ⟨rfl, HB0.out⟩

theorem refMajor_is (w : World) (a a2 : Option Addr) (n c n2 c2 : Nat) (l b : List UInt8) (h : Src w a n c l) (h2 : Src w a2 n2 c2 b) (hn : n ≤ 1000000) (hn2 : n2 ≤ 1000000) (t : Bool) (ht : decide (n < 2 * (pickL l b true).length) = t) :
    Calls Try.prog 21 #[.slice a n c, .slice a2 n2 c2] w fun r w' => r = .returned (.bool t) ∧ Below w.heap.size w w' := by
  have H := Lib.hid (refPick_is w a a2 n c n2 c2 l b true h h2 hn hn2)
  have hk : (pickL l b true).length ≤ 1000000 := by
    have h1 := pick_len l b true l.length
    rw [List.take_length] at h1
    have := h.len
    omega
  obtain ⟨k, hk'⟩ : ∃ k, (pickL l b true).length = k := ⟨_, rfl⟩
  rw [hk'] at ht hk
  have HK := Lib.hid hk'
  have HT := Lib.hid (show decide ((n : Int) < 2 * (k : Int)) = t by rw [← ht, decide_eq_decide]; omega)
  clear hk' ht h h2
  go_enter Try.func21, Try.ntmps21
  go_wp2_with (go_at_call 16; (with_reducible refine H.out.mono ?_); rintro r w1 ⟨v, rfl, o1, b1⟩; obtain ⟨a1, c1, rfl, _⟩ := o1.form; rw [HK.out])
  go_ret
  exact ⟨by rw [← HT.out]; rfl, b1⟩
theorem refMay_is (w : World) (a a2 : Option Addr) (n c n2 c2 : Nat) (l b : List UInt8) (h : Src w a n c l) (h2 : Src w a2 n2 c2 b) (hn : n ≤ 1000000) (hn2 : n2 ≤ 1000000) (t : Bool) (ht : (decide (0 < n) && decide ((pickL l b false).length = 0)) = t) :
    Calls Try.prog 23 #[.slice a n c, .slice a2 n2 c2] w fun r w' => r = .returned (.bool t) ∧ Below w.heap.size w w' := by
  have H := Lib.hid (refPick_is w a a2 n c n2 c2 l b false h h2 hn hn2)
  obtain ⟨k, hk'⟩ : ∃ k, (pickL l b false).length = k := ⟨_, rfl⟩
  rw [hk'] at ht
  have HK := Lib.hid hk'
  have HT := Lib.hid ht
  clear hk' ht h h2
  by_cases h0 : 0 < n
  · have h0i : (0 : Int) < (n : Int) := by omega
    have HT2 := Lib.hid (show decide ((k : Int) = 0) = t by have := HT.out; rw [decide_eq_true h0, Bool.true_and] at this; rw [← this, decide_eq_decide]; omega)
    go_enter Try.func23, Try.ntmps23
    go_wp2_with (go_at_call 16; (with_reducible refine H.out.mono ?_); rintro r w1 ⟨v, rfl, o1, b1⟩; obtain ⟨a1, c1, rfl, _⟩ := o1.form; rw [HK.out])
    go_ret
    exact ⟨by rw [← HT2.out]; rfl, b1⟩
  · have h0i : ¬ (0 : Int) < (n : Int) := by omega
    have HT2 := Lib.hid (show false = t by have := HT.out; rw [decide_eq_false h0, Bool.false_and] at this; exact this)
    go_enter Try.func23, Try.ntmps23
    go_wp2_with fail
    go_ret
    exact ⟨by rw [← HT2.out]; rfl, Below.refl _ _⟩
end Go.Proofs.Ytefocgifgphgiaa
