/-
  The law MemberAlgebra over this translation, over a MemberSpec.
-/
import Derived.Test.YtefocgifgphgiaaMbMeet
namespace Go.Proofs.Ytefocgifgphgiaa
open Go.RowKit
set_option linter.unusedVariables false

set_option maxRecDepth 100000 in
set_option maxHeartbeats 8000000 in
theorem algebra_go (S : MemberSpec) (x y n : Nat) (hx : x < 256) (hy : y < 256) (hn : n < 256) (w : World) :
    Calls Try.prog 6 #[.int .u8 (x : Nat), .int .u8 (y : Nat), .int .u8 (n : Nat)] w fun e w' => e = .returned (.bool true) ∧ Below w.heap.size w w' := by
  have HW := Lib.hid S.wakes
  have HW1 := Lib.hid (show ∀ v, Calls Try.prog 17 #[.int .u8 (x : Nat), .int .u8 0] v fun r w' => r = .returned (.int .u8 (withL x 0 : Nat)) ∧ Below v.heap.size v w' from fun v => S.with_ v x 0 hx (by decide))
  have HW2 := Lib.hid (show ∀ v, Calls Try.prog 17 #[.int .u8 (y : Nat), .int .u8 0] v fun r w' => r = .returned (.int .u8 (withL y 0 : Nat)) ∧ Below v.heap.size v w' from fun v => S.with_ v y 0 hy (by decide))
  have HLX := Lib.hid (show ∀ v, Calls Try.prog 15 #[.int .u8 (x : Nat)] v fun r w' => r = .returned (.int .i64 (lenL (withL x 0) : Nat)) ∧ Below v.heap.size v w' from fun v => by have := S.len v x hx; rwa [← with_zero] at this)
  have hs8 : withL x 0 < 128 := mk_lt _
  have ho8 : withL y 0 < 128 := mk_lt _
  generalize withL x 0 = s at *
  generalize withL y 0 = o at *
  have hs : s < 256 := by omega
  have ho : o < 256 := by omega
  have ha : withoutL s o < 256 := mk_lt' _
  have hb : bothL s o < 256 := mk_lt' _
  have hu : withL s o < 256 := mk_lt' _
  have HA := Lib.hid (fun v => S.without v s o hs ho)
  have HB := Lib.hid (fun v => S.both v s o hs ho)
  have HAB := Lib.hid (show ∀ v, Calls Try.prog 17 #[.int .u8 (withoutL s o : Nat), .int .u8 (bothL s o : Nat)] v fun r w' => r = .returned (.int .u8 (s : Nat)) ∧ Below v.heap.size v w' from fun v => by have := S.with_ v (withoutL s o) (bothL s o) ha hb; rwa [with_parts hs8] at this)
  have HBB := Lib.hid (show ∀ v, Calls Try.prog 19 #[.int .u8 (withoutL s o : Nat), .int .u8 (bothL s o : Nat)] v fun r w' => r = .returned (.int .u8 0) ∧ Below v.heap.size v w' from fun v => by have := S.both v (withoutL s o) (bothL s o) ha hb; rwa [both_parts] at this)
  have HU1 := Lib.hid (fun v => S.with_ v s o hs ho)
  have HU2 := Lib.hid (show ∀ v, Calls Try.prog 17 #[.int .u8 (o : Nat), .int .u8 (s : Nat)] v fun r w' => r = .returned (.int .u8 (withL s o : Nat)) ∧ Below v.heap.size v w' from fun v => by have := S.with_ v o s ho hs; rwa [with_comm] at this)
  have HLA := Lib.hid (fun v => S.len v (withoutL s o) ha)
  have HLB := Lib.hid (fun v => S.len v (bothL s o) hb)
  have HLS := Lib.hid (fun v => S.len v s hs)
  have HLO := Lib.hid (fun v => S.len v o ho)
  have HLU := Lib.hid (fun v => S.len v (withL s o) hu)
  have hp := len_parts s o
  have hq := len_sum s o
  have l1 := lenF_le (bt (withoutL s o))
  have l2 := lenF_le (bt (bothL s o))
  have l3 := lenF_le (bt s)
  have l4 := lenF_le (bt o)
  have l5 := lenF_le (bt (withL s o))
  have M1 := fun v => S.has v s n hs hn
  have M2 := fun v => S.has v o n ho hn
  have M3 := fun v => S.has v (withL s o) n hu hn
  have M4 := fun v => S.has v (bothL s o) n hb hn
  have M5 := fun v => S.has v (withoutL s o) n ha hn
  rw [has_with] at M3
  rw [has_both] at M4
  rw [has_without] at M5
  have HTD := Lib.hid (show ∀ v, Calls Try.prog 9 #[.int .u8 (s : Nat), .int .i64 99] v fun r w' => ∃ v', r = .returned v' ∧ OwnU w' v.heap.size v' (nodesL s) ∧ Below v.heap.size v w' from fun v => by
    have := S.told v s 99 hs (by decide) (by decide)
    rwa [List.take_of_length_le (by rw [len_nodes]; exact Nat.le_trans (lenF_le _) (by decide))] at this)
  have hln : (nodesL s).length ≤ 7 := by rw [len_nodes]; exact lenF_le _
  have HOF := Lib.hid (show ∀ v a c, Src v a (nodesL s).length c (nodesL s) → Calls Try.prog 10 #[.slice a (nodesL s).length c] v fun r w' => r = .returned (.int .u8 (s : Nat)) ∧ Below v.heap.size v w' from fun v a c h => by have := S.of v a _ c _ h (by omega); rwa [of_nodes hs8] at this)
  have MSS := fun v => S.major v s s hs hs
  have MSO := fun v => S.major v s o hs ho
  have MY := fun v => S.may v s s hs hs
  rw [may_self] at MY
  have HND := Lib.hid (fun v => S.need v s hs)
  have hms := fun h => major_self (s := s) h
  have hmo := fun h => major_need (s := s) (o := o) h
  have hnl : needL s ≤ 4 := by unfold needL; have := lenF_le (bt s); unfold lenL; omega
  change lenL (withoutL s o) ≤ 7 at l1
  change lenL (bothL s o) ≤ 7 at l2
  change lenL s ≤ 7 at l3
  change lenL o ≤ 7 at l4
  change lenL (withL s o) ≤ 7 at l5
  generalize hasL s n = h1 at *
  generalize hasL o n = h2 at *
  generalize lenL (withoutL s o) = ka at *
  generalize lenL (bothL s o) = kb at *
  generalize lenL s = ks at *
  generalize lenL o = ko at *
  generalize lenL (withL s o) = ku at *
  generalize withoutL s o = a at *
  generalize bothL s o = b at *
  generalize withL s o = u at *
  generalize majorL s s = m1 at *
  generalize majorL s o = m2 at *
  generalize nodesL s = ls at *
  generalize needL s = nd at *
  have e1 : (ka : Int) + (kb : Int) = (ks : Int) := by omega
  have e2 : (ku : Int) + (kb : Int) = (ks : Int) + (ko : Int) := by omega
  have HB0 := Lib.hid (Below.refl w.heap.size w)
  clear hx hy hn hs ho ha hb hu hs8 ho8 hp hq hln
  obtain ⟨t, ht⟩ : ∃ t, (ks = 0 ∧ t = 0) ∨ (ks ≠ 0 ∧ kb < nd ∧ t = 1) ∨ (ks ≠ 0 ∧ ¬ kb < nd ∧ t = 2) := by
    by_cases q1 : ks = 0
    · exact ⟨0, .inl ⟨q1, rfl⟩⟩
    · by_cases q2 : kb < nd
      · exact ⟨1, .inr (.inl ⟨q1, q2, rfl⟩)⟩
      · exact ⟨2, .inr (.inr ⟨q1, q2, rfl⟩)⟩
  rcases ht with ⟨q1, _⟩ | ⟨q1, q2, _⟩ | ⟨q1, q2, _⟩ <;> cases h1 <;> cases h2
  all_goals
    simp only [Bool.or_false, Bool.or_true, Bool.and_true, Bool.and_false, Bool.not_true, Bool.not_false] at M1 M2 M3 M4 M5
    have H1 := Lib.hid M1
    have H2 := Lib.hid M2
    have H3 := Lib.hid M3
    have H4 := Lib.hid M4
    have H5 := Lib.hid M5
    clear M1 M2 M3 M4 M5
    first | (have hh : 0 < ks := (by omega); have hh2 := hms hh; subst hh2) | skip
    first | (have hh : ¬ kb < nd := (by omega); have hh2 := hmo hh; subst hh2) | skip
    have HMSS := Lib.hid MSS
    have HMSO := Lib.hid MSO
    have HMY := Lib.hid (show ∀ v, Calls Try.prog 22 #[.int .u8 (s : Nat), .int .u8 (s : Nat)] v fun r w' => r = .returned (.bool (decide ((0 : Int) < (ks : Int)))) ∧ Below v.heap.size v w' from fun v => by have := MY v; rwa [show decide (0 < ks) = decide ((0 : Int) < (ks : Int)) by rw [decide_eq_decide]; omega] at this)
    clear MSS MSO MY hms hmo
    have q3 : (ks : Int) = 0 ∨ ¬ (ks : Int) = 0 := by omega
    (try have q4 : (kb : Int) < (nd : Int) := by omega)
    (try have q5 : ¬ (kb : Int) < (nd : Int) := by omega)
    (try have q6 : (ks : Int) = 0 := by omega)
    (try have q7 : ¬ (ks : Int) = 0 := by omega)
    (try have q8 : (0 : Int) < (ks : Int) := by omega)
    clear q1 q3
    (try clear q2)
    go_enter Try.func6, Try.ntmps6
    go_wp2_with (first
      | (go_at_call 17; (first | (with_reducible refine (HW1.out _).mono ?_) | (with_reducible refine (HW2.out _).mono ?_) | (with_reducible refine (HAB.out _).mono ?_) | (with_reducible refine (HU1.out _).mono ?_) | (with_reducible refine (HU2.out _).mono ?_)); rintro r9 w9 ⟨rfl, b9⟩; have HB0 := Lib.hid (HB0.out.trans (b9.mono HB0.out.size)); clear b9)
      | (go_at_call 18; (with_reducible refine (HA.out _).mono ?_); rintro r9 w9 ⟨rfl, b9⟩; have HB0 := Lib.hid (HB0.out.trans (b9.mono HB0.out.size)); clear b9)
      | (go_at_call 19; (first | (with_reducible refine (HB.out _).mono ?_) | (with_reducible refine (HBB.out _).mono ?_)); rintro r9 w9 ⟨rfl, b9⟩; have HB0 := Lib.hid (HB0.out.trans (b9.mono HB0.out.size)); clear b9)
      | (go_at_call 15; (first | (with_reducible refine (HLA.out _).mono ?_) | (with_reducible refine (HLB.out _).mono ?_) | (with_reducible refine (HLS.out _).mono ?_) | (with_reducible refine (HLO.out _).mono ?_) | (with_reducible refine (HLU.out _).mono ?_) | (with_reducible refine (HLX.out _).mono ?_)); rintro r9 w9 ⟨rfl, b9⟩; have HB0 := Lib.hid (HB0.out.trans (b9.mono HB0.out.size)); clear b9)
      | (go_at_call 13; (first | (with_reducible refine (H1.out _).mono ?_) | (with_reducible refine (H2.out _).mono ?_) | (with_reducible refine (H3.out _).mono ?_) | (with_reducible refine (H4.out _).mono ?_) | (with_reducible refine (H5.out _).mono ?_)); rintro r9 w9 ⟨rfl, b9⟩; have HB0 := Lib.hid (HB0.out.trans (b9.mono HB0.out.size)); clear b9)
      | (go_at_call 20; (first | (with_reducible refine (HMSS.out _).mono ?_) | (with_reducible refine (HMSO.out _).mono ?_)); rintro r9 w9 ⟨rfl, b9⟩; have HB0 := Lib.hid (HB0.out.trans (b9.mono HB0.out.size)); clear b9)
      | (go_at_call 22; (with_reducible refine (HMY.out _).mono ?_); rintro r9 w9 ⟨rfl, b9⟩; have HB0 := Lib.hid (HB0.out.trans (b9.mono HB0.out.size)); clear b9)
      | (go_at_call 24; (with_reducible refine (HND.out _).mono ?_); rintro r9 w9 ⟨rfl, b9⟩; have HB0 := Lib.hid (HB0.out.trans (b9.mono HB0.out.size)); clear b9)
      | (go_at_call 7; (with_reducible refine (HW.out _).mono ?_); rintro r9 w9 ⟨rfl, b9⟩; have HB0 := Lib.hid (HB0.out.trans (b9.mono HB0.out.size)); clear b9)
      | (go_at_call 9; (with_reducible refine (HTD.out _).mono ?_); rintro r9 w9 ⟨v9, rfl, o9, b9⟩; obtain ⟨a9, c9, rfl, s9⟩ := o9.form; have HS9 := Lib.hid s9; clear s9 o9; have HB0 := Lib.hid (HB0.out.trans (b9.mono HB0.out.size)); clear b9)
      | (go_at_call 10; (with_reducible refine (HOF.out _ _ _ HS9.out).mono ?_); rintro r9 w9 ⟨rfl, b9⟩; have HB0 := Lib.hid (HB0.out.trans (b9.mono HB0.out.size)); clear b9))
    go_ret
    exact ⟨rfl, HB0.out⟩
end Go.Proofs.Ytefocgifgphgiaa
