/-
  The landed ballot's order of two, and Below.
-/
import Derived.Test.YtafhljmeofnbnaaBlCode
namespace Go.Proofs.Ytafhljmeofnbnaa
open Go.RowKit
set_option linter.unusedVariables false

/-- Two boxes. -/
structure TwoS (q : Nat) (a b : Bal) (w0 w : World) : Prop where
  b1 : BalB q a w
  b2 : BalB (q + 1) b w
  bel : Below w0.heap.size w0 w
theorem TwoS.below {q : Nat} {a b : Bal} {w0 w w' : World} (h : TwoS q a b w0 w) (hb : Below w.heap.size w w') : TwoS q a b w0 w' := ⟨h.b1.below hb, h.b2.below hb, h.bel.trans (hb.mono h.bel.size)⟩
theorem TwoS.c {q : Nat} {a b : Bal} {w0 w : World} (h : TwoS q a b w0 w) : OrdC q a b w := ⟨h.b1.vals, h.b2.vals⟩
theorem two_new (w : World) (a b : Bal) : TwoS w.heap.size a b w ((w.alloc (.cells #[.int .u64 (a.1 : Nat), .int .u8 (a.2 : Nat)] 25)).alloc (.cells #[.int .u64 (b.1 : Nat), .int .u8 (b.2 : Nat)] 25)) := by
  have e1 := BalB.new w a
  have e2 := BalB.new (w.alloc (.cells #[.int .u64 (a.1 : Nat), .int .u8 (a.2 : Nat)] 25)) b
  simp only [World.size_alloc] at e2
  exact ⟨e1.below ((Below.refl _ _).alloc (Nat.le_refl _) _), e2, ((Below.refl _ w).alloc (Nat.le_refl _) _).alloc (by simp) _⟩
theorem two_ints (v : World) (x y : Int) : (v.alloc (.cells #[.int .i64 x, .int .i64 y] 3)).cell? ⟨v.heap.size, 0, none⟩ = some (.int .i64 x) ∧ (v.alloc (.cells #[.int .i64 x, .int .i64 y] 3)).cell? ⟨v.heap.size, 1, none⟩ = some (.int .i64 y) := by
  have h := heap_alloc_new v (.cells #[.int .i64 x, .int .i64 y] 3)
  exact ⟨by rw [cell_of_row _ _ 0 _ _ _ h]; rfl, by rw [cell_of_row _ _ 1 _ _ _ h]; rfl⟩

set_option maxRecDepth 100000 in
set_option maxHeartbeats 1000000 in
theorem order_is (a b : Bal) (w : World) : Calls Try.prog 27 #[balV a, balV b] w fun r w' => r = .returned (.int .i64 (ordI a b)) ∧ Below w.heap.size w w' := by
  have K := two_new w a b
  have HC1 := Lib.hid (fun v => cmp64_any a.1 b.1 v)
  have HC2 := Lib.hid (fun v => cmp8_any a.2 b.2 v)
  have HV := Lib.hid (show (cmpI a.1 b.1 ≠ 0 → ordI a b = cmpI a.1 b.1) ∧ (cmpI a.1 b.1 = 0 → ordI a b = cmpI a.2 b.2) from ⟨fun h => if_pos h, fun h => if_neg (by simp [h])⟩)
  generalize cmpI a.1 b.1 = x at *
  generalize cmpI a.2 b.2 = y at *
  generalize ordI a b = z at *
  have HO := Lib.hid (fun v => or_two v.heap.size x y (v.alloc (.cells #[.int .i64 x, .int .i64 y] 3)).drew (two_ints v x y).1 (two_ints v x y).2 z HV.out)
  go_enter Try.func27, Try.ntmps27
  unfold balV at *
  go_upto_region 1 with fail
  generalize ((w.alloc (.cells #[.int .u64 (a.1 : Nat), .int .u8 (a.2 : Nat)] 25)).alloc (.cells #[.int .u64 (b.1 : Nat), .int .u8 (b.2 : Nat)] 25)) = V at *
  have HK := Lib.hid (K.below ((Below.refl _ V).drew))
  clear K
  refine wp_region_held_drew (S := OrdC w.heap.size a b) (by kernel_rfl) (HK.out.c) (fun hHeld => ?_)
  refine take_run (i := 0) (v := ?_) rfl (by kernel_rfl) (by kernel_rfl) (by kernel_rfl) (fun _ _ _ h => h) (by kernel_rfl) ?_ (by assumption) ?_
  rotate_left
  · (intro w5 hSw; obtain ⟨⟨s0, s1⟩, s2, s3⟩ := hSw; go_simp); all_goals with_reducible rfl
  try simp only [Act.put, List.setIfInBounds_toArray, List.set_cons_zero, List.set_cons_succ]
  refine take_run (i := 1) (v := ?_) rfl (by kernel_rfl) (by kernel_rfl) (by kernel_rfl) (fun _ _ _ h => h) (by kernel_rfl) ?_ (by assumption) ?_
  rotate_left
  · (intro w5 hSw; obtain ⟨⟨s0, s1⟩, s2, s3⟩ := hSw; go_simp); all_goals with_reducible rfl
  try simp only [Act.put, List.setIfInBounds_toArray, List.set_cons_zero, List.set_cons_succ]
  refine take_run (i := 2) (v := ?_) rfl (by kernel_rfl) (by kernel_rfl) (by kernel_rfl) (fun _ _ _ h => h) (by kernel_rfl) ?_ (by assumption) ?_
  rotate_left
  · (intro w5 hSw; obtain ⟨⟨s0, s1⟩, s2, s3⟩ := hSw; go_simp); all_goals with_reducible rfl
  try simp only [Act.put, List.setIfInBounds_toArray, List.set_cons_zero, List.set_cons_succ]
  refine take_run (i := 3) (v := ?_) rfl (by kernel_rfl) (by kernel_rfl) (by kernel_rfl) (fun _ _ _ h => h) (by kernel_rfl) ?_ (by assumption) ?_
  rotate_left
  · (intro w5 hSw; obtain ⟨⟨s0, s1⟩, s2, s3⟩ := hSw; go_simp); all_goals with_reducible rfl
  try simp only [Act.put, List.setIfInBounds_toArray, List.set_cons_zero, List.set_cons_succ]
  refine take_run (i := 5) (v := ?_) rfl (by kernel_rfl) (by kernel_rfl) (by kernel_rfl) (fun _ _ _ h => h) (by kernel_rfl) ?_ (by assumption) ?_
  rotate_left
  · (intro w5 hSw; obtain ⟨⟨s0, s1⟩, s2, s3⟩ := hSw; go_simp); all_goals with_reducible rfl
  try simp only [Act.put, List.setIfInBounds_toArray, List.set_cons_zero, List.set_cons_succ]
  refine take_run (i := 6) (v := ?_) rfl (by kernel_rfl) (by kernel_rfl) (by kernel_rfl) (fun _ _ _ h => h) (by kernel_rfl) ?_ (by assumption) ?_
  rotate_left
  · (intro w5 hSw; obtain ⟨⟨s0, s1⟩, s2, s3⟩ := hSw; go_simp); all_goals with_reducible rfl
  try simp only [Act.put, List.setIfInBounds_toArray, List.set_cons_zero, List.set_cons_succ]
  refine take_run (i := 7) (v := ?_) rfl (by kernel_rfl) (by kernel_rfl) (by kernel_rfl) (fun _ _ _ h => h) (by kernel_rfl) ?_ (by assumption) ?_
  rotate_left
  · (intro w5 hSw; obtain ⟨⟨s0, s1⟩, s2, s3⟩ := hSw; go_simp); all_goals with_reducible rfl
  try simp only [Act.put, List.setIfInBounds_toArray, List.set_cons_zero, List.set_cons_succ]
  refine take_run (i := 8) (v := ?_) rfl (by kernel_rfl) (by kernel_rfl) (by kernel_rfl) (fun _ _ _ h => h) (by kernel_rfl) ?_ (by assumption) ?_
  rotate_left
  · (intro w5 hSw; obtain ⟨⟨s0, s1⟩, s2, s3⟩ := hSw; go_simp); all_goals with_reducible rfl
  try simp only [Act.put, List.setIfInBounds_toArray, List.set_cons_zero, List.set_cons_succ]
  refine take_call (i := 4) rfl (by kernel_rfl) (by kernel_rfl) (fun K hK => ?_)
  go_simp; refine (HC1.out _).mono ?_; rintro r w21 ⟨rfl, rfl⟩
  go_wp2_with fail
  clear hHeld
  refine hK.out _ _ ?_ (fun hHeld => ?_)
  · exact HK.out.c
  clear hK K
  try simp only [Act.put, List.setIfInBounds_toArray, List.set_cons_zero, List.set_cons_succ]
  refine take_call (i := 9) rfl (by kernel_rfl) (by kernel_rfl) (fun K hK => ?_)
  go_simp; refine (HC2.out _).mono ?_; rintro r w22 ⟨rfl, rfl⟩
  go_wp2_with fail
  clear hHeld
  refine hK.out _ _ ?_ (fun hHeld => ?_)
  · exact HK.out.c
  clear hK K
  try simp only [Act.put, List.setIfInBounds_toArray, List.set_cons_zero, List.set_cons_succ]
  refine take_call (i := 10) rfl (by kernel_rfl) (by kernel_rfl) (fun K hK => ?_)
  go_simp; have HK1 := Lib.hid (HK.out.below ((Below.refl _ _).alloc (Nat.le_refl _) (.cells #[.int .i64 x, .int .i64 y] 3)))
  go_wp2_with fail
  clear hHeld
  refine hK.out _ _ ?_ (fun hHeld => ?_)
  · exact HK1.out.c
  clear hK K
  try simp only [Act.put, List.setIfInBounds_toArray, List.set_cons_zero, List.set_cons_succ]
  refine take_call (i := 11) rfl (by kernel_rfl) (by kernel_rfl) (fun K hK => ?_)
  go_simp; refine (HO.out _).mono ?_; rintro r w23 ⟨rfl, rfl⟩
  go_wp2_with fail
  clear hHeld
  refine hK.out _ _ ?_ (fun hHeld => ?_)
  · exact HK1.out.c
  clear hK K
  try simp only [Act.put, List.setIfInBounds_toArray, List.set_cons_zero, List.set_cons_succ]
  refine take_run (i := 12) (v := ?_) rfl (by kernel_rfl) (by kernel_rfl) (by kernel_rfl) (fun _ _ _ h => h) (by kernel_rfl) ?_ (by assumption) ?_
  rotate_left
  · (intro w5 hSw; obtain ⟨⟨s0, s1⟩, s2, s3⟩ := hSw; go_simp); all_goals with_reducible rfl
  try simp only [Act.put, List.setIfInBounds_toArray, List.set_cons_zero, List.set_cons_succ]
  refine wpAnyH_done (by kernel_rfl) ?_ _
  have HKZ := HK1
  go_wp2
  go_ret
  exact ⟨rfl, HKZ.out.bel⟩

theorem below_is (a b : Bal) (w : World) : Calls Try.prog 13 #[balV a, balV b] w fun r w' => r = .returned (.bool (belowL a b)) ∧ Below w.heap.size w w' := by
  have K := two_new w a b
  have HO := Lib.hid (fun v => order_is a b v)
  have hlt := ord_neg a b
  have HR := Lib.hid (show decide (ordI a b < 0) = belowL a b by rw [Bool.eq_iff_iff, decide_eq_true_eq]; exact iff_of_eq (ord_neg a b))
  generalize ordI a b = z at *
  generalize belowL a b = t at *
  clear hlt
  go_enter Try.func13, Try.ntmps13
  unfold balV at *
  go_upto_region 1 with fail
  generalize ((w.alloc (.cells #[.int .u64 (a.1 : Nat), .int .u8 (a.2 : Nat)] 25)).alloc (.cells #[.int .u64 (b.1 : Nat), .int .u8 (b.2 : Nat)] 25)) = V at *
  obtain ⟨⟨k0, k1⟩, k2, k3⟩ := K.c
  have HK := Lib.hid K.bel
  clear K
  go_wp2_with (go_at_call 27; (with_reducible refine (HO.out _).mono ?_); rintro r w1 ⟨rfl, b1⟩)
  go_ret
  exact ⟨by rw [← HR.out]; rfl, HK.out.trans (b1.mono HK.out.size)⟩
end Go.Proofs.Ytafhljmeofnbnaa
