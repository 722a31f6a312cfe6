/-
  Ballots that are known: the laws' own 'wakes' over this translation, over a BallotSpec.
-/
import Derived.Test.YtafhljmeofnbnaaBlSpec
import Derived.Deep.Cut
namespace Go.Proofs.Ytafhljmeofnbnaa
open Go.RowKit
set_option linter.unusedVariables false

/-- What the three boxes hold. -/
structure WkS (q1 q2 q3 : Nat) (w0 w : World) : Prop where
  b1 : BalB q1 (1, 2) w
  b2 : BalB q2 (3, 2) w
  b3 : BalB q3 (4, 1) w
  bel : Below w0.heap.size w0 w
theorem WkS.below {q1 q2 q3 : Nat} {w0 w w' : World} (h : WkS q1 q2 q3 w0 w) (hb : Below w.heap.size w w') : WkS q1 q2 q3 w0 w' := ⟨h.b1.below hb, h.b2.below hb, h.b3.below hb, h.bel.trans (hb.mono h.bel.size)⟩
def WkC (q1 q2 q3 : Nat) (w : World) : Prop := (w.cell? ⟨q1, 0, none⟩ = some (.int .u64 1) ∧ w.cell? ⟨q1, 1, none⟩ = some (.int .u8 2)) ∧ (w.cell? ⟨q2, 0, none⟩ = some (.int .u64 3) ∧ w.cell? ⟨q2, 1, none⟩ = some (.int .u8 2)) ∧ w.cell? ⟨q3, 0, none⟩ = some (.int .u64 4) ∧ w.cell? ⟨q3, 1, none⟩ = some (.int .u8 1)
theorem WkS.c {q1 q2 q3 : Nat} {w0 w : World} (h : WkS q1 q2 q3 w0 w) : WkC q1 q2 q3 w := ⟨h.b1.vals, h.b2.vals, h.b3.vals⟩
theorem three_bals (w : World) : Bals (w.alloc (.cells #[.int .u64 1, .int .u8 1, .int .u64 1, .int .u8 3, .int .u64 1, .int .u8 2] 25)) (some ⟨w.heap.size, 0, none⟩) 3 [(1, 1), (1, 3), (1, 2)] := by
  have h := heap_alloc_new w (.cells #[.int .u64 1, .int .u8 1, .int .u64 1, .int .u8 3, .int .u64 1, .int .u8 2] 25)
  refine ⟨rfl, ?_, fun _ => ⟨_, 0, rfl, ?_⟩⟩
  · intro b hb
    simp only [List.mem_cons, List.not_mem_nil, or_false] at hb
    rcases hb with rfl | rfl | rfl <;> decide
  · intro j hj
    simp at hj
    match j, hj with
    | 0, _ => exact ⟨by rw [cell_of_row _ _ 0 _ _ _ h]; rfl, by rw [cell_of_row _ _ 1 _ _ _ h]; rfl⟩
    | 1, _ => exact ⟨by rw [cell_of_row _ _ 2 _ _ _ h]; rfl, by rw [cell_of_row _ _ 3 _ _ _ h]; rfl⟩
    | 2, _ => exact ⟨by rw [cell_of_row _ _ 4 _ _ _ h]; rfl, by rw [cell_of_row _ _ 5 _ _ _ h]; rfl⟩

set_option maxRecDepth 100000 in
set_option maxHeartbeats 4000000 in
theorem BallotSpec.wakes (S : BallotSpec) (w : World) : Calls Try.prog 8 #[] w fun e w' => e = .returned (.bool true) ∧ Below w.heap.size w w' := by
  have H1 : ∀ v, Calls Try.prog 9 #[.agg #[.int .u64 0, .int .u8 0], .int .u8 2] v fun e w' => e = .returned (.tuple #[.agg #[.int .u64 1, .int .u8 2], .int .i64 0]) ∧ Below v.heap.size v w' := fun v => S.turn v (0, 0) 2 (by decide) (by decide)
  have H2 : ∀ v, Calls Try.prog 9 #[.agg #[.int .u64 3, .int .u8 1], .int .u8 2] v fun e w' => e = .returned (.tuple #[.agg #[.int .u64 3, .int .u8 2], .int .i64 0]) ∧ Below v.heap.size v w' := fun v => S.turn v (3, 1) 2 (by decide) (by decide)
  have H3 : ∀ v, Calls Try.prog 9 #[.agg #[.int .u64 3, .int .u8 1], .int .u8 1] v fun e w' => e = .returned (.tuple #[.agg #[.int .u64 4, .int .u8 1], .int .i64 0]) ∧ Below v.heap.size v w' := fun v => S.turn v (3, 1) 1 (by decide) (by decide)
  have H4 : ∀ v, Calls Try.prog 13 #[.agg #[.int .u64 1, .int .u8 6], .agg #[.int .u64 2, .int .u8 0]] v fun e w' => e = .returned (.bool true) ∧ Below v.heap.size v w' := fun v => S.below v (1, 6) (2, 0) (by decide) (by decide)
  have H5 : ∀ v : World, ∀ c, Calls Try.prog 15 #[.slice (some ⟨v.heap.size, 0, none⟩) 3 c] (v.alloc (.cells #[.int .u64 1, .int .u8 1, .int .u64 1, .int .u8 3, .int .u64 1, .int .u8 2] 25)) fun e w' => e = .returned (.agg #[.int .u64 1, .int .u8 3]) ∧ Below (v.alloc (.cells #[.int .u64 1, .int .u8 1, .int .u64 1, .int .u8 3, .int .u64 1, .int .u8 2] 25)).heap.size (v.alloc (.cells #[.int .u64 1, .int .u8 1, .int .u64 1, .int .u8 3, .int .u64 1, .int .u8 2] 25)) w' := fun v c => S.top _ _ 3 c _ (three_bals v) (by decide)
  have H6 : ∀ v, Calls Try.prog 17 #[.slice none 0 0, .agg #[.int .u64 5, .int .u8 3]] v fun r w' => ∃ g n' c', r = .returned (.slice (some ⟨g, 0, none⟩) n' c') ∧ Own w' v.heap.size g n' c' [5, 3] ∧ Below v.heap.size v w' := fun v => S.put v none 0 0 [] (5, 3) (Src.nil v) (by decide) (by decide)
  have HH1 := Lib.hid H1
  have HH2 := Lib.hid H2
  have HH3 := Lib.hid H3
  have HH4 := Lib.hid H4
  have HH5 := Lib.hid H5
  have HH6 := Lib.hid H6
  clear H1 H2 H3 H4 H5 H6
  go_enter Try.func8, Try.ntmps8
  go_upto_region 2 with (go_at_call 9; refine (HH1.out _).mono ?_; rintro r w1 ⟨rfl, b1⟩)
  have B1 : BalB w1.heap.size (1, 2) (w1.alloc (.cells #[.int .u64 1, .int .u8 2] 25)) := BalB.new w1 (1, 2)
  have L1 : Below w.heap.size w (w1.alloc (.cells #[.int .u64 1, .int .u8 2] 25)) := b1.alloc b1.size _
  generalize w1.alloc (.cells #[.int .u64 1, .int .u8 2] 25) = V1 at *
  have HB1 := Lib.hid B1
  have HL1 := Lib.hid L1
  clear B1 L1 b1
  go_upto_region 3 with (first
    | (go_at_call 24; refine (of_is _ _ _).mono ?_; rintro r w2 ⟨rfl, b2⟩)
    | (go_at_call 9; refine (HH2.out _).mono ?_; rintro r w3 ⟨rfl, b3⟩))
  have B2 : BalB w3.heap.size (3, 2) (w3.alloc (.cells #[.int .u64 3, .int .u8 2] 25)) := BalB.new w3 (3, 2)
  have L2 : Below V1.heap.size V1 (w3.alloc (.cells #[.int .u64 3, .int .u8 2] 25)) := (b2.trans (b3.mono b2.size)).alloc (Nat.le_trans b2.size b3.size) _
  generalize w3.alloc (.cells #[.int .u64 3, .int .u8 2] 25) = V3 at *
  have HB2 := Lib.hid B2
  have HL2 := Lib.hid L2
  clear B2 L2 b2 b3
  go_upto_region 4 with (first
    | (go_at_call 24; refine (of_is _ _ _).mono ?_; rintro r w4 ⟨rfl, b4⟩)
    | (go_at_call 9; refine (HH3.out _).mono ?_; rintro r w5 ⟨rfl, b5⟩))
  have B3 : BalB w5.heap.size (4, 1) (w5.alloc (.cells #[.int .u64 4, .int .u8 1] 25)) := BalB.new w5 (4, 1)
  have L3 : Below V3.heap.size V3 (w5.alloc (.cells #[.int .u64 4, .int .u8 1] 25)) := (b4.trans (b5.mono b4.size)).alloc (Nat.le_trans b4.size b5.size) _
  generalize w5.alloc (.cells #[.int .u64 4, .int .u8 1] 25) = V5 at *
  have K : WkS w1.heap.size w3.heap.size w5.heap.size w V5 := ⟨(HB1.out.below HL2.out).below L3, HB2.out.below L3, B3, (HL1.out.trans (HL2.out.mono HL1.out.size)).trans (L3.mono (Nat.le_trans HL1.out.size HL2.out.size))⟩
  generalize w1.heap.size = q1 at *
  generalize w3.heap.size = q2 at *
  generalize w5.heap.size = q3 at *
  have HK := Lib.hid (K.below ((Below.refl _ V5).drew))
  clear K B3 L3 b4 b5 HB1 HB2 HL1 HL2
  refine wp_region_held_drew (S := WkC q1 q2 q3) (by kernel_rfl) (HK.out.c) (fun hHeld => ?_)
  refine take_run (i := 0) (v := ?_) rfl (by kernel_rfl) (by kernel_rfl) (by kernel_rfl) (fun _ _ _ h => h) (by kernel_rfl) ?_ (by assumption) ?_
  rotate_left
  · (intro w5 hSw; obtain ⟨⟨s0, s1⟩, ⟨s2, s3⟩, s4, s5⟩ := hSw; go_simp); all_goals with_reducible rfl
  try simp only [Act.put, List.setIfInBounds_toArray, List.set_cons_zero, List.set_cons_succ]
  refine take_call (i := 1) rfl (by kernel_rfl) (by kernel_rfl) (fun K hK => ?_)
  go_simp; refine (of_is _ _ _).mono ?_; rintro r w20 ⟨rfl, bb⟩; have HK1 := Lib.hid (HK.out.below bb); clear bb
  go_wp2_with fail
  clear hHeld
  refine hK.out _ _ ?_ (fun hHeld => ?_)
  · exact HK1.out.c
  clear hK K
  try simp only [Act.put, List.setIfInBounds_toArray, List.set_cons_zero, List.set_cons_succ]
  refine take_run (i := 2) (v := ?_) rfl (by kernel_rfl) (by kernel_rfl) (by kernel_rfl) (fun _ _ _ h => h) (by kernel_rfl) ?_ (by assumption) ?_
  rotate_left
  · (intro w5 hSw; obtain ⟨⟨s0, s1⟩, ⟨s2, s3⟩, s4, s5⟩ := hSw; go_simp); all_goals with_reducible rfl
  try simp only [Act.put, List.setIfInBounds_toArray, List.set_cons_zero, List.set_cons_succ]
  refine take_run (i := 3) (v := ?_) rfl (by kernel_rfl) (by kernel_rfl) (by kernel_rfl) (fun _ _ _ h => h) (by kernel_rfl) ?_ (by assumption) ?_
  rotate_left
  · (intro w5 hSw; obtain ⟨⟨s0, s1⟩, ⟨s2, s3⟩, s4, s5⟩ := hSw; go_simp); all_goals with_reducible rfl
  try simp only [Act.put, List.setIfInBounds_toArray, List.set_cons_zero, List.set_cons_succ]
  refine take_run (i := 4) (v := ?_) rfl (by kernel_rfl) (by kernel_rfl) (by kernel_rfl) (fun _ _ _ h => h) (by kernel_rfl) ?_ (by assumption) ?_
  rotate_left
  · (intro w5 hSw; obtain ⟨⟨s0, s1⟩, ⟨s2, s3⟩, s4, s5⟩ := hSw; go_simp); all_goals with_reducible rfl
  try simp only [Act.put, List.setIfInBounds_toArray, List.set_cons_zero, List.set_cons_succ]
  refine take_run (i := 5) (v := ?_) rfl (by kernel_rfl) (by kernel_rfl) (by kernel_rfl) (fun _ _ _ h => h) (by kernel_rfl) ?_ (by assumption) ?_
  rotate_left
  · (intro w5 hSw; obtain ⟨⟨s0, s1⟩, ⟨s2, s3⟩, s4, s5⟩ := hSw; go_simp); all_goals with_reducible rfl
  try simp only [Act.put, List.setIfInBounds_toArray, List.set_cons_zero, List.set_cons_succ]
  refine take_run (i := 6) (v := ?_) rfl (by kernel_rfl) (by kernel_rfl) (by kernel_rfl) (fun _ _ _ h => h) (by kernel_rfl) ?_ (by assumption) ?_
  rotate_left
  · (intro w5 hSw; obtain ⟨⟨s0, s1⟩, ⟨s2, s3⟩, s4, s5⟩ := hSw; go_simp); all_goals with_reducible rfl
  try simp only [Act.put, List.setIfInBounds_toArray, List.set_cons_zero, List.set_cons_succ]
  refine take_run (i := 7) (v := ?_) rfl (by kernel_rfl) (by kernel_rfl) (by kernel_rfl) (fun _ _ _ h => h) (by kernel_rfl) ?_ (by assumption) ?_
  rotate_left
  · (intro w5 hSw; obtain ⟨⟨s0, s1⟩, ⟨s2, s3⟩, s4, s5⟩ := hSw; go_simp); all_goals with_reducible rfl
  try simp only [Act.put, List.setIfInBounds_toArray, List.set_cons_zero, List.set_cons_succ]
  refine take_run (i := 8) (v := ?_) rfl (by kernel_rfl) (by kernel_rfl) (by kernel_rfl) (fun _ _ _ h => h) (by kernel_rfl) ?_ (by assumption) ?_
  rotate_left
  · (intro w5 hSw; obtain ⟨⟨s0, s1⟩, ⟨s2, s3⟩, s4, s5⟩ := hSw; go_simp); all_goals with_reducible rfl
  try simp only [Act.put, List.setIfInBounds_toArray, List.set_cons_zero, List.set_cons_succ]
  refine take_call (i := 9) rfl (by kernel_rfl) (by kernel_rfl) (fun K hK => ?_)
  go_simp; refine (of_is _ _ _).mono ?_; rintro r w21 ⟨rfl, bb⟩; have HK2 := Lib.hid (HK1.out.below bb); clear bb
  go_wp2_with fail
  clear hHeld
  refine hK.out _ _ ?_ (fun hHeld => ?_)
  · exact HK2.out.c
  clear hK K
  try simp only [Act.put, List.setIfInBounds_toArray, List.set_cons_zero, List.set_cons_succ]
  refine take_run (i := 10) (v := ?_) rfl (by kernel_rfl) (by kernel_rfl) (by kernel_rfl) (fun _ _ _ h => h) (by kernel_rfl) ?_ (by assumption) ?_
  rotate_left
  · (intro w5 hSw; obtain ⟨⟨s0, s1⟩, ⟨s2, s3⟩, s4, s5⟩ := hSw; go_simp); all_goals with_reducible rfl
  try simp only [Act.put, List.setIfInBounds_toArray, List.set_cons_zero, List.set_cons_succ]
  refine take_run (i := 11) (v := ?_) rfl (by kernel_rfl) (by kernel_rfl) (by kernel_rfl) (fun _ _ _ h => h) (by kernel_rfl) ?_ (by assumption) ?_
  rotate_left
  · (intro w5 hSw; obtain ⟨⟨s0, s1⟩, ⟨s2, s3⟩, s4, s5⟩ := hSw; go_simp); all_goals with_reducible rfl
  try simp only [Act.put, List.setIfInBounds_toArray, List.set_cons_zero, List.set_cons_succ]
  refine take_run (i := 12) (v := ?_) rfl (by kernel_rfl) (by kernel_rfl) (by kernel_rfl) (fun _ _ _ h => h) (by kernel_rfl) ?_ (by assumption) ?_
  rotate_left
  · (intro w5 hSw; obtain ⟨⟨s0, s1⟩, ⟨s2, s3⟩, s4, s5⟩ := hSw; go_simp); all_goals with_reducible rfl
  try simp only [Act.put, List.setIfInBounds_toArray, List.set_cons_zero, List.set_cons_succ]
  refine take_run (i := 13) (v := ?_) rfl (by kernel_rfl) (by kernel_rfl) (by kernel_rfl) (fun _ _ _ h => h) (by kernel_rfl) ?_ (by assumption) ?_
  rotate_left
  · (intro w5 hSw; obtain ⟨⟨s0, s1⟩, ⟨s2, s3⟩, s4, s5⟩ := hSw; go_simp); all_goals with_reducible rfl
  try simp only [Act.put, List.setIfInBounds_toArray, List.set_cons_zero, List.set_cons_succ]
  refine take_run (i := 14) (v := ?_) rfl (by kernel_rfl) (by kernel_rfl) (by kernel_rfl) (fun _ _ _ h => h) (by kernel_rfl) ?_ (by assumption) ?_
  rotate_left
  · (intro w5 hSw; obtain ⟨⟨s0, s1⟩, ⟨s2, s3⟩, s4, s5⟩ := hSw; go_simp); all_goals with_reducible rfl
  try simp only [Act.put, List.setIfInBounds_toArray, List.set_cons_zero, List.set_cons_succ]
  refine take_run (i := 15) (v := ?_) rfl (by kernel_rfl) (by kernel_rfl) (by kernel_rfl) (fun _ _ _ h => h) (by kernel_rfl) ?_ (by assumption) ?_
  rotate_left
  · (intro w5 hSw; obtain ⟨⟨s0, s1⟩, ⟨s2, s3⟩, s4, s5⟩ := hSw; go_simp); all_goals with_reducible rfl
  try simp only [Act.put, List.setIfInBounds_toArray, List.set_cons_zero, List.set_cons_succ]
  refine take_run (i := 16) (v := ?_) rfl (by kernel_rfl) (by kernel_rfl) (by kernel_rfl) (fun _ _ _ h => h) (by kernel_rfl) ?_ (by assumption) ?_
  rotate_left
  · (intro w5 hSw; obtain ⟨⟨s0, s1⟩, ⟨s2, s3⟩, s4, s5⟩ := hSw; go_simp); all_goals with_reducible rfl
  try simp only [Act.put, List.setIfInBounds_toArray, List.set_cons_zero, List.set_cons_succ]
  refine take_run (i := 17) (v := ?_) rfl (by kernel_rfl) (by kernel_rfl) (by kernel_rfl) (fun _ _ _ h => h) (by kernel_rfl) ?_ (by assumption) ?_
  rotate_left
  · (intro w5 hSw; obtain ⟨⟨s0, s1⟩, ⟨s2, s3⟩, s4, s5⟩ := hSw; go_simp); all_goals with_reducible rfl
  try simp only [Act.put, List.setIfInBounds_toArray, List.set_cons_zero, List.set_cons_succ]
  refine take_call (i := 18) rfl (by kernel_rfl) (by kernel_rfl) (fun K hK => ?_)
  go_simp; refine (of_is _ _ _).mono ?_; rintro r w22 ⟨rfl, bb⟩; have HK3 := Lib.hid (HK2.out.below bb); clear bb
  go_wp2_with fail
  clear hHeld
  refine hK.out _ _ ?_ (fun hHeld => ?_)
  · exact HK3.out.c
  clear hK K
  try simp only [Act.put, List.setIfInBounds_toArray, List.set_cons_zero, List.set_cons_succ]
  refine take_run (i := 19) (v := ?_) rfl (by kernel_rfl) (by kernel_rfl) (by kernel_rfl) (fun _ _ _ h => h) (by kernel_rfl) ?_ (by assumption) ?_
  rotate_left
  · (intro w5 hSw; obtain ⟨⟨s0, s1⟩, ⟨s2, s3⟩, s4, s5⟩ := hSw; go_simp); all_goals with_reducible rfl
  try simp only [Act.put, List.setIfInBounds_toArray, List.set_cons_zero, List.set_cons_succ]
  refine take_run (i := 20) (v := ?_) rfl (by kernel_rfl) (by kernel_rfl) (by kernel_rfl) (fun _ _ _ h => h) (by kernel_rfl) ?_ (by assumption) ?_
  rotate_left
  · (intro w5 hSw; obtain ⟨⟨s0, s1⟩, ⟨s2, s3⟩, s4, s5⟩ := hSw; go_simp); all_goals with_reducible rfl
  try simp only [Act.put, List.setIfInBounds_toArray, List.set_cons_zero, List.set_cons_succ]
  refine take_run (i := 21) (v := ?_) rfl (by kernel_rfl) (by kernel_rfl) (by kernel_rfl) (fun _ _ _ h => h) (by kernel_rfl) ?_ (by assumption) ?_
  rotate_left
  · (intro w5 hSw; obtain ⟨⟨s0, s1⟩, ⟨s2, s3⟩, s4, s5⟩ := hSw; go_simp); all_goals with_reducible rfl
  try simp only [Act.put, List.setIfInBounds_toArray, List.set_cons_zero, List.set_cons_succ]
  refine take_run (i := 22) (v := ?_) rfl (by kernel_rfl) (by kernel_rfl) (by kernel_rfl) (fun _ _ _ h => h) (by kernel_rfl) ?_ (by assumption) ?_
  rotate_left
  · (intro w5 hSw; obtain ⟨⟨s0, s1⟩, ⟨s2, s3⟩, s4, s5⟩ := hSw; go_simp); all_goals with_reducible rfl
  try simp only [Act.put, List.setIfInBounds_toArray, List.set_cons_zero, List.set_cons_succ]
  refine take_run (i := 23) (v := ?_) rfl (by kernel_rfl) (by kernel_rfl) (by kernel_rfl) (fun _ _ _ h => h) (by kernel_rfl) ?_ (by assumption) ?_
  rotate_left
  · (intro w5 hSw; obtain ⟨⟨s0, s1⟩, ⟨s2, s3⟩, s4, s5⟩ := hSw; go_simp); all_goals with_reducible rfl
  try simp only [Act.put, List.setIfInBounds_toArray, List.set_cons_zero, List.set_cons_succ]
  refine take_run (i := 24) (v := ?_) rfl (by kernel_rfl) (by kernel_rfl) (by kernel_rfl) (fun _ _ _ h => h) (by kernel_rfl) ?_ (by assumption) ?_
  rotate_left
  · (intro w5 hSw; obtain ⟨⟨s0, s1⟩, ⟨s2, s3⟩, s4, s5⟩ := hSw; go_simp); all_goals with_reducible rfl
  try simp only [Act.put, List.setIfInBounds_toArray, List.set_cons_zero, List.set_cons_succ]
  refine take_run (i := 25) (v := ?_) rfl (by kernel_rfl) (by kernel_rfl) (by kernel_rfl) (fun _ _ _ h => h) (by kernel_rfl) ?_ (by assumption) ?_
  rotate_left
  · (intro w5 hSw; obtain ⟨⟨s0, s1⟩, ⟨s2, s3⟩, s4, s5⟩ := hSw; go_simp); all_goals with_reducible rfl
  try simp only [Act.put, List.setIfInBounds_toArray, List.set_cons_zero, List.set_cons_succ]
  refine take_call (i := 26) rfl (by kernel_rfl) (by kernel_rfl) (fun K hK => ?_)
  go_simp; refine (of_is _ _ _).mono ?_; rintro r w23 ⟨rfl, bb⟩; have HK4 := Lib.hid (HK3.out.below bb); clear bb
  go_wp2_with fail
  clear hHeld
  refine hK.out _ _ ?_ (fun hHeld => ?_)
  · exact HK4.out.c
  clear hK K
  try simp only [Act.put, List.setIfInBounds_toArray, List.set_cons_zero, List.set_cons_succ]
  refine take_call (i := 27) rfl (by kernel_rfl) (by kernel_rfl) (fun K hK => ?_)
  go_simp; refine (of_is _ _ _).mono ?_; rintro r w24 ⟨rfl, bb⟩; have HK5 := Lib.hid (HK4.out.below bb); clear bb
  go_wp2_with fail
  clear hHeld
  refine hK.out _ _ ?_ (fun hHeld => ?_)
  · exact HK5.out.c
  clear hK K
  try simp only [Act.put, List.setIfInBounds_toArray, List.set_cons_zero, List.set_cons_succ]
  refine take_call (i := 28) rfl (by kernel_rfl) (by kernel_rfl) (fun K hK => ?_)
  go_simp; refine (HH4.out _).mono ?_; rintro r w25 ⟨rfl, bb⟩; have HK6 := Lib.hid (HK5.out.below bb); clear bb
  go_wp2_with fail
  clear hHeld
  refine hK.out _ _ ?_ (fun hHeld => ?_)
  · exact HK6.out.c
  clear hK K
  try simp only [Act.put, List.setIfInBounds_toArray, List.set_cons_zero, List.set_cons_succ]
  refine take_run (i := 29) (v := ?_) rfl (by kernel_rfl) (by kernel_rfl) (by kernel_rfl) (fun _ _ _ h => h) (by kernel_rfl) ?_ (by assumption) ?_
  rotate_left
  · (intro w5 hSw; obtain ⟨⟨s0, s1⟩, ⟨s2, s3⟩, s4, s5⟩ := hSw; go_simp); all_goals with_reducible rfl
  try simp only [Act.put, List.setIfInBounds_toArray, List.set_cons_zero, List.set_cons_succ]
  refine take_run (i := 30) (v := ?_) rfl (by kernel_rfl) (by kernel_rfl) (by kernel_rfl) (fun _ _ _ h => h) (by kernel_rfl) ?_ (by assumption) ?_
  rotate_left
  · (intro w5 hSw; obtain ⟨⟨s0, s1⟩, ⟨s2, s3⟩, s4, s5⟩ := hSw; go_simp); all_goals with_reducible rfl
  try simp only [Act.put, List.setIfInBounds_toArray, List.set_cons_zero, List.set_cons_succ]
  refine take_call (i := 31) rfl (by kernel_rfl) (by kernel_rfl) (fun K hK => ?_)
  go_simp; refine (of_is _ _ _).mono ?_; rintro r w26 ⟨rfl, bb⟩; have HK7 := Lib.hid (HK6.out.below bb); clear bb
  go_wp2_with fail
  clear hHeld
  refine hK.out _ _ ?_ (fun hHeld => ?_)
  · exact HK7.out.c
  clear hK K
  try simp only [Act.put, List.setIfInBounds_toArray, List.set_cons_zero, List.set_cons_succ]
  refine take_call (i := 32) rfl (by kernel_rfl) (by kernel_rfl) (fun K hK => ?_)
  go_simp; refine (of_is _ _ _).mono ?_; rintro r w27 ⟨rfl, bb⟩; have HK8 := Lib.hid (HK7.out.below bb); clear bb
  go_wp2_with fail
  clear hHeld
  refine hK.out _ _ ?_ (fun hHeld => ?_)
  · exact HK8.out.c
  clear hK K
  try simp only [Act.put, List.setIfInBounds_toArray, List.set_cons_zero, List.set_cons_succ]
  refine take_call (i := 33) rfl (by kernel_rfl) (by kernel_rfl) (fun K hK => ?_)
  go_simp; refine (of_is _ _ _).mono ?_; rintro r w28 ⟨rfl, bb⟩; have HK9 := Lib.hid (HK8.out.below bb); clear bb
  go_wp2_with fail
  clear hHeld
  refine hK.out _ _ ?_ (fun hHeld => ?_)
  · exact HK9.out.c
  clear hK K
  try simp only [Act.put, List.setIfInBounds_toArray, List.set_cons_zero, List.set_cons_succ]
  refine take_call (i := 34) rfl (by kernel_rfl) (by kernel_rfl) (fun K hK => ?_)
  go_simp; have HK10 := Lib.hid (HK9.out.below ((Below.refl _ _).alloc (Nat.le_refl _) (.cells #[.int .u64 1, .int .u8 1, .int .u64 1, .int .u8 3, .int .u64 1, .int .u8 2] 25)))
  go_wp2_with fail
  clear hHeld
  refine hK.out _ _ ?_ (fun hHeld => ?_)
  · exact HK10.out.c
  clear hK K
  try simp only [Act.put, List.setIfInBounds_toArray, List.set_cons_zero, List.set_cons_succ]
  refine take_call (i := 35) rfl (by kernel_rfl) (by kernel_rfl) (fun K hK => ?_)
  go_simp; refine (HH5.out _ _).mono ?_; rintro r w30 ⟨rfl, bb⟩; have HK11 := Lib.hid (HK10.out.below bb); clear bb
  go_wp2_with fail
  clear hHeld
  refine hK.out _ _ ?_ (fun hHeld => ?_)
  · exact HK11.out.c
  clear hK K
  try simp only [Act.put, List.setIfInBounds_toArray, List.set_cons_zero, List.set_cons_succ]
  refine take_call (i := 36) rfl (by kernel_rfl) (by kernel_rfl) (fun K hK => ?_)
  go_simp; refine (of_is _ _ _).mono ?_; rintro r w31 ⟨rfl, bb⟩; have HK12 := Lib.hid (HK11.out.below bb); clear bb
  go_wp2_with fail
  clear hHeld
  refine hK.out _ _ ?_ (fun hHeld => ?_)
  · exact HK12.out.c
  clear hK K
  try simp only [Act.put, List.setIfInBounds_toArray, List.set_cons_zero, List.set_cons_succ]
  refine take_run (i := 37) (v := ?_) rfl (by kernel_rfl) (by kernel_rfl) (by kernel_rfl) (fun _ _ _ h => h) (by kernel_rfl) ?_ (by assumption) ?_
  rotate_left
  · (intro w5 hSw; obtain ⟨⟨s0, s1⟩, ⟨s2, s3⟩, s4, s5⟩ := hSw; go_simp); all_goals with_reducible rfl
  try simp only [Act.put, List.setIfInBounds_toArray, List.set_cons_zero, List.set_cons_succ]
  refine take_run (i := 38) (v := ?_) rfl (by kernel_rfl) (by kernel_rfl) (by kernel_rfl) (fun _ _ _ h => h) (by kernel_rfl) ?_ (by assumption) ?_
  rotate_left
  · (intro w5 hSw; obtain ⟨⟨s0, s1⟩, ⟨s2, s3⟩, s4, s5⟩ := hSw; go_simp); all_goals with_reducible rfl
  try simp only [Act.put, List.setIfInBounds_toArray, List.set_cons_zero, List.set_cons_succ]
  refine take_run (i := 39) (v := ?_) rfl (by kernel_rfl) (by kernel_rfl) (by kernel_rfl) (fun _ _ _ h => h) (by kernel_rfl) ?_ (by assumption) ?_
  rotate_left
  · (intro w5 hSw; obtain ⟨⟨s0, s1⟩, ⟨s2, s3⟩, s4, s5⟩ := hSw; go_simp); all_goals with_reducible rfl
  try simp only [Act.put, List.setIfInBounds_toArray, List.set_cons_zero, List.set_cons_succ]
  refine take_call (i := 40) rfl (by kernel_rfl) (by kernel_rfl) (fun K hK => ?_)
  go_simp; refine (of_is _ _ _).mono ?_; rintro r w32 ⟨rfl, bb⟩; have HK13 := Lib.hid (HK12.out.below bb); clear bb
  go_wp2_with fail
  clear hHeld
  refine hK.out _ _ ?_ (fun hHeld => ?_)
  · exact HK13.out.c
  clear hK K
  try simp only [Act.put, List.setIfInBounds_toArray, List.set_cons_zero, List.set_cons_succ]
  refine take_call (i := 41) rfl (by kernel_rfl) (by kernel_rfl) (fun K hK => ?_)
  go_simp; refine (HH6.out _).mono ?_; rintro r w33 ⟨g6, n6, c6, rfl, o6, bb⟩; have HK14 := Lib.hid (HK13.out.below bb); have hcv := (Src.of_own o6).string; clear bb
  go_wp2_with fail
  clear hHeld
  refine hK.out _ _ ?_ (fun hHeld => ?_)
  · exact HK14.out.c
  clear hK K
  try simp only [Act.put, List.setIfInBounds_toArray, List.set_cons_zero, List.set_cons_succ]
  refine take_call (i := 42) rfl (by kernel_rfl) (by kernel_rfl) (fun K hK => ?_)
  go_simp; have HK15 := HK14
  go_wp2_with fail
  clear hHeld
  refine hK.out _ _ ?_ (fun hHeld => ?_)
  · exact HK15.out.c
  clear hK K
  try simp only [Act.put, List.setIfInBounds_toArray, List.set_cons_zero, List.set_cons_succ]
  refine take_run (i := 43) (v := ?_) rfl (by kernel_rfl) (by kernel_rfl) (by kernel_rfl) (fun _ _ _ h => h) (by kernel_rfl) ?_ (by assumption) ?_
  rotate_left
  · (intro w5 hSw; obtain ⟨⟨s0, s1⟩, ⟨s2, s3⟩, s4, s5⟩ := hSw; go_simp); all_goals with_reducible rfl
  try simp only [Act.put, List.setIfInBounds_toArray, List.set_cons_zero, List.set_cons_succ]
  refine take_run (i := 44) (v := ?_) rfl (by kernel_rfl) (by kernel_rfl) (by kernel_rfl) (fun _ _ _ h => h) (by kernel_rfl) ?_ (by assumption) ?_
  rotate_left
  · (intro w5 hSw; obtain ⟨⟨s0, s1⟩, ⟨s2, s3⟩, s4, s5⟩ := hSw; go_simp); all_goals with_reducible rfl
  try simp only [Act.put, List.setIfInBounds_toArray, List.set_cons_zero, List.set_cons_succ]
  refine take_run (i := 45) (v := ?_) rfl (by kernel_rfl) (by kernel_rfl) (by kernel_rfl) (fun _ _ _ h => h) (by kernel_rfl) ?_ (by assumption) ?_
  rotate_left
  · (intro w5 hSw; obtain ⟨⟨s0, s1⟩, ⟨s2, s3⟩, s4, s5⟩ := hSw; go_simp); all_goals with_reducible rfl
  try simp only [Act.put, List.setIfInBounds_toArray, List.set_cons_zero]
  refine wpAnyH_done (by kernel_rfl) ?_ _
  have HKZ := HK15
  go_wp2
  go_ret
  exact ⟨rfl, HKZ.out.bel⟩

end Go.Proofs.Ytafhljmeofnbnaa
