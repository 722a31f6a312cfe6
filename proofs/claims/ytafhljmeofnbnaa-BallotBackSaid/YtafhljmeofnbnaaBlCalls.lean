/-
  The law BallotCalls over this translation, over a BallotSpec.
-/
import Derived.Test.YtafhljmeofnbnaaBlTop
namespace Go.Proofs.Ytafhljmeofnbnaa
open Go.RowKit
set_option linter.unusedVariables false

/-- Four boxes and a slice. -/
structure CalS (q q3 q4 : Nat) (a b x : Bal) (sl : Option Addr) (n : Nat) (l : List Bal) (w0 w : World) : Prop where
  b1 : BalB q a w
  b2 : BalB (q + 1) b w
  b3 : BalB q3 x w
  b4 : BalB q4 x w
  bals : Bals w sl n l
  bel : Below w0.heap.size w0 w
theorem CalS.below {q q3 q4 : Nat} {a b x : Bal} {sl : Option Addr} {n : Nat} {l : List Bal} {w0 w w' : World} (h : CalS q q3 q4 a b x sl n l w0 w) (hb : Below w.heap.size w w') : CalS q q3 q4 a b x sl n l w0 w' := ⟨h.b1.below hb, h.b2.below hb, h.b3.below hb, h.b4.below hb, h.bals.below hb, h.bel.trans (hb.mono h.bel.size)⟩
def CalC (q q3 q4 : Nat) (a b x : Bal) (w : World) : Prop := (w.cell? ⟨q, 0, none⟩ = some (.int .u64 (a.1 : Nat)) ∧ w.cell? ⟨q, 1, none⟩ = some (.int .u8 (a.2 : Nat))) ∧ (w.cell? ⟨q + 1, 0, none⟩ = some (.int .u64 (b.1 : Nat)) ∧ w.cell? ⟨q + 1, 1, none⟩ = some (.int .u8 (b.2 : Nat))) ∧ (w.cell? ⟨q3, 0, none⟩ = some (.int .u64 (x.1 : Nat)) ∧ w.cell? ⟨q3, 1, none⟩ = some (.int .u8 (x.2 : Nat))) ∧ w.cell? ⟨q4, 0, none⟩ = some (.int .u64 (x.1 : Nat)) ∧ w.cell? ⟨q4, 1, none⟩ = some (.int .u8 (x.2 : Nat))
theorem CalS.c {q q3 q4 : Nat} {a b x : Bal} {sl : Option Addr} {n : Nat} {l : List Bal} {w0 w : World} (h : CalS q q3 q4 a b x sl n l w0 w) : CalC q q3 q4 a b x w := ⟨h.b1.vals, h.b2.vals, h.b3.vals, h.b4.vals⟩

set_option maxRecDepth 100000 in
set_option maxHeartbeats 1000000 in
theorem calls_long (S : BallotSpec) (a b : Bal) (r : Nat) (sl : Option Addr) (n cap : Nat) (w : World) (h : 100 < (n : Int)) :
    Calls Try.prog 3 #[.slice sl n cap, balV a, balV b, .int .u8 (r : Nat)] w fun e w' => e = .returned (.bool true) ∧ Below w.heap.size w w' := by
  have HW := Lib.hid S.wakes
  have HK := Lib.hid (((Below.refl _ w).alloc (Nat.le_refl _) (.cells #[.int .u64 (a.1 : Nat), .int .u8 (a.2 : Nat)] 25)).alloc (by simp) (.cells #[.int .u64 (b.1 : Nat), .int .u8 (b.2 : Nat)] 25))
  go_enter Try.func3, Try.ntmps3
  unfold balV
  go_wp2_with (go_at_call 8; refine (HW.out _).mono ?_; rintro r w1 ⟨rfl, b1⟩)
  go_ret
  exact ⟨rfl, HK.out.trans (b1.mono HK.out.size)⟩

set_option maxRecDepth 100000 in
set_option maxHeartbeats 4000000 in
theorem calls_some (S : BallotSpec) (a b : Bal) (r : Nat) (ha : okBal a) (hb : okBal b) (hr : r < 256) (sl : Option Addr) (n cap : Nat) (l : List Bal) (w : World) (hB : Bals w sl n l) (h : ¬ 100 < (n : Int)) :
    Calls Try.prog 3 #[.slice sl n cap, balV a, balV b, .int .u8 (r : Nat)] w fun e w' => e = .returned (.bool true) ∧ Below w.heap.size w w' := by
  have HW := Lib.hid S.wakes
  obtain ⟨k, hk⟩ : ∃ k : Int, (if mayL a = true then 0 else 2) = k := ⟨_, rfl⟩
  obtain ⟨⟨x, e⟩, hx⟩ : ∃ t, turnL a r = t := ⟨_, rfl⟩
  have C1 := fun v => S.check v a ha
  have C2 := fun v => S.turn v a r ha hr
  have C3 := fun v => refTurn_is a r v ha hr
  rw [hk] at C1
  rw [hx] at C2 C3
  have HK0 := Lib.hid hk
  have HCK := Lib.hid C1
  have HTU := Lib.hid C2
  have HRU := Lib.hid C3
  have HAB := Lib.hid (fun v => S.below v a b ha hb)
  have HRB := Lib.hid (fun v => refBelow_is a b v)
  have HM := Lib.hid (fun v => refMay_is a v)
  have HTP := Lib.hid (fun v (hv : Bals v sl n l) => S.top v sl n cap l hv (by omega))
  have HRT := Lib.hid (fun v (hv : Bals v sl n l) => refTop_is v sl n cap l hv (by omega))
  clear C1 C2 C3 hk hx
  have A1 := BalB.new w a
  have A2 := BalB.new (w.alloc (.cells #[.int .u64 (a.1 : Nat), .int .u8 (a.2 : Nat)] 25)) b
  simp only [World.size_alloc] at A2
  have A3 := ((Below.refl _ w).alloc (Nat.le_refl _) (.cells #[.int .u64 (a.1 : Nat), .int .u8 (a.2 : Nat)] 25)).alloc (by simp) (.cells #[.int .u64 (b.1 : Nat), .int .u8 (b.2 : Nat)] 25)
  replace A1 := A1.below ((Below.refl _ _).alloc (Nat.le_refl _) (.cells #[.int .u64 (b.1 : Nat), .int .u8 (b.2 : Nat)] 25))
  have A4 := hB.below A3
  go_enter Try.func3, Try.ntmps3
  unfold balV at *
  go_upto_region 3 with fail
  generalize ((w.alloc (.cells #[.int .u64 (a.1 : Nat), .int .u8 (a.2 : Nat)] 25)).alloc (.cells #[.int .u64 (b.1 : Nat), .int .u8 (b.2 : Nat)] 25)) = V at *
  obtain ⟨p0, p1⟩ := A1.vals
  have HA1 := Lib.hid A1
  have HA2 := Lib.hid A2
  have HA3 := Lib.hid A3
  have HA4 := Lib.hid A4
  clear A1 A2 A3 A4 hB
  go_upto_region 4 with (go_at_call 9; (with_reducible refine (HTU.out _).mono ?_); rintro r w3 ⟨rfl, b3⟩)
  have B3 : BalB w3.heap.size x (w3.alloc (.cells #[.int .u64 (x.1 : Nat), .int .u8 (x.2 : Nat)] 25)) := BalB.new w3 x
  have L3 : Below V.heap.size V (w3.alloc (.cells #[.int .u64 (x.1 : Nat), .int .u8 (x.2 : Nat)] 25)) := b3.alloc b3.size _
  generalize (w3.alloc (.cells #[.int .u64 (x.1 : Nat), .int .u8 (x.2 : Nat)] 25)) = V3 at *
  generalize w3.heap.size = q3 at *
  have HB3 := Lib.hid B3
  have HL3 := Lib.hid L3
  clear B3 L3 b3 p0 p1
  obtain ⟨p0, p1⟩ := (HA1.out.below HL3.out).vals
  go_upto_region 5 with (go_at_call 10; (with_reducible refine (HRU.out _).mono ?_); rintro r w4 ⟨rfl, b4⟩)
  have B4 : BalB w4.heap.size x (w4.alloc (.cells #[.int .u64 (x.1 : Nat), .int .u8 (x.2 : Nat)] 25)) := BalB.new w4 x
  have L4 : Below V3.heap.size V3 (w4.alloc (.cells #[.int .u64 (x.1 : Nat), .int .u8 (x.2 : Nat)] 25)) := b4.alloc b4.size _
  generalize (w4.alloc (.cells #[.int .u64 (x.1 : Nat), .int .u8 (x.2 : Nat)] 25)) = V4 at *
  generalize w4.heap.size = q4 at *
  have hb34 := HL3.out.trans (L4.mono HL3.out.size)
  have HK4 := Lib.hid (show CalS w.heap.size q3 q4 a b x sl n l w V4 from ⟨HA1.out.below hb34, HA2.out.below hb34, HB3.out.below L4, B4, HA4.out.below hb34, HA3.out.trans (hb34.mono HA3.out.size)⟩)
  clear B4 L4 b4 p0 p1 hb34 HA1 HA2 HA3 HA4 HB3 HL3
  obtain ⟨p0, p1⟩ := HK4.out.b1.vals
  go_upto_if 31 with (go_at_call 11; (with_reducible refine (HM.out _).mono ?_); rintro r w6 ⟨rfl, b6⟩)
  go_cut [13] (fun iv wx => iv = .int .i64 k ∧ CalS w.heap.size q3 q4 a b x sl n l w wx)
  case first =>
    have HK6 := Lib.hid (HK4.out.below b6)
    have hk := HK0.out
    rcases hm : mayL a with _ | _
    · rw [hm] at hk
      have HH := Lib.hid hk
      clear hm hk
      go_wp2_with fail
      go_meet
      case rel => exact ⟨by rw [← HH.out]; rfl, HK6.out⟩
    · rw [hm] at hk
      have HH := Lib.hid hk
      clear hm hk
      go_wp2_with fail
      go_meet
      case rel => exact ⟨by rw [← HH.out]; rfl, HK6.out⟩
  case rest =>
    obtain ⟨rfl, hcal⟩ := hcut
    have HK := Lib.hid (hcal.below ((Below.refl _ wc).drew))
    clear hcal p0 p1
    go_upto_region 8 with fail
    refine wp_region_held_drew (S := CalC w.heap.size q3 q4 a b x) (by kernel_rfl) (HK.out.c) (fun hHeld => ?_)
    refine take_run (i := 0) (v := ?_) rfl (by kernel_rfl) (by kernel_rfl) (by kernel_rfl) (fun _ _ _ h => h) (by kernel_rfl) ?_ (by assumption) ?_
    rotate_left
    · (intro w5 hSw; obtain ⟨⟨s0, s1⟩, ⟨s2, s3⟩, ⟨s4, s5⟩, s6, s7⟩ := hSw; go_simp); all_goals with_reducible rfl
    try simp only [Act.put, List.setIfInBounds_toArray, List.set_cons_zero, List.set_cons_succ]
    refine take_run (i := 1) (v := ?_) rfl (by kernel_rfl) (by kernel_rfl) (by kernel_rfl) (fun _ _ _ h => h) (by kernel_rfl) ?_ (by assumption) ?_
    rotate_left
    · (intro w5 hSw; obtain ⟨⟨s0, s1⟩, ⟨s2, s3⟩, ⟨s4, s5⟩, s6, s7⟩ := hSw; go_simp); all_goals with_reducible rfl
    try simp only [Act.put, List.setIfInBounds_toArray, List.set_cons_zero, List.set_cons_succ]
    refine take_run (i := 2) (v := ?_) rfl (by kernel_rfl) (by kernel_rfl) (by kernel_rfl) (fun _ _ _ h => h) (by kernel_rfl) ?_ (by assumption) ?_
    rotate_left
    · (intro w5 hSw; obtain ⟨⟨s0, s1⟩, ⟨s2, s3⟩, ⟨s4, s5⟩, s6, s7⟩ := hSw; go_simp); all_goals with_reducible rfl
    try simp only [Act.put, List.setIfInBounds_toArray, List.set_cons_zero, List.set_cons_succ]
    refine take_run (i := 3) (v := ?_) rfl (by kernel_rfl) (by kernel_rfl) (by kernel_rfl) (fun _ _ _ h => h) (by kernel_rfl) ?_ (by assumption) ?_
    rotate_left
    · (intro w5 hSw; obtain ⟨⟨s0, s1⟩, ⟨s2, s3⟩, ⟨s4, s5⟩, s6, s7⟩ := hSw; go_simp); all_goals with_reducible rfl
    try simp only [Act.put, List.setIfInBounds_toArray, List.set_cons_zero, List.set_cons_succ]
    refine take_run (i := 4) (v := ?_) rfl (by kernel_rfl) (by kernel_rfl) (by kernel_rfl) (fun _ _ _ h => h) (by kernel_rfl) ?_ (by assumption) ?_
    rotate_left
    · (intro w5 hSw; obtain ⟨⟨s0, s1⟩, ⟨s2, s3⟩, ⟨s4, s5⟩, s6, s7⟩ := hSw; go_simp); all_goals with_reducible rfl
    try simp only [Act.put, List.setIfInBounds_toArray, List.set_cons_zero, List.set_cons_succ]
    refine take_run (i := 5) (v := ?_) rfl (by kernel_rfl) (by kernel_rfl) (by kernel_rfl) (fun _ _ _ h => h) (by kernel_rfl) ?_ (by assumption) ?_
    rotate_left
    · (intro w5 hSw; obtain ⟨⟨s0, s1⟩, ⟨s2, s3⟩, ⟨s4, s5⟩, s6, s7⟩ := hSw; go_simp); all_goals with_reducible rfl
    try simp only [Act.put, List.setIfInBounds_toArray, List.set_cons_zero, List.set_cons_succ]
    refine take_run (i := 6) (v := ?_) rfl (by kernel_rfl) (by kernel_rfl) (by kernel_rfl) (fun _ _ _ h => h) (by kernel_rfl) ?_ (by assumption) ?_
    rotate_left
    · (intro w5 hSw; obtain ⟨⟨s0, s1⟩, ⟨s2, s3⟩, ⟨s4, s5⟩, s6, s7⟩ := hSw; go_simp); all_goals with_reducible rfl
    try simp only [Act.put, List.setIfInBounds_toArray, List.set_cons_zero, List.set_cons_succ]
    refine take_run (i := 7) (v := ?_) rfl (by kernel_rfl) (by kernel_rfl) (by kernel_rfl) (fun _ _ _ h => h) (by kernel_rfl) ?_ (by assumption) ?_
    rotate_left
    · (intro w5 hSw; obtain ⟨⟨s0, s1⟩, ⟨s2, s3⟩, ⟨s4, s5⟩, s6, s7⟩ := hSw; go_simp); all_goals with_reducible rfl
    try simp only [Act.put, List.setIfInBounds_toArray, List.set_cons_zero, List.set_cons_succ]
    refine take_run (i := 8) (v := ?_) rfl (by kernel_rfl) (by kernel_rfl) (by kernel_rfl) (fun _ _ _ h => h) (by kernel_rfl) ?_ (by assumption) ?_
    rotate_left
    · (intro w5 hSw; obtain ⟨⟨s0, s1⟩, ⟨s2, s3⟩, ⟨s4, s5⟩, s6, s7⟩ := hSw; go_simp); all_goals with_reducible rfl
    try simp only [Act.put, List.setIfInBounds_toArray, List.set_cons_zero, List.set_cons_succ]
    refine take_run (i := 9) (v := ?_) rfl (by kernel_rfl) (by kernel_rfl) (by kernel_rfl) (fun _ _ _ h => h) (by kernel_rfl) ?_ (by assumption) ?_
    rotate_left
    · (intro w5 hSw; obtain ⟨⟨s0, s1⟩, ⟨s2, s3⟩, ⟨s4, s5⟩, s6, s7⟩ := hSw; go_simp); all_goals with_reducible rfl
    try simp only [Act.put, List.setIfInBounds_toArray, List.set_cons_zero, List.set_cons_succ]
    refine take_run (i := 11) (v := ?_) rfl (by kernel_rfl) (by kernel_rfl) (by kernel_rfl) (fun _ _ _ h => h) (by kernel_rfl) ?_ (by assumption) ?_
    rotate_left
    · (intro w5 hSw; obtain ⟨⟨s0, s1⟩, ⟨s2, s3⟩, ⟨s4, s5⟩, s6, s7⟩ := hSw; go_simp); all_goals with_reducible rfl
    try simp only [Act.put, List.setIfInBounds_toArray, List.set_cons_zero, List.set_cons_succ]
    refine take_call (i := 10) rfl (by kernel_rfl) (by kernel_rfl) (fun K hK => ?_)
    go_simp; refine (HCK.out _).mono ?_; rintro r w20 ⟨rfl, bb⟩; have HK1 := Lib.hid (HK.out.below bb); clear bb
    go_wp2_with fail
    clear hHeld
    refine hK.out _ _ ?_ (fun hHeld => ?_)
    · exact HK1.out.c
    clear hK K
    try simp only [Act.put, List.setIfInBounds_toArray, List.set_cons_zero, List.set_cons_succ]
    refine take_run (i := 12) (v := ?_) rfl (by kernel_rfl) (by kernel_rfl) (by kernel_rfl) (fun _ _ _ h => h) (by kernel_rfl) ?_ (by assumption) ?_
    rotate_left
    · (intro w5 hSw; obtain ⟨⟨s0, s1⟩, ⟨s2, s3⟩, ⟨s4, s5⟩, s6, s7⟩ := hSw; go_simp); all_goals with_reducible rfl
    try simp only [Act.put, List.setIfInBounds_toArray, List.set_cons_zero, List.set_cons_succ]
    refine take_run (i := 13) (v := ?_) rfl (by kernel_rfl) (by kernel_rfl) (by kernel_rfl) (fun _ _ _ h => h) (by kernel_rfl) ?_ (by assumption) ?_
    rotate_left
    · (intro w5 hSw; obtain ⟨⟨s0, s1⟩, ⟨s2, s3⟩, ⟨s4, s5⟩, s6, s7⟩ := hSw; go_simp); all_goals with_reducible rfl
    try simp only [Act.put, List.setIfInBounds_toArray, List.set_cons_zero, List.set_cons_succ]
    refine take_run (i := 14) (v := ?_) rfl (by kernel_rfl) (by kernel_rfl) (by kernel_rfl) (fun _ _ _ h => h) (by kernel_rfl) ?_ (by assumption) ?_
    rotate_left
    · (intro w5 hSw; obtain ⟨⟨s0, s1⟩, ⟨s2, s3⟩, ⟨s4, s5⟩, s6, s7⟩ := hSw; go_simp); all_goals with_reducible rfl
    try simp only [Act.put, List.setIfInBounds_toArray, List.set_cons_zero, List.set_cons_succ]
    refine take_run (i := 15) (v := ?_) rfl (by kernel_rfl) (by kernel_rfl) (by kernel_rfl) (fun _ _ _ h => h) (by kernel_rfl) ?_ (by assumption) ?_
    rotate_left
    · (intro w5 hSw; obtain ⟨⟨s0, s1⟩, ⟨s2, s3⟩, ⟨s4, s5⟩, s6, s7⟩ := hSw; go_simp); all_goals with_reducible rfl
    try simp only [Act.put, List.setIfInBounds_toArray, List.set_cons_zero, List.set_cons_succ]
    refine take_run (i := 16) (v := ?_) rfl (by kernel_rfl) (by kernel_rfl) (by kernel_rfl) (fun _ _ _ h => h) (by kernel_rfl) ?_ (by assumption) ?_
    rotate_left
    · (intro w5 hSw; obtain ⟨⟨s0, s1⟩, ⟨s2, s3⟩, ⟨s4, s5⟩, s6, s7⟩ := hSw; go_simp); all_goals with_reducible rfl
    try simp only [Act.put, List.setIfInBounds_toArray, List.set_cons_zero, List.set_cons_succ]
    refine take_run (i := 18) (v := ?_) rfl (by kernel_rfl) (by kernel_rfl) (by kernel_rfl) (fun _ _ _ h => h) (by kernel_rfl) ?_ (by assumption) ?_
    rotate_left
    · (intro w5 hSw; obtain ⟨⟨s0, s1⟩, ⟨s2, s3⟩, ⟨s4, s5⟩, s6, s7⟩ := hSw; go_simp); all_goals with_reducible rfl
    try simp only [Act.put, List.setIfInBounds_toArray, List.set_cons_zero, List.set_cons_succ]
    refine take_run (i := 19) (v := ?_) rfl (by kernel_rfl) (by kernel_rfl) (by kernel_rfl) (fun _ _ _ h => h) (by kernel_rfl) ?_ (by assumption) ?_
    rotate_left
    · (intro w5 hSw; obtain ⟨⟨s0, s1⟩, ⟨s2, s3⟩, ⟨s4, s5⟩, s6, s7⟩ := hSw; go_simp); all_goals with_reducible rfl
    try simp only [Act.put, List.setIfInBounds_toArray, List.set_cons_zero, List.set_cons_succ]
    refine take_call (i := 17) rfl (by kernel_rfl) (by kernel_rfl) (fun K hK => ?_)
    go_simp; refine (HAB.out _).mono ?_; rintro r w21 ⟨rfl, bb⟩; have HK2 := Lib.hid (HK1.out.below bb); clear bb
    go_wp2_with fail
    clear hHeld
    refine hK.out _ _ ?_ (fun hHeld => ?_)
    · exact HK2.out.c
    clear hK K
    try simp only [Act.put, List.setIfInBounds_toArray, List.set_cons_zero, List.set_cons_succ]
    refine take_call (i := 20) rfl (by kernel_rfl) (by kernel_rfl) (fun K hK => ?_)
    go_simp; refine (HRB.out _).mono ?_; rintro r w22 ⟨rfl, bb⟩; have HK3 := Lib.hid (HK2.out.below bb); clear bb
    go_wp2_with fail
    clear hHeld
    refine hK.out _ _ ?_ (fun hHeld => ?_)
    · exact HK3.out.c
    clear hK K
    try simp only [Act.put, List.setIfInBounds_toArray, List.set_cons_zero, List.set_cons_succ]
    refine take_run (i := 21) (v := ?_) rfl (by kernel_rfl) (by kernel_rfl) (by kernel_rfl) (fun _ _ _ h => h) (by kernel_rfl) ?_ (by assumption) ?_
    rotate_left
    · (intro w5 hSw; obtain ⟨⟨s0, s1⟩, ⟨s2, s3⟩, ⟨s4, s5⟩, s6, s7⟩ := hSw; go_simp); all_goals with_reducible rfl
    try simp only [Act.put, List.setIfInBounds_toArray, List.set_cons_zero, List.set_cons_succ]
    refine take_run (i := 22) (v := ?_) rfl (by kernel_rfl) (by kernel_rfl) (by kernel_rfl) (fun _ _ _ h => h) (by kernel_rfl) ?_ (by assumption) ?_
    rotate_left
    · (intro w5 hSw; obtain ⟨⟨s0, s1⟩, ⟨s2, s3⟩, ⟨s4, s5⟩, s6, s7⟩ := hSw; go_simp); all_goals with_reducible rfl
    try simp only [Act.put, List.setIfInBounds_toArray, List.set_cons_zero, List.set_cons_succ]
    refine take_run (i := 23) (v := ?_) rfl (by kernel_rfl) (by kernel_rfl) (by kernel_rfl) (fun _ _ _ h => h) (by kernel_rfl) ?_ (by assumption) ?_
    rotate_left
    · (intro w5 hSw; obtain ⟨⟨s0, s1⟩, ⟨s2, s3⟩, ⟨s4, s5⟩, s6, s7⟩ := hSw; go_simp); all_goals with_reducible rfl
    try simp only [Act.put, List.setIfInBounds_toArray, List.set_cons_zero, List.set_cons_succ]
    refine take_run (i := 24) (v := ?_) rfl (by kernel_rfl) (by kernel_rfl) (by kernel_rfl) (fun _ _ _ h => h) (by kernel_rfl) ?_ (by assumption) ?_
    rotate_left
    · (intro w5 hSw; obtain ⟨⟨s0, s1⟩, ⟨s2, s3⟩, ⟨s4, s5⟩, s6, s7⟩ := hSw; go_simp); all_goals with_reducible rfl
    try simp only [Act.put, List.setIfInBounds_toArray, List.set_cons_zero, List.set_cons_succ]
    refine take_run (i := 26) (v := ?_) rfl (by kernel_rfl) (by kernel_rfl) (by kernel_rfl) (fun _ _ _ h => h) (by kernel_rfl) ?_ (by assumption) ?_
    rotate_left
    · (intro w5 hSw; obtain ⟨⟨s0, s1⟩, ⟨s2, s3⟩, ⟨s4, s5⟩, s6, s7⟩ := hSw; go_simp); all_goals with_reducible rfl
    try simp only [Act.put, List.setIfInBounds_toArray, List.set_cons_zero, List.set_cons_succ]
    refine take_call (i := 25) rfl (by kernel_rfl) (by kernel_rfl) (fun K hK => ?_)
    go_simp; refine (HTP.out _ HK3.out.bals).mono ?_; rintro r w23 ⟨rfl, bb⟩; have HK4 := Lib.hid (HK3.out.below bb); clear bb
    go_wp2_with fail
    clear hHeld
    refine hK.out _ _ ?_ (fun hHeld => ?_)
    · exact HK4.out.c
    clear hK K
    try simp only [Act.put, List.setIfInBounds_toArray, List.set_cons_zero, List.set_cons_succ]
    refine take_call (i := 27) rfl (by kernel_rfl) (by kernel_rfl) (fun K hK => ?_)
    go_simp; refine (HRT.out _ HK4.out.bals).mono ?_; rintro r w24 ⟨rfl, bb⟩; have HK5 := Lib.hid (HK4.out.below bb); clear bb
    go_wp2_with fail
    clear hHeld
    refine hK.out _ _ ?_ (fun hHeld => ?_)
    · exact HK5.out.c
    clear hK K
    try simp only [Act.put, List.setIfInBounds_toArray, List.set_cons_zero, List.set_cons_succ]
    refine take_run (i := 28) (v := ?_) rfl (by kernel_rfl) (by kernel_rfl) (by kernel_rfl) (fun _ _ _ h => h) (by kernel_rfl) ?_ (by assumption) ?_
    rotate_left
    · (intro w5 hSw; obtain ⟨⟨s0, s1⟩, ⟨s2, s3⟩, ⟨s4, s5⟩, s6, s7⟩ := hSw; go_simp); all_goals with_reducible rfl
    try simp only [Act.put, List.setIfInBounds_toArray, List.set_cons_zero, List.set_cons_succ]
    refine take_run (i := 29) (v := ?_) rfl (by kernel_rfl) (by kernel_rfl) (by kernel_rfl) (fun _ _ _ h => h) (by kernel_rfl) ?_ (by assumption) ?_
    rotate_left
    · (intro w5 hSw; obtain ⟨⟨s0, s1⟩, ⟨s2, s3⟩, ⟨s4, s5⟩, s6, s7⟩ := hSw; go_simp); all_goals with_reducible rfl
    try simp only [Act.put, List.setIfInBounds_toArray, List.set_cons_zero, List.set_cons_succ]
    refine take_run (i := 30) (v := ?_) rfl (by kernel_rfl) (by kernel_rfl) (by kernel_rfl) (fun _ _ _ h => h) (by kernel_rfl) ?_ (by assumption) ?_
    rotate_left
    · (intro w5 hSw; obtain ⟨⟨s0, s1⟩, ⟨s2, s3⟩, ⟨s4, s5⟩, s6, s7⟩ := hSw; go_simp); all_goals with_reducible rfl
    try simp only [Act.put, List.setIfInBounds_toArray, List.set_cons_zero, List.set_cons_succ]
    refine take_call (i := 31) rfl (by kernel_rfl) (by kernel_rfl) (fun K hK => ?_)
    go_simp; refine (HW.out _).mono ?_; rintro r w25 ⟨rfl, bb⟩; have HK6 := Lib.hid (HK5.out.below bb); clear bb
    go_wp2_with fail
    clear hHeld
    refine hK.out _ _ ?_ (fun hHeld => ?_)
    · exact HK6.out.c
    clear hK K
    try simp only [Act.put, List.setIfInBounds_toArray, List.set_cons_zero, List.set_cons_succ]
    refine take_run (i := 32) (v := ?_) rfl (by kernel_rfl) (by kernel_rfl) (by kernel_rfl) (fun _ _ _ h => h) (by kernel_rfl) ?_ (by assumption) ?_
    rotate_left
    · (intro w5 hSw; obtain ⟨⟨s0, s1⟩, ⟨s2, s3⟩, ⟨s4, s5⟩, s6, s7⟩ := hSw; go_simp); all_goals with_reducible rfl
    try simp only [Act.put, List.setIfInBounds_toArray, List.set_cons_zero, List.set_cons_succ]
    refine take_run (i := 33) (v := ?_) rfl (by kernel_rfl) (by kernel_rfl) (by kernel_rfl) (fun _ _ _ h => h) (by kernel_rfl) ?_ (by assumption) ?_
    rotate_left
    · (intro w5 hSw; obtain ⟨⟨s0, s1⟩, ⟨s2, s3⟩, ⟨s4, s5⟩, s6, s7⟩ := hSw; go_simp); all_goals with_reducible rfl
    try simp only [Act.put, List.setIfInBounds_toArray, List.set_cons_zero, List.set_cons_succ]
    refine wpAnyH_done (by kernel_rfl) ?_ _
    have HKZ := HK6
    go_wp2
    go_ret
    exact ⟨rfl, HKZ.out.bel⟩
end Go.Proofs.Ytafhljmeofnbnaa
