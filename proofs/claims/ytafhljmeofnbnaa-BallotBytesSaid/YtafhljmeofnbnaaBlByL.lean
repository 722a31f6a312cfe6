/-
  The law BallotBytes over this translation, over a BallotSpec.
-/
import Derived.Test.YtafhljmeofnbnaaBlTake
import Derived.Test.YtafhljmeofnbnaaApp
import Derived.Deep.DeepCutAuto
import Derived.Deep.CutBlock
namespace Go.Proofs.Ytafhljmeofnbnaa
open Go.RowKit
set_option linter.unusedVariables false

/-- The boxes of the last region, and the reader. -/
structure ByS (x : Bal) (S : ByteArray) (E : Int) (q9 q10 q11 : Nat) (rb : Nat) (s : St) (w0 w : World) : Prop where
  b9 : BalB q9 x w
  b10 : BalB q10 x w
  b11 : RfB q11 S E w
  rd : RS w rb s
  bel : Below w0.heap.size w0 w
theorem ByS.below {x : Bal} {S : ByteArray} {E : Int} {q9 q10 q11 rb : Nat} {s : St} {w0 w w' : World} (h : ByS x S E q9 q10 q11 rb s w0 w) (hb : Below w.heap.size w w') : ByS x S E q9 q10 q11 rb s w0 w' := ⟨h.b9.below hb, h.b10.below hb, h.b11.below hb, Rd.below h.rd hb h.rd.lt, h.bel.trans (hb.mono h.bel.size)⟩
def ByC (x : Bal) (S : ByteArray) (E : Int) (q9 q10 q11 : Nat) (w : World) : Prop := (w.cell? ⟨q9, 0, none⟩ = some (.int .u64 (x.1 : Nat)) ∧ w.cell? ⟨q9, 1, none⟩ = some (.int .u8 (x.2 : Nat))) ∧ (w.cell? ⟨q10, 0, none⟩ = some (.int .u64 (x.1 : Nat)) ∧ w.cell? ⟨q10, 1, none⟩ = some (.int .u8 (x.2 : Nat))) ∧ w.cell? ⟨q11, 0, none⟩ = some (.string S) ∧ w.cell? ⟨q11, 1, none⟩ = some (.int .i64 E)
theorem ByS.c {x : Bal} {S : ByteArray} {E : Int} {q9 q10 q11 rb : Nat} {s : St} {w0 w : World} (h : ByS x S E q9 q10 q11 rb s w0 w) : ByC x S E q9 q10 q11 w := ⟨h.b9.vals, h.b10.vals, h.b11.vals⟩
def BxC (q : Nat) (b : Bal) (w : World) : Prop := w.cell? ⟨q, 0, none⟩ = some (.int .u64 (b.1 : Nat)) ∧ w.cell? ⟨q, 1, none⟩ = some (.int .u8 (b.2 : Nat))

set_option maxRecDepth 100000 in
set_option maxHeartbeats 1000000 in
theorem bytes_long (S : BallotSpec) (b : Bal) (a : Option Addr) (n c : Nat) (s : ByteArray) (w : World) (h : 100 < (n : Int) ∨ 100 < (s.size : Int)) :
    Calls Try.prog 4 #[balV b, .slice a n c, .string s] w fun e w' => e = .returned (.bool true) ∧ Below w.heap.size w w' := by
  have HW := Lib.hid S.wakes
  have HK := Lib.hid ((Below.refl w.heap.size w).alloc (Nat.le_refl _) (.cells #[.int .u64 (b.1 : Nat), .int .u8 (b.2 : Nat)] 25))
  unfold balV
  by_cases h1 : 100 < (n : Int)
  · clear h
    go_enter Try.func4, Try.ntmps4
    go_wp2_with (go_at_call 8; refine (HW.out _).mono ?_; rintro r w1 ⟨rfl, b1⟩)
    go_ret
    exact ⟨rfl, HK.out.trans (b1.mono HK.out.size)⟩
  · have h2 : 100 < (s.size : Int) := h.resolve_left h1
    clear h
    go_enter Try.func4, Try.ntmps4
    go_wp2_with (go_at_call 8; refine (HW.out _).mono ?_; rintro r w1 ⟨rfl, b1⟩)
    go_ret
    exact ⟨rfl, HK.out.trans (b1.mono HK.out.size)⟩

set_option maxRecDepth 100000 in
set_option maxHeartbeats 4000000 in
theorem bytes_some (S : BallotSpec) (b : Bal) (hb : okBal b) (a : Option Addr) (n c : Nat) (l sl : List UInt8) (w : World) (hS : Src w a n c l) (h : ¬ 100 < (n : Int)) (h2 : ¬ 100 < ((B sl).size : Int)) :
    Calls Try.prog 4 #[balV b, .slice a n c, .string (B sl)] w fun e w' => e = .returned (.bool true) ∧ Below w.heap.size w w' := by
  have HW := Lib.hid S.wakes
  have K1 := BalB.new w b
  have hB : Below w.heap.size w (w.alloc (.cells #[.int .u64 (b.1 : Nat), .int .u8 (b.2 : Nat)] 25)) := (Below.refl _ w).alloc (Nat.le_refl _) _
  have HS0 := hS.below hB
  have hn1 : n ≤ 100 := by omega
  have hsl : sl.length ≤ 1000000 := by have := B_size sl; omega
  have HP := Lib.hid (fun v a2 c2 (hv : Src v a2 n c2 l) => S.put v a2 n c2 l b hv (by omega) hb)
  have HRB := Lib.hid (fun v => refBytes_is b v hb)
  have HTK := Lib.hid (fun v rb (hv : RS v rb ⟨0, sl⟩) => S.take v rb ⟨0, sl⟩ hv hsl)
  have HRT := Lib.hid (fun v => refTake_is ⟨0, sl⟩ v hsl)
  have HTN := Lib.hid S.take_nil
  have hap : B l ++ B (bytesL b) = B (l ++ bytesL b) := B_append _ _
  have hLN : l.length = n := hS.len
  have hblen : (bytesL b).length ≤ 10 := by have := (enc_len9 (n := b.1) hb.1).2; simp [bytesL]; omega
  generalize bytesL b = t at *
  have HAP := Lib.hid hap
  have HLN := Lib.hid hLN
  have HTL := Lib.hid hblen
  have HN1 := Lib.hid hn1
  clear hap hLN hblen hn1 hsl hS
  obtain ⟨x, hx⟩ : ∃ x, takeB ⟨0, sl⟩ = x := ⟨_, rfl⟩
  rw [hx] at HTK HRT
  obtain ⟨x, s2⟩ := x
  rw [refV_ok] at HRT
  unfold refV at HRT
  simp only at HTK HRT
  obtain ⟨Sx, hSx⟩ : ∃ y, B (if s2.e = 0 then s2.l else []) = y := ⟨_, rfl⟩
  rw [hSx] at HRT
  have hleft : Sx.size = s2.left := by rw [← hSx, B_size]; unfold St.left; split <;> simp [*]
  have HLF := Lib.hid hleft
  clear hx hSx hleft
  go_enter Try.func4, Try.ntmps4
  unfold balV at *
  go_upto_region 1 with fail
  generalize (w.alloc (.cells #[.int .u64 (b.1 : Nat), .int .u8 (b.2 : Nat)] 25)) = V at *
  generalize hq : w.heap.size = q at *
  have hcv := HS0.string
  have HS1 := Lib.hid (HS0.below ((Below.refl _ V).drew))
  have HK := Lib.hid (K1.below ((Below.refl _ V).drew))
  have HBV := Lib.hid (show Below q w V.drew from hB.drew)
  clear K1 HS0 hB
  go_upto_region 4 with fail
  have HVS := Lib.hid (show q ≤ V.drew.heap.size from by have := HBV.out.size; omega)
  have HZ1 := Lib.hid (show (B l).size = n by rw [B_size]; exact HLN.out)
  obtain ⟨kz, hz2⟩ : ∃ k, (B t).size = k := ⟨_, rfl⟩
  have HZ2 := Lib.hid hz2
  have HZ3 := Lib.hid (show (kz : Int) ≤ 10 by have := B_size t; have := HTL.out; omega)
  have HZ4 := Lib.hid (show ¬ 9223372036854775807 < n + kz by have := HZ3.out; have := HN1.out; omega)
  clear hz2
  go_cut [32] (fun nv wx => nv = .bool false ∧ Below w.heap.size w wx)
  case first =>
    refine wp_region_held_drew (S := BxC q b) (by kernel_rfl) (HK.out.vals) (fun hHeld => ?_)
    refine take_run (i := 0) (v := ?_) rfl (by kernel_rfl) (by kernel_rfl) (by kernel_rfl) (fun _ _ _ h => h) (by kernel_rfl) ?_ (by assumption) ?_
    rotate_left
    · (intro w5 hSw; obtain ⟨s0, s1⟩ := hSw; go_simp); all_goals with_reducible rfl
    try simp only [Act.put, List.setIfInBounds_toArray, List.set_cons_zero, List.set_cons_succ]
    refine take_run (i := 2) (v := ?_) rfl (by kernel_rfl) (by kernel_rfl) (by kernel_rfl) (fun _ _ _ h => h) (by kernel_rfl) ?_ (by assumption) ?_
    rotate_left
    · (intro w5 hSw; obtain ⟨s0, s1⟩ := hSw; go_simp); all_goals with_reducible rfl
    try simp only [Act.put, List.setIfInBounds_toArray, List.set_cons_zero, List.set_cons_succ]
    refine take_run (i := 5) (v := ?_) rfl (by kernel_rfl) (by kernel_rfl) (by kernel_rfl) (fun _ _ _ h => h) (by kernel_rfl) ?_ (by assumption) ?_
    rotate_left
    · (intro w5 hSw; obtain ⟨s0, s1⟩ := hSw; go_simp); all_goals with_reducible rfl
    try simp only [Act.put, List.setIfInBounds_toArray, List.set_cons_zero, List.set_cons_succ]
    refine take_run (i := 6) (v := ?_) rfl (by kernel_rfl) (by kernel_rfl) (by kernel_rfl) (fun _ _ _ h => h) (by kernel_rfl) ?_ (by assumption) ?_
    rotate_left
    · (intro w5 hSw; obtain ⟨s0, s1⟩ := hSw; go_simp); all_goals with_reducible rfl
    try simp only [Act.put, List.setIfInBounds_toArray, List.set_cons_zero, List.set_cons_succ]
    refine take_call (i := 1) rfl (by kernel_rfl) (by kernel_rfl) (fun K hK => ?_)
    refine wp_append_nil _ _ _ (by rfl) (by rfl) a n c l (by rfl) HS1.out (by have := HN1.out; omega) ?_
    intro a2 c2 w21 hs2 bb
    have HK1 := Lib.hid (HK.out.below bb)
    have HS2 := Lib.hid hs2
    have HB1 := Lib.hid (HBV.out.trans (bb.mono HVS.out))
    clear bb hs2
    (try go_wp2_with fail)
    clear hHeld
    refine hK.out _ _ ?_ (fun hHeld => ?_)
    · exact HK1.out.vals
    clear hK K
    try simp only [Act.put, List.setIfInBounds_toArray, List.set_cons_zero, List.set_cons_succ]
    refine take_call (i := 3) rfl (by kernel_rfl) (by kernel_rfl) (fun K hK => ?_)
    go_simp; refine (HP.out _ _ _ HS2.out).mono ?_; rintro r w22 ⟨g3, n3, c3, rfl, o3, bb⟩; have HK2 := Lib.hid (HK1.out.below bb); have HB2 := Lib.hid (HB1.out.trans (bb.mono (by rw [← hq]; exact HB1.out.size))); have HO3 := Lib.hid (Src.of_own o3); clear bb o3
    (try go_wp2_with fail)
    clear hHeld
    refine hK.out _ _ ?_ (fun hHeld => ?_)
    · exact HK2.out.vals
    clear hK K
    try simp only [Act.put, List.setIfInBounds_toArray, List.set_cons_zero, List.set_cons_succ]
    refine take_two (i := 4) (j := 7) rfl rfl (by kernel_rfl) (by kernel_rfl) (by kernel_rfl) (fun K hK => ?_) (fun K hK => ?_)
    · have hcv3 := HO3.out.string; go_simp
      (try go_wp2_with fail)
      clear hHeld
      refine hK.out _ _ ?_ (fun hHeld => ?_)
      · exact HK2.out.vals
      clear hK K
      try simp only [Act.put, List.setIfInBounds_toArray, List.set_cons_zero, List.set_cons_succ]
      clear hcv3
      refine take_call (i := 7) rfl (by kernel_rfl) (by kernel_rfl) (fun K hK => ?_)
      go_simp; refine (HRB.out _).mono ?_; rintro r w23 ⟨rfl, bb⟩; have HK3 := Lib.hid (HK2.out.below bb); have HB3 := Lib.hid (HB2.out.trans (bb.mono (by rw [← hq]; exact HB2.out.size))); have HO4 := Lib.hid (HO3.out.below bb); clear bb
      (try go_wp2_with fail)
      clear hHeld
      refine hK.out _ _ ?_ (fun hHeld => ?_)
      · exact HK3.out.vals
      clear hK K
      try simp only [Act.put, List.setIfInBounds_toArray, List.set_cons_zero, List.set_cons_succ]
      refine take_run (i := 8) (v := ?_) rfl (by kernel_rfl) (by kernel_rfl) (by kernel_rfl) (fun _ _ _ h => h) (by kernel_rfl) ?_ (by assumption) ?_
      rotate_left
      · (intro w5 hSw; obtain ⟨s0, s1⟩ := hSw; have hap := HAP.out; have hz1 := HZ1.out; have hz2 := HZ2.out; have hz3 := HZ3.out; have hz4 := HZ4.out; go_simp); all_goals with_reducible rfl
      try simp only [Act.put, List.setIfInBounds_toArray, List.set_cons_zero, List.set_cons_succ]
      refine take_run (i := 9) (v := ?_) rfl (by kernel_rfl) (by kernel_rfl) (by kernel_rfl) (fun _ _ _ h => h) (by kernel_rfl) ?_ (by assumption) ?_
      rotate_left
      · (intro w5 hSw; obtain ⟨s0, s1⟩ := hSw; have hap := HAP.out; have hz1 := HZ1.out; have hz2 := HZ2.out; have hz3 := HZ3.out; have hz4 := HZ4.out; go_simp); all_goals with_reducible rfl
      try simp only [Act.put, List.setIfInBounds_toArray, List.set_cons_zero, List.set_cons_succ]
      refine wpAnyH_done (by kernel_rfl) ?_ _
      go_wp2_with fail
      go_meet
      case rel => exact ⟨rfl, by rw [hq]; exact HB3.out⟩
    · go_simp; refine (HRB.out _).mono ?_; rintro r w23 ⟨rfl, bb⟩; have HK3 := Lib.hid (HK2.out.below bb); have HB3 := Lib.hid (HB2.out.trans (bb.mono (by rw [← hq]; exact HB2.out.size))); have HO4 := Lib.hid (HO3.out.below bb); clear bb
      (try go_wp2_with fail)
      clear hHeld
      refine hK.out _ _ ?_ (fun hHeld => ?_)
      · exact HK3.out.vals
      clear hK K
      try simp only [Act.put, List.setIfInBounds_toArray, List.set_cons_zero, List.set_cons_succ]
      refine take_run (i := 8) (v := ?_) rfl (by kernel_rfl) (by kernel_rfl) (by kernel_rfl) (fun _ _ _ h => h) (by kernel_rfl) ?_ (by assumption) ?_
      rotate_left
      · (intro w5 hSw; obtain ⟨s0, s1⟩ := hSw; have hap := HAP.out; have hz1 := HZ1.out; have hz2 := HZ2.out; have hz3 := HZ3.out; have hz4 := HZ4.out; go_simp); all_goals with_reducible rfl
      try simp only [Act.put, List.setIfInBounds_toArray, List.set_cons_zero, List.set_cons_succ]
      refine take_call (i := 4) rfl (by kernel_rfl) (by kernel_rfl) (fun K hK => ?_)
      have hcv3 := HO4.out.string; go_simp
      (try go_wp2_with fail)
      clear hHeld
      refine hK.out _ _ ?_ (fun hHeld => ?_)
      · exact HK3.out.vals
      clear hK K
      try simp only [Act.put, List.setIfInBounds_toArray, List.set_cons_zero, List.set_cons_succ]
      refine take_run (i := 9) (v := ?_) rfl (by kernel_rfl) (by kernel_rfl) (by kernel_rfl) (fun _ _ _ h => h) (by kernel_rfl) ?_ (by assumption) ?_
      rotate_left
      · (intro w5 hSw; obtain ⟨s0, s1⟩ := hSw; have hap := HAP.out; have hz1 := HZ1.out; have hz2 := HZ2.out; have hz3 := HZ3.out; have hz4 := HZ4.out; go_simp); all_goals with_reducible rfl
      try simp only [Act.put, List.setIfInBounds_toArray, List.set_cons_zero, List.set_cons_succ]
      refine wpAnyH_done (by kernel_rfl) ?_ _
      go_wp2_with fail
      go_meet
      case rel => exact ⟨rfl, by rw [hq]; exact HB3.out⟩
  case rest =>
    obtain ⟨rfl, hbel⟩ := hcut
    have HB0 := Lib.hid hbel
    clear hbel hcv
    go_upto_region 7 with (go_at_call 19; refine (of_any sl _).mono ?_; rintro r w5 ⟨rfl, rs5, b5⟩)
    have HG5 := Lib.hid (show w.heap.size ≤ wc.heap.size from HB0.out.size)
    generalize wc.heap.size = g5 at *
    have HR5 := Lib.hid rs5
    have HB5 := Lib.hid (HB0.out.trans (b5.mono HG5.out))
    clear rs5 b5
    go_upto_region 8 with (go_at_call 20; (with_reducible refine (HTK.out _ _ HR5.out).mono ?_); rintro r w6 ⟨rfl, r6, g6⟩)
    have B9 := BalB.new w6 x
    have L9 := (Below.refl w6.heap.size w6).alloc (Nat.le_refl _) (.cells #[.int .u64 (x.1 : Nat), .int .u8 (x.2 : Nat)] 25)
    have R9 := Rd.below r6 L9 r6.lt
    have HB6 : Below w.heap.size w w6 := HB5.out.grown g6 HB5.out.size (by rintro k ⟨rfl⟩; exact HG5.out)
    have HB9 := Lib.hid (HB6.trans (L9.mono HB6.size))
    clear HB6 g6 r6 HR5 HB5 L9
    generalize (w6.alloc (.cells #[.int .u64 (x.1 : Nat), .int .u8 (x.2 : Nat)] 25)) = V9 at *
    generalize w6.heap.size = q9 at *
    have HB9b := Lib.hid B9
    have HR9 := Lib.hid R9
    clear B9 R9
    go_upto_region 9 with (go_at_call 21; (with_reducible refine (HRT.out _).mono ?_); rintro r w7 ⟨rfl, b7⟩)
    have B10 := BalB.new w7 x
    have B11 := RfB.new (w7.alloc (.cells #[.int .u64 (x.1 : Nat), .int .u8 (x.2 : Nat)] 25)) Sx s2.e
    have L10 : Below w7.heap.size w7 (w7.alloc (.cells #[.int .u64 (x.1 : Nat), .int .u8 (x.2 : Nat)] 25)) := (Below.refl w7.heap.size w7).alloc (Nat.le_refl _) _
    have L11 := L10.alloc (by simp) (.cells #[.string Sx, .int .i64 s2.e] 43)
    have L12 := b7.trans (L11.mono b7.size)
    replace B10 := B10.below ((Below.refl _ _).alloc (Nat.le_refl _) (.cells #[.string Sx, .int .i64 s2.e] 43))
    have B9 := HB9b.out.below L12
    have R9 := Rd.below HR9.out L12 HR9.out.lt
    have L13 := HB9.out.trans (L12.mono HB9.out.size)
    simp only [World.size_alloc] at B11
    clear L10 L11 L12 b7 HB9 HB9b HR9
    generalize ((w7.alloc (.cells #[.int .u64 (x.1 : Nat), .int .u8 (x.2 : Nat)] 25)).alloc (.cells #[.string Sx, .int .i64 s2.e] 43)) = V11 at *
    generalize w7.heap.size = q10 at *
    have HK := Lib.hid ((show ByS x Sx s2.e q9 q10 (q10 + 1) g5 s2 w V11 from ⟨B9, B10, B11, R9, L13⟩).below ((Below.refl _ V11).drew))
    clear B9 B10 B11 R9 L13
    refine wp_region_held_drew (S := ByC x Sx s2.e q9 q10 (q10 + 1)) (by kernel_rfl) (HK.out.c) (fun hHeld => ?_)
    refine take_run (i := 0) (v := ?_) rfl (by kernel_rfl) (by kernel_rfl) (by kernel_rfl) (fun _ _ _ h => h) (by kernel_rfl) ?_ (by assumption) ?_
    rotate_left
    · (intro w5 hSw; obtain ⟨⟨s0, s1⟩, ⟨s2, s3⟩, s4, s5⟩ := hSw; (try have hlf := HLF.out); go_simp); all_goals with_reducible rfl
    try simp only [Act.put, List.setIfInBounds_toArray, List.set_cons_zero, List.set_cons_succ]
    refine take_run (i := 1) (v := ?_) rfl (by kernel_rfl) (by kernel_rfl) (by kernel_rfl) (fun _ _ _ h => h) (by kernel_rfl) ?_ (by assumption) ?_
    rotate_left
    · (intro w5 hSw; obtain ⟨⟨s0, s1⟩, ⟨s2, s3⟩, s4, s5⟩ := hSw; (try have hlf := HLF.out); go_simp); all_goals with_reducible rfl
    try simp only [Act.put, List.setIfInBounds_toArray, List.set_cons_zero, List.set_cons_succ]
    refine take_run (i := 2) (v := ?_) rfl (by kernel_rfl) (by kernel_rfl) (by kernel_rfl) (fun _ _ _ h => h) (by kernel_rfl) ?_ (by assumption) ?_
    rotate_left
    · (intro w5 hSw; obtain ⟨⟨s0, s1⟩, ⟨s2, s3⟩, s4, s5⟩ := hSw; (try have hlf := HLF.out); go_simp); all_goals with_reducible rfl
    try simp only [Act.put, List.setIfInBounds_toArray, List.set_cons_zero, List.set_cons_succ]
    refine take_run (i := 3) (v := ?_) rfl (by kernel_rfl) (by kernel_rfl) (by kernel_rfl) (fun _ _ _ h => h) (by kernel_rfl) ?_ (by assumption) ?_
    rotate_left
    · (intro w5 hSw; obtain ⟨⟨s0, s1⟩, ⟨s2, s3⟩, s4, s5⟩ := hSw; (try have hlf := HLF.out); go_simp); all_goals with_reducible rfl
    try simp only [Act.put, List.setIfInBounds_toArray, List.set_cons_zero, List.set_cons_succ]
    refine take_run (i := 4) (v := ?_) rfl (by kernel_rfl) (by kernel_rfl) (by kernel_rfl) (fun _ _ _ h => h) (by kernel_rfl) ?_ (by assumption) ?_
    rotate_left
    · (intro w5 hSw; obtain ⟨⟨s0, s1⟩, ⟨s2, s3⟩, s4, s5⟩ := hSw; (try have hlf := HLF.out); go_simp); all_goals with_reducible rfl
    try simp only [Act.put, List.setIfInBounds_toArray, List.set_cons_zero, List.set_cons_succ]
    refine take_run (i := 6) (v := ?_) rfl (by kernel_rfl) (by kernel_rfl) (by kernel_rfl) (fun _ _ _ h => h) (by kernel_rfl) ?_ (by assumption) ?_
    rotate_left
    · (intro w5 hSw; obtain ⟨⟨s0, s1⟩, ⟨s2, s3⟩, s4, s5⟩ := hSw; (try have hlf := HLF.out); go_simp); all_goals with_reducible rfl
    try simp only [Act.put, List.setIfInBounds_toArray, List.set_cons_zero, List.set_cons_succ]
    refine take_run (i := 7) (v := ?_) rfl (by kernel_rfl) (by kernel_rfl) (by kernel_rfl) (fun _ _ _ h => h) (by kernel_rfl) ?_ (by assumption) ?_
    rotate_left
    · (intro w5 hSw; obtain ⟨⟨s0, s1⟩, ⟨s2, s3⟩, s4, s5⟩ := hSw; (try have hlf := HLF.out); go_simp); all_goals with_reducible rfl
    try simp only [Act.put, List.setIfInBounds_toArray, List.set_cons_zero, List.set_cons_succ]
    refine take_call (i := 5) rfl (by kernel_rfl) (by kernel_rfl) (fun K hK => ?_)
    go_simp; refine (err_st g5 s2 _ HK.out.rd).mono ?_; rintro r w31 ⟨rfl, rfl⟩
    go_wp2_with fail
    clear hHeld
    refine hK.out _ _ ?_ (fun hHeld => ?_)
    · exact HK.out.c
    clear hK K
    try simp only [Act.put, List.setIfInBounds_toArray, List.set_cons_zero, List.set_cons_succ]
    refine take_run (i := 8) (v := ?_) rfl (by kernel_rfl) (by kernel_rfl) (by kernel_rfl) (fun _ _ _ h => h) (by kernel_rfl) ?_ (by assumption) ?_
    rotate_left
    · (intro w5 hSw; obtain ⟨⟨s0, s1⟩, ⟨s2, s3⟩, s4, s5⟩ := hSw; (try have hlf := HLF.out); go_simp); all_goals with_reducible rfl
    try simp only [Act.put, List.setIfInBounds_toArray, List.set_cons_zero, List.set_cons_succ]
    refine take_run (i := 9) (v := ?_) rfl (by kernel_rfl) (by kernel_rfl) (by kernel_rfl) (fun _ _ _ h => h) (by kernel_rfl) ?_ (by assumption) ?_
    rotate_left
    · (intro w5 hSw; obtain ⟨⟨s0, s1⟩, ⟨s2, s3⟩, s4, s5⟩ := hSw; (try have hlf := HLF.out); go_simp); all_goals with_reducible rfl
    try simp only [Act.put, List.setIfInBounds_toArray, List.set_cons_zero, List.set_cons_succ]
    refine take_run (i := 10) (v := ?_) rfl (by kernel_rfl) (by kernel_rfl) (by kernel_rfl) (fun _ _ _ h => h) (by kernel_rfl) ?_ (by assumption) ?_
    rotate_left
    · (intro w5 hSw; obtain ⟨⟨s0, s1⟩, ⟨s2, s3⟩, s4, s5⟩ := hSw; (try have hlf := HLF.out); go_simp); all_goals with_reducible rfl
    try simp only [Act.put, List.setIfInBounds_toArray, List.set_cons_zero, List.set_cons_succ]
    refine take_run (i := 11) (v := ?_) rfl (by kernel_rfl) (by kernel_rfl) (by kernel_rfl) (fun _ _ _ h => h) (by kernel_rfl) ?_ (by assumption) ?_
    rotate_left
    · (intro w5 hSw; obtain ⟨⟨s0, s1⟩, ⟨s2, s3⟩, s4, s5⟩ := hSw; (try have hlf := HLF.out); go_simp); all_goals with_reducible rfl
    try simp only [Act.put, List.setIfInBounds_toArray, List.set_cons_zero, List.set_cons_succ]
    refine take_run (i := 13) (v := ?_) rfl (by kernel_rfl) (by kernel_rfl) (by kernel_rfl) (fun _ _ _ h => h) (by kernel_rfl) ?_ (by assumption) ?_
    rotate_left
    · (intro w5 hSw; obtain ⟨⟨s0, s1⟩, ⟨s2, s3⟩, s4, s5⟩ := hSw; (try have hlf := HLF.out); go_simp); all_goals with_reducible rfl
    try simp only [Act.put, List.setIfInBounds_toArray, List.set_cons_zero, List.set_cons_succ]
    refine take_run (i := 14) (v := ?_) rfl (by kernel_rfl) (by kernel_rfl) (by kernel_rfl) (fun _ _ _ h => h) (by kernel_rfl) ?_ (by assumption) ?_
    rotate_left
    · (intro w5 hSw; obtain ⟨⟨s0, s1⟩, ⟨s2, s3⟩, s4, s5⟩ := hSw; (try have hlf := HLF.out); go_simp); all_goals with_reducible rfl
    try simp only [Act.put, List.setIfInBounds_toArray, List.set_cons_zero, List.set_cons_succ]
    refine take_run (i := 15) (v := ?_) rfl (by kernel_rfl) (by kernel_rfl) (by kernel_rfl) (fun _ _ _ h => h) (by kernel_rfl) ?_ (by assumption) ?_
    rotate_left
    · (intro w5 hSw; obtain ⟨⟨s0, s1⟩, ⟨s2, s3⟩, s4, s5⟩ := hSw; (try have hlf := HLF.out); go_simp); all_goals with_reducible rfl
    try simp only [Act.put, List.setIfInBounds_toArray, List.set_cons_zero, List.set_cons_succ]
    refine take_call (i := 12) rfl (by kernel_rfl) (by kernel_rfl) (fun K hK => ?_)
    go_simp; refine (left_st g5 s2 _ HK.out.rd).mono ?_; rintro r w32 ⟨rfl, rfl⟩
    go_wp2_with fail
    clear hHeld
    refine hK.out _ _ ?_ (fun hHeld => ?_)
    · exact HK.out.c
    clear hK K
    try simp only [Act.put, List.setIfInBounds_toArray, List.set_cons_zero, List.set_cons_succ]
    refine take_run (i := 16) (v := ?_) rfl (by kernel_rfl) (by kernel_rfl) (by kernel_rfl) (fun _ _ _ h => h) (by kernel_rfl) ?_ (by assumption) ?_
    rotate_left
    · (intro w5 hSw; obtain ⟨⟨s0, s1⟩, ⟨s2, s3⟩, s4, s5⟩ := hSw; (try have hlf := HLF.out); go_simp); all_goals with_reducible rfl
    try simp only [Act.put, List.setIfInBounds_toArray, List.set_cons_zero, List.set_cons_succ]
    refine take_run (i := 17) (v := ?_) rfl (by kernel_rfl) (by kernel_rfl) (by kernel_rfl) (fun _ _ _ h => h) (by kernel_rfl) ?_ (by assumption) ?_
    rotate_left
    · (intro w5 hSw; obtain ⟨⟨s0, s1⟩, ⟨s2, s3⟩, s4, s5⟩ := hSw; (try have hlf := HLF.out); go_simp); all_goals with_reducible rfl
    try simp only [Act.put, List.setIfInBounds_toArray, List.set_cons_zero, List.set_cons_succ]
    refine take_run (i := 18) (v := ?_) rfl (by kernel_rfl) (by kernel_rfl) (by kernel_rfl) (fun _ _ _ h => h) (by kernel_rfl) ?_ (by assumption) ?_
    rotate_left
    · (intro w5 hSw; obtain ⟨⟨s0, s1⟩, ⟨s2, s3⟩, s4, s5⟩ := hSw; (try have hlf := HLF.out); go_simp); all_goals with_reducible rfl
    try simp only [Act.put, List.setIfInBounds_toArray, List.set_cons_zero, List.set_cons_succ]
    refine take_run (i := 20) (v := ?_) rfl (by kernel_rfl) (by kernel_rfl) (by kernel_rfl) (fun _ _ _ h => h) (by kernel_rfl) ?_ (by assumption) ?_
    rotate_left
    · (intro w5 hSw; obtain ⟨⟨s0, s1⟩, ⟨s2, s3⟩, s4, s5⟩ := hSw; (try have hlf := HLF.out); go_simp); all_goals with_reducible rfl
    try simp only [Act.put, List.setIfInBounds_toArray, List.set_cons_zero, List.set_cons_succ]
    refine take_call (i := 19) rfl (by kernel_rfl) (by kernel_rfl) (fun K hK => ?_)
    go_simp; refine (HTN.out _).mono ?_; rintro r w33 ⟨rfl, bb⟩; have HK1 := Lib.hid (HK.out.below bb); clear bb
    go_wp2_with fail
    clear hHeld
    refine hK.out _ _ ?_ (fun hHeld => ?_)
    · exact HK1.out.c
    clear hK K
    try simp only [Act.put, List.setIfInBounds_toArray, List.set_cons_zero, List.set_cons_succ]
    refine take_run (i := 21) (v := ?_) rfl (by kernel_rfl) (by kernel_rfl) (by kernel_rfl) (fun _ _ _ h => h) (by kernel_rfl) ?_ (by assumption) ?_
    rotate_left
    · (intro w5 hSw; obtain ⟨⟨s0, s1⟩, ⟨s2, s3⟩, s4, s5⟩ := hSw; (try have hlf := HLF.out); go_simp); all_goals with_reducible rfl
    try simp only [Act.put, List.setIfInBounds_toArray, List.set_cons_zero, List.set_cons_succ]
    refine take_run (i := 22) (v := ?_) rfl (by kernel_rfl) (by kernel_rfl) (by kernel_rfl) (fun _ _ _ h => h) (by kernel_rfl) ?_ (by assumption) ?_
    rotate_left
    · (intro w5 hSw; obtain ⟨⟨s0, s1⟩, ⟨s2, s3⟩, s4, s5⟩ := hSw; (try have hlf := HLF.out); go_simp); all_goals with_reducible rfl
    try simp only [Act.put, List.setIfInBounds_toArray, List.set_cons_zero, List.set_cons_succ]
    refine take_run (i := 23) (v := ?_) rfl (by kernel_rfl) (by kernel_rfl) (by kernel_rfl) (fun _ _ _ h => h) (by kernel_rfl) ?_ (by assumption) ?_
    rotate_left
    · (intro w5 hSw; obtain ⟨⟨s0, s1⟩, ⟨s2, s3⟩, s4, s5⟩ := hSw; (try have hlf := HLF.out); go_simp); all_goals with_reducible rfl
    try simp only [Act.put, List.setIfInBounds_toArray, List.set_cons_zero, List.set_cons_succ]
    refine take_call (i := 24) rfl (by kernel_rfl) (by kernel_rfl) (fun K hK => ?_)
    go_simp; refine (HW.out _).mono ?_; rintro r w34 ⟨rfl, bb⟩; have HK2 := Lib.hid (HK1.out.below bb); clear bb
    go_wp2_with fail
    clear hHeld
    refine hK.out _ _ ?_ (fun hHeld => ?_)
    · exact HK2.out.c
    clear hK K
    try simp only [Act.put, List.setIfInBounds_toArray, List.set_cons_zero, List.set_cons_succ]
    refine take_run (i := 25) (v := ?_) rfl (by kernel_rfl) (by kernel_rfl) (by kernel_rfl) (fun _ _ _ h => h) (by kernel_rfl) ?_ (by assumption) ?_
    rotate_left
    · (intro w5 hSw; obtain ⟨⟨s0, s1⟩, ⟨s2, s3⟩, s4, s5⟩ := hSw; (try have hlf := HLF.out); go_simp); all_goals with_reducible rfl
    try simp only [Act.put, List.setIfInBounds_toArray, List.set_cons_zero, List.set_cons_succ]
    refine take_run (i := 26) (v := ?_) rfl (by kernel_rfl) (by kernel_rfl) (by kernel_rfl) (fun _ _ _ h => h) (by kernel_rfl) ?_ (by assumption) ?_
    rotate_left
    · (intro w5 hSw; obtain ⟨⟨s0, s1⟩, ⟨s2, s3⟩, s4, s5⟩ := hSw; (try have hlf := HLF.out); go_simp); all_goals with_reducible rfl
    try simp only [Act.put, List.setIfInBounds_toArray, List.set_cons_zero, List.set_cons_succ]
    refine wpAnyH_done (by kernel_rfl) ?_ _
    go_wp2
    go_ret
    exact ⟨rfl, HK2.out.bel⟩
end Go.Proofs.Ytafhljmeofnbnaa
