/-
  The landed ballot's Turn.
-/
import Derived.Test.YtafhljmeofnbnaaBlTopC
namespace Go.Proofs.Ytafhljmeofnbnaa
open Go.RowKit
set_option linter.unusedVariables false

/-- The ballot's box, the result's. -/
structure TurS (q : Nat) (b : Bal) (w0 w : World) : Prop where
  b1 : BalB q b w
  res : BalB (q + 1) (0, 0) w
  bel : Below w0.heap.size w0 w
  le : w0.heap.size ≤ q
theorem TurS.below {q : Nat} {b : Bal} {w0 w w' : World} (h : TurS q b w0 w) (hb : Below w.heap.size w w') : TurS q b w0 w' := ⟨h.b1.below hb, h.res.below hb, h.bel.trans (hb.mono h.bel.size), h.le⟩
theorem tur_new (w : World) (b : Bal) : TurS w.heap.size b w ((w.alloc (.cells #[.int .u64 (b.1 : Nat), .int .u8 (b.2 : Nat)] 25)).alloc (.cells #[.int .u64 0, .int .u8 0] 25)) := by
  have e1 := BalB.new w b
  have e2 := BalB.new (w.alloc (.cells #[.int .u64 (b.1 : Nat), .int .u8 (b.2 : Nat)] 25)) (0, 0)
  simp only [World.size_alloc] at e2
  exact ⟨e1.below ((Below.refl _ _).alloc (Nat.le_refl _) _), e2, ((Below.refl _ w).alloc (Nat.le_refl _) _).alloc (by simp) _, Nat.le_refl _⟩
/-- What stands in the result's cell at the end. -/
theorem TurS.done {q : Nat} {b : Bal} {w0 w : World} (h : TurS q b w0 w) (x : Bal) : BalB (q + 1) x ((w.setCell ⟨q + 1, 0, none⟩ (.int .u64 (x.1 : Nat))).setCell ⟨q + 1, 1, none⟩ (.int .u8 (x.2 : Nat))) ∧ Below w0.heap.size w0 ((w.setCell ⟨q + 1, 0, none⟩ (.int .u64 (x.1 : Nat))).setCell ⟨q + 1, 1, none⟩ (.int .u8 (x.2 : Nat))) :=
  ⟨h.res.store x, (h.bel.setCell (p := ⟨q + 1, 0, none⟩) (by have := h.le; show w0.heap.size ≤ q + 1; omega) _).setCell (p := ⟨q + 1, 1, none⟩) (by have := h.le; show w0.heap.size ≤ q + 1; omega) _⟩

set_option maxRecDepth 100000 in
set_option maxHeartbeats 2000000 in
theorem turn_is (b : Bal) (r : Nat) (w : World) (hb : okBal b) (hr : r < 256) :
    Calls Try.prog 9 #[balV b, .int .u8 (r : Nat)] w fun e w' => e = .returned (.tuple #[balV (turnL b r).1, .int .i64 (turnL b r).2]) ∧ Below w.heap.size w w' := by
  have K := tur_new w b
  have hb1 : (b.1 : Int) ≤ 18446744073709551615 := by have := hb.1; omega
  have H1 := fun v => check_is b v
  have H2 := fun v => isNode_any r v
  have H3 := fun v => check_is (b.1, r) v
  have H4 := fun v => below_is b (b.1, r) v
  go_enter Try.func9, Try.ntmps9
  unfold balV at *
  go_upto_region 1 with fail
  generalize ((w.alloc (.cells #[.int .u64 (b.1 : Nat), .int .u8 (b.2 : Nat)] 25)).alloc (.cells #[.int .u64 0, .int .u8 0] 25)) = V at *
  generalize hq : w.heap.size = q at *
  have HK := Lib.hid K
  obtain ⟨k0, k1⟩ := K.b1.vals
  obtain ⟨m0, m1⟩ := K.res.vals
  have f0 := K.res.frozen 0
  have f1 := K.res.frozen 1
  clear K
  rcases hm : mayL b with _ | _
  · rw [hm] at H1
    have HT := Lib.hid (show turnL b r = ((0, 0), 2) by simp [turnL, hm])
    clear H2 H3 H4 hm
    replace H1 := Lib.hid H1
    go_wp2_with ((go_at_call 12; (with_reducible refine (H1.out _).mono ?_); rintro e v1 ⟨rfl, b1⟩; have HK1 := Lib.hid (HK.out.below b1); clear k0 k1 m0 m1 f0 f1; obtain ⟨k0, k1⟩ := HK1.out.b1.vals; obtain ⟨m0, m1⟩ := HK1.out.res.vals; have f0 := HK1.out.res.frozen 0; have f1 := HK1.out.res.frozen 1; clear b1))
    have hz := HK1.out.done (0, 0)
    obtain ⟨z0, z1⟩ := hz.1.vals
    refine bodyPost_ret (v := .tuple #[.agg #[.int .u64 (((0, 0) : Bal).1 : Nat), .int .u8 (((0, 0) : Bal).2 : Nat)], .int .i64 2]) ?_ rfl ⟨by rw [HT.out], hz.2⟩
    simp [results, Try.f9, go_sem] at z0 z1 ⊢; simp [z0, z1]
  · rw [hm] at H1
    by_cases h6 : 6 < r
    · have HT := Lib.hid (show turnL b r = ((0, 0), 2) by simp [turnL, hm, h6])
      rw [decide_eq_false (show ¬ r < 7 by omega)] at H2
      clear H3 H4 hm
      replace H1 := Lib.hid H1
      replace H2 := Lib.hid H2
      go_wp2_with (first | (go_at_call 12; (with_reducible refine (H1.out _).mono ?_); rintro e v1 ⟨rfl, b1⟩; have HK1 := Lib.hid (HK.out.below b1); clear k0 k1 m0 m1 f0 f1; obtain ⟨k0, k1⟩ := HK1.out.b1.vals; obtain ⟨m0, m1⟩ := HK1.out.res.vals; have f0 := HK1.out.res.frozen 0; have f1 := HK1.out.res.frozen 1; clear b1) | (go_at_call 26; (with_reducible refine (H2.out _).mono ?_); rintro e v2 ⟨rfl, rfl⟩))
      have hz := HK1.out.done (0, 0)
      obtain ⟨z0, z1⟩ := hz.1.vals
      refine bodyPost_ret (v := .tuple #[.agg #[.int .u64 (((0, 0) : Bal).1 : Nat), .int .u8 (((0, 0) : Bal).2 : Nat)], .int .i64 2]) ?_ rfl ⟨by rw [HT.out], hz.2⟩
      simp [results, Try.f9, go_sem] at z0 z1 ⊢; simp [z0, z1]
    · rw [decide_eq_true (show r < 7 by omega)] at H2
      replace H1 := Lib.hid H1
      replace H2 := Lib.hid H2
      replace H3 := Lib.hid H3
      replace H4 := Lib.hid H4
      have HM := Lib.hid hm
      have H6 := Lib.hid h6
      clear hm h6
      go_upto_region 4 with (first | (go_at_call 12; (with_reducible refine (H1.out _).mono ?_); rintro e v1 ⟨rfl, b1⟩; have HK1 := Lib.hid (HK.out.below b1); clear k0 k1 m0 m1 f0 f1; obtain ⟨k0, k1⟩ := HK1.out.b1.vals; obtain ⟨m0, m1⟩ := HK1.out.res.vals; have f0 := HK1.out.res.frozen 0; have f1 := HK1.out.res.frozen 1; clear b1) | (go_at_call 26; (with_reducible refine (H2.out _).mono ?_); rintro e v2 ⟨rfl, rfl⟩))
      have B3 : BalB v1.heap.size (b.1, r) (v1.alloc (.cells #[.int .u64 (b.1 : Nat), .int .u8 (r : Nat)] 25)) := BalB.new v1 (b.1, r)
      have K3 := HK1.out.below ((Below.refl _ v1).alloc (Nat.le_refl _) (.cells #[.int .u64 (b.1 : Nat), .int .u8 (r : Nat)] 25))
      generalize (v1.alloc (.cells #[.int .u64 (b.1 : Nat), .int .u8 (r : Nat)] 25)) = V3 at *
      generalize v1.heap.size = q3 at *
      have HB3 := Lib.hid B3
      have HK3 := Lib.hid K3
      clear k0 k1 m0 m1 f0 f1 HK HK1 H1 H2
      obtain ⟨k0, k1⟩ := K3.b1.vals
      obtain ⟨m0, m1⟩ := K3.res.vals
      have f0 := K3.res.frozen 0
      have f1 := K3.res.frozen 1
      obtain ⟨s0, s1⟩ := B3.vals
      clear B3 K3
      have hmb := may_iff.1 HM.out
      by_cases ha : b.1 = 0 ∧ r ≠ 0
      · have H5 := H3.out
        rw [show mayL (b.1, r) = false by cases hx : mayL (b.1, r) with
          | false => rfl
          | true => rw [may_iff] at hx; simp only at hx; omega] at H5
        replace H5 := Lib.hid H5
        have HT := Lib.hid (show turnL b r = ((b.1 + 1, r), 0) by unfold turnL; rw [if_neg (by rw [HM.out]; have := H6.out; simp; omega), if_neg (by omega), if_neg (by omega)])
        have hx1 : ¬ (b.1 : Int) = 18446744073709551615 := by omega
        clear ha hmb
        go_wp2_with ((go_at_call 12; (with_reducible refine (H5.out _).mono ?_); rintro e v3 ⟨rfl, b3⟩; have HK4 := Lib.hid (HK3.out.below b3); clear k0 k1 m0 m1 f0 f1; obtain ⟨k0, k1⟩ := HK4.out.b1.vals; obtain ⟨m0, m1⟩ := HK4.out.res.vals; have f0 := HK4.out.res.frozen 0; have f1 := HK4.out.res.frozen 1; have HB4 := Lib.hid (HB3.out.below b3); clear b3 s0 s1; obtain ⟨s0, s1⟩ := HB4.out.vals))
        have hz := HK4.out.done (b.1 + 1, r)
        obtain ⟨z0, z1⟩ := hz.1.vals
        refine bodyPost_ret (v := .tuple #[.agg #[.int .u64 (((b.1 + 1, r) : Bal).1 : Nat), .int .u8 (((b.1 + 1, r) : Bal).2 : Nat)], .int .i64 0]) ?_ rfl ⟨by rw [HT.out], hz.2⟩
        simp [results, Try.f9, go_sem] at z0 z1 ⊢; simp [z0, z1]
      · have H5 := H3.out
        rw [show mayL (b.1, r) = true from may_iff.2 (by have := H6.out; simp only; omega)] at H5
        replace H5 := Lib.hid H5
        have H7 := H4.out
        by_cases hbl : 0 < b.1 ∧ b.2 < r
        · rw [show belowL b (b.1, r) = true from below_iff.2 (.inr ⟨rfl, hbl.2⟩)] at H7
          replace H7 := Lib.hid H7
          have HT := Lib.hid (show turnL b r = ((b.1, r), 0) by unfold turnL; rw [if_neg (by rw [HM.out]; have := H6.out; simp; omega), if_pos hbl])
          clear ha hmb hbl
          go_wp2_with (first | (go_at_call 12; (with_reducible refine (H5.out _).mono ?_); rintro e v3 ⟨rfl, b3⟩; have HK4 := Lib.hid (HK3.out.below b3); clear k0 k1 m0 m1 f0 f1; obtain ⟨k0, k1⟩ := HK4.out.b1.vals; obtain ⟨m0, m1⟩ := HK4.out.res.vals; have f0 := HK4.out.res.frozen 0; have f1 := HK4.out.res.frozen 1; have HB4 := Lib.hid (HB3.out.below b3); clear b3 s0 s1; obtain ⟨s0, s1⟩ := HB4.out.vals) | (go_at_call 13; (with_reducible refine (H7.out _).mono ?_); rintro e v4 ⟨rfl, b4⟩; have HK5 := Lib.hid (HK4.out.below b4); clear k0 k1 m0 m1 f0 f1; obtain ⟨k0, k1⟩ := HK5.out.b1.vals; obtain ⟨m0, m1⟩ := HK5.out.res.vals; have f0 := HK5.out.res.frozen 0; have f1 := HK5.out.res.frozen 1; have HB5 := Lib.hid (HB4.out.below b4); clear b4 s0 s1; obtain ⟨s0, s1⟩ := HB5.out.vals))
          have hz := HK5.out.done (b.1, r)
          obtain ⟨z0, z1⟩ := hz.1.vals
          refine bodyPost_ret (v := .tuple #[.agg #[.int .u64 (((b.1, r) : Bal).1 : Nat), .int .u8 (((b.1, r) : Bal).2 : Nat)], .int .i64 0]) ?_ rfl ⟨by rw [HT.out], hz.2⟩
          simp [results, Try.f9, go_sem] at z0 z1 ⊢; simp [z0, z1]
        · rw [show belowL b (b.1, r) = false from below_not.2 (by simp only; omega)] at H7
          replace H7 := Lib.hid H7
          by_cases hx : b.1 = 18446744073709551615
          · have HT := Lib.hid (show turnL b r = ((0, 0), 7) by unfold turnL; rw [if_neg (by rw [HM.out]; have := H6.out; simp; omega), if_neg hbl, if_pos hx])
            have HX := Lib.hid hx
            clear ha hmb hbl hx
            go_upto_region 6 with (first | (go_at_call 12; (with_reducible refine (H5.out _).mono ?_); rintro e v3 ⟨rfl, b3⟩; have HK4 := Lib.hid (HK3.out.below b3); clear k0 k1 m0 m1 f0 f1; obtain ⟨k0, k1⟩ := HK4.out.b1.vals; obtain ⟨m0, m1⟩ := HK4.out.res.vals; have f0 := HK4.out.res.frozen 0; have f1 := HK4.out.res.frozen 1; have HB4 := Lib.hid (HB3.out.below b3); clear b3 s0 s1; obtain ⟨s0, s1⟩ := HB4.out.vals) | (go_at_call 13; (with_reducible refine (H7.out _).mono ?_); rintro e v4 ⟨rfl, b4⟩; have HK5 := Lib.hid (HK4.out.below b4); clear k0 k1 m0 m1 f0 f1; obtain ⟨k0, k1⟩ := HK5.out.b1.vals; obtain ⟨m0, m1⟩ := HK5.out.res.vals; have f0 := HK5.out.res.frozen 0; have f1 := HK5.out.res.frozen 1; have HB5 := Lib.hid (HB4.out.below b4); clear b4 s0 s1; obtain ⟨s0, s1⟩ := HB5.out.vals))
            have hx1 : (b.1 : Int) = 18446744073709551615 := by have := HX.out; omega
            go_wp2_with fail
            have hz := HK5.out.done (0, 0)
            obtain ⟨z0, z1⟩ := hz.1.vals
            refine bodyPost_ret (v := .tuple #[.agg #[.int .u64 (((0, 0) : Bal).1 : Nat), .int .u8 (((0, 0) : Bal).2 : Nat)], .int .i64 7]) ?_ rfl ⟨by rw [HT.out], hz.2⟩
            simp [results, Try.f9, go_sem] at z0 z1 ⊢; simp [z0, z1]
          · have HT := Lib.hid (show turnL b r = ((b.1 + 1, r), 0) by unfold turnL; rw [if_neg (by rw [HM.out]; have := H6.out; simp; omega), if_neg hbl, if_neg hx])
            have hx1 : ¬ (b.1 : Int) = 18446744073709551615 := by omega
            clear ha hmb hbl hx
            go_wp2_with (first | (go_at_call 12; (with_reducible refine (H5.out _).mono ?_); rintro e v3 ⟨rfl, b3⟩; have HK4 := Lib.hid (HK3.out.below b3); clear k0 k1 m0 m1 f0 f1; obtain ⟨k0, k1⟩ := HK4.out.b1.vals; obtain ⟨m0, m1⟩ := HK4.out.res.vals; have f0 := HK4.out.res.frozen 0; have f1 := HK4.out.res.frozen 1; have HB4 := Lib.hid (HB3.out.below b3); clear b3 s0 s1; obtain ⟨s0, s1⟩ := HB4.out.vals) | (go_at_call 13; (with_reducible refine (H7.out _).mono ?_); rintro e v4 ⟨rfl, b4⟩; have HK5 := Lib.hid (HK4.out.below b4); clear k0 k1 m0 m1 f0 f1; obtain ⟨k0, k1⟩ := HK5.out.b1.vals; obtain ⟨m0, m1⟩ := HK5.out.res.vals; have f0 := HK5.out.res.frozen 0; have f1 := HK5.out.res.frozen 1; have HB5 := Lib.hid (HB4.out.below b4); clear b4 s0 s1; obtain ⟨s0, s1⟩ := HB5.out.vals))
            have hz := HK5.out.done (b.1 + 1, r)
            obtain ⟨z0, z1⟩ := hz.1.vals
            refine bodyPost_ret (v := .tuple #[.agg #[.int .u64 (((b.1 + 1, r) : Bal).1 : Nat), .int .u8 (((b.1 + 1, r) : Bal).2 : Nat)], .int .i64 0]) ?_ rfl ⟨by rw [HT.out], hz.2⟩
            simp [results, Try.f9, go_sem] at z0 z1 ⊢; simp [z0, z1]
end Go.Proofs.Ytafhljmeofnbnaa
