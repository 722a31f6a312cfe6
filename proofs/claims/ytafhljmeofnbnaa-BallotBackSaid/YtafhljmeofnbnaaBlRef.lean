/-
  The document's own Turn, Bytes and Top of ballots: contracts.
-/
import Derived.Test.YtafhljmeofnbnaaBlOrder
namespace Go.Proofs.Ytafhljmeofnbnaa
open Go.RowKit
set_option linter.unusedVariables false

set_option maxRecDepth 100000 in
set_option maxHeartbeats 1000000 in
theorem refTurn_is (b : Bal) (r : Nat) (w : World) (hb : okBal b) (hr : r < 256) :
    Calls Try.prog 10 #[balV b, .int .u8 (r : Nat)] w fun e w' => e = .returned (.tuple #[balV (turnL b r).1, .int .i64 (turnL b r).2]) ∧ Below w.heap.size w w' := by
  have K1 := BalB.new w b
  have K2 := BalB.new (w.alloc (.cells #[.int .u64 (b.1 : Nat), .int .u8 (b.2 : Nat)] 25)) (0, 0)
  have hB : Below w.heap.size w ((w.alloc (.cells #[.int .u64 (b.1 : Nat), .int .u8 (b.2 : Nat)] 25)).alloc (.cells #[.int .u64 0, .int .u8 0] 25)) := ((Below.refl _ w).alloc (Nat.le_refl _) _).alloc (by simp) _
  replace K1 := K1.below ((Below.refl _ _).alloc (Nat.le_refl _) (.cells #[.int .u64 0, .int .u8 0] 25))
  simp only [World.size_alloc] at K2
  have HM := Lib.hid (fun v => refMay_is b v)
  go_enter Try.func10, Try.ntmps10
  unfold balV at *
  go_upto_region 1 with fail
  generalize ((w.alloc (.cells #[.int .u64 (b.1 : Nat), .int .u8 (b.2 : Nat)] 25)).alloc (.cells #[.int .u64 0, .int .u8 0] 25)) = V at *
  have HB := Lib.hid hB
  obtain ⟨p0, p1⟩ := K1.vals
  have hb1 : (b.1 : Int) ≤ 18446744073709551615 := by have := hb.1; omega
  clear hB
  rcases hm : mayL b with _ | _
  · have H2 := HM.out
    rw [hm] at H2
    have HM2 := Lib.hid H2
    clear H2 HM
    have HT := Lib.hid (show turnL b r = ((0, 0), 2) by simp [turnL, hm])
    clear hm
    go_wp2_with (go_at_call 11; (with_reducible refine (HM2.out _).mono ?_); rintro e v1 ⟨rfl, b1⟩; have HB1 := Lib.hid b1; clear b1; obtain ⟨k0, k1⟩ := (K1.below HB1.out).vals; obtain ⟨m0, m1⟩ := (K2.below HB1.out).vals; have f0 := (K2.below HB1.out).frozen 0; have f1 := (K2.below HB1.out).frozen 1; clear p0 p1)
    have hz := (K2.below HB1.out).store (0, 0)
    obtain ⟨z0, z1⟩ := hz.vals
    refine bodyPost_ret (v := .tuple #[.agg #[.int .u64 (((0, 0) : Bal).1 : Nat), .int .u8 (((0, 0) : Bal).2 : Nat)], .int .i64 2]) ?_ rfl ⟨by rw [HT.out], ?_⟩
    · simp [results, Try.f10, go_sem] at z0 z1 ⊢; simp [z0, z1]
    · exact (((HB.out.trans (HB1.out.mono HB.out.size)).setCell (p := ⟨w.heap.size + 1, 0, none⟩) (by show w.heap.size ≤ w.heap.size + 1; omega) _).setCell (p := ⟨w.heap.size + 1, 1, none⟩) (by show w.heap.size ≤ w.heap.size + 1; omega) _)
  · have H2 := HM.out
    rw [hm] at H2
    have HM2 := Lib.hid H2
    clear H2 HM
    by_cases h6 : 6 < r
    · have h6i : (6 : Int) < (r : Int) := by omega
      have HT := Lib.hid (show turnL b r = ((0, 0), 2) by simp [turnL, hm, h6])
      clear hm
      go_wp2_with (go_at_call 11; (with_reducible refine (HM2.out _).mono ?_); rintro e v1 ⟨rfl, b1⟩; have HB1 := Lib.hid b1; clear b1; obtain ⟨k0, k1⟩ := (K1.below HB1.out).vals; obtain ⟨m0, m1⟩ := (K2.below HB1.out).vals; have f0 := (K2.below HB1.out).frozen 0; have f1 := (K2.below HB1.out).frozen 1; clear p0 p1)
      have hz := (K2.below HB1.out).store (0, 0)
      obtain ⟨z0, z1⟩ := hz.vals
      refine bodyPost_ret (v := .tuple #[.agg #[.int .u64 (((0, 0) : Bal).1 : Nat), .int .u8 (((0, 0) : Bal).2 : Nat)], .int .i64 2]) ?_ rfl ⟨by rw [HT.out], ?_⟩
      · simp [results, Try.f10, go_sem] at z0 z1 ⊢; simp [z0, z1]
      · exact (((HB.out.trans (HB1.out.mono HB.out.size)).setCell (p := ⟨w.heap.size + 1, 0, none⟩) (by show w.heap.size ≤ w.heap.size + 1; omega) _).setCell (p := ⟨w.heap.size + 1, 1, none⟩) (by show w.heap.size ≤ w.heap.size + 1; omega) _)
    · have h6i : ¬ (6 : Int) < (r : Int) := by omega
      by_cases h7 : 0 < b.1 ∧ b.2 < r
      · have h7i : (0 : Int) < (b.1 : Int) := by omega
        have h7j : (b.2 : Int) < (r : Int) := by omega
        have HT := Lib.hid (show turnL b r = ((b.1, r), 0) by simp [turnL, hm, h6, h7])
        clear hm
        go_wp2_with (go_at_call 11; (with_reducible refine (HM2.out _).mono ?_); rintro e v1 ⟨rfl, b1⟩; have HB1 := Lib.hid b1; clear b1; obtain ⟨k0, k1⟩ := (K1.below HB1.out).vals; obtain ⟨m0, m1⟩ := (K2.below HB1.out).vals; have f0 := (K2.below HB1.out).frozen 0; have f1 := (K2.below HB1.out).frozen 1; clear p0 p1)
        have hz := (K2.below HB1.out).store (b.1, r)
        obtain ⟨z0, z1⟩ := hz.vals
        refine bodyPost_ret (v := .tuple #[.agg #[.int .u64 (((b.1, r) : Bal).1 : Nat), .int .u8 (((b.1, r) : Bal).2 : Nat)], .int .i64 0]) ?_ rfl ⟨by rw [HT.out], ?_⟩
        · simp [results, Try.f10, go_sem] at z0 z1 ⊢; simp [z0, z1]
        · exact (((HB.out.trans (HB1.out.mono HB.out.size)).setCell (p := ⟨w.heap.size + 1, 0, none⟩) (by show w.heap.size ≤ w.heap.size + 1; omega) _).setCell (p := ⟨w.heap.size + 1, 1, none⟩) (by show w.heap.size ≤ w.heap.size + 1; omega) _)
      · by_cases h8 : b.1 = 18446744073709551615
        · have h7i : (0 : Int) < (b.1 : Int) := by omega
          have h7j : ¬ (b.2 : Int) < (r : Int) := by omega
          have HT := Lib.hid (show turnL b r = ((0, 0), 7) by unfold turnL; rw [if_neg (by simp [hm]; omega), if_neg h7, if_pos h8])
          have H8 := Lib.hid h8
          clear hm h7 h8
          go_wp2_with (go_at_call 11; (with_reducible refine (HM2.out _).mono ?_); rintro e v1 ⟨rfl, b1⟩; have HB1 := Lib.hid b1; clear b1; obtain ⟨k0, k1⟩ := (K1.below HB1.out).vals; obtain ⟨m0, m1⟩ := (K2.below HB1.out).vals; have f0 := (K2.below HB1.out).frozen 0; have f1 := (K2.below HB1.out).frozen 1; clear p0 p1; have h8i : (b.1 : Int) = 18446744073709551615 := by have := H8.out; omega)
          have hz := (K2.below HB1.out).store (0, 0)
          obtain ⟨z0, z1⟩ := hz.vals
          refine bodyPost_ret (v := .tuple #[.agg #[.int .u64 (((0, 0) : Bal).1 : Nat), .int .u8 (((0, 0) : Bal).2 : Nat)], .int .i64 7]) ?_ rfl ⟨by rw [HT.out], ?_⟩
          · simp [results, Try.f10, go_sem] at z0 z1 ⊢; simp [z0, z1]
          · exact (((HB.out.trans (HB1.out.mono HB.out.size)).setCell (p := ⟨w.heap.size + 1, 0, none⟩) (by show w.heap.size ≤ w.heap.size + 1; omega) _).setCell (p := ⟨w.heap.size + 1, 1, none⟩) (by show w.heap.size ≤ w.heap.size + 1; omega) _)
        · have h8i : ¬ (b.1 : Int) = 18446744073709551615 := by omega
          by_cases h0 : 0 < b.1
          · have h7i : (0 : Int) < (b.1 : Int) := by omega
            have h7j : ¬ (b.2 : Int) < (r : Int) := by omega
            have HT := Lib.hid (show turnL b r = ((b.1 + 1, r), 0) by unfold turnL; rw [if_neg (by simp [hm]; omega), if_neg h7, if_neg h8])
            clear hm h6 h7 h8 h0
            go_wp2_with (go_at_call 11; (with_reducible refine (HM2.out _).mono ?_); rintro e v1 ⟨rfl, b1⟩; have HB1 := Lib.hid b1; clear b1; obtain ⟨k0, k1⟩ := (K1.below HB1.out).vals; obtain ⟨m0, m1⟩ := (K2.below HB1.out).vals; have f0 := (K2.below HB1.out).frozen 0; have f1 := (K2.below HB1.out).frozen 1; clear p0 p1)
            have hz := (K2.below HB1.out).store (b.1 + 1, r)
            obtain ⟨z0, z1⟩ := hz.vals
            refine bodyPost_ret (v := .tuple #[.agg #[.int .u64 (((b.1 + 1, r) : Bal).1 : Nat), .int .u8 (((b.1 + 1, r) : Bal).2 : Nat)], .int .i64 0]) ?_ rfl ⟨by rw [HT.out], ?_⟩
            · simp [results, Try.f10, go_sem] at z0 z1 ⊢; simp [z0, z1]
            · exact (((HB.out.trans (HB1.out.mono HB.out.size)).setCell (p := ⟨w.heap.size + 1, 0, none⟩) (by show w.heap.size ≤ w.heap.size + 1; omega) _).setCell (p := ⟨w.heap.size + 1, 1, none⟩) (by show w.heap.size ≤ w.heap.size + 1; omega) _)
          · have h7i : ¬ (0 : Int) < (b.1 : Int) := by omega
            have HT := Lib.hid (show turnL b r = ((b.1 + 1, r), 0) by unfold turnL; rw [if_neg (by simp [hm]; omega), if_neg h7, if_neg h8])
            clear hm h6 h7 h8 h0
            go_wp2_with (go_at_call 11; (with_reducible refine (HM2.out _).mono ?_); rintro e v1 ⟨rfl, b1⟩; have HB1 := Lib.hid b1; clear b1; obtain ⟨k0, k1⟩ := (K1.below HB1.out).vals; obtain ⟨m0, m1⟩ := (K2.below HB1.out).vals; have f0 := (K2.below HB1.out).frozen 0; have f1 := (K2.below HB1.out).frozen 1; clear p0 p1)
            have hz := (K2.below HB1.out).store (b.1 + 1, r)
            obtain ⟨z0, z1⟩ := hz.vals
            refine bodyPost_ret (v := .tuple #[.agg #[.int .u64 (((b.1 + 1, r) : Bal).1 : Nat), .int .u8 (((b.1 + 1, r) : Bal).2 : Nat)], .int .i64 0]) ?_ rfl ⟨by rw [HT.out], ?_⟩
            · simp [results, Try.f10, go_sem] at z0 z1 ⊢; simp [z0, z1]
            · exact (((HB.out.trans (HB1.out.mono HB.out.size)).setCell (p := ⟨w.heap.size + 1, 0, none⟩) (by show w.heap.size ≤ w.heap.size + 1; omega) _).setCell (p := ⟨w.heap.size + 1, 1, none⟩) (by show w.heap.size ≤ w.heap.size + 1; omega) _)
end Go.Proofs.Ytafhljmeofnbnaa
