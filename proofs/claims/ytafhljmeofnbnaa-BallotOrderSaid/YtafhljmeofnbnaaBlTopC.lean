/-
  The landed ballot's Top (over slices.MaxFunc).
-/
import Derived.Test.YtafhljmeofnbnaaBlOrd
import Derived.Test.YtafhljmeofnbnaaBlTop
namespace Go.Proofs.Ytafhljmeofnbnaa
open Go.RowKit
set_option linter.unusedVariables false

theorem top_one (b : Bal) : topL [b] = b := by
  show (if belowL (0, 0) b = true then b else (0, 0)) = b
  by_cases h : belowL (0, 0) b = true
  · rw [if_pos h]
  · rw [if_neg h]
    rw [Bool.not_eq_true, below_not] at h
    rw [bal_ext]
    simp only at *
    omega
theorem top_next {l : List Bal} {i : Nat} (hi : i < l.length) : topL (l.take (i + 1)) = if belowL (topL (l.take i)) l[i] = true then l[i] else topL (l.take i) := by
  rw [List.take_succ_eq_append_getElem hi, top_snoc]
theorem top_first {l : List Bal} (h : 0 < l.length) : topL (l.take 1) = l[0] := by
  rcases l with _ | ⟨x, l⟩
  · simp at h
  · exact top_one x

set_option maxRecDepth 100000 in
set_option maxHeartbeats 1000000 in
theorem maxFunc_is (w : World) (a : Option Addr) (n c : Nat) (l : List Bal) (h : Bals w a n l) (h0 : 0 < n) (hn : n ≤ 100) :
    Calls Try.prog 28 #[.slice a n c, .func (.func 27) #[] #[]] w fun r w' => r = .returned (balV (topL l)) ∧ Below w.heap.size w w' := by
  have HO := Lib.hid (fun v x y => order_is x y v)
  have HLN := Lib.hid h.len
  have hl0 : 0 < l.length := by rw [h.len]; exact h0
  have HF := Lib.hid (top_first hl0)
  obtain ⟨bb, off, rfl, hcc⟩ := h.base h0
  obtain ⟨c0, c1⟩ := hcc 0 hl0
  simp only [Nat.zero_mul, Nat.add_zero] at c0 c1
  rw [← HF.out] at c0 c1
  have HBL := Lib.hid h
  have K1 := BalB.new w (0, 0)
  have A1 : Below w.heap.size w (w.alloc (.cells #[.int .u64 0, .int .u8 0] 25)) := (Below.refl _ w).alloc (Nat.le_refl _) _
  obtain ⟨d0, d1⟩ : (w.alloc (.cells #[.int .u64 0, .int .u8 0] 25)).cell? ⟨bb, off, none⟩ = some (.int .u64 ((topL (l.take 1)).1 : Nat)) ∧ (w.alloc (.cells #[.int .u64 0, .int .u8 0] 25)).cell? ⟨bb, off + 1, none⟩ = some (.int .u8 ((topL (l.take 1)).2 : Nat)) :=
    ⟨(A1.cell (World.block_lt_of_cell? _ _ c0)).trans c0, (A1.cell (World.block_lt_of_cell? _ _ c1)).trans c1⟩
  have K2 := BalB.new (w.alloc (.cells #[.int .u64 0, .int .u8 0] 25)) (topL (l.take 1))
  have hB : Below w.heap.size w ((w.alloc (.cells #[.int .u64 0, .int .u8 0] 25)).alloc (.cells #[.int .u64 ((topL (l.take 1)).1 : Nat), .int .u8 ((topL (l.take 1)).2 : Nat)] 25)) := A1.alloc (by simp) _
  replace K1 := K1.below ((Below.refl _ _).alloc (Nat.le_refl _) (.cells #[.int .u64 ((topL (l.take 1)).1 : Nat), .int .u8 ((topL (l.take 1)).2 : Nat)] 25))
  simp only [World.size_alloc] at K2
  have HJ := Lib.hid (show RTop w w.heap.size (topL (l.take 1)) (some ⟨bb, off, none⟩) n l _ from ⟨K1, K2, h.below hB, hB⟩)
  clear K1 K2 hB A1 hcc h c0 c1
  generalize hT1 : topL (l.take 1) = t1 at *
  have HT1 := Lib.hid hT1
  clear hT1
  have h0i : ¬ (n : Int) < 1 := by omega
  go_enter Try.func28, Try.ntmps28
  unfold balV at *
  go_upto_region 4 with fail
  generalize ((w.alloc (.cells #[.int .u64 0, .int .u8 0] 25)).alloc (.cells #[.int .u64 (t1.1 : Nat), .int .u8 (t1.2 : Nat)] 25)) = V at *
  clear d0 d1
  go_wp2_with fail
  go_loopw [6] (fun iv wx => ∃ i : Nat, 1 ≤ i ∧ i ≤ n ∧ iv = .int .i64 i ∧ RTop w w.heap.size (topL (l.take i)) (some ⟨bb, off, none⟩) n l wx) (fun iv _ => n - (intOf iv).toNat)
  case atStart => exact ⟨1, Nat.le_refl _, by omega, rfl, by rw [HT1.out]; exact HJ.out⟩
  case round =>
    obtain ⟨i, hi1, hi, rfl, hJ⟩ := hrel
    have HJ2 := Lib.hid hJ
    clear hJ HJ HT1
    by_cases hlt : i < n
    · have hil : i < l.length := by rw [HLN.out]; exact hlt
      obtain ⟨b2, o2, eb, hcc⟩ := HJ2.out.bals.base (by omega)
      simp only [Option.some.injEq, Addr.mk.injEq, and_true] at eb
      obtain ⟨rfl, rfl⟩ := eb
      obtain ⟨c0, c1⟩ := hcc i hil
      have HN := Lib.hid (top_next hil)
      clear hcc
      generalize l[i] = x at c0 c1 HN
      generalize topL (l.take i) = t at *
      have K2 := HJ2.out.out
      obtain ⟨p0, p1⟩ := K2.vals
      have HOX := HO.out
      have HBLX := HBL.out
      obtain ⟨z, hz⟩ : ∃ z, ordI x t = z := ⟨_, rfl⟩
      have hpos := ord_pos x t
      rw [hz] at hpos
      have HOZ := Lib.hid (show ∀ v, Calls Try.prog 27 #[balV x, balV t] v fun r w' => r = .returned (.int .i64 z) ∧ Below v.heap.size v w' from fun v => by rw [← hz]; exact order_is x t v)
      clear HOX HBLX hz
      unfold balV at HOZ
      go_upto_region 7 with fail
      by_cases hb : belowL t x = true
      · have hz0 : 0 < z := by rw [hpos]; exact hb
        have HE := Lib.hid (show topL (l.take (i + 1)) = x by rw [HN.out, if_pos hb])
        clear hpos hb HN
        go_cut [27] (fun bv wx => bv = .bool true ∧ RTop w w.heap.size t (some ⟨bb, off, none⟩) n l wx ∧ wx.cell? ⟨bb, off + i * 2, none⟩ = some (.int .u64 (x.1 : Nat)) ∧ wx.cell? ⟨bb, off + i * 2 + 1, none⟩ = some (.int .u8 (x.2 : Nat)))
        case first =>
          have C0 := Lib.hid c0
          have C1 := Lib.hid c1
          go_region_with (go_at_call 27; (with_reducible refine (HOZ.out _).mono ?_); rintro r w8 ⟨rfl, b8⟩)
          all_goals (go_wp2_with fail; go_meet; (case rel => exact ⟨rfl, (HJ2.out.below ((Below.refl wr.heap.size wr).drew)).below b8, (((Below.refl wr.heap.size wr).drew.trans b8).cell (World.block_lt_of_cell? _ _ C0.out)).trans C0.out, (((Below.refl wr.heap.size wr).drew.trans b8).cell (World.block_lt_of_cell? _ _ C1.out)).trans C1.out⟩))
        case rest =>
          obtain ⟨rfl, hj3, e0, e1⟩ := hcut
          clear c0 c1 p0 p1
          have K1 := hj3.res
          have K2 := hj3.out
          have f0 := K2.frozen 0
          have f1 := K2.frozen 1
          obtain ⟨p0, p1⟩ := K2.vals
          have HJ3 := Lib.hid hj3
          clear hj3
          go_wp2_with fail
          go_roundw
          case rel =>
            have hb2 : Below w.heap.size w ((wc.setCell ⟨w.heap.size + 1, 0, none⟩ (.int .u64 (x.1 : Nat))).setCell ⟨w.heap.size + 1, 1, none⟩ (.int .u8 (x.2 : Nat))) := ((HJ3.out.bel.setCell (p := ⟨w.heap.size + 1, 0, none⟩) (by show w.heap.size ≤ w.heap.size + 1; omega) _).setCell (p := ⟨w.heap.size + 1, 1, none⟩) (by show w.heap.size ≤ w.heap.size + 1; omega) _)
            exact ⟨i + 1, by omega, by omega, by go_num, (K1.other (by simp) _).other (by simp) _, by rw [HE.out]; exact K2.store x, HBL.out.below hb2, hb2⟩
          case measure => simp [intOf]; omega
      · have hz0 : ¬ 0 < z := by rw [hpos]; exact hb
        have HE := Lib.hid (show topL (l.take (i + 1)) = t by rw [HN.out, if_neg hb])
        clear hpos hb HN
        go_region_with (go_at_call 27; (with_reducible refine (HOZ.out _).mono ?_); rintro r w8 ⟨rfl, b8⟩)
        all_goals
          go_wp2_with fail
          go_roundw
          case rel => exact ⟨i + 1, by omega, by omega, by go_num, by rw [HE.out]; exact (HJ2.out.below ((Below.refl wr.heap.size wr).drew)).below b8⟩
          case measure => simp [intOf]; omega
    · have hin : i = n := by omega
      subst hin
      have he : topL (l.take i) = topL l := by rw [← HLN.out, List.take_length]
      rw [he] at HJ2
      clear he
      have K1 := HJ2.out.res
      have K2 := HJ2.out.out
      obtain ⟨m0, m1⟩ := K1.vals
      have f0 := K1.frozen 0
      have f1 := K1.frozen 1
      obtain ⟨p0, p1⟩ := K2.vals
      go_wp2_with fail
      have hz := K1.store (topL l)
      obtain ⟨z0, z1⟩ := hz.vals
      refine bodyPost_ret (v := .agg #[.int .u64 ((topL l).1 : Nat), .int .u8 ((topL l).2 : Nat)]) ?_ rfl ⟨rfl, ?_⟩
      · simp [results, Try.f28, go_sem] at z0 z1 ⊢; simp [z0, z1]
      · exact ((HJ2.out.bel.setCell (p := ⟨w.heap.size, 0, none⟩) (Nat.le_refl _) _).setCell (p := ⟨w.heap.size, 1, none⟩) (Nat.le_refl _) _)

set_option maxRecDepth 100000 in
theorem top_is (w : World) (a : Option Addr) (n c : Nat) (l : List Bal) (h : Bals w a n l) (hn : n ≤ 100) :
    Calls Try.prog 15 #[.slice a n c] w fun r w' => r = .returned (balV (topL l)) ∧ Below w.heap.size w w' := by
  have K := BalB.new w (0, 0)
  have hB : Below w.heap.size w (w.alloc (.cells #[.int .u64 0, .int .u8 0] 25)) := (Below.refl _ w).alloc (Nat.le_refl _) _
  rcases Nat.eq_zero_or_pos n with rfl | hp
  · have hl : l = [] := List.length_eq_zero_iff.1 h.len
    subst hl
    clear h
    obtain ⟨m0, m1⟩ := K.vals
    have f0 := K.frozen 0
    have f1 := K.frozen 1
    go_enter Try.func15, Try.ntmps15
    go_wp2_with fail
    refine bodyPost_ret (v := .agg #[.int .u64 0, .int .u8 0]) ?_ rfl ⟨rfl, ?_⟩
    · simp [results, Try.f15, go_sem]
    · exact hB
  · have HM := Lib.hid (maxFunc_is _ a n c l (h.below hB) hp hn)
    have hn0 : ¬ (n : Int) = 0 := by omega
    have HB := Lib.hid hB
    clear h hB
    unfold balV at *
    go_enter Try.func15, Try.ntmps15
    go_wp2_with (go_at_call 28; (with_reducible refine (HM.out).mono ?_); rintro r w1 ⟨rfl, b1⟩; have K1 := K.below b1; have HB1 := Lib.hid b1; clear b1; obtain ⟨m0, m1⟩ := K1.vals; have f0 := K1.frozen 0; have f1 := K1.frozen 1)
    have hz := K1.store (topL l)
    obtain ⟨z0, z1⟩ := hz.vals
    refine bodyPost_ret (v := .agg #[.int .u64 ((topL l).1 : Nat), .int .u8 ((topL l).2 : Nat)]) ?_ rfl ⟨rfl, ?_⟩
    · simp [results, Try.f15, go_sem] at z0 z1 ⊢; simp [z0, z1]
    · exact (((HB.out.trans (HB1.out.mono HB.out.size)).setCell (p := ⟨w.heap.size, 0, none⟩) (Nat.le_refl _) _).setCell (p := ⟨w.heap.size, 1, none⟩) (Nat.le_refl _) _)
end Go.Proofs.Ytafhljmeofnbnaa
