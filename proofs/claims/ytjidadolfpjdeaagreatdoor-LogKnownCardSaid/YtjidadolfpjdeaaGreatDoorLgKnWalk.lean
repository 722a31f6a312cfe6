/-
  The law LogKnown over this translation, over a LogSpec: the walk.
-/
import Derived.Test.YtjidadolfpjdeaaGreatDoorLgKnown
namespace Go.Proofs.YtjidadolfpjdeaaGreatDoor
open Go.RowKit
set_option linter.unusedVariables false
variable {G : (Nat → Prop) → World → Addr → Nat → PD → Prop}

theorem zz_src (w : World) : ∃ w1, (Instr.makeSlice 45 (.int .i64 1024) (.int .i64 1024)).run Tryz.prog w = .ok (.slice (some ⟨w.heap.size, 0, none⟩) 1024 1024) w1 ∧ Src w1 (some ⟨w.heap.size, 0, none⟩) 1024 1024 zz ∧ Below w.heap.size w w1 := by
  obtain ⟨ti, hi, hz, hs1, hby⟩ := info_parts info_u8
  obtain ⟨w1, hmk, hown, hg⟩ := run_make_full (P := Tryz.prog) w w.heap.size 45 5 ti (.int .u8 0) 1 Tryz.underlying45 hi hz hs1 .i64 .i64 1024 (by rw [hby]; omega) (by unfold maxLen; omega) (Nat.le_refl _)
  have hz8 : (madeCells (Value.int .u8 0).cells (1024 * 1)).toList = Lib.byteCells zz := by
    show (madeCells #[Value.int .u8 0] (1024 * 1)).toList = _
    rw [toList_madeCells_one, zz, Lib.byteCells, List.map_replicate]
    rfl
  rw [hz8] at hown
  exact ⟨w1, hmk, Src.of_own (base := w.heap.size) hown, (Below.refl _ _).grown hg (Nat.le_refl _) (by simp)⟩

theorem zz_len : zz.length ≤ 100000 := by unfold zz; rw [List.length_replicate]; omega

theorem file_row {w : World} {b n : Nat} {a : Option Addr} {c : Nat} {xs : List Value} (h : w.ownsRow b 43 3 (.slice a n c) n xs) (h0 : 0 < n) : ∃ q, a = some ⟨q, 0, none⟩ ∧ ∀ j u, xs[j]? = some u → w.cell? ⟨q, j, none⟩ = some u := by
  have hx := h.1
  rcases h.2 with ⟨_, h1⟩ | ⟨g, cap, cur, he, _⟩
  · omega
  · obtain ⟨rfl, rfl⟩ : a = some ⟨g, 0, none⟩ ∧ c = cap := by simpa using he
    refine ⟨g, rfl, fun j u hu => ?_⟩
    have hj : j < n * 3 := by have := (List.getElem?_eq_some_iff.1 hu).1; omega
    rw [h.cellAt j hj]
    exact hu

set_option maxRecDepth 100000 in
set_option maxHeartbeats 4000000 in
theorem logKnown_go (S : LogSpec G) {w : World} (E : Env w) : Calls Tryz.prog 7 #[] w fun e w' => e = .returned (.bool true) ∧ Below w.heap.size w w' := by
  have HW := Lib.hid (fun v (E : Env v) => S.wakes E)
  have HN := Lib.hid (fun v (hb : Below w.heap.size w v) => new_off (E.below hb))
  have hA : ∀ K (v : World) x p k, k < 3 → G K v x p (kdN k) → Calls Tryz.prog 9 #[.pointer (some x), .string (B zz)] v fun e w' => e = .returned (.int .i64 0) ∧ G K w' x p (kdN (k + 1)) ∧ Kept K v w' := fun K v x p k hk h => by
    match k, hk with
    | 0, _ =>
      have := S.adds (r := zz) h sane_new rfl zz_len
      rw [kn_add0] at this
      exact this.mono fun e w' h => ⟨h.1, h.2.1 rfl, h.2.2.2⟩
    | 1, _ =>
      have := S.adds (r := zz) h sn1 rfl zz_len
      rw [kn_add1] at this
      exact this.mono fun e w' h => ⟨h.1, h.2.1 rfl, h.2.2.2⟩
    | 2, _ =>
      have := S.adds (r := zz) h sn2 rfl zz_len
      rw [kn_add2] at this
      exact this.mono fun e w' h => ⟨h.1, h.2.1 rfl, h.2.2.2⟩
  have HA := Lib.hid hA
  clear hA
  go_enter Tryz.func7, Tryz.ntmps7
  go_upto_region 5 with (first
    | (go_at_call 14; (with_reducible refine (HN.out _ (by first | exact Below.refl _ _ | assumption | exact (Below.refl _ _).alloc (Nat.le_refl _) _ | exact ((Below.refl _ _).alloc (Nat.le_refl _) _).alloc (by simp) _)).mono ?_); rintro r w1 ⟨p, rfl, d1, k1⟩)
    | (go_at_call 8; (with_reducible refine (S.new_up d1).mono ?_); rintro r w2 ⟨x, a2, c2, rfl, k2, u2⟩))
  obtain ⟨w3, hmk, hs3, b3⟩ := zz_src w2
  have hcv := hs3.string
  have HG3 := Lib.hid (S.below u2.log b3)
  have HK3 := Lib.hid (((Kept.of_below (K := fun k => k < w.heap.size) k1).trans k2 (fun _ _ h => h)).trans (Kept.of_below (K := fun k => k < w.heap.size) b3) (fun _ _ h => h))
  clear u2 hs3 d1
  generalize hzz : B zz = Z at hcv
  have HZZ := Lib.hid hzz
  clear hzz
  go_wp2_with fail
  go_loopw [6] (fun iv wr => ∃ k : Nat, k ≤ 3 ∧ iv = .int .i64 k ∧ G (fun k => k < w.heap.size) wr x p (kdN k) ∧ Kept (fun k => k < w.heap.size) w wr) (fun iv _ => 3 - (intOf iv).toNat)
  case atStart => exact ⟨0, Nat.zero_le _, rfl, HG3.out, HK3.out⟩
  case round =>
    obtain ⟨k, hk, rfl, g, kp⟩ := hrel
    by_cases hlt : k < 3
    · have hadd := HA.out _ _ _ _ k hlt g
      rw [HZZ.out] at hadd
      have HADD := Lib.hid hadd
      have HKP := Lib.hid kp
      clear hadd kp g
      go_wp2_with (go_at_call 9; (with_reducible refine (HADD.out).mono ?_); rintro r w4 ⟨rfl, g4, k4⟩)
      go_roundw
      case rel => exact ⟨k + 1, by omega, by go_num, g4, HKP.out.trans k4 (fun _ _ h => h)⟩
      case measure => simp [intOf]; omega
    · obtain rfl : k = 3 := by omega
      have hF : ∀ K (v : World) x p, G K v x p (kdN 3) → Calls Tryz.prog 22 #[.pointer (some ⟨p, 0, none⟩)] v fun r w' => ∃ a c, r = .returned (.slice a 3 c) ∧ w'.ownsRow v.heap.size 43 3 (.slice a 3 c) 3 ((kdN 3).files.flatMap fileCells) ∧ Below v.heap.size v w' ∧ G K w' x p (kdN 3) := fun K v x p h => by
        obtain ⟨F, h1, _, _⟩ := S.disk h
        refine (files_any h1 (by have := sn3.few; omega) (fun f hf => by have := sn3.names f hf; omega)).mono ?_
        rintro r w' ⟨u, rfl, ho, hb⟩
        obtain ⟨a, c, rfl⟩ := row_val ho
        exact ⟨a, c, rfl, ho, hb, S.below h hb⟩
      have hG : ∀ K (v : World) x p, G K v x p (kdN 3) → Calls Tryz.prog 12 #[.pointer (some x)] v fun e w' => e = .returned (.int .i64 3) ∧ G K w' x p (kdN 3) ∧ Kept K v w' := fun K v x p h => by
        have := S.segments h sn3
        rw [kn_segs] at this
        exact this
      have hS1 : ∀ K (v : World) x p, G K v x p (kdN 3) → Calls Tryz.prog 10 #[.pointer (some x)] v fun e w' => e = .returned (.int .i64 0) ∧ DkOff K w' p kd4 ∧ Kept K v w' := fun K v x p h => by
        have := S.syncs h sn3 rfl
        rw [kn_sync] at this
        exact this.mono fun e w' h => ⟨h.1, S.disk h.2.1, h.2.2⟩
      have HF := Lib.hid hF
      have HGG := Lib.hid hG
      have HS1 := Lib.hid hS1
      have GG := Lib.hid g
      have HKP := Lib.hid kp
      clear hF hG hS1 g kp HA HG3 HK3
      go_upto_region 14 with (first
        | (go_at_call 22
           (with_reducible refine (HF.out _ _ _ _ GG.out).mono ?_)
           rintro r w5 ⟨a5, c5, rfl, row5, b5, g5⟩
           obtain ⟨q5, hq5, hc5⟩ := file_row row5 (by decide)
           subst hq5
           have f6 : w5.cell? ⟨q5, 6, none⟩ = some (.string ⟨#[115, 48, 48, 48, 48, 48, 48, 48, 51]⟩) := hc5 6 _ rfl
           have f8 : w5.cell? ⟨q5, 8, none⟩ = some (.int .i64 0) := hc5 8 _ rfl
           clear hc5 row5)
        | (go_at_call 12; (with_reducible refine (HGG.out _ _ _ _ g5).mono ?_); rintro r w6 ⟨rfl, g6, k6⟩))
      have h_kn_5 : ∀ (v : World) p, DkOff (fun k => k < w.heap.size) v p kd4 → Calls Tryz.prog 23 #[.pointer (some ⟨p, 0, none⟩), .string ⟨#[116, 48, 48, 48, 48, 48, 48, 48, 49]⟩, .string ⟨#[106, 117, 110, 107]⟩] v fun r w' => r = .returned (.int .i64 0) ∧ DkOff (fun k => k < w.heap.size) w' p kd5 ∧ Kept (fun k => k < w.heap.size) v w' := fun v p h => h.app (nm := [116, 48, 48, 48, 48, 48, 48, 48, 49]) (s := [106, 117, 110, 107]) sn4 (by decide) (by decide) kn_5
      have h_kn_6 : ∀ (v : World) p, DkOff (fun k => k < w.heap.size) v p kd5 → Calls Tryz.prog 23 #[.pointer (some ⟨p, 0, none⟩), .string ⟨#[115, 49]⟩, .string ⟨#[106, 117, 110, 107]⟩] v fun r w' => r = .returned (.int .i64 0) ∧ DkOff (fun k => k < w.heap.size) w' p kd6 ∧ Kept (fun k => k < w.heap.size) v w' := fun v p h => h.app (nm := [115, 49]) (s := [106, 117, 110, 107]) sn5 (by decide) (by decide) kn_6
      have h_kn_7 : ∀ (v : World) p, DkOff (fun k => k < w.heap.size) v p kd6 → Calls Tryz.prog 23 #[.pointer (some ⟨p, 0, none⟩), .string ⟨#[115, 48, 48, 48, 48, 48, 48, 48, 48, 52]⟩, .string ⟨#[106, 117, 110, 107]⟩] v fun r w' => r = .returned (.int .i64 0) ∧ DkOff (fun k => k < w.heap.size) w' p kd7 ∧ Kept (fun k => k < w.heap.size) v w' := fun v p h => h.app (nm := [115, 48, 48, 48, 48, 48, 48, 48, 48, 52]) (s := [106, 117, 110, 107]) sn6 (by decide) (by decide) kn_7
      have h_kn_8 : ∀ (v : World) p, DkOff (fun k => k < w.heap.size) v p kd7 → Calls Tryz.prog 23 #[.pointer (some ⟨p, 0, none⟩), .string ⟨#[115, 48, 48, 48, 48, 48, 48, 48, 48]⟩, .string ⟨#[106, 117, 110, 107]⟩] v fun r w' => r = .returned (.int .i64 0) ∧ DkOff (fun k => k < w.heap.size) w' p kd8 ∧ Kept (fun k => k < w.heap.size) v w' := fun v p h => h.app (nm := [115, 48, 48, 48, 48, 48, 48, 48, 48]) (s := [106, 117, 110, 107]) sn7 (by decide) (by decide) kn_8
      have h_kn_9 : ∀ (v : World) p, DkOff (fun k => k < w.heap.size) v p kd8 → Calls Tryz.prog 8 #[.pointer (some ⟨p, 0, none⟩)] v fun r w' => ∃ x a c, r = .returned (.tuple #[.pointer x, .slice a 3 c, .int .i64 0]) ∧ DkOff (fun k => k < w.heap.size) w' p kd8 ∧ Kept (fun k => k < w.heap.size) v w' := fun v p h => S.open_num 3 h sn8 kn_9 rfl
      have h_kn_10 : ∀ (v : World) p, DkOff (fun k => k < w.heap.size) v p kd8 → Calls Tryz.prog 23 #[.pointer (some ⟨p, 0, none⟩), .string ⟨#[115, 48, 48, 48, 48, 48, 48, 48, 52]⟩, .string ⟨#[7]⟩] v fun r w' => r = .returned (.int .i64 0) ∧ DkOff (fun k => k < w.heap.size) w' p kd10 ∧ Kept (fun k => k < w.heap.size) v w' := fun v p h => h.app (nm := [115, 48, 48, 48, 48, 48, 48, 48, 52]) (s := [7]) sn8 (by decide) (by decide) kn_10
      have h_kn_11 : ∀ (v : World) p, DkOff (fun k => k < w.heap.size) v p kd10 → Calls Tryz.prog 8 #[.pointer (some ⟨p, 0, none⟩)] v fun r w' => ∃ x a c, r = .returned (.tuple #[.pointer x, .slice a 3 c, .int .i64 0]) ∧ DkOff (fun k => k < w.heap.size) w' p kd11 ∧ Kept (fun k => k < w.heap.size) v w' := fun v p h => S.open_num 3 h sn10 kn_11 rfl
      have h_kn_12 : ∀ (v : World) p, DkOff (fun k => k < w.heap.size) v p kd11 → Calls Tryz.prog 23 #[.pointer (some ⟨p, 0, none⟩), .string ⟨#[115, 48, 48, 48, 48, 48, 48, 48, 54]⟩, .string ⟨#[]⟩] v fun r w' => r = .returned (.int .i64 0) ∧ DkOff (fun k => k < w.heap.size) w' p kd12 ∧ Kept (fun k => k < w.heap.size) v w' := fun v p h => h.app (nm := [115, 48, 48, 48, 48, 48, 48, 48, 54]) (s := []) sn11 (by decide) (by decide) kn_12
      have h_kn_12o : ∀ (v : World) p, DkOff (fun k => k < w.heap.size) v p kd12 → Calls Tryz.prog 8 #[.pointer (some ⟨p, 0, none⟩)] v fun r w' => ∃ x a c, r = .returned (.tuple #[.pointer x, .slice a 0 c, .int .i64 10]) ∧ DkOff (fun k => k < w.heap.size) w' p kd12 ∧ Kept (fun k => k < w.heap.size) v w' := fun v p h => S.open_num 0 h sn12 kn_12o rfl
      have h_kn_13 : ∀ (v : World) p, DkOff (fun k => k < w.heap.size) v p kd12 → Calls Tryz.prog 24 #[.pointer (some ⟨p, 0, none⟩), .string ⟨#[115, 48, 48, 48, 48, 48, 48, 48, 54]⟩] v fun r w' => r = .returned (.int .i64 0) ∧ DkOff (fun k => k < w.heap.size) w' p kd11 ∧ Kept (fun k => k < w.heap.size) v w' := fun v p h => h.rem (nm := [115, 48, 48, 48, 48, 48, 48, 48, 54]) sn12 (by decide) kn_13
      have h_kn_14 : ∀ (v : World) p, DkOff (fun k => k < w.heap.size) v p kd11 → Calls Tryz.prog 23 #[.pointer (some ⟨p, 0, none⟩), .string ⟨#[115, 48, 48, 48, 48, 48, 48, 48, 53]⟩, .string ⟨#[]⟩] v fun r w' => r = .returned (.int .i64 0) ∧ DkOff (fun k => k < w.heap.size) w' p kd14 ∧ Kept (fun k => k < w.heap.size) v w' := fun v p h => h.app (nm := [115, 48, 48, 48, 48, 48, 48, 48, 53]) (s := []) sn11 (by decide) (by decide) kn_14
      have h_kn_15 : ∀ (v : World) p, DkOff (fun k => k < w.heap.size) v p kd14 → Calls Tryz.prog 8 #[.pointer (some ⟨p, 0, none⟩)] v fun r w' => ∃ x a c, r = .returned (.tuple #[.pointer x, .slice a 3 c, .int .i64 0]) ∧ DkOff (fun k => k < w.heap.size) w' p kd14 ∧ Kept (fun k => k < w.heap.size) v w' := fun v p h => S.open_num 3 h sn14 kn_15 rfl
      have h_kn_16 : ∀ (v : World) p, DkOff (fun k => k < w.heap.size) v p kd14 → Calls Tryz.prog 23 #[.pointer (some ⟨p, 0, none⟩), .string ⟨#[115, 48, 48, 48, 48, 48, 48, 48, 52]⟩, .string ⟨#[120]⟩] v fun r w' => r = .returned (.int .i64 0) ∧ DkOff (fun k => k < w.heap.size) w' p kd16 ∧ Kept (fun k => k < w.heap.size) v w' := fun v p h => h.app (nm := [115, 48, 48, 48, 48, 48, 48, 48, 52]) (s := [120]) sn14 (by decide) (by decide) kn_16
      have h_kn_16o : ∀ (v : World) p, DkOff (fun k => k < w.heap.size) v p kd16 → Calls Tryz.prog 8 #[.pointer (some ⟨p, 0, none⟩)] v fun r w' => ∃ x a c, r = .returned (.tuple #[.pointer x, .slice a 0 c, .int .i64 10]) ∧ DkOff (fun k => k < w.heap.size) w' p kd16 ∧ Kept (fun k => k < w.heap.size) v w' := fun v p h => S.open_num 0 h sn16 kn_16o rfl
      have Hkn_5 := Lib.hid h_kn_5
      clear h_kn_5
      have Hkn_6 := Lib.hid h_kn_6
      clear h_kn_6
      have Hkn_7 := Lib.hid h_kn_7
      clear h_kn_7
      have Hkn_8 := Lib.hid h_kn_8
      clear h_kn_8
      have Hkn_9 := Lib.hid h_kn_9
      clear h_kn_9
      have Hkn_10 := Lib.hid h_kn_10
      clear h_kn_10
      have Hkn_11 := Lib.hid h_kn_11
      clear h_kn_11
      have Hkn_12 := Lib.hid h_kn_12
      clear h_kn_12
      have Hkn_12o := Lib.hid h_kn_12o
      clear h_kn_12o
      have Hkn_13 := Lib.hid h_kn_13
      clear h_kn_13
      have Hkn_14 := Lib.hid h_kn_14
      clear h_kn_14
      have Hkn_15 := Lib.hid h_kn_15
      clear h_kn_15
      have Hkn_16 := Lib.hid h_kn_16
      clear h_kn_16
      have Hkn_16o := Lib.hid h_kn_16o
      clear h_kn_16o
      go_wp2_with (first
        | (go_at_call 10; (with_reducible refine (HS1.out _ _ _ _ g6).mono ?_); rintro r w7 ⟨rfl, d7, k7⟩)
        | (go_at_call 23; (with_reducible refine (Hkn_5.out _ _ d7).mono ?_); rintro r w8 ⟨rfl, d8, k8⟩)
        | (go_at_call 23; (with_reducible refine (Hkn_6.out _ _ d8).mono ?_); rintro r w9 ⟨rfl, d9, k9⟩)
        | (go_at_call 23; (with_reducible refine (Hkn_7.out _ _ d9).mono ?_); rintro r w10 ⟨rfl, d10, k10⟩)
        | (go_at_call 23; (with_reducible refine (Hkn_8.out _ _ d10).mono ?_); rintro r w11 ⟨rfl, d11, k11⟩)
        | (go_at_call 8; (with_reducible refine (Hkn_9.out _ _ d11).mono ?_); rintro r w12 ⟨x12, a12, c12, rfl, d12, k12⟩)
        | (go_at_call 23; (with_reducible refine (Hkn_10.out _ _ d12).mono ?_); rintro r w13 ⟨rfl, d13, k13⟩)
        | (go_at_call 8; (with_reducible refine (Hkn_11.out _ _ d13).mono ?_); rintro r w14 ⟨x14, a14, c14, rfl, d14, k14⟩)
        | (go_at_call 23; (with_reducible refine (Hkn_12.out _ _ d14).mono ?_); rintro r w15 ⟨rfl, d15, k15⟩)
        | (go_at_call 8; (with_reducible refine (Hkn_12o.out _ _ d15).mono ?_); rintro r w16 ⟨x16, a16, c16, rfl, d16, k16⟩)
        | (go_at_call 24; (with_reducible refine (Hkn_13.out _ _ d16).mono ?_); rintro r w17 ⟨rfl, d17, k17⟩)
        | (go_at_call 23; (with_reducible refine (Hkn_14.out _ _ d17).mono ?_); rintro r w18 ⟨rfl, d18, k18⟩)
        | (go_at_call 8; (with_reducible refine (Hkn_15.out _ _ d18).mono ?_); rintro r w19 ⟨x19, a19, c19, rfl, d19, k19⟩)
        | (go_at_call 23; (with_reducible refine (Hkn_16.out _ _ d19).mono ?_); rintro r w20 ⟨rfl, d20, k20⟩)
        | (go_at_call 8; (with_reducible refine (Hkn_16o.out _ _ d20).mono ?_); rintro r w21 ⟨x21, a21, c21, rfl, d21, k21⟩)
        | (go_at_call 13; (with_reducible refine (HW.out _ (by first | exact E | exact E.below (by first | assumption | exact Below.refl _ _) | exact E.below (bb (by assumption) (by assumption)) | exact (DkOff.env (by assumption)) | exact (Dn.env (by assumption)) | exact (Up.env S (by assumption)) | exact (DkOff.env (Hid.out (by assumption))) | exact (Dn.env (Hid.out (by assumption))) | exact (Up.env S (Hid.out (by assumption))))).mono ?_); rintro r w22 ⟨rfl, b22⟩))
      go_ret
      refine ⟨rfl, ?_⟩
      have kB := (((((((((((((((((HKP.out.trans (Kept.of_below (K := fun k => k < w.heap.size) b5) (fun _ _ h => h)).trans k6 (fun _ _ h => h)).trans k7 (fun _ _ h => h)).trans k8 (fun _ _ h => h)).trans k9 (fun _ _ h => h)).trans k10 (fun _ _ h => h)).trans k11 (fun _ _ h => h)).trans k12 (fun _ _ h => h)).trans k13 (fun _ _ h => h)).trans k14 (fun _ _ h => h)).trans k15 (fun _ _ h => h)).trans k16 (fun _ _ h => h)).trans k17 (fun _ _ h => h)).trans k18 (fun _ _ h => h)).trans k19 (fun _ _ h => h)).trans k20 (fun _ _ h => h)).trans k21 (fun _ _ h => h)).trans (Kept.of_below (K := fun k => k < w.heap.size) b22) (fun _ _ h => h)
      exact kB.below (Nat.le_refl _)

end Go.Proofs.YtjidadolfpjdeaaGreatDoor
