/-
  The law BaseWhole over this translation, over a BaseSpec.
-/
import Derived.Test.YthpamdjgkmaleaaGreatDoorBsWakes
import Derived.Deep.DeepCutAuto
import Derived.Deep.CutBlock
import Derived.Deep.CutRange
namespace Go.Proofs.YthpamdjgkmaleaaGreatDoor
open Go.RowKit
set_option linter.unusedVariables false
variable {G : (Nat → Prop) → World → Addr → Nat → PD → Prop}

set_option maxRecDepth 100000 in
set_option maxHeartbeats 1000000 in
/-- No slot, or too long a text: 'wakes' alone. -/
theorem whole_none (S : BaseSpec G) (n : Nat) (t : List UInt8) (at_ : Int) {w : World} (E : Env w) (h : n = 0 ∨ 300 < t.length) :
    Calls Tryz.prog 5 #[.agg #[.int .u64 (n : Nat), .string (B t)], .int .u32 at_] w fun e w' => e = .returned (.bool true) ∧ Below w.heap.size w w' := by
  have HW := Lib.hid (fun v (hb : Below w.heap.size w v) => S.wakes (E.below hb))
  by_cases h0 : n = 0
  · subst h0
    generalize B t = T
    go_enter Tryz.func5, Tryz.ntmps5
    go_wp2_with (go_at_call 10; (with_reducible refine (HW.out _ ((Below.refl _ _).alloc (Nat.le_refl _) _)).mono ?_); rintro r w1 ⟨rfl, b1⟩)
    go_ret
    exact ⟨rfl, bb ((Below.refl _ _).alloc (Nat.le_refl _) _) b1⟩
  · have hT : 300 < ((B t).size : Int) := by rw [B_size]; omega
    have hn : ¬ ((n : Nat) : Int) = 0 := by omega
    generalize B t = T at hT ⊢
    go_enter Tryz.func5, Tryz.ntmps5
    go_wp2_with (go_at_call 10; (with_reducible refine (HW.out _ ((Below.refl _ _).alloc (Nat.le_refl _) _)).mono ?_); rintro r w1 ⟨rfl, b1⟩)
    go_ret
    exact ⟨rfl, bb ((Below.refl _ _).alloc (Nat.le_refl _) _) b1⟩

/-- How long a frame's own length is. -/
theorem head_cases {m h L : Nat} (hm : m ≤ 318) (hh : h = (enc m).length) (hL : L = h + 8 + m) : (L ≤ 256 ∧ h = 1) ∨ (256 < L ∧ L ≤ 265 ∧ h = 2) ∨ (265 < L ∧ h = 3) := by
  rw [enc_length] at hh
  by_cases h1 : m < 248
  · rw [nb_small h1] at hh; left; omega
  · by_cases h2 : m < 256
    · have := nb_eq (n := m) (k := 1) (by omega) (by omega) (by omega) (by simpa using by omega) (by simpa using h2)
      right; left; omega
    · have := nb_eq (n := m) (k := 2) (by omega) (by omega) (by omega) (by show 256 ^ 1 ≤ m; omega) (by show m < 65536; omega)
      right; right; omega

theorem DnB.turn {K w p d n t} (h : DnB K w p d n t true) (hf : d.files = bfiles n t) (h0 : n ≠ 0) {q r : Nat} (hq : q < 8 + (insideB n t).length) (hr : r < 8) :
    Calls Tryz.prog 17 #[.pointer (some ⟨p, 0, none⟩), .int .i64 ((8 * ((enc (insideB n t).length).length + q) + r : Nat) : Int)] w fun e w' => e = .returned (.int .i64 0) ∧ Kept K w w' ∧ ∃ d', DkOff K w' p d' ∧ openB d'.start = (d'.start, 10) ∧ Sane d'.start ∧ d'.start.files.length = 1 := by
  obtain ⟨d', b1, b2, b3, b4⟩ := turn_st h.st hf h0 hq hr
  have hs := h.st.sane
  have r0 := hs.room0
  have r1 := hs.room1
  have hfew := hs.few
  obtain ⟨hi1, hi2⟩ := inside_small h.st.slot h.st.text
  have he := enc_len_le (show (insideB n t).length < 2 ^ 64 by omega)
  refine (h.disk.calls (d' := d') (v := .int .i64 0) fun F hF => ?_).mono ?_
  · have := turn_any hF ((8 * ((enc (insideB n t).length).length + q) + r : Nat) : Int) (by omega) (fun f hf => by have := hs.names f hf; omega) (by omega) (by omega)
    rw [b1] at this
    exact this
  · rintro e w' ⟨rfl, g1, g2⟩
    exact ⟨rfl, g2, d', g1, b2, b3, b4⟩

set_option maxRecDepth 100000 in
set_option maxHeartbeats 4000000 in
theorem whole_some (S : BaseSpec G) (n : Nat) (t : List UInt8) (at_ : Int) {w : World} (E : Env w) (hn : n < 2 ^ 64) (h0 : n ≠ 0) (ht : t.length ≤ 300) (ha0 : 0 ≤ at_) (ha1 : at_ ≤ 4294967295) :
    Calls Tryz.prog 5 #[.agg #[.int .u64 (n : Nat), .string (B t)], .int .u32 at_] w fun e w' => e = .returned (.bool true) ∧ Below w.heap.size w w' := by
  have HW := Lib.hid (fun v (E : Env v) => S.wakes E)
  have HN := Lib.hid (fun v (hb : Below w.heap.size w v) => new_off (E.below hb))
  have hS : ∀ K (v : World) x p, UpB G K v x p PD.new 0 [] (-1) → Calls Tryz.prog 9 #[.pointer (some x), .int .u64 (n : Nat), .string (B t)] v fun e w' => e = .returned (.int .i64 0) ∧ Kept K v w' ∧ ∃ d', UpB G K w' x p d' n t (-1) := fun K v x p h => h.save_ok S (by omega) hn ht
  have hF : ∀ K (v : World) x p d, UpB G K v x p d n t (-1) → Calls Tryz.prog 16 #[.pointer (some ⟨p, 0, none⟩)] v fun r w' => ∃ a c, r = .returned (.slice a 1 c) ∧ w'.ownsRow v.heap.size 44 3 (.slice a 1 c) 1 (fileCells (bfile n t)) ∧ Below v.heap.size v w' ∧ UpB G (andOf K a) w' x p d n t (-1) := fun K v x p d h => by
    have := h.files S
    rw [bfiles_pos h0] at this
    simpa using this
  have hT : ((B t).size : Int) ≤ 300 := by rw [B_size]; omega
  have hnb : (((n : Nat) : Int) == 0) = false := by simpa using h0
  obtain ⟨hi1, hi2⟩ := inside_small hn ht
  have hfl : (frameL (insideB n t)).length = (enc (insideB n t).length).length + 8 + (insideB n t).length := frameL_length _
  have hhc := head_cases hi2 rfl hfl
  have hi3 : 2 ≤ (insideB n t).length := by
    rw [inside_length]
    have := enc_len_le hn
    have := enc_len_le (show t.length < 2 ^ 64 by omega)
    omega
  obtain ⟨T, hTT⟩ : ∃ T, B t = T := ⟨_, rfl⟩
  rw [hTT] at hS hT ⊢
  have HS := Lib.hid hS
  have HF := Lib.hid hF
  clear hS hF
  go_enter Tryz.func5, Tryz.ntmps5
  go_upto_region 8 with (first
    | (go_at_call 11; (with_reducible refine (HN.out _ ((Below.refl _ _).alloc (Nat.le_refl _) _)).mono ?_); rintro r w1 ⟨p, rfl, d1, k1⟩
       have c10 : w1.cell? ⟨w.heap.size, 0, none⟩ = some (.int .u64 (n : Nat)) := (World.cell?_of_block (a := ⟨w.heap.size, 0, none⟩) (k1.block w.heap.size (by simp))).trans (by rw [cell_of_row _ w.heap.size 0 _ _ _ (World.alloc_heap_new w _)]; rfl)
       have c11 : w1.cell? ⟨w.heap.size, 1, none⟩ = some (.string T) := (World.cell?_of_block (a := ⟨w.heap.size, 1, none⟩) (k1.block w.heap.size (by simp))).trans (by rw [cell_of_row _ w.heap.size 1 _ _ _ (World.alloc_heap_new w _)]; rfl))
    | (go_at_call 7; (with_reducible refine (S.new_up d1).mono ?_); rintro r w2 ⟨x, rfl, k2, u2⟩
       have c20 := k2.cell c10 (by simp)
       have c21 := k2.cell c11 (by simp))
    | (go_at_call 9; (with_reducible refine (HS.out _ _ _ _ u2).mono ?_); rintro r w3 ⟨rfl, k3, d3, u3⟩)
    | (go_at_call 16; (with_reducible refine (HF.out _ _ _ _ _ u3).mono ?_); rintro r w4 ⟨a4, c4, rfl, row4, b4, u4⟩))
  obtain ⟨q4, rfl, hc4⟩ := file_one row4
  have hq4 := own_blk row4 rfl
  have hk4 : Below w.heap.size w w4 := by
    have t1 : Kept (fun k => k < w.heap.size) w w1 := Kept.of_below (bb ((Below.refl _ _).alloc (Nat.le_refl _) _) k1)
    exact (((t1.trans k2 (fun _ _ h => by simp at h ⊢; omega)).trans k3 (fun _ _ h => by simp at h ⊢; omega)).trans (Kept.of_below (K := fun k => k < w.heap.size) b4) (fun _ _ h => h)).below (Nat.le_refl _)
  have HU := Lib.hid (u4.weak S (K' := fun k => k < w.heap.size) (fun k hk => .inl (by simp; omega)))
  have HB4 := Lib.hid hk4
  have e1 : w4.cell? ⟨q4, 1, none⟩ = some (.string (B (frameL (insideB n t)))) := hc4 1 _ rfl
  have hZ : ((B (frameL (insideB n t))).size : Int) = ((frameL (insideB n t)).length : Nat) := by rw [B_size]
  have HTU := Lib.hid (fun (K : Nat → Prop) (v : World) (d : PD) (h : DnB K v p d n t true) (hf : d.files = bfiles n t) (q r : Nat) (hq : q < 8 + (insideB n t).length) (hr : r < 8) => h.turn hf h0 hq hr)
  generalize B (frameL (insideB n t)) = Z at e1 hZ
  generalize hL : (frameL (insideB n t)).length = L at hfl hhc hZ
  generalize hH : (enc (insideB n t).length).length = H at hfl hhc HTU
  generalize hM : (insideB n t).length = M at hfl hi1 hi2 hi3 HTU
  have HM := Lib.hid hM
  try clear hc4 row4 k1 k2 k3 b4 u2 u3 u4 hk4 hL hH hM hTT hT d1 hq4 c10 c11 c20 c21
  have hL11 : 11 ≤ (L : Int) := by omega
  have hH3 : 1 ≤ H ∧ H ≤ 3 := by omega
  obtain ⟨kk, hkk, hkl⟩ : ∃ kk : Nat, at_.tmod (8 * ((L : Int) - (H : Int))) = (kk : Int) ∧ kk < 8 * (8 + M) := by
    have e8 : 8 * ((L : Int) - (H : Int)) = ((8 * (8 + M) : Nat) : Int) := by omega
    refine ⟨at_.toNat % (8 * (8 + M)), ?_, Nat.mod_lt _ (by omega)⟩
    rw [e8, Int.tmod_eq_emod_of_nonneg ha0]
    conv => lhs; rw [← Int.toNat_of_nonneg ha0]
    rfl
  have hkk2 : (kk : Int) ≤ 3000 := by omega
  have hne8 : ¬ 8 * ((L : Int) - (H : Int)) = 0 := by omega
  have hL400 : (L : Int) ≤ 400 := by omega
  have HTN := Lib.hid (fun (K : Nat → Prop) (v : World) (d : PD) (h : DnB K v p d n t true) (hf : d.files = bfiles n t) => HTU.out K v d h hf (kk / 8) (kk % 8) (by omega) (by omega))
  have eKT : (8 * (H + kk / 8) + kk % 8 : Nat) = 8 * H + kk := by omega
  rw [eKT] at HTN
  go_upto_if 65 with (fail)
  go_cut [9] (fun hv wx => w4 = wx ∧ hv = .int .i64 (H : Nat))
  case first =>
    rcases hhc with ⟨g1, g2⟩ | ⟨g1, g2, g3⟩ | ⟨g1, g2⟩
    · subst g2
      go_wp2_with fail
      go_meet
      case rel => exact ⟨rfl, rfl⟩
    · subst g3
      go_wp2_with fail
      go_meet
      case rel => exact ⟨rfl, rfl⟩
    · subst g2
      go_wp2_with fail
      go_meet
      case rel => exact ⟨rfl, rfl⟩
  case rest =>
    obtain ⟨rfl, rfl⟩ := hcut
    go_upto_region 16 with (fail)
    generalize hKT : (8 * H + kk : Nat) = KT at HTN
    have hem : at_ % (8 * ((H : Int) + 8 + (M : Int) - (H : Int))) = (kk : Int) := by
      rw [← hkk, Int.tmod_eq_emod_of_nonneg ha0, show (8 * ((H : Int) + 8 + (M : Int) - (H : Int))) = 8 * ((L : Int) - (H : Int)) from by omega]
    have hKT2 : wrap64 (8 * (H : Int) + at_ % (8 * ((H : Int) + 8 + (M : Int) - (H : Int)))) = (KT : Int) := by
      rw [hem, show 8 * (H : Int) + (kk : Int) = (KT : Int) from by omega]
      unfold wrap64; omega
    rw [hKT2]
    go_upto_region 19 with (first
      | (go_at_call 14; (with_reducible refine (HU.out.crash S 0 (by decide)).mono ?_); rintro e w5 ⟨rfl, k5, d5, u5, f5⟩)
      | (go_at_call 17; (with_reducible refine (HTN.out _ _ _ u5 (f5.trans HU.out.st.files)).mono ?_); rintro e w6 ⟨rfl, k6, d6, u6, o6, s6, l6⟩)
      | (go_at_call 15; (with_reducible refine u6.on.mono ?_); rintro e w7 ⟨rfl, u7, k7⟩)
      | (go_at_call 16; (with_reducible refine (u7.files s6).mono ?_); rw [l6]; rintro e w8 ⟨a8, c8, rfl, row8, b8⟩))
    have hk8 : Kept (fun k => k < w.heap.size) w w8 := ((((Kept.of_below (K := fun k => k < w.heap.size) HB4.out).trans k5 (fun _ _ h => h)).trans k6 (fun _ _ h => h)).trans k7 (fun _ _ h => h)).trans (Kept.of_below (K := fun k => k < w.heap.size) b8) (fun _ _ h => h)
    have hd8 : DkOff (andOf (fun k => k < w.heap.size) a8) w8 p d6.start := by
      refine u7.more b8 ?_ ?_
      · rintro k (h | ⟨bb', rfl, rfl⟩)
        · exact .inl h
        · exact .inr (own_blk row8 rfl).2.1
      · rintro k (h | ⟨bb', rfl, rfl⟩)
        · have := hk8.size; omega
        · exact (own_blk row8 rfl).2.2
    generalize d6.start = d9 at *
    have HROW := Lib.hid row8
    have HSN := Lib.hid s6
    have HBAD := Lib.hid o6
    have HONE := Lib.hid (one_len l6)
    have HK8 := Lib.hid hk8
    have HD8 := Lib.hid hd8
    have HL1 := Lib.hid l6
    clear row8 s6 o6 hk8 hd8 l6 u6 u7 u5 f5 k5 k6 k7 b8 hKT2 hem hKT HTN HTU HU HB4 HS HF hkk hkl hkk2 hne8 eKT e1 hZ hfl hhc
    go_wp2_with fail
    go_loopw [12] (fun iv wx => ∃ j : Nat, j ≤ 2 ∧ iv = .int .i64 j ∧ DkOff (andOf (fun k => k < w.heap.size) a8) wx p d9 ∧ Kept (andOf (fun k => k < w.heap.size) a8) w8 wx) (fun iv _ => 2 - (intOf iv).toNat)
    case atStart => exact ⟨0, by omega, rfl, HD8.out, Turned.refl _ _⟩
    case round =>
      obtain ⟨j, hj, rfl, dk, kp⟩ := hrel
      by_cases hlt : j < 2
      · have HKP := Lib.hid kp
        clear kp
        go_upto_region 24 with (first
          | (go_at_call 7; (with_reducible refine (S.open_bad dk HSN.out HONE.out HBAD.out).mono ?_); rintro e w9 ⟨rfl, dk9, k9⟩)
          | (go_at_call 16; (with_reducible refine (dk9.files HSN.out).mono ?_); rw [HL1.out]; rintro e w10 ⟨a10, c10, rfl, row10, b10⟩))
        have hr8 := ownsRow_below (k9.row (HKP.out.row HROW.out (fun j hj => .inr (blk_of hj))) (fun j hj => .inr (blk_of hj))) b10
        obtain ⟨q10, rfl, hc10⟩ := row_file (by rw [HL1.out]; exact row10) (by rw [HL1.out]; decide)
        obtain ⟨q8, rfl, hc8⟩ := row_file (by rw [HL1.out]; exact hr8) (by rw [HL1.out]; decide)
        have hz : 0 < d9.files.length := by rw [HL1.out]; decide
        obtain ⟨x0, x1, x2⟩ := hc10 0 hz
        obtain ⟨y0, y1, y2⟩ := hc8 0 hz
        have HK10 := Lib.hid ((HKP.out.trans k9 (fun _ _ h => h)).trans (Kept.of_below (K := andOf (fun k => k < w.heap.size) (some ⟨q8, 0, none⟩)) b10) (fun _ _ h => h))
        have HD10 := Lib.hid (dk9.below b10)
        clear hc10 hc8 row10 hr8 k9 b10 dk9 dk
        generalize B d9.files[0].name = nm at *
        generalize B d9.files[0].bytes = bs at *
        generalize (d9.files[0].synced : Int) = sy at *
        simp only [Nat.mul_zero, Nat.zero_add] at x0 x1 x2 y0 y1 y2
        go_region
        go_wp2_with fail
        go_roundw
        case rel => exact ⟨j + 1, by omega, by go_num, HD10.out.below ((Below.refl _ _).drew), HK10.out.drew⟩
        case measure => simp [intOf]; omega
      · obtain rfl : j = 2 := by omega
        go_wp2_with (go_at_call 10; (with_reducible refine (HW.out _ dk.env).mono ?_); rintro e w10 ⟨rfl, b10⟩)
        go_ret
        refine ⟨rfl, ?_⟩
        exact ((HK8.out.trans kp (fun _ _ h => .inl h)).trans (Kept.of_below (K := fun k => k < w.heap.size) b10) (fun _ _ h => h)).below (Nat.le_refl _)

end Go.Proofs.YthpamdjgkmaleaaGreatDoor
