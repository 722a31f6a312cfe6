/-
  Layer 6's 'wakes' over this translation, and its law BaseNil, over a BaseSpec.
-/
import Derived.Test.YthpamdjgkmaleaaGreatDoorMo
import Derived.Test.YthpamdjgkmaleaaGreatDoorWakes
namespace Go.Proofs.YthpamdjgkmaleaaGreatDoor
open Go.RowKit
set_option linter.unusedVariables false
variable {G : (Nat → Prop) → World → Addr → Nat → PD → Prop}

theorem name20 : bname 20 = [98, 48, 48, 48, 48, 48, 48, 48, 48, 48, 48, 48, 48, 48, 48, 49, 52] := by kernel_rfl
theorem len20 : (frameL (insideB 20 [121])).length = 12 := by kernel_rfl

set_option maxRecDepth 100000 in
set_option maxHeartbeats 4000000 in
theorem BaseSpec.wakes (S : BaseSpec G) {w : World} (E : Env w) : Calls Tryz.prog 10 #[] w fun r w' => r = .returned (.bool true) ∧ Below w.heap.size w w' := by
  have hN := fun v (hb : Below w.heap.size w v) => new_off (E.below hb)
  have hA1 : ∀ K (v : World) x p d, UpB G K v x p d 0 [] (-1) → Calls Tryz.prog 9 #[.pointer (some x), .int .u64 18, .string ⟨#[120]⟩] v fun e w' => e = .returned (.int .i64 0) ∧ Kept K v w' ∧ ∃ d', UpB G K w' x p d' 18 [120] (-1) := fun K v x p d h => h.save_ok S (m := 18) (u := [120]) (by decide) (by decide) (by decide)
  have hA2 : ∀ K (v : World) x p d, UpB G K v x p d 18 [120] (-1) → Calls Tryz.prog 9 #[.pointer (some x), .int .u64 18, .string ⟨#[121]⟩] v fun e w' => e = .returned (.int .i64 2) ∧ Kept K v w' ∧ UpB G K w' x p d 18 [120] (-1) := fun K v x p d h => h.save_arg S (m := 18) (u := [121]) (by decide) (by decide) (by decide)
  have hA3 : ∀ K (v : World) x p d, UpB G K v x p d 18 [120] (-1) → Calls Tryz.prog 9 #[.pointer (some x), .int .u64 20, .string ⟨#[121]⟩] v fun e w' => e = .returned (.int .i64 0) ∧ Kept K v w' ∧ ∃ d', UpB G K w' x p d' 20 [121] (-1) := fun K v x p d h => h.save_ok S (m := 20) (u := [121]) (by decide) (by decide) (by decide)
  have hF : ∀ K (v : World) x p d, UpB G K v x p d 20 [121] (-1) → Calls Tryz.prog 16 #[.pointer (some ⟨p, 0, none⟩)] v fun r w' => ∃ a c, r = .returned (.slice a 1 c) ∧ w'.ownsRow v.heap.size 44 3 (.slice a 1 c) 1 (fileCells (bfile 20 [121])) ∧ Below v.heap.size v w' ∧ UpB G (andOf K a) w' x p d 20 [121] (-1) := fun K v x p d h => h.files S
  have hB : ∀ K (v : World) x p d, UpB G K v x p d 20 [121] (-1) → Calls Tryz.prog 8 #[.pointer (some x)] v fun r w' => r = .returned (.tuple #[.int .u64 20, .string ⟨#[121]⟩, .bool true]) ∧ Kept K v w' ∧ UpB G K w' x p d 20 [121] (-1) := fun K v x p d h => h.base S
  have HN := Lib.hid hN
  have HA1 := Lib.hid hA1
  have HA2 := Lib.hid hA2
  have HA3 := Lib.hid hA3
  have HF := Lib.hid hF
  have HB := Lib.hid hB
  clear hN hA1 hA2 hA3 hF hB
  go_enter Tryz.func10, Tryz.ntmps10
  go_upto_region 8 with (first
    | (go_at_call 11; (with_reducible refine (HN.out _ (Below.refl _ _)).mono ?_); rintro r w1 ⟨p, rfl, d1, k1⟩)
    | (go_at_call 7; (with_reducible refine (S.new_up d1).mono ?_); rintro r w2 ⟨x, rfl, k2, u2⟩; have U2 := Lib.hid u2; clear u2)
    | (go_at_call 9; (with_reducible refine (HA1.out _ _ _ _ _ U2.out).mono ?_); rintro r w3 ⟨rfl, k3, d3, u3⟩; have U3 := Lib.hid u3; clear u3)
    | (go_at_call 9; (with_reducible refine (HA2.out _ _ _ _ _ U3.out).mono ?_); rintro r w4 ⟨rfl, k4, u4⟩; have U4 := Lib.hid u4; clear u4)
    | (go_at_call 9; (with_reducible refine (HA3.out _ _ _ _ _ U4.out).mono ?_); rintro r w5 ⟨rfl, k5, d5, u5⟩; have U5 := Lib.hid u5; clear u5)
    | (go_at_call 16; (with_reducible refine (HF.out _ _ _ _ _ U5.out).mono ?_); rintro r w6 ⟨a6, c6, rfl, row6, b6, u6⟩; have U6 := Lib.hid u6; clear u6)
    | (go_at_call 8; (with_reducible refine (HB.out _ _ _ _ _ U6.out).mono ?_); rintro r w7 ⟨rfl, k7, u7⟩; have U7 := Lib.hid u7; clear u7))
  obtain ⟨q6, rfl, hc6⟩ := file_one row6
  have hq := (own_blk row6 rfl).2.1
  have e7 : ∀ j u, (fileCells (bfile 20 [121]))[j]? = some u → w7.cell? ⟨q6, j, none⟩ = some u := fun j u hu => k7.cell (hc6 j u hu) (.inr ⟨_, rfl, rfl⟩)
  have f0 : w7.cell? ⟨q6, 0, none⟩ = some (.string ⟨#[98, 48, 48, 48, 48, 48, 48, 48, 48, 48, 48, 48, 48, 48, 48, 49, 52]⟩) := (e7 0 _ rfl).trans (by show some (Value.string (B (bname 20))) = _; rw [name20])
  have f1 : w7.cell? ⟨q6, 1, none⟩ = some (.string (B (frameL (insideB 20 [121])))) := e7 1 _ rfl
  have f2 : w7.cell? ⟨q6, 2, none⟩ = some (.int .i64 12) := (e7 2 _ rfl).trans (by show some (Value.int .i64 ((frameL (insideB 20 [121])).length : Nat)) = _; rw [len20]; rfl)
  have hl1 : (B (frameL (insideB 20 [121]))).size = 12 := by rw [B_size, len20]
  have hkp : Below w.heap.size w w7 := by
    have t := ((((Kept.of_below (K := fun k => k < w.heap.size) k1).trans k2 (fun _ _ h => h)).trans k3 (fun _ _ h => h)).trans k4 (fun _ _ h => h)).trans k5 (fun _ _ h => h)
    exact ((t.trans (Kept.of_below (K := fun k => k < w.heap.size) b6) (fun _ _ h => h)).trans k7 (fun _ _ h => .inl h)).below (Nat.le_refl _)
  generalize B (frameL (insideB 20 [121])) = Z at f1 hl1
  have HKP := Lib.hid hkp
  clear e7 hc6 row6 hkp k1 k2 k3 k4 k5 b6 k7 hq
  go_region
  go_wp2_with fail
  go_ret
  exact ⟨rfl, HKP.out.drew⟩

set_option maxRecDepth 100000 in
set_option maxHeartbeats 4000000 in
theorem baseNil_go (S : BaseSpec G) (n : Int) (t : List UInt8) {w : World} (E : Env w) :
    Calls Tryz.prog 3 #[.int .u64 n, .string (B t)] w fun e w' => e = .returned (.bool true) ∧ Below w.heap.size w w' := by
  have H1 := Lib.hid S.open_nil
  have H2 := Lib.hid S.base_nil
  have H3 := Lib.hid S.save_nil
  have H6 := Lib.hid (fun v (hb : Below w.heap.size w v) => S.wakes (E.below hb))
  go_enter Tryz.func3, Tryz.ntmps3
  go_wp2_with (first
    | (go_at_call 7; (with_reducible refine (H1.out _).mono ?_); rintro r w1 ⟨rfl, b1⟩)
    | (go_at_call 8; (with_reducible refine (H2.out _).mono ?_); rintro r w2 ⟨rfl, b2⟩)
    | (go_at_call 9; (with_reducible refine (H3.out _ _ _).mono ?_); rintro r w3 ⟨rfl, b3⟩)
    | (go_at_call 10; (with_reducible refine (H6.out _ (bb (bb b1 b2) b3)).mono ?_); rintro r w4 ⟨rfl, b4⟩))
  go_ret
  exact ⟨rfl, bb (bb (bb b1 b2) b3) b4⟩

end Go.Proofs.YthpamdjgkmaleaaGreatDoor
