/-
  Package crc's eightSteps, More and Sum: what they answer; the world is as it was.
-/
import Derived.Test.YthpamdjgkmaleaaGreatDoorRefCrc
namespace Go.Proofs.YthpamdjgkmaleaaGreatDoor
open Go.RowKit Crc
set_option linter.unusedVariables false

theorem poly_ones : bits .and .u64 14514072000185962306 18446744073709551615 = 14514072000185962306 := by decide
theorem poly_none : bits .and .u64 14514072000185962306 0 = 0 := by decide
theorem xor_none (x : Crc.W) : bits .xor .u64 (I x) 0 = I x := by rw [← I_zero, xorI, BitVec.xor_zero]

set_option maxRecDepth 100000 in
set_option maxHeartbeats 4000000 in
theorem eight_any (x : Crc.W) (w : World) :
    Calls Tryz.prog 109 #[.int .u64 (I x)] w fun r w' => r = .returned (.int .u64 (I (steps 8 x))) ∧ w = w' := by
  have hpo := poly_ones
  have hpn := poly_none
  have hw1 : IntKind.u64.wrap (-1) = 18446744073709551615 := by decide
  go_enter Tryz.func109, Tryz.ntmps109
  go_wp2_with fail
  go_loopw [0, 3] (fun xv iv wr => ∃ k : Nat, k ≤ 8 ∧ xv = .int .u64 (I (steps k x)) ∧ iv = .int .i64 k ∧ wr = w) (fun _ iv _ => 8 - (intOf iv).toNat)
  case atStart => exact ⟨0, Nat.zero_le _, rfl, rfl, rfl⟩
  case round =>
    obtain ⟨k, hk, rfl, rfl, rfl⟩ := hrel
    by_cases hlt : k < 8
    · have hs : steps (k + 1) x = stp (steps k x) := rfl
      have HS := Lib.hid hs
      clear hs
      generalize steps k x = y at HS
      have hh := halfI y
      have hp := polyI (y >>> 1)
      have hn := xor_none (y >>> 1)
      have hl := lowI y
      by_cases hb : y.getLsbD 0 = true
      · have he : stp y = y >>> 1 ^^^ poly := by unfold stp; rw [if_pos hb]
        have HE := Lib.hid he
        rw [if_pos hb] at hl
        clear he hb hn
        go_wp2_with fail
        go_roundw
        case rel => exact ⟨k + 1, by omega, by rw [HS.out, HE.out], by go_num, by first | rfl | trivial⟩
        case measure => simp [intOf]; omega
      · have he : stp y = y >>> 1 := by unfold stp; rw [if_neg hb]
        have HE := Lib.hid he
        rw [if_neg hb] at hl
        clear he hb hp
        go_wp2_with fail
        go_roundw
        case rel => exact ⟨k + 1, by omega, by rw [HS.out, HE.out], by go_num, by first | rfl | trivial⟩
        case measure => simp [intOf]; omega
    · obtain rfl : k = 8 := by omega
      go_wp2_with fail
      go_ret
      exact ⟨rfl, rfl⟩

set_option maxRecDepth 100000 in
set_option maxHeartbeats 4000000 in
theorem crcMore_any (x : Crc.W) (l : List UInt8) (w : World) (hl : (l.length : Int) ≤ 9000000000000000000) :
    Calls Tryz.prog 89 #[.int .u64 (I x), .string ⟨l.toArray⟩] w fun r w' => r = .returned (.int .u64 (I (more x l))) ∧ w = w' := by
  have hn := not_max x
  have hsg : ¬ (IntKind.u64.signed = true) := by decide
  go_enter Tryz.func89, Tryz.ntmps89
  go_wp2_with fail
  go_loopw [5, 11] (fun xv iv wr => ∃ k : Nat, k ≤ l.length ∧ xv = .int .u64 (I (feed (~~~ x) (l.take k))) ∧ iv = .int .i64 k ∧ wr = w) (fun _ iv _ => l.length - (intOf iv).toNat)
  case atStart => exact ⟨0, Nat.zero_le _, rfl, rfl, rfl⟩
  case round =>
    obtain ⟨k, hk, rfl, rfl, rfl⟩ := hrel
    by_cases hlt : k < l.length
    · have hs := feed_take (~~~ x) l k hlt
      have HS := Lib.hid hs
      clear hs
      generalize feed (~~~ x) (l.take k) = y at HS
      go_wp2_with (go_at_call 109; rw [byte_step y l k hlt]; refine (eight_any _ _).mono ?_; rintro r w4 ⟨rfl, rfl⟩)
      go_roundw
      case rel => exact ⟨k + 1, by omega, by rw [HS.out], by go_num, by first | rfl | trivial⟩
      case measure => simp [intOf]; omega
    · obtain rfl : k = l.length := by omega
      rw [List.take_length]
      have hm : ~~~ feed (~~~ x) l = more x l := rfl
      have hn2 := not_max (feed (~~~ x) l)
      rw [hm] at hn2
      go_wp2_with fail
      go_ret
      exact ⟨rfl, rfl⟩

theorem crcSum_any (l : List UInt8) (w : World) (hl : (l.length : Int) ≤ 9000000000000000000) :
    Calls Tryz.prog 63 #[.string ⟨l.toArray⟩] w fun r w' => r = .returned (.int .u64 (I (sum l))) ∧ w = w' := by
  go_enter Tryz.func63, Tryz.ntmps63
  go_wp2_with (go_at_call 89; refine (crcMore_any 0#64 l _ hl).mono ?_; rintro r w4 ⟨rfl, rfl⟩)
  go_ret
  exact ⟨rfl, rfl⟩

end Go.Proofs.YthpamdjgkmaleaaGreatDoor
