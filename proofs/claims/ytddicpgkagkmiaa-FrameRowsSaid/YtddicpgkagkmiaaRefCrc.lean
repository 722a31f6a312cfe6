/-
  The document's own answers of layer 2 (palaverref02): what they give.
-/
import Derived.Test.YtddicpgkagkmiaaRows
import Derived.Test.YtddicpgkagkmiaaCrcInt
import Derived.WalkKit
import Derived.WalkSpells
import Derived.WalkLawsBesides
import Derived.Lib.Hide
import Derived.Deep.DeepCutAuto
namespace Go.Proofs.Ytddicpgkagkmiaa
open Go.RowKit Crc
set_option linter.unusedVariables false

set_option maxRecDepth 100000 in
set_option maxHeartbeats 4000000 in
theorem refSteps_any (x : Crc.W) (n : Int) (w : World) (h0 : -9223372036854775808 ≤ n) (h1 : n ≤ 9223372036854775807) :
    Calls Try.prog 48 #[.int .u64 (I x), .int .i64 n] w fun r w' => r = .returned (.int .u64 (I (steps n.toNat x))) ∧ w = w' := by
  go_enter Try.func48, Try.ntmps48
  go_wp2_with fail
  go_loopw [0, 5] (fun xv iv wr => ∃ k : Nat, k ≤ n.toNat ∧ xv = .int .u64 (I (steps k x)) ∧ iv = .int .i64 k ∧ wr = w) (fun _ iv _ => n.toNat - (intOf iv).toNat)
  case atStart => exact ⟨0, Nat.zero_le _, rfl, rfl, rfl⟩
  case round =>
    obtain ⟨k, hk, rfl, rfl, rfl⟩ := hrel
    by_cases hlt : (k : Int) < n
    · have hs : steps (k + 1) x = stp (steps k x) := rfl
      have HS := Lib.hid hs
      clear hs
      generalize steps k x = y at HS
      have hh := halfI y
      have hp := polyI (y >>> 1)
      have h0' := I_nonneg y
      have h1' := I_le y
      have ho := oddI y
      by_cases hb : y.getLsbD 0 = true
      · have he : stp y = y >>> 1 ^^^ poly := by unfold stp; rw [if_pos hb]
        have HE := Lib.hid he
        rw [if_pos hb] at ho
        clear he hb
        go_wp2_with fail
        go_roundw
        case rel => exact ⟨k + 1, by omega, by rw [HS.out, HE.out], by go_num, by first | rfl | trivial⟩
        case measure => simp [intOf]; omega
      · have he : stp y = y >>> 1 := by unfold stp; rw [if_neg hb]
        have HE := Lib.hid he
        rw [if_neg hb] at ho
        clear he hb
        go_wp2_with fail
        go_roundw
        case rel => exact ⟨k + 1, by omega, by rw [HS.out, HE.out, hh], by go_num, by first | rfl | trivial⟩
        case measure => simp [intOf]; omega
    · obtain rfl : k = n.toNat := by omega
      go_wp2_with fail
      go_ret
      exact ⟨rfl, rfl⟩

theorem feed_take (x : Crc.W) (l : List UInt8) (k : Nat) (h : k < l.length) : feed x (l.take (k + 1)) = steps 8 (feed x (l.take k) ^^^ byte l[k]) := by
  rw [List.take_succ_eq_append_getElem h, feed_snoc]

/-- A byte of a text, put over a number. -/
theorem byte_step (y : Crc.W) (l : List UInt8) (k : Nat) (h0 : k < l.length) (h : k < (⟨l.toArray⟩ : ByteArray).size) :
    bits .xor .u64 (I y) (IntKind.u64.wrap (((⟨l.toArray⟩ : ByteArray)[k]'h).toNat : Int)) = I (y ^^^ byte l[k]) := by
  have e : (⟨l.toArray⟩ : ByteArray)[k]'h = l[k] := rfl
  rw [e, byteI, wrapI, xorI]

theorem not_max (x : Crc.W) : bits .xor .u64 IntKind.u64.max (I x) = I (~~~ x) := notI x

set_option maxRecDepth 100000 in
set_option maxHeartbeats 4000000 in
theorem refMore_any (x : Crc.W) (l : List UInt8) (w : World) (hl : (l.length : Int) ≤ 9000000000000000000) :
    Calls Try.prog 38 #[.int .u64 (I x), .string ⟨l.toArray⟩] w fun r w' => r = .returned (.int .u64 (I (more x l))) ∧ w = w' := by
  have hn := not_max x
  have hsg : ¬ (IntKind.u64.signed = true) := by decide
  go_enter Try.func38, Try.ntmps38
  go_wp2_with fail
  go_loopw [5, 6] (fun xv iv wr => ∃ k : Nat, k ≤ l.length ∧ xv = .int .u64 (I (feed (~~~ x) (l.take k))) ∧ iv = .int .i64 k ∧ wr = w) (fun _ iv _ => l.length - (intOf iv).toNat)
  case atStart => exact ⟨0, Nat.zero_le _, rfl, rfl, rfl⟩
  case round =>
    obtain ⟨k, hk, rfl, rfl, rfl⟩ := hrel
    by_cases hlt : k < l.length
    · have hs := feed_take (~~~ x) l k hlt
      have HS := Lib.hid hs
      clear hs
      generalize feed (~~~ x) (l.take k) = y at HS
      go_wp2_with (go_at_call 48; rw [byte_step y l k hlt]; refine (refSteps_any _ 8 _ (by decide) (by decide)).mono ?_; rintro r w4 ⟨rfl, rfl⟩)
      go_roundw
      case rel => exact ⟨k + 1, by omega, by rw [HS.out], by go_num, by first | rfl | trivial⟩
      case measure => simp [intOf]; omega
    · obtain rfl : k = l.length := by omega
      rw [List.take_length]
      have hm : ~~~ feed (~~~ x) l = more x l := rfl
      have hn2 := not_max (feed (~~~ x) l)
      rw [hm] at hn2
      go_wp2_with fail
      go_ret
      exact ⟨rfl, rfl⟩

theorem refSum_any (l : List UInt8) (w : World) (hl : (l.length : Int) ≤ 9000000000000000000) :
    Calls Try.prog 22 #[.string ⟨l.toArray⟩] w fun r w' => r = .returned (.int .u64 (I (sum l))) ∧ w = w' := by
  go_enter Try.func22, Try.ntmps22
  go_wp2_with (go_at_call 38; refine (refMore_any 0#64 l _ hl).mono ?_; rintro r w4 ⟨rfl, rfl⟩)
  go_ret
  exact ⟨rfl, rfl⟩

end Go.Proofs.Ytddicpgkagkmiaa
