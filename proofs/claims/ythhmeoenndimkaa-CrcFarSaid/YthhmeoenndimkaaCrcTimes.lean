/-
  Package crc's matrix: an array of 64 numbers by value; times; byteMatrix; what squaring makes of it.
-/
import Derived.Test.YthhmeoenndimkaaCrcEight
import Derived.Test.YthhmeoenndimkaaCrcWakes
import Derived.Deep.WholeRow
import Derived.Deep.QuietTactic
import Derived.BigQuiet
namespace Go.Proofs.Ythhmeoenndimkaa
open Go.RowKit Crc
set_option linter.unusedVariables false

/-- 64 numbers as an array's cells. -/
def mat (M : Nat → Crc.W) : Array Value := ((List.range 64).map fun i => .int .u64 (I (M i))).toArray

theorem mat_size (M : Nat → Crc.W) : (mat M).size = 64 := by simp [mat]
theorem mat_get (M : Nat → Crc.W) (i : Nat) (h : i < 64) : (mat M)[i]? = some (.int .u64 (I (M i))) := by
  simp [mat, List.getElem?_range h]

theorem shrI (x : Crc.W) (k : Nat) : I x / 2 ^ k = I (x >>> k) := by
  unfold I
  rw [BitVec.toNat_ushiftRight, Nat.shiftRight_eq_div_pow]
  simp
theorem and_ones (x : Crc.W) : bits .and .u64 (I x) 18446744073709551615 = I x := by rw [← I_ones, andI, BitVec.and_allOnes]
theorem and_none (x : Crc.W) : bits .and .u64 (I x) 0 = 0 := by rw [← I_zero, andI, BitVec.and_zero]

theorem ap_next (M : Nat → Crc.W) (f : Nat → Bool) (k : Nat) : ap M f (k + 1) = ap M f k ^^^ (if f k then M k else 0#64) := rfl

set_option maxRecDepth 100000 in
set_option maxHeartbeats 4000000 in
theorem times_any (M : Nat → Crc.W) (x : Crc.W) (w : World) :
    Calls Try.prog 19 #[.agg (mat M), .int .u64 (I x)] w fun r w' => r = .returned (.int .u64 (I (ap M x.getLsbD 64))) ∧ Below w.heap.size w w' := by
  have HZ := Lib.hid (mat_size M)
  have HG := Lib.hid (mat_get M)
  have hw1 : IntKind.u64.wrap (-1) = 18446744073709551615 := by decide
  generalize mat M = A at HZ HG
  go_enter Try.func19, Try.ntmps19
  go_wp2_with fail
  go_loopw [5, 7] (fun yv iv wr => ∃ k : Nat, k ≤ 64 ∧ yv = .int .u64 (I (ap M x.getLsbD k)) ∧ iv = .int .i64 k ∧ (∀ i, wr.cell? ⟨w.heap.size, i, none⟩ = A[i]?) ∧ Below w.heap.size w wr) (fun _ iv _ => 64 - (intOf iv).toNat)
  case atStart => exact ⟨0, Nat.zero_le _, rfl, rfl, fun i => World.cell?_alloc_at _ _ _ _ rfl, (Below.refl _ _).alloc (Nat.le_refl _) _⟩
  case round =>
    obtain ⟨k, hk, rfl, rfl, hcell, hbel⟩ := hrel
    have HC := Lib.hid hcell
    have HB := Lib.hid hbel
    clear hcell hbel
    by_cases hlt : k < 64
    · have hc : wr.cell? ⟨w.heap.size, k, none⟩ = some (.int .u64 (I (M k))) := (HC.out k).trans (HG.out k hlt)
      have HS := Lib.hid (ap_next M x.getLsbD k)
      generalize ap M x.getLsbD k = y at HS
      have hm : min k 64 = k := by omega
      have hs := shrI x k
      have hl := lowI (x >>> k)
      have e0 : (x >>> k).getLsbD 0 = x.getLsbD k := by simp
      rw [e0] at hl
      generalize M k = m at hc HS
      by_cases hb : x.getLsbD k = true
      · rw [if_pos hb] at hl HS
        have h1 := and_ones m
        have h2 := xorI y m
        clear hb e0
        go_wp2_with fail
        go_quiet (fail)
        go_wp2_with fail
        go_roundw
        case rel => exact ⟨k + 1, by omega, by rw [HS.out], by go_num, HC.out, below_drewN HB.out _⟩
        case measure => simp [intOf]; omega
      · rw [if_neg hb] at hl HS
        have h1 := and_none m
        have h2 := xor_none y
        clear hb e0
        go_wp2_with fail
        go_quiet (fail)
        go_wp2_with fail
        go_roundw
        case rel => exact ⟨k + 1, by omega, by rw [HS.out, BitVec.xor_zero], by go_num, HC.out, below_drewN HB.out _⟩
        case measure => simp [intOf]; omega
    · obtain rfl : k = 64 := by omega
      go_wp2_with fail
      go_ret
      exact ⟨rfl, HB.out⟩

end Go.Proofs.Ythhmeoenndimkaa
