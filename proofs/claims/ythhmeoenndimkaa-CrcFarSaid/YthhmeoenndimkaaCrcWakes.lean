/-
  Layer 2's laws over what the calls of package crc answer: what is asked of these; the law's own 'wakes'.
-/
import Derived.Test.YthhmeoenndimkaaRefCrc
import Derived.Deep.RegionWith
namespace Go.Proofs.Ythhmeoenndimkaa
open Go.RowKit Crc
set_option linter.unusedVariables false

/-- What the calls of package crc answer. -/
structure CrcSpec : Prop where
  sum : ∀ (l : List UInt8) (w : World), (l.length : Int) ≤ 1000000000000 → Calls Try.prog 9 #[.string ⟨l.toArray⟩] w fun r w' => r = .returned (.int .u64 (I (sum l))) ∧ Below w.heap.size w w'
  more : ∀ (x : Crc.W) (l : List UInt8) (w : World), (l.length : Int) ≤ 1000000000000 → Calls Try.prog 11 #[.int .u64 (I x), .string ⟨l.toArray⟩] w fun r w' => r = .returned (.int .u64 (I (more x l))) ∧ Below w.heap.size w w'
  join : ∀ (a b : Crc.W) (n : Int) (w : World), -9223372036854775808 ≤ n → n ≤ 9223372036854775807 → Calls Try.prog 13 #[.int .u64 (I a), .int .u64 (I b), .int .i64 n] w fun r w' => r = .returned (.int .u64 (I (join a b n.toNat))) ∧ Below w.heap.size w w'

theorem wk_sum : I (sum [49, 50, 51, 52, 53, 54, 55, 56, 57]) = 11051210869376104954 := by decide +kernel
theorem wk_none : I (sum []) = 0 := by decide +kernel

theorem crb {w0 w w' : World} (h : Below w0.heap.size w0 w) (k : Below w.heap.size w w') : Below w0.heap.size w0 w' := h.trans (k.mono h.size)

theorem cwakes_any (C : CrcSpec) (w : World) : Calls Try.prog 8 #[] w fun r w' => r = .returned (.bool true) ∧ Below w.heap.size w w' := by
  have h1 := wk_sum
  have h2 := wk_none
  have h3 := fun w1 => C.sum [49, 50, 51, 52, 53, 54, 55, 56, 57] w1 (by decide)
  have h4 := fun w1 => C.sum [] w1 (by decide)
  rw [h1] at h3
  rw [h2] at h4
  have H3 := Lib.hid h3
  have H4 := Lib.hid h4
  clear h1 h2 h3 h4 C
  go_enter Try.func8, Try.ntmps8
  go_wp2_with (first | (go_at_call 9; refine (H3.out _).mono ?_; rintro r w1 ⟨rfl, b1⟩) | (go_at_call 9; refine (H4.out _).mono ?_; rintro r w2 ⟨rfl, b2⟩))
  go_ret
  exact ⟨rfl, crb b1 b2⟩

end Go.Proofs.Ythhmeoenndimkaa
