/-
  FrameRows over this translation, put together: no insides; what came in, read.
-/
import Derived.Test.YtddicpgkagkmiaaRowsWalk
namespace Go.Proofs.Ytddicpgkagkmiaa
open Go.RowKit Go.ChangeShapes Go.WideShapes Go.ChangeAt Go.Deep
set_option linter.unusedVariables false

set_option maxRecDepth 100000 in
set_option maxHeartbeats 1000000 in
/-- No insides. -/
theorem rows_nil (a : Option Addr) (c : Nat) (cut bit : Int) (w : World) (hc : c ≤ maxLen) (hc0 : 0 ≤ cut) (hc1 : cut ≤ 4294967295) :
    Calls Try.prog 5 #[.slice a 0 c, .int .u32 cut, .int .u32 bit] w fun e w' => e = .returned (.bool true) ∧ Below w.heap.size w w' := by
  have hS := fun v => split_any [] v (by simp)
  rw [splitL_end (by simp)] at hS
  simp only [List.length_nil] at hS
  have hm : cut.tmod 1 = 0 := by simp
  have hcv := fun v => (Src.nil v).string
  have hcm : cut.tmod (0 + 1) = 0 := by simp
  have HS := Lib.hid hS
  clear hS
  go_enter Try.func5, Try.ntmps5
  go_wp2
  refine wp_loop_rounds 1 ?_
  rw [rounds_succ]
  go_wp2
  refine wp_loop_rounds 1 ?_
  rw [rounds_succ]
  go_wp2_with (first
    | (go_at_call 13; refine (HS.out _).mono ?_; rintro r w3 ⟨v3, rfl, o3, b3⟩; obtain ⟨a3, c3, rfl⟩ := row_val o3)
    | (go_at_call 15; refine (same_any _ _ _ _ _ [] _ ⟨rfl, fun j hj => absurd hj (by simp)⟩ ⟨rfl, fun j hj => absurd hj (by simp)⟩ (by decide)).mono ?_; rintro r w4 ⟨rfl, b4⟩)
    | (go_at_call 8; refine (fwakes_any _).mono ?_; rintro r w5 ⟨rfl, b5⟩))
  go_ret
  exact ⟨rfl, bb (bb b3 b4) b5⟩

theorem frameRows_walk {W : World} (base : Nat) (v0 : Value) {H : Type} (d0 : DataW H) (p0 : List MemPlace) (enc : TypeId × Value → H) (w0 : Value.okWide Try.prog W .any base 31 v0) (h0 : DataW.Trod enc Try.prog W 0 (fun _ => true) true 31 v0 d0 p0)
    (a1 : Int) (w1 : (Lit.int .u32 a1).wf = true) (a2 : Int) (w2 : (Lit.int .u32 a2).wf = true) (_w : World := W) :
    Calls Try.prog 5 #[v0, .int .u32 a1, .int .u32 a2] W fun e w' => e = .returned (.bool true) ∧ Below W.heap.size W w' := by
  obtain ⟨a, n, c, rfl⟩ := okWide_slice Try.underlying31 w0
  obtain ⟨hnc, hcm, ls, ht⟩ := strs_of h0
  obtain ⟨l1, u1⟩ := bounds_u32 w1
  obtain ⟨l2, u2⟩ := bounds_u32 w2
  by_cases hlong : 20 < (n : Int)
  · exact rows_long a n c a1 a2 W hlong
  · by_cases hz : n = 0
    · subst hz
      exact rows_nil a c a1 a2 W hcm l1 (by omega)
    · obtain ⟨b, off, rfl, _⟩ := ht.base (by omega)
      exact rows_some b off n c ls a1 a2 W ht hnc (by omega) (by omega) l1 (by omega) l2 (by omega)

end Go.Proofs.Ytddicpgkagkmiaa
