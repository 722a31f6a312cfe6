/-
  The laws' own 'wakes' over this translation: it answers true; of what was there nothing has turned.
-/
import Derived.Test.YtmlljdfeppgcaaaPut
namespace Go.Proofs.Ytmlljdfeppgcaaa
open Go.RowKit
set_option linter.unusedVariables false

/-- Behind a step that may write into block b alone, one of the call's own. -/
theorem bg {w0 w w' : World} {b : Nat} (h : Below w0.heap.size w0 w) (g : w.grownBy w' (some b)) (hb : w0.heap.size ≤ b) : Below w0.heap.size w0 w' :=
  h.grown g h.size (by rintro k ⟨rfl⟩; exact hb)
theorem bb {w0 w w' : World} (h : Below w0.heap.size w0 w) (k : Below w.heap.size w w') : Below w0.heap.size w0 w' := h.trans (k.mono h.size)

theorem RS.kept {w w' : World} {b b' : Nat} {s : St} (h : RS w b s) (hg : w.grownBy w' (some b')) (hne : b ≠ b') : RS w' b s := Rd.kept h hg (by simp; omega)
theorem RS.below {w w' : World} {b : Nat} {s : St} (h : RS w b s) (hg : Below w.heap.size w w') : RS w' b s := Rd.below h hg (Rd.lt h)
theorem RS.lt {w : World} {b : Nat} {s : St} (h : RS w b s) : b < w.heap.size := Rd.lt h

theorem wk_num : St.num ⟨0, [248, 249, 2, 97, 98]⟩ = (249, ⟨0, [2, 97, 98]⟩) := by kernel_rfl
theorem wk_str : St.str ⟨0, [2, 97, 98]⟩ 2 = ([97, 98], ⟨0, []⟩) := by kernel_rfl
theorem wk_fin : St.fin ⟨0, []⟩ = ⟨0, []⟩ := by kernel_rfl
theorem wk_enc : ([] : List UInt8) ++ enc (65536 : Int).toNat = [250, 1, 0, 0] := by kernel_rfl

set_option maxHeartbeats 1000000 in
theorem wakes_any (w : World) : Calls Try.prog 9 #[] w fun r w' => r = .returned (.bool true) ∧ Below w.heap.size w w' := by
  have hnum := fun b w1 (h : RS w1 b ⟨0, [248, 249, 2, 97, 98]⟩) => num_any b _ w1 h (by decide)
  rw [wk_num] at hnum
  have hstr := fun b w1 (h : RS w1 b ⟨0, [2, 97, 98]⟩) => str_any b _ 2 w1 h (by decide) (by decide) (by decide)
  rw [wk_str] at hstr
  have hfin := fun b w1 (h : RS w1 b ⟨0, []⟩) => end_st b _ w1 h
  rw [wk_fin] at hfin
  have henc := fun w1 => wnum_any none 0 0 [] 65536 w1 (Src.nil w1) (by decide) (by decide) (by decide)
  rw [wk_enc] at henc
  have HN := Lib.hid hnum
  have HS := Lib.hid hstr
  have HF := Lib.hid hfin
  have HE := Lib.hid henc
  clear hnum hstr hfin henc
  go_enter Try.func9, Try.ntmps9
  go_wp2_with (first | (go_at_call 14; refine (of_any [248, 249, 2, 97, 98] _).mono ?_; rintro r w1 ⟨rfl, h1, b1⟩) | (go_at_call 21; refine (HN.out _ _ h1).mono ?_; rintro r w2 ⟨rfl, h2, g2⟩) | (go_at_call 20; refine (HS.out _ _ h2).mono ?_; rintro r w3 ⟨rfl, h3, g3⟩) | (go_at_call 10; refine (HE.out _).mono ?_; rintro r w4 ⟨g, n, c, rfl, ho, b4⟩; have h4 : RS w4 w.heap.size ⟨0, []⟩ := Rd.below h3 b4 (Rd.lt h3); have hcv := (Src.of_own ho).string) | (go_at_call 18; refine (HF.out _ _ h4).mono ?_; rintro r w5 ⟨rfl, h5, g5⟩))
  go_ret
  refine ⟨rfl, ?_⟩
  have b0 : Below w.heap.size w w1 := b1
  have s1 := b0.size
  have b2 := b0.grown g2 s1 (by rintro k ⟨rfl⟩; exact Nat.le_refl _)
  have b3 := b2.grown g3 b2.size (by rintro k ⟨rfl⟩; exact Nat.le_refl _)
  have b4' := b3.trans (b4.mono b3.size)
  exact b4'.grown g5 b4'.size (by rintro k ⟨rfl⟩; exact Nat.le_refl _)

end Go.Proofs.Ytmlljdfeppgcaaa
