/-
  The laws' own 'wakes' over this translation: it answers true; of what was there nothing has turned.
-/
import Derived.Test.YtafhljmeofnbnaaPut
namespace Go.Proofs.Ytafhljmeofnbnaa
open Go.RowKit
set_option linter.unusedVariables false

/-- Behind a step that may write into block b alone, one of the call's own. -/
theorem bg {w0 w w' : World} {b : Nat} (h : Below w0.heap.size w0 w) (g : w.grownBy w' (some b)) (hb : w0.heap.size ≤ b) : Below w0.heap.size w0 w' :=
  h.grown g h.size (by rintro k ⟨rfl⟩; exact hb)
theorem bb {w0 w w' : World} (h : Below w0.heap.size w0 w) (k : Below w.heap.size w w') : Below w0.heap.size w0 w' := h.trans (k.mono h.size)

theorem RS.kept {w w' : World} {b b' : Nat} {s : St} (h : RS w b s) (hg : w.grownBy w' (some b')) (hne : b ≠ b') : RS w' b s := Rd.kept h hg (by simp; omega)
theorem RS.below {w w' : World} {b : Nat} {s : St} (h : RS w b s) (hg : Below w.heap.size w w') : RS w' b s := Rd.below h hg (Rd.lt h)
theorem RS.lt {w : World} {b : Nat} {s : St} (h : RS w b s) : b < w.heap.size := Rd.lt h

theorem wk_num : St.num ⟨0, [248, 249, 2, 97, 98]⟩ = (249, ⟨0, [2, 97, 98]⟩) := by kernel_rfl
theorem wk_str : St.str ⟨0, [2, 97, 98]⟩ 2 = ([97, 98], ⟨0, []⟩) := by kernel_rfl
theorem wk_fin : St.fin ⟨0, []⟩ = ⟨0, []⟩ := by kernel_rfl
theorem wk_enc : ([] : List UInt8) ++ enc (65536 : Int).toNat = [250, 1, 0, 0] := by kernel_rfl

end Go.Proofs.Ytafhljmeofnbnaa
