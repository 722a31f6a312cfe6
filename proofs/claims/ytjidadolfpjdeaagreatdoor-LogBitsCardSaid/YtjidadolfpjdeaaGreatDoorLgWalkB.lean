/-
  LogBits over this translation: it answers true, whatever the input; of what was there nothing has turned.
-/
import Derived.Test.YtjidadolfpjdeaaGreatDoorMf
import Derived.Test.YtjidadolfpjdeaaGreatDoorLgBits
namespace Go.Proofs.YtjidadolfpjdeaaGreatDoor
open Go.RowKit Go.ChangeShapes Go.WideShapes Go.ChangeAt
set_option linter.unusedVariables false

set_option maxRecDepth 100000 in
theorem logBits_walk {W : World} (base : Nat) (v0 : Value) {H : Type} (d0 : DataW H) (p0 : List MemPlace) (enc : TypeId × Value → H) (w0 : Value.okWide Tryz.prog W .any base 23 v0) (h0 : DataW.Trod enc Tryz.prog W 0 (fun _ => true) true 23 v0 d0 p0)
    (a1 : Int) (w1 : (Lit.int .u32 a1).wf = true) (E : Env W) :
    Calls Tryz.prog 6 #[v0, .int .u32 a1] W fun e w' => e = .returned (.bool true) ∧ Below W.heap.size W w' := by
  obtain ⟨a, n, c, rfl⟩ := okWide_slice Tryz.underlying23 w0
  obtain ⟨hnc, hcm, hnil, ls, ht⟩ := texts_of h0
  obtain ⟨l1, u1⟩ := bounds_u32 w1
  by_cases hlong : n < 1 ∨ 40 < (n : Int)
  · exact bits_long logSpec a n c a1 E hlong
  · exact bits_some logSpec a n c ls a1 E ht hnc (by omega) (by omega) l1 (by omega)

end Go.Proofs.YtjidadolfpjdeaaGreatDoor
