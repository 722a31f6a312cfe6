/-
  LogRenews over this translation: it answers true, whatever the input; of what was there nothing has turned.
-/
import Derived.Test.YtjidadolfpjdeaaGreatDoorMf
import Derived.Test.YtjidadolfpjdeaaGreatDoorLgRenews
namespace Go.Proofs.YtjidadolfpjdeaaGreatDoor
open Go.RowKit Go.ChangeShapes Go.WideShapes Go.ChangeAt
set_option linter.unusedVariables false

set_option maxRecDepth 100000 in
theorem logRenews_walk {W : World} (base : Nat) (v0 : Value) {H : Type} (d0 : DataW H) (p0 : List MemPlace) (enc : TypeId × Value → H) (w0 : Value.okWide Tryz.prog W .any base 23 v0) (h0 : DataW.Trod enc Tryz.prog W 0 (fun _ => true) true 23 v0 d0 p0)
    (base1 : Nat) (v1 : Value) (d1 : DataW H) (p1 : List MemPlace) (enc1 : TypeId × Value → H) (w1 : Value.okWide Tryz.prog W .any base1 23 v1) (h1 : DataW.Trod enc1 Tryz.prog W 0 (fun _ => true) true 23 v1 d1 p1)
    (a2 : Int) (w2 : (Lit.int .i64 a2).wf = true) (a3 : Int) (w3 : (Lit.int .i64 a3).wf = true) (E : Env W) :
    Calls Tryz.prog 5 #[v0, v1, .int .i64 a2, .int .i64 a3] W fun e w' => e = .returned (.bool true) ∧ Below W.heap.size W w' := by
  obtain ⟨a, n, c, rfl⟩ := okWide_slice Tryz.underlying23 w0
  obtain ⟨a', n', c', rfl⟩ := okWide_slice Tryz.underlying23 w1
  obtain ⟨hnc, hcm, hnil, ls, ht⟩ := texts_of h0
  obtain ⟨hnc', hcm', hnil', ls', ht'⟩ := texts_of h1
  obtain ⟨l2, u2⟩ := bounds_i64 w2
  obtain ⟨l3, u3⟩ := bounds_i64 w3
  by_cases hlong : 60 < (n : Int) ∨ 60 < (n' : Int)
  · exact renews_long logSpec a a' n n' c c' a2 a3 E hlong
  · exact renews_some logSpec a a' n n' c c' ls ls' a2 a3 E ht ht' hnc hnc' hnil hnil' (by omega) (by omega) (by omega) (by omega)

end Go.Proofs.YtjidadolfpjdeaaGreatDoor
