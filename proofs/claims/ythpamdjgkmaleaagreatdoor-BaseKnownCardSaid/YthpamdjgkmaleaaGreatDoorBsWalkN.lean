/-
  BaseNil, BaseKnown, BaseWhole and BaseLasts over this translation: they answer true, whatever the input; of what was there nothing has turned.
-/
import Derived.Test.YthpamdjgkmaleaaGreatDoorBsLaid
import Derived.Test.YthpamdjgkmaleaaGreatDoorBsKnown
import Derived.Test.YthpamdjgkmaleaaGreatDoorBsWhole
namespace Go.Proofs.YthpamdjgkmaleaaGreatDoor
open Go.RowKit Go.ChangeShapes Go.WideShapes Go.ChangeAt
set_option linter.unusedVariables false

theorem baseNil_walk (a0 : Int) (w0 : (Lit.int .u64 a0).wf = true) (s : ByteArray) (hs : s.size ≤ maxLen) {W : World} (E : Env W) : Calls Tryz.prog 3 #[.int .u64 a0, .string s] W fun e w' => e = .returned (.bool true) ∧ Below W.heap.size W w' := by
  have := baseNil_go baseSpec a0 s.data.toList E
  rw [show B s.data.toList = s from (B_data s).symm] at this
  exact this
theorem baseKnown_walk {W : World} (E : Env W) : Calls Tryz.prog 6 #[] W fun e w' => e = .returned (.bool true) ∧ Below W.heap.size W w' := baseKnown_go baseSpec E
set_option maxRecDepth 100000 in
theorem baseWhole_walk {W : World} (base : Nat) (v0 : Value) {H : Type} (d0 : DataW H) (p0 : List MemPlace) (enc : TypeId × Value → H) (w0 : Value.okWide Tryz.prog W .any base 37 v0) (h0 : DataW.Trod enc Tryz.prog W 0 (fun _ => true) true 37 v0 d0 p0)
    (a1 : Int) (w1 : (Lit.int .u32 a1).wf = true) (E : Env W) :
    Calls Tryz.prog 5 #[v0, .int .u32 a1] W fun e w' => e = .returned (.bool true) ∧ Below W.heap.size W w' := by
  obtain ⟨n, t, rfl, hn, ht⟩ := one_of w0 h0
  obtain ⟨l1, u1⟩ := bounds_u32 w1
  by_cases hc : n = 0 ∨ 300 < t.length
  · exact whole_none baseSpec n t a1 E hc
  · exact whole_some baseSpec n t a1 E hn (fun h => hc (.inl h)) (by omega) l1 u1
set_option maxRecDepth 100000 in
theorem baseLasts_walk {W : World} (base : Nat) (v0 : Value) {H : Type} (d0 : DataW H) (p0 : List MemPlace) (enc : TypeId × Value → H) (w0 : Value.okWide Tryz.prog W .any base 32 v0) (h0 : DataW.Trod enc Tryz.prog W 0 (fun _ => true) true 32 v0 d0 p0)
    (a1 : Int) (w1 : (Lit.int .i64 a1).wf = true) (a2 : Int) (w2 : (Lit.int .i64 a2).wf = true) (E : Env W) :
    Calls Tryz.prog 4 #[v0, .int .i64 a1, .int .i64 a2] W fun e w' => e = .returned (.bool true) ∧ Below W.heap.size W w' := by
  obtain ⟨a, n, c, rfl⟩ := okWide_slice Tryz.underlying32 w0
  obtain ⟨hnc, hcm, ls, ho, hlen⟩ := ones_of h0
  obtain ⟨l1, u1⟩ := bounds_i64 w1
  obtain ⟨l2, u2⟩ := bounds_i64 w2
  by_cases hlong : 20 < (n : Int)
  · exact blasts_long baseSpec a n c a1 a2 E hlong
  · exact blasts_some baseSpec a n c ls a1 a2 E ho (by omega) hnc u1 u2

end Go.Proofs.YthpamdjgkmaleaaGreatDoor
