/-
  The walk of the law WireBack over this translation, from what a row is told of its arguments.
-/
import Derived.Test.YtmlljdfeppgcaaaBackWalk
import Derived.Test.YtmlljdfeppgcaaaBackZero
namespace Go.Proofs.Ytmlljdfeppgcaaa
open Go.RowKit Go.ChangeShapes Go.WideShapes Go.ChangeAt
set_option linter.unusedVariables false

set_option maxRecDepth 100000 in
theorem wireBack_walk {H : Type} (base : Nat) (v0 : Value) (d0 : DataW H) (p0 : List MemPlace) (enc : TypeId × Value → H) {W : World} (w0 : Value.okWide Try.prog W .any base 44 v0)
    (h0 : DataW.Trod enc Try.prog W 0 (fun _ => true) true 44 v0 d0 p0) (a1 : Int) (w1 : (Lit.int .u8 a1).wf = true) (_w : World := W) :
    Calls Try.prog 5 #[v0, .int .u8 a1] W fun e w' => e = .returned (.bool true) ∧ Below W.heap.size W w' := by
  obtain ⟨a, len, cap, rfl⟩ := Go.WideShapes.okWide_slice Try.underlying44 w0
  obtain ⟨hm, hh⟩ := items_of h0
  have hb := bounds_u8 w1
  obtain ⟨c, rfl⟩ : ∃ c : UInt8, (c.toNat : Int) = a1 := ⟨UInt8.ofNat a1.toNat, by rw [UInt8.toNat_ofNat']; omega⟩
  clear h0 w0 w1 hb
  by_cases hl : (len : Int) ≤ 60
  · rcases hh with rfl | ⟨b, off, rfl, it, hit⟩
    · exact wireBack_zero a cap c W
    · by_cases hz : len = 0
      · subst hz; exact wireBack_zero _ cap c W
      · refine wireBack_main b off len cap ((List.range len).map fun i => ⟨(it i).t, (it i).n.toNat, (it i).s.data.toList⟩) c W (by simp) (by omega) hl ?_
        intro i hi
        have hi' : i < len := by simpa using hi
        obtain ⟨c0, c1, c2, n0, n1, s1⟩ := hit i hi'
        simp only [List.getElem_map, List.getElem_range]
        refine ⟨c0, ?_, ?_, ?_, ?_⟩
        · rw [c1]; simp only [Int.toNat_of_nonneg n0]
        · rw [c2, ← B_data]
        · simp only [Int.toNat_of_nonneg n0]; exact n1
        · rw [Lib.size_eq] at s1; exact s1
  · have hl' : (60 : Int) < (len : Int) := by omega
    clear hl hh hm
    go_enter Try.func5, Try.ntmps5
    go_wp2_with (go_at_call 9; refine (wakes_any _).mono ?_; rintro r w8 ⟨rfl, b8⟩)
    go_ret
    exact ⟨rfl, b8⟩

end Go.Proofs.Ytmlljdfeppgcaaa
