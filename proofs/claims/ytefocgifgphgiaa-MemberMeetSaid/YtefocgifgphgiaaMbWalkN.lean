/-
  The four laws of sets over this translation: they answer true, whatever the input; of what was there nothing has turned.
-/
import Derived.Test.YtefocgifgphgiaaMbFirst
import Derived.Test.YtefocgifgphgiaaMbTells
import Derived.Test.YtefocgifgphgiaaMbMeet
import Derived.Test.YtefocgifgphgiaaMbAlg
namespace Go.Proofs.Ytefocgifgphgiaa
open Go.RowKit Go.ChangeShapes Go.WideShapes Go.ChangeAt
set_option linter.unusedVariables false

theorem u8_nat {a : Int} (h : (Lit.int .u8 a).wf = true) : ∃ n : Nat, a = (n : Nat) ∧ n < 256 := by
  obtain ⟨l, u⟩ := bounds_u8 h
  exact ⟨a.toNat, by omega, by omega⟩
theorem memberTells_walk {W : World} (a0 : Int) (w0 : (Lit.int .u8 a0).wf = true) (a1 : Option Addr) (len1 cap1 : Nat) (z1 : List Int) (w1 : IsRow .u8 W a1 len1 cap1 z1) (a2 : Int) (w2 : (Lit.int .i64 a2).wf = true) (a3 : Int) (w3 : (Lit.int .u8 a3).wf = true) :
    Calls Try.prog 3 #[.int .u8 a0, .slice a1 len1 cap1, .int .i64 a2, .int .u8 a3] W fun e w' => e = .returned (.bool true) ∧ Below W.heap.size W w' := by
  obtain ⟨x, rfl, hx⟩ := u8_nat w0
  obtain ⟨one, rfl, ho⟩ := u8_nat w3
  obtain ⟨l2, u2⟩ := bounds_i64 w2
  by_cases hl : 100 < (len1 : Int)
  · exact tells_long memberSpec x a1 len1 cap1 a2 one W hl
  · exact tells_some memberSpec x hx a1 len1 cap1 _ a2 (by omega) (by omega) one ho W w1.src hl
theorem memberSets_walk (a0 : Int) (w0 : (Lit.int .u8 a0).wf = true) (a1 : Int) (w1 : (Lit.int .u8 a1).wf = true) (W : World) :
    Calls Try.prog 4 #[.int .u8 a0, .int .u8 a1] W fun e w' => e = .returned (.bool true) ∧ Below W.heap.size W w' := by
  obtain ⟨x, rfl, hx⟩ := u8_nat w0
  obtain ⟨y, rfl, hy⟩ := u8_nat w1
  exact sets_go memberSpec x y hx hy W
theorem memberMeet_walk (a0 : Int) (w0 : (Lit.int .u8 a0).wf = true) (a1 : Int) (w1 : (Lit.int .u8 a1).wf = true) (a2 : Int) (w2 : (Lit.int .u8 a2).wf = true) (a3 : Int) (w3 : (Lit.int .u8 a3).wf = true) (W : World) :
    Calls Try.prog 5 #[.int .u8 a0, .int .u8 a1, .int .u8 a2, .int .u8 a3] W fun e w' => e = .returned (.bool true) ∧ Below W.heap.size W w' := by
  obtain ⟨x, rfl, hx⟩ := u8_nat w0
  obtain ⟨a, rfl, ha⟩ := u8_nat w1
  obtain ⟨b, rfl, hb⟩ := u8_nat w2
  obtain ⟨m, rfl, hm⟩ := u8_nat w3
  exact meet_go memberSpec x a b m hx ha hb hm W
theorem memberAlgebra_walk (a0 : Int) (w0 : (Lit.int .u8 a0).wf = true) (a1 : Int) (w1 : (Lit.int .u8 a1).wf = true) (a2 : Int) (w2 : (Lit.int .u8 a2).wf = true) (W : World) :
    Calls Try.prog 6 #[.int .u8 a0, .int .u8 a1, .int .u8 a2] W fun e w' => e = .returned (.bool true) ∧ Below W.heap.size W w' := by
  obtain ⟨x, rfl, hx⟩ := u8_nat w0
  obtain ⟨y, rfl, hy⟩ := u8_nat w1
  obtain ⟨n, rfl, hn⟩ := u8_nat w2
  exact algebra_go memberSpec x y n hx hy hn W
end Go.Proofs.Ytefocgifgphgiaa
