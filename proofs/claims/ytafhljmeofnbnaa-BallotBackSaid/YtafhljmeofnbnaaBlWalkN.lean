/-
  The five laws of ballots over this translation: they answer true, whatever the input; of what was there nothing has turned.
-/
import Derived.Test.YtafhljmeofnbnaaBlArgs
import Derived.Test.YtafhljmeofnbnaaBlPutC
import Derived.Test.YtafhljmeofnbnaaBlCalls
import Derived.Test.YtafhljmeofnbnaaBlByL
import Derived.Test.YtafhljmeofnbnaaBlBkL
import Derived.Test.YtafhljmeofnbnaaBlTnL
namespace Go.Proofs.Ytafhljmeofnbnaa
open Go.RowKit Go.ChangeShapes Go.WideShapes Go.ChangeAt
set_option linter.unusedVariables false

theorem ballotCalls_walk {W : World} {H : Type} (base : Nat) (v0 : Value) (d0 : DataW H) (p0 : List MemPlace) (enc : TypeId × Value → H) (w0 : Value.okWide Try.prog W .any base 22 v0) (h0 : DataW.Trod enc Try.prog W 0 (fun _ => true) true 22 v0 d0 p0)
    (base1 : Nat) (v1 : Value) (d1 : DataW H) (p1 : List MemPlace) (enc1 : TypeId × Value → H) (w1 : Value.okWide Try.prog W .any base1 25 v1) (h1 : DataW.Trod enc1 Try.prog W 0 (fun _ => true) true 25 v1 d1 p1)
    (base2 : Nat) (v2 : Value) (d2 : DataW H) (p2 : List MemPlace) (enc2 : TypeId × Value → H) (w2 : Value.okWide Try.prog W .any base2 25 v2) (h2 : DataW.Trod enc2 Try.prog W 0 (fun _ => true) true 25 v2 d2 p2)
    (a3 : Int) (w3 : (Lit.int .u8 a3).wf = true) :
    Calls Try.prog 3 #[v0, v1, v2, .int .u8 a3] W fun e w' => e = .returned (.bool true) ∧ Below W.heap.size W w' := by
  obtain ⟨a, n, c, rfl⟩ := okWide_slice Try.underlying22 w0
  obtain ⟨hnc, hcm, ls, ho⟩ := bals_of h0
  obtain ⟨x, rfl, hx⟩ := bal_of w1 h1
  obtain ⟨y, rfl, hy⟩ := bal_of w2 h2
  obtain ⟨l3, u3⟩ := bounds_u8 w3
  obtain ⟨r, rfl⟩ : ∃ r : Nat, a3 = (r : Nat) := ⟨a3.toNat, by omega⟩
  by_cases hl : 100 < (n : Int)
  · exact calls_long ballotSpec x y r a n c W hl
  · exact calls_some ballotSpec x y r hx hy (by omega) a n c ls W ho hl
theorem ballotBytes_walk {W : World} {H : Type} (base : Nat) (v0 : Value) (d0 : DataW H) (p0 : List MemPlace) (enc : TypeId × Value → H) (w0 : Value.okWide Try.prog W .any base 25 v0) (h0 : DataW.Trod enc Try.prog W 0 (fun _ => true) true 25 v0 d0 p0)
    (a1 : Option Addr) (len1 cap1 : Nat) (z1 : List Int) (w1 : IsRow .u8 W a1 len1 cap1 z1) (a2 : ByteArray) (w2 : a2.size ≤ maxLen) :
    Calls Try.prog 4 #[v0, .slice a1 len1 cap1, .string a2] W fun e w' => e = .returned (.bool true) ∧ Below W.heap.size W w' := by
  obtain ⟨x, rfl, hx⟩ := bal_of w0 h0
  by_cases hl : 100 < (len1 : Int) ∨ 100 < (a2.size : Int)
  · exact bytes_long ballotSpec x a1 len1 cap1 a2 W hl
  · have e := B_data a2
    rw [e] at hl ⊢
    exact bytes_some ballotSpec x hx a1 len1 cap1 _ _ W w1.src (fun h => hl (.inl h)) (fun h => hl (.inr h))
theorem ballotOrder_walk {W : World} {H : Type} (base : Nat) (v0 : Value) (d0 : DataW H) (p0 : List MemPlace) (enc : TypeId × Value → H) (w0 : Value.okWide Try.prog W .any base 25 v0) (h0 : DataW.Trod enc Try.prog W 0 (fun _ => true) true 25 v0 d0 p0)
    (base1 : Nat) (v1 : Value) (d1 : DataW H) (p1 : List MemPlace) (enc1 : TypeId × Value → H) (w1 : Value.okWide Try.prog W .any base1 25 v1) (h1 : DataW.Trod enc1 Try.prog W 0 (fun _ => true) true 25 v1 d1 p1)
    (base2 : Nat) (v2 : Value) (d2 : DataW H) (p2 : List MemPlace) (enc2 : TypeId × Value → H) (w2 : Value.okWide Try.prog W .any base2 25 v2) (h2 : DataW.Trod enc2 Try.prog W 0 (fun _ => true) true 25 v2 d2 p2)
    (base3 : Nat) (v3 : Value) (d3 : DataW H) (p3 : List MemPlace) (enc3 : TypeId × Value → H) (w3 : Value.okWide Try.prog W .any base3 22 v3) (h3 : DataW.Trod enc3 Try.prog W 0 (fun _ => true) true 22 v3 d3 p3) :
    Calls Try.prog 5 #[v0, v1, v2, v3] W fun e w' => e = .returned (.bool true) ∧ Below W.heap.size W w' := by
  obtain ⟨x, rfl, hx⟩ := bal_of w0 h0
  obtain ⟨y, rfl, hy⟩ := bal_of w1 h1
  obtain ⟨z, rfl, hz⟩ := bal_of w2 h2
  obtain ⟨a, n, c, rfl⟩ := okWide_slice Try.underlying22 w3
  obtain ⟨hnc, hcm, ls, ho⟩ := bals_of h3
  by_cases hl : 100 < (n : Int)
  · exact order_long ballotSpec x y z a n c W hl
  · exact order_some ballotSpec x y z hx hy hz a n c ls W ho hl hnc
theorem ballotTurns_walk {W : World} {H : Type} (base : Nat) (v0 : Value) (d0 : DataW H) (p0 : List MemPlace) (enc : TypeId × Value → H) (w0 : Value.okWide Try.prog W .any base 25 v0) (h0 : DataW.Trod enc Try.prog W 0 (fun _ => true) true 25 v0 d0 p0)
    (a1 : Option Addr) (len1 cap1 : Nat) (z1 : List Int) (w1 : IsRow .u8 W a1 len1 cap1 z1) (a2 : Int) (w2 : (Lit.int .u64 a2).wf = true) :
    Calls Try.prog 6 #[v0, .slice a1 len1 cap1, .int .u64 a2] W fun e w' => e = .returned (.bool true) ∧ Below W.heap.size W w' := by
  obtain ⟨x, rfl, hx⟩ := bal_of w0 h0
  obtain ⟨l2, u2⟩ := bounds_u64 w2
  obtain ⟨r, rfl⟩ : ∃ r : Nat, a2 = (r : Nat) := ⟨a2.toNat, by omega⟩
  by_cases hl : 60 < (len1 : Int)
  · exact turns_long ballotSpec x a1 len1 cap1 _ W hl
  · exact turns_some ballotSpec x hx a1 len1 cap1 _ r (by omega) W w1.src hl
theorem ballotBack_walk {W : World} {H : Type} (base : Nat) (v0 : Value) (d0 : DataW H) (p0 : List MemPlace) (enc : TypeId × Value → H) (w0 : Value.okWide Try.prog W .any base 22 v0) (h0 : DataW.Trod enc Try.prog W 0 (fun _ => true) true 22 v0 d0 p0) :
    Calls Try.prog 7 #[v0] W fun e w' => e = .returned (.bool true) ∧ Below W.heap.size W w' := by
  obtain ⟨a, n, c, rfl⟩ := okWide_slice Try.underlying22 w0
  obtain ⟨hnc, hcm, ls, ho⟩ := bals_of h0
  by_cases hl : 60 < (n : Int)
  · exact back_long ballotSpec a n c W hl
  · exact back_some ballotSpec a n c ls W ho hl hnc
end Go.Proofs.Ytafhljmeofnbnaa
