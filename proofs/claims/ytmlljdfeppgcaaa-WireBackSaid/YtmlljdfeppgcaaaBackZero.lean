/-
  The walk of the law WireBack where there are no items.
-/
import Derived.Test.YtmlljdfeppgcaaaWakes
import Derived.Test.YtmlljdfeppgcaaaRefNum
import Derived.Test.YtmlljdfeppgcaaaApp
import Derived.Test.YtmlljdfeppgcaaaItems
import Derived.Test.YtmlljdfeppgcaaaPureC
import Derived.Deep.RegionWith
import Derived.Deep.DeepCutAuto
namespace Go.Proofs.Ytmlljdfeppgcaaa
open Go.RowKit Go.ChangeShapes Go.WideShapes Go.ChangeAt
set_option linter.unusedVariables false

set_option maxRecDepth 100000 in
set_option maxHeartbeats 20000000 in
theorem wireBack_zero (a : Option Addr) (cap : Nat) (c : UInt8) (w : World) :
    Calls Try.prog 5 #[.slice a 0 cap, .int .u8 c.toNat] w fun e w' => e = .returned (.bool true) ∧ Below w.heap.size w w' := by
  have hcv := (Src.nil w).string
  have hap : B [] ++ B [c] = B [c] := B_append [] [c]
  go_enter Try.func5, Try.ntmps5
  go_wp2_with fail
  refine wp_loop_rounds 1 ?_
  rw [rounds_succ]
  go_wp2_with fail
  refine (of_any [] _).mono ?_
  rintro r w1 ⟨rfl, a1, b1⟩
  have hcv1 := (Src.nil w1).string
  have hcc := (Src.of_own (own_one w1 c (c.toNat : Int) rfl)).string
  have hb2 := b1.alloc b1.size (.cells #[.int .u8 (c.toNat : Int)] 5)
  have a2 := a1.below ((Below.refl _ w1).alloc (Nat.le_refl _) (.cells #[.int .u8 (c.toNat : Int)] 5))
  go_wp2_with fail
  refine (of_any [c] _).mono ?_
  rintro r w3 ⟨rfl, m3, b3⟩
  have ra := a2.below b3
  have hB := bb hb2 b3
  have hg12 : w.heap.size < (w1.alloc (.cells #[.int .u8 (c.toNat : Int)] 5)).heap.size := a2.lt
  generalize (w1.alloc (.cells #[.int .u8 (c.toNat : Int)] 5)).heap.size = g2 at m3 hg12
  clear hap hcv hcv1 hcc hb2 a1 a2 b1 b3
  have hfin : St.fin ⟨0, [c]⟩ = ⟨4, [c]⟩ := rfl
  obtain ⟨g1, hg1⟩ : ∃ g1, g1 = w.heap.size := ⟨_, rfl⟩
  rw [← hg1] at ra hg12 ⊢
  have hwg : w.heap.size ≤ g1 := by omega
  clear hg1
  have hL1 : ∀ w1, RS w1 g1 ⟨0, []⟩ → Calls Try.prog 17 #[.pointer (some ⟨g1, 0, none⟩)] w1 fun r w' => r = .returned (.int .i64 0) ∧ w1 = w' := fun w1 h => left_st g1 _ w1 h
  have hE1 : ∀ w1, RS w1 g1 ⟨0, []⟩ → Calls Try.prog 18 #[.pointer (some ⟨g1, 0, none⟩)] w1 fun r w' => r = .returned (.int .i64 0) ∧ RS w' g1 ⟨0, []⟩ ∧ w1.grownBy w' (some g1) := fun w1 h => by
    have := end_st g1 _ w1 h; rw [wk_fin] at this; exact this
  have hR2 : ∀ w1, RS w1 g2 ⟨0, [c]⟩ → Calls Try.prog 16 #[.pointer (some ⟨g2, 0, none⟩)] w1 fun r w' => r = .returned (.int .i64 0) ∧ w1 = w' := fun w1 h => err_st g2 _ w1 h
  have hL2 : ∀ w1, RS w1 g2 ⟨0, [c]⟩ → Calls Try.prog 17 #[.pointer (some ⟨g2, 0, none⟩)] w1 fun r w' => r = .returned (.int .i64 1) ∧ w1 = w' := fun w1 h => left_st g2 _ w1 h
  have hE2 : ∀ w1, RS w1 g2 ⟨0, [c]⟩ → Calls Try.prog 18 #[.pointer (some ⟨g2, 0, none⟩)] w1 fun r w' => r = .returned (.int .i64 4) ∧ RS w' g2 ⟨4, [c]⟩ ∧ w1.grownBy w' (some g2) := fun w1 h => by
    have := end_st g2 _ w1 h; rw [hfin] at this; exact this
  have HL1 := Lib.hid hL1
  have HE1 := Lib.hid hE1
  have HR2 := Lib.hid hR2
  have HL2 := Lib.hid hL2
  have HE2 := Lib.hid hE2
  clear hL1 hE1 hR2 hL2 hE2 hfin
  go_wp2_with fail
  refine wp_loop_rounds 1 ?_
  rw [rounds_succ]
  go_wp2_with (first
    | (go_at_call 17; (with_reducible refine (HL1.out _ ra).mono ?_); rintro r w4 ⟨rfl, rfl⟩)
    | (go_at_call 18; (with_reducible refine (HE1.out _ ra).mono ?_); rintro r w5 ⟨rfl, a5, q5⟩; have m5 := RS.kept m3 q5 (Nat.ne_of_gt hg12); have hB5 := bg hB q5 (by omega))
    | (go_at_call 16; (with_reducible refine (HR2.out _ m5).mono ?_); rintro r w4 ⟨rfl, rfl⟩)
    | (go_at_call 17; (with_reducible refine (HL2.out _ m5).mono ?_); rintro r w4 ⟨rfl, rfl⟩)
    | (go_at_call 18; (with_reducible refine (HE2.out _ m5).mono ?_); rintro r w6 ⟨rfl, m6, q6⟩; have hB6 := bg hB5 q6 (by omega))
    | (go_at_call 9; refine (wakes_any _).mono ?_; rintro r w8 ⟨rfl, b8⟩))
  go_ret
  exact ⟨rfl, bb hB6 b8⟩

end Go.Proofs.Ytmlljdfeppgcaaa
