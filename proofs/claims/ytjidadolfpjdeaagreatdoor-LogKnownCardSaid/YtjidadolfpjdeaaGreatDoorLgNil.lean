/-
  The law LogNil over this translation, over a LogSpec.
-/
import Derived.Test.YtjidadolfpjdeaaGreatDoorLgWakes
namespace Go.Proofs.YtjidadolfpjdeaaGreatDoor
open Go.RowKit
set_option linter.unusedVariables false
variable {G : (Nat → Prop) → World → Addr → Nat → PD → Prop}

set_option maxRecDepth 100000 in
set_option maxHeartbeats 4000000 in
theorem logNil_go (S : LogSpec G) (l : List UInt8) {w : World} (E : Env w) :
    Calls Tryz.prog 3 #[.string (B l)] w fun e w' => e = .returned (.bool true) ∧ Below w.heap.size w w' := by
  have H1 := Lib.hid S.open_nil
  have H2 := Lib.hid S.add_nil
  have H3 := Lib.hid S.sync_nil
  have H4 := Lib.hid S.renew_nil
  have H5 := Lib.hid S.segments_nil
  have H6 := Lib.hid (fun v (hb : Below w.heap.size w v) => S.wakes (E.below hb))
  go_enter Tryz.func3, Tryz.ntmps3
  go_wp2_with (first
    | (go_at_call 8; (with_reducible refine (H1.out _).mono ?_); rintro r w1 ⟨a1, c1, rfl, b1⟩)
    | (go_at_call 9; (with_reducible refine (H2.out _ _).mono ?_); rintro r w2 ⟨rfl, b2⟩)
    | (go_at_call 10; (with_reducible refine (H3.out _).mono ?_); rintro r w3 ⟨rfl, b3⟩)
    | (go_at_call 11; (with_reducible refine (H4.out _ _ _ _).mono ?_); rintro r w4 ⟨rfl, b4⟩)
    | (go_at_call 12; (with_reducible refine (H5.out _).mono ?_); rintro r w5 ⟨rfl, b5⟩)
    | (go_at_call 13; (with_reducible refine (H6.out _ (by first | assumption | (have ba : Below w3.heap.size w3 (w3.alloc (.cells #[.string (B l)] 9)) := (Below.refl _ _).alloc (Nat.le_refl _) _; exact bb (bb (bb (bb b1 b2) b3) ba) (bb b4 b5)) | (have ba : Below w3.heap.size w3 (w3.alloc (.cells #[.string (B l)] 9)) := (Below.refl _ _).alloc (Nat.le_refl _) _; exact bb (bb (bb (bb (bb b1 b2) b3) ba) b4) b5))).mono ?_); rintro r w6 ⟨rfl, b6⟩))
  go_ret
  have ba : Below w3.heap.size w3 (w3.alloc (.cells #[.string (B l)] 9)) := (Below.refl _ _).alloc (Nat.le_refl _) _
  exact ⟨rfl, bb (bb (bb (bb (bb (bb b1 b2) b3) ba) b4) b5) b6⟩

end Go.Proofs.YtjidadolfpjdeaaGreatDoor
