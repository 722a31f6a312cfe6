/-
  Package log's inTurn over this translation: steps, one behind the other, up to the first one that fails.
-/
import Derived.Test.YtjidadolfpjdeaaGreatDoorLgEnv
import Derived.Test.YtjidadolfpjdeaaGreatDoorMb
namespace Go.Proofs.YtjidadolfpjdeaaGreatDoor
open Go.RowKit
set_option linter.unusedVariables false

set_option maxRecDepth 100000 in
set_option maxHeartbeats 1000000 in
theorem inTurn_any {w : World} {q n c : Nat} {I : Nat → World → Prop} {O : Int → World → Prop} (S : Nat → Nat × Array Value × Array Value)
    (hcell : ∀ i X, I i X → ∀ j, j < n → X.cell? ⟨q, j, none⟩ = some (.func (.func (S j).1) (S j).2.1 (S j).2.2))
    (hent : ∀ i, i < n → ∀ args X, (callFunc (S i).1 args).run Tryz.prog X = .ok (.enter (S i).1 args) X)
    (hst : ∀ i X, i < n → I i X → Calls Tryz.prog (S i).1 ((S i).2.1 ++ (S i).2.2) X fun r X' => ∃ e, r = .returned (.int .i64 e) ∧ ((e = 0 ∧ I (i + 1) X') ∨ (e ≠ 0 ∧ O e X')))
    (hn : n ≤ 1000) (h0 : I 0 w) :
    Calls Tryz.prog 29 #[.slice (some ⟨q, 0, none⟩) n c] w fun r w' => ∃ e, r = .returned (.int .i64 e) ∧ ((e = 0 ∧ I n w') ∨ (e ≠ 0 ∧ O e w')) := by
  have HC := Lib.hid hcell
  have HE := Lib.hid hent
  have HS := Lib.hid hst
  clear hcell hent hst
  go_enter Tryz.func29, Tryz.ntmps29
  go_wp2
  go_loopw [8] (fun i wr => ∃ k : Nat, k ≤ n ∧ i = .int .i64 k ∧ Hid (I k wr)) (fun i _ => n - (intOf i).toNat)
  case atStart => exact ⟨0, Nat.zero_le _, rfl, Lib.hid h0⟩
  case round =>
    obtain ⟨k, hk, rfl, hI⟩ := hrel
    by_cases hlt : k < n
    · have hc := HC.out k wr hI.out k hlt
      have he := HE.out k hlt
      have hs := HS.out k wr hlt hI.out
      generalize S k = s at hc he hs
      obtain ⟨fa, bd, cp⟩ := s
      simp only at hc he hs
      have H := Lib.hid hs
      clear hs
      have hltI : (k : Int) < (n : Int) := by omega
      go_wp2
      refine H.out.mono ?_
      rintro r w' ⟨e, rfl, hR⟩
      have HR := Lib.hid hR
      clear hR
      by_cases he0 : e = 0
      · subst he0
        go_wp2
        go_roundw
        case rel =>
          rcases HR.out with ⟨_, h⟩ | ⟨h, _⟩
          · exact ⟨k + 1, by omega, by go_num, Lib.hid h⟩
          · exact absurd rfl h
        case measure => simp [intOf]; omega
      · have hne : (e != 0) = true := by simpa using he0
        go_wp2
        go_ret
        exact ⟨e, rfl, HR.out.elim (fun h => absurd h.1 he0) .inr⟩
    · obtain rfl : k = n := by omega
      have hltI : ¬ (k : Int) < (k : Int) := by omega
      go_wp2
      go_ret
      exact ⟨0, rfl, .inl ⟨rfl, hI.out⟩⟩

end Go.Proofs.YtjidadolfpjdeaaGreatDoor
