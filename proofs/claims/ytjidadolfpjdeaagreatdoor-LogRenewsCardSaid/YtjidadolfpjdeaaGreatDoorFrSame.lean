/-
  Rows of texts, read; the document's Same of two rows that hold the same texts (package palaverref03).
-/
import Derived.Test.YtjidadolfpjdeaaGreatDoorMg
import Derived.Deep.QuietTactic
import Derived.BigQuiet
namespace Go.Proofs.YtjidadolfpjdeaaGreatDoor
open Go.RowKit
set_option linter.unusedVariables false

/-- The slice (a, n, ..) reads as the texts ls. -/
structure Txt (w : World) (a : Option Addr) (n : Nat) (ls : List (List UInt8)) : Prop where
  len : ls.length = n
  cell : ∀ j (hj : j < ls.length), ∃ b off, a = some ⟨b, off, none⟩ ∧ w.cell? ⟨b, off + j, none⟩ = some (.string (B ls[j]))

theorem Txt.of_own {w : World} {b n : Nat} {a : Option Addr} {c : Nat} {ls : List (List UInt8)} (h : w.ownsRow b 9 1 (.slice a n c) n (strV ls)) : Txt w a n ls := by
  have hl : ls.length = n := by have := h.1; rw [strV_length] at this; omega
  refine ⟨hl, fun j hj => ?_⟩
  rcases h.2 with ⟨_, h0⟩ | ⟨g, cap, cur, he, _⟩
  · omega
  · obtain ⟨rfl, rfl⟩ : a = some ⟨g, 0, none⟩ ∧ c = cap := by simpa using he
    refine ⟨g, 0, rfl, ?_⟩
    rw [Nat.zero_add, h.cellAt j (by omega)]
    simp [strV, hj]

theorem Txt.below {w w' : World} {a : Option Addr} {n : Nat} {ls : List (List UInt8)} (h : Txt w a n ls) (hb : Below w.heap.size w w') : Txt w' a n ls := by
  refine ⟨h.len, fun j hj => ?_⟩
  obtain ⟨b, off, ha, hc⟩ := h.cell j hj
  exact ⟨b, off, ha, (hb.cell (p := ⟨b, off + j, none⟩) (World.block_lt_of_cell? w _ hc)).trans hc⟩

theorem Txt.base {w : World} {a : Option Addr} {n : Nat} {ls : List (List UInt8)} (h : Txt w a n ls) (h0 : 0 < n) : ∃ b off, a = some ⟨b, off, none⟩ ∧ ∀ j (hj : j < ls.length), w.cell? ⟨b, off + j, none⟩ = some (.string (B ls[j])) := by
  obtain ⟨b, off, ha, _⟩ := h.cell 0 (by rw [h.len]; exact h0)
  refine ⟨b, off, ha, fun j hj => ?_⟩
  obtain ⟨b', off', ha', hc⟩ := h.cell j hj
  rw [ha] at ha'
  simp at ha'
  obtain ⟨rfl, rfl⟩ := ha'
  exact hc

set_option maxRecDepth 100000 in
set_option maxHeartbeats 1000000 in
theorem same_any (a a' : Option Addr) (n c c' : Nat) (ls : List (List UInt8)) (w : World) (h : Txt w a n ls) (h' : Txt w a' n ls) (hn : n ≤ 1000000) :
    Calls Tryz.prog 19 #[.slice a n c, .slice a' n c'] w fun r w' => r = .returned (.bool true) ∧ Below w.heap.size w w' := by
  by_cases h0 : n = 0
  · subst h0
    go_enter Tryz.func19, Tryz.ntmps19
    go_wp2
    refine wp_loop_rounds 1 ?_
    rw [rounds_succ]
    go_wp2
    go_ret
    exact ⟨rfl, Below.refl _ _⟩
  · obtain ⟨b, off, rfl, hc⟩ := h.base (by omega)
    obtain ⟨b', off', rfl, hc'⟩ := h'.base (by omega)
    have hl := h.len
    have HC := Lib.hid hc
    have HC' := Lib.hid hc'
    have HL := Lib.hid hl
    clear hc hc' hl h h'
    go_enter Tryz.func19, Tryz.ntmps19
    go_wp2
    go_loopw [5] (fun iv wr => ∃ k : Nat, k ≤ n ∧ iv = .int .i64 k ∧ Below w.heap.size w wr) (fun iv _ => n - (intOf iv).toNat)
    case atStart => exact ⟨0, Nat.zero_le _, rfl, Below.refl _ _⟩
    case round =>
      obtain ⟨k, hk, rfl, hb⟩ := hrel
      by_cases hlt : k < n
      · have c1 := HC.out k (by rw [HL.out]; exact hlt)
        have c2 := HC'.out k (by rw [HL.out]; exact hlt)
        generalize ls[k]'_ = x at c1 c2
        have d1 := (hb.cell (p := ⟨b, off + k, none⟩) (World.block_lt_of_cell? w _ c1)).trans c1
        have d2 := (hb.cell (p := ⟨b', off' + k, none⟩) (World.block_lt_of_cell? w _ c2)).trans c2
        clear c1 c2
        go_wp2
        go_quiet (fail)
        go_wp2
        go_roundw
        case rel => exact ⟨k + 1, by omega, by go_num, below_drewN hb _⟩
        case measure => simp [intOf]; omega
      · obtain rfl : k = n := by omega
        go_wp2
        go_ret
        exact ⟨rfl, hb⟩

end Go.Proofs.YtjidadolfpjdeaaGreatDoor
