/-
  Same and ends of any two rows of texts: they answer, and turn nothing.
-/
import Derived.Test.YtjidadolfpjdeaaGreatDoorMk
import Derived.Test.YtjidadolfpjdeaaGreatDoorLgUse
import Derived.Test.YtjidadolfpjdeaaGreatDoorLgBitU
namespace Go.Proofs.YtjidadolfpjdeaaGreatDoor
open Go.RowKit
set_option linter.unusedVariables false

/-- A call that told a Boolean. -/
def IsB (r : Ending) : Prop := ∃ t, r = .returned (.bool t)

set_option maxRecDepth 100000 in
set_option maxHeartbeats 1000000 in
theorem same_bool (a a' : Option Addr) (n n' c c' : Nat) (ls ls' : List (List UInt8)) (w : World) (h : Txt w a n ls) (h' : Txt w a' n' ls') (hn : n ≤ 1000000) (hn' : n' ≤ 1000000) :
    Calls Tryz.prog 19 #[.slice a n c, .slice a' n' c'] w fun r w' => IsB r ∧ Below w.heap.size w w' := by
  by_cases hnn : n = n'
  · subst hnn
    by_cases h0 : n = 0
    · subst h0
      go_enter Tryz.func19, Tryz.ntmps19
      go_wp2
      refine wp_loop_rounds 1 ?_
      rw [rounds_succ]
      go_wp2
      go_ret
      exact ⟨⟨_, rfl⟩, Below.refl _ _⟩
    · obtain ⟨b, off, rfl, hc⟩ := h.base (by omega)
      obtain ⟨b', off', rfl, hc'⟩ := h'.base (by omega)
      have hl := h.len
      have hl' := h'.len
      have HC := Lib.hid hc
      have HC' := Lib.hid hc'
      have HL := Lib.hid hl
      have HL' := Lib.hid hl'
      clear hc hc' hl hl' h h'
      go_enter Tryz.func19, Tryz.ntmps19
      go_wp2
      go_loopw [5] (fun iv wr => ∃ k : Nat, k ≤ n ∧ iv = .int .i64 k ∧ Below w.heap.size w wr) (fun iv _ => n - (intOf iv).toNat)
      case atStart => exact ⟨0, Nat.zero_le _, rfl, Below.refl _ _⟩
      case round =>
        obtain ⟨k, hk, rfl, hb⟩ := hrel
        by_cases hlt : k < n
        · have c1 := HC.out k (by rw [HL.out]; exact hlt)
          have c2 := HC'.out k (by rw [HL'.out]; exact hlt)
          generalize ls[k]'_ = x at c1
          generalize ls'[k]'_ = x' at c2
          have d1 := (hb.cell (p := ⟨b, off + k, none⟩) (World.block_lt_of_cell? w _ c1)).trans c1
          have d2 := (hb.cell (p := ⟨b', off' + k, none⟩) (World.block_lt_of_cell? w _ c2)).trans c2
          clear c1 c2
          generalize B x = X at d1
          generalize B x' = X' at d2
          by_cases hx : (X.toList == X'.toList) = true
          · go_wp2
            go_quiet (fail)
            go_wp2
            go_roundw
            case rel => exact ⟨k + 1, by omega, by go_num, below_drewN hb _⟩
            case measure => simp [intOf]; omega
          · have hx2 : (X.toList == X'.toList) = false := Bool.eq_false_iff.2 hx
            clear hx
            go_wp2
            go_quiet (fail)
            go_wp2
            go_ret
            exact ⟨⟨_, rfl⟩, below_drewN hb _⟩
        · obtain rfl : k = n := by omega
          go_wp2
          go_ret
          exact ⟨⟨_, rfl⟩, hb⟩
  · have hi : ¬ (n : Int) = (n' : Int) := by omega
    have hi2 : ((n : Int) == (n' : Int)) = false := by simpa using hi
    have hi3 : ((n : Int) != (n' : Int)) = true := by simpa using hi
    go_enter Tryz.func19, Tryz.ntmps19
    go_wp2
    go_ret
    exact ⟨⟨_, rfl⟩, Below.refl _ _⟩

/-- An end of a row of texts. -/
theorem Txt.last {w : World} {a : Option Addr} {n : Nat} {ls : List (List UInt8)} (h : Txt w a n ls) (k : Nat) (hk : k ≤ n) : Txt w (Option.map (fun x => x.add k) a) (n - k) (ls.drop k) := by
  have hl := h.len
  refine ⟨by simp; omega, fun j hj => ?_⟩
  simp at hj
  obtain ⟨b', off', ha, hc⟩ := h.cell (k + j) (by omega)
  subst ha
  refine ⟨b', off' + k, ?_, ?_⟩
  · rw [Option.map_some, Addr.add_lit]
  · rw [Nat.add_assoc, hc]; simp
theorem Txt.none (w : World) (a : Option Addr) : Txt w a 0 [] := ⟨rfl, fun j hj => absurd hj (by simp)⟩

set_option maxRecDepth 100000 in
set_option maxHeartbeats 1000000 in
theorem ends_bool (a a' : Option Addr) (n n' c c' : Nat) (ls ls' : List (List UInt8)) (w : World) (h : Txt w a n ls) (h' : Txt w a' n' ls') (hn : n ≤ 1000000) (hn' : n' ≤ 1000000) (hc : n' ≤ c') :
    Calls Tryz.prog 20 #[.slice a n c, .slice a' n' c'] w fun r w' => IsB r ∧ Below w.heap.size w w' := by
  by_cases hnn : n ≤ n'
  · have hl := h'.last (n' - n) (by omega)
    have hS : ∀ (u : Option Addr) (m d : Nat) (ms : List (List UInt8)), Txt w u m ms → m ≤ 1000000 → Calls Tryz.prog 19 #[.slice a n c, .slice u m d] w fun r w' => IsB r ∧ Below w.heap.size w w' := fun u m d ms hm hm2 => same_bool a u n m c d ls ms w h hm hn hm2
    have HS := Lib.hid hS
    have HL := Lib.hid hl
    clear hS hl h h'
    go_enter Tryz.func20, Tryz.ntmps20
    go_wp2_with fail
    · obtain rfl : n = 0 := by omega
      go_at_call 19
      refine (HS.out _ _ _ [] (by rw [show n' - (n' - 0) = 0 from by omega]; exact Txt.none _ _) (by omega)).mono ?_
      rintro r w1 ⟨⟨t, rfl⟩, b1⟩
      go_wp2
      go_ret
      exact ⟨⟨t, rfl⟩, b1⟩
    · go_at_call 19
      refine (HS.out _ _ _ _ HL.out (by omega)).mono ?_
      rintro r w1 ⟨⟨t, rfl⟩, b1⟩
      go_wp2
      go_ret
      exact ⟨⟨t, rfl⟩, b1⟩
  · have hi : ¬ (n : Int) ≤ (n' : Int) := by omega
    go_enter Tryz.func20, Tryz.ntmps20
    go_wp2
    go_ret
    exact ⟨⟨_, rfl⟩, Below.refl _ _⟩

end Go.Proofs.YtjidadolfpjdeaaGreatDoor
