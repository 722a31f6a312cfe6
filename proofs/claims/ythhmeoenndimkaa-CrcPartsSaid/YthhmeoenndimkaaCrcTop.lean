/-
  Layer 2's laws, from what a row is told of its arguments, over what the calls of package crc answer.
-/
import Derived.Test.YthhmeoenndimkaaCrcFinds
namespace Go.Proofs.Ythhmeoenndimkaa
open Go.RowKit Crc Go.ChangeShapes
set_option linter.unusedVariables false

theorem crcTells_go (C : CrcSpec) (a0 : ByteArray) (w0 : a0.size ≤ maxLen) (a1 : Int) (w1 : (Lit.int .u64 a1).wf = true) (a2 : ByteArray) (w2 : a2.size ≤ maxLen) (w : World) :
    Calls Try.prog 3 #[.string a0, .int .u64 a1, .string a2] w fun e w' => e = .returned (.bool true) ∧ Below w.heap.size w w' := by
  obtain ⟨h1, h1'⟩ := bounds_u64 w1
  obtain ⟨x, rfl⟩ := I_of h1 h1'
  clear w0 w1 w2
  by_cases h0 : (a0.size : Int) ≤ 5000
  · by_cases h2 : (a2.size : Int) ≤ 5000
    · rw [ba_data a0, ba_data a2]
      exact crcTells_main C _ _ x w (by rw [← ba_size]; exact h0) (by rw [← ba_size]; exact h2)
    · have h2' : (5000 : Int) < (a2.size : Int) := by omega
      clear h2
      go_enter Try.func3, Try.ntmps3
      go_wp2_with (go_at_call 8; refine (cwakes_any C _).mono ?_; rintro r w8 ⟨rfl, b8⟩)
      go_ret
      exact ⟨rfl, b8⟩
  · have h0' : (5000 : Int) < (a0.size : Int) := by omega
    clear h0
    go_enter Try.func3, Try.ntmps3
    go_wp2_with (go_at_call 8; refine (cwakes_any C _).mono ?_; rintro r w8 ⟨rfl, b8⟩)
    go_ret
    exact ⟨rfl, b8⟩

theorem crcJoins_go (C : CrcSpec) (a0 : Int) (w0 : (Lit.int .u64 a0).wf = true) (a1 : Int) (w1 : (Lit.int .u64 a1).wf = true) (a2 : Int) (w2 : (Lit.int .i64 a2).wf = true) (w : World) :
    Calls Try.prog 4 #[.int .u64 a0, .int .u64 a1, .int .i64 a2] w fun e w' => e = .returned (.bool true) ∧ Below w.heap.size w w' := by
  obtain ⟨h0, h0'⟩ := bounds_u64 w0
  obtain ⟨h1, h1'⟩ := bounds_u64 w1
  obtain ⟨h2, h2'⟩ := bounds_i64 w2
  obtain ⟨x, rfl⟩ := I_of h0 h0'
  obtain ⟨y, rfl⟩ := I_of h1 h1'
  clear w0 w1 w2
  by_cases h : a2 ≤ 5000
  · exact crcJoins_main C x y a2 w h2 h
  · have h' : 5000 < a2 := by omega
    clear h
    go_enter Try.func4, Try.ntmps4
    go_wp2_with (go_at_call 8; refine (cwakes_any C _).mono ?_; rintro r w8 ⟨rfl, b8⟩)
    go_ret
    exact ⟨rfl, b8⟩

theorem crcFar_go (C : CrcSpec) (a0 : Int) (w0 : (Lit.int .u64 a0).wf = true) (a1 : Int) (w1 : (Lit.int .u64 a1).wf = true) (a2 : Int) (w2 : (Lit.int .u64 a2).wf = true) (a3 : Int) (w3 : (Lit.int .u64 a3).wf = true) (w : World) :
    Calls Try.prog 7 #[.int .u64 a0, .int .u64 a1, .int .u64 a2, .int .u64 a3] w fun e w' => e = .returned (.bool true) ∧ Below w.heap.size w w' := by
  obtain ⟨h0, h0'⟩ := bounds_u64 w0
  obtain ⟨h1, h1'⟩ := bounds_u64 w1
  obtain ⟨h2, h2'⟩ := bounds_u64 w2
  obtain ⟨h3, h3'⟩ := bounds_u64 w3
  obtain ⟨x, rfl⟩ := I_of h0 h0'
  obtain ⟨y, rfl⟩ := I_of h1 h1'
  exact crcFar_main C x y a2 a3 w h2 h2' h3 h3'

theorem crcParts_go (C : CrcSpec) (a0 : ByteArray) (w0 : a0.size ≤ maxLen) (a1 : ByteArray) (w1 : a1.size ≤ maxLen) (a2 : ByteArray) (w2 : a2.size ≤ maxLen) (w : World) :
    Calls Try.prog 5 #[.string a0, .string a1, .string a2] w fun e w' => e = .returned (.bool true) ∧ Below w.heap.size w w' := by
  clear w0 w1 w2
  by_cases h : (a0.size : Int) ≤ 3000 ∧ (a1.size : Int) ≤ 3000 ∧ (a2.size : Int) ≤ 3000
  · obtain ⟨h0, h1, h2⟩ := h
    rw [ba_data a0, ba_data a1, ba_data a2]
    exact crcParts_main C _ _ _ w (by rw [← ba_size]; exact h0) (by rw [← ba_size]; exact h1) (by rw [← ba_size]; exact h2)
  · by_cases h0 : (a0.size : Int) ≤ 3000
    · by_cases h1 : (a1.size : Int) ≤ 3000
      · have h2 : (3000 : Int) < (a2.size : Int) := by omega
        clear h
        go_enter Try.func5, Try.ntmps5
        go_wp2_with (go_at_call 8; refine (cwakes_any C _).mono ?_; rintro r w8 ⟨rfl, b8⟩)
        go_ret
        exact ⟨rfl, b8⟩
      · have h2 : (3000 : Int) < (a1.size : Int) := by omega
        clear h h1
        go_enter Try.func5, Try.ntmps5
        go_wp2_with (go_at_call 8; refine (cwakes_any C _).mono ?_; rintro r w8 ⟨rfl, b8⟩)
        go_ret
        exact ⟨rfl, b8⟩
    · have h2 : (3000 : Int) < (a0.size : Int) := by omega
      clear h h0
      go_enter Try.func5, Try.ntmps5
      go_wp2_with (go_at_call 8; refine (cwakes_any C _).mono ?_; rintro r w8 ⟨rfl, b8⟩)
      go_ret
      exact ⟨rfl, b8⟩

theorem crcFinds_go (C : CrcSpec) (a0 : ByteArray) (w0 : a0.size ≤ maxLen) (a1 : ByteArray) (w1 : a1.size ≤ maxLen) (a2 : Int) (w2 : (Lit.int .u16 a2).wf = true) (a3 : Int) (w3 : (Lit.int .u64 a3).wf = true) (w : World) :
    Calls Try.prog 6 #[.string a0, .string a1, .int .u16 a2, .int .u64 a3] w fun e w' => e = .returned (.bool true) ∧ Below w.heap.size w w' := by
  obtain ⟨h2, h2'⟩ := bounds_u16 w2
  obtain ⟨h3, h3'⟩ := bounds_u64 w3
  obtain ⟨m, rfl⟩ := I_of h3 h3'
  obtain ⟨q, rfl⟩ := Int.eq_ofNat_of_zero_le h2
  clear w0 w1 w2 w3
  by_cases h0 : (a0.size : Int) ≤ 5000
  · by_cases h1 : (a1.size : Int) ≤ 5000
    · rw [ba_data a0, ba_data a1]
      exact crcFinds_main C _ _ q m w (by rw [← ba_size]; exact h0) (by rw [← ba_size]; exact h1) h2'
    · have h1' : (5000 : Int) < (a1.size : Int) := by omega
      clear h1
      go_enter Try.func6, Try.ntmps6
      go_wp2_with (go_at_call 8; refine (cwakes_any C _).mono ?_; rintro r w8 ⟨rfl, b8⟩)
      go_ret
      exact ⟨rfl, b8⟩
  · have h0' : (5000 : Int) < (a0.size : Int) := by omega
    clear h0
    go_enter Try.func6, Try.ntmps6
    go_wp2_with (go_at_call 8; refine (cwakes_any C _).mono ?_; rintro r w8 ⟨rfl, b8⟩)
    go_ret
    exact ⟨rfl, b8⟩

end Go.Proofs.Ythhmeoenndimkaa
