/-
  FrameKnown over this translation: it answers true; of what was there nothing has turned.
-/
import Derived.Test.YtddicpgkagkmiaaFrWakes
import Derived.Test.YtddicpgkagkmiaaFrRefS
namespace Go.Proofs.Ytddicpgkagkmiaa
open Go.RowKit
set_option linter.unusedVariables false

def zeros (n : Nat) : List UInt8 := List.replicate n 0
theorem zeros_length (n : Nat) : (zeros n).length = n := List.length_replicate ..

theorem zeros_src (n : Nat) (w : World) (hn : n ≤ 1000000) : ∃ w1, (Instr.makeSlice 22 (.int .i64 (n : Int)) (.int .i64 (n : Int))).run Try.prog w = .ok (.slice (some ⟨w.heap.size, 0, none⟩) n n) w1 ∧ Src w1 (some ⟨w.heap.size, 0, none⟩) n n (zeros n) ∧ Below w.heap.size w w1 := by
  obtain ⟨ti, hi, hz, hs1, hby⟩ := info_parts info_u8
  obtain ⟨w1, hmk, hown, hg⟩ := run_make_full (P := Try.prog) w w.heap.size 22 5 ti (.int .u8 0) 1 Try.underlying22 hi hz hs1 .i64 .i64 n (by rw [hby]; omega) (by unfold maxLen; omega) (Nat.le_refl _)
  have hz8 : (madeCells (Value.int .u8 0).cells (n * 1)).toList = Lib.byteCells (zeros n) := by
    show (madeCells #[Value.int .u8 0] (n * 1)).toList = _
    rw [toList_madeCells_one, zeros, Lib.byteCells, List.map_replicate, Nat.mul_one]
    rfl
  rw [hz8] at hown
  exact ⟨w1, hmk, Src.of_own (base := w.heap.size) hown, (Below.refl _ _).grown hg (Nat.le_refl _) (by simp)⟩

theorem know_take : takeL [1, 0, 0] = ([], 0, 3) := takeL_short (n := 1) (r := [0, 0]) (by kernel_rfl) (by decide) (by decide) (by decide)
theorem know_split : splitL [] 0 = ([], 0, 0) := splitL_end (Nat.le_refl _)

set_option maxRecDepth 100000 in
set_option maxHeartbeats 2000000 in
theorem frameKnown_walk (w : World) :
    Calls Try.prog 7 #[] w fun e w' => e = .returned (.bool true) ∧ Below w.heap.size w w' := by
  obtain ⟨w1, hmk, hs1, b1⟩ := zeros_src 65536 w (by decide)
  have hmk' : (Instr.makeSlice 22 (.int .i64 65536) (.int .i64 65536)).run Try.prog w = .ok (.slice (some ⟨w.heap.size, 0, none⟩) 65536 65536) w1 := hmk
  clear hmk
  have hcv := hs1.string
  obtain ⟨big, hbig⟩ : ∃ big, big = zeros 65536 := ⟨_, rfl⟩
  rw [← hbig] at hcv
  have hbl1 : big.length ≤ 65536 := by rw [hbig, zeros_length]; exact Nat.le_refl _
  have hbl2 : 65536 ≤ big.length := by rw [hbig, zeros_length]; exact Nat.le_refl _
  clear hs1 hbig
  have hP1 := fun v => put_ok none 0 0 [] big v (Src.nil v) (by decide) (by intro e; rw [e] at hbl2; simp at hbl2) hbl1
  have hP2 : ∀ v a, Src v a 1 1 [113] → Calls Try.prog 9 #[.slice a 1 1, .string (B big ++ ⟨#[120]⟩)] v fun r w' => ∃ a' c', r = .returned (.tuple #[.slice a' 1 c', .int .i64 6]) ∧ Src w' a' 1 c' [113] ∧ Below v.heap.size v w' := fun v a h => by
    have e : B big ++ ⟨#[120]⟩ = B (big ++ [120]) := B_append _ _
    rw [e]
    exact put_long a 1 1 [113] (big ++ [120]) v h (by decide) (.inr (by rw [List.length_append]; show 65536 < big.length + 1; omega))
  have hP3 : ∀ v, Calls Try.prog 9 #[.slice none 0 0, .string ⟨#[]⟩] v fun r w' => ∃ a' c', r = .returned (.tuple #[.slice a' 0 c', .int .i64 6]) ∧ Src w' a' 0 c' [] ∧ Below v.heap.size v w' := fun v => put_long none 0 0 [] [] v (Src.nil v) (Nat.zero_le _) (.inl rfl)
  have hfl : (frameL big).length ≤ 70000 := by
    have h8 := nb_le8 (show big.length < 2 ^ 64 by omega)
    rw [frameL_length, enc_length]; omega
  have hT1 := fun v => take_frame (frameL big) v (by omega)
  have hT2 : ∀ v, Calls Try.prog 11 #[.string ⟨#[1, 0, 0]⟩] v fun r w' => r = .returned (.tuple #[.string ⟨#[]⟩, .int .i64 0, .int .i64 3]) ∧ Below v.heap.size v w' := fun v => by
    have h := take_frame [1, 0, 0] v (by decide)
    rw [know_take] at h
    exact h
  have hbt : takeL (frameL big) = (big, (frameL big).length, 0) := by
    have := takeL_frame big [] (by omega) (by omega)
    rwa [List.append_nil] at this
  rw [hbt] at hT1
  have hS : ∀ v, Calls Try.prog 13 #[.string ⟨#[]⟩] v fun r w' => ∃ a c, r = .returned (.tuple #[.slice a 0 c, .int .i64 0, .int .i64 0]) ∧ Below v.heap.size v w' := fun v => by
    have h := split_any [] v (by decide)
    rw [know_split] at h
    refine h.mono ?_
    rintro r w' ⟨u, rfl, ho, hb⟩
    obtain ⟨a, c, rfl⟩ := row_val ho
    exact ⟨a, c, rfl, hb⟩
  simp only [List.nil_append] at hP1 hT1
  generalize frameL big = fr at hP1 hfl hT1
  have hcs := fun (w : World) (C : Array Value) (n c : Nat) => Lib.run_convert_bytes_const (P := Try.prog) w 22 5 C n c Try.underlying22 Try.underlying5
  have H1 := Lib.hid hP1
  have H2 := Lib.hid hP2
  have H3 := Lib.hid hP3
  have H4 := Lib.hid hT1
  have H5 := Lib.hid hT2
  have H6 := Lib.hid hS
  clear hP1 hP2 hP3 hT1 hT2 hS hbt
  go_enter Try.func7, Try.ntmps7
  go_wp2_with (first
    | (go_at_call 9; (with_reducible refine (H1.out _).mono ?_); rintro r w2 ⟨g2, n2, c2, rfl, o2, b2⟩; have s2 := Src.of_own o2; have hcv2 := s2.string; have hl2 := o2.len; have hsr := const_src w2 113 113 rfl)
    | (go_at_call 9; (with_reducible refine (H2.out _ _ (hsr _)).mono ?_); rintro r w3 ⟨a3, c3, rfl, s3, b3⟩; have hcv3 := s3.string)
    | (go_at_call 9; (with_reducible refine (H3.out _).mono ?_); rintro r w4 ⟨a4, c4, rfl, s4, b4⟩; have b24 := bb (bb ((Below.refl _ w2).alloc (Nat.le_refl _) (.cells #[.int .u8 113] 5 (1, 2))) b3) b4; have hcv2' := (s2.below b24).string)
    | (go_at_call 11; (with_reducible refine (H4.out _).mono ?_); rintro r w5 ⟨rfl, b5⟩)
    | (go_at_call 11; (with_reducible refine (H5.out _).mono ?_); rintro r w6 ⟨rfl, b6⟩)
    | (go_at_call 13; (with_reducible refine (H6.out _).mono ?_); rintro r w7 ⟨a7, c7, rfl, b7⟩; have hcv3' := (s3.below (bb (bb (bb b4 b5) b6) b7)).string)
    | (go_at_call 8; refine (fwakes_any _).mono ?_; rintro r w8 ⟨rfl, b8⟩))
  go_ret
  exact ⟨rfl, bb (bb (bb (bb (bb (bb b1 b2) b24) b5) b6) b7) b8⟩

end Go.Proofs.Ytddicpgkagkmiaa
