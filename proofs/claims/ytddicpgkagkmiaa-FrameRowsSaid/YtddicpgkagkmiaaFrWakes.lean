/-
  Layer 3's 'wakes' over this translation: it answers true; of what was there nothing has turned.
-/
import Derived.Test.YtddicpgkagkmiaaFrPut
import Derived.Test.YtddicpgkagkmiaaFrTake
import Derived.Test.YtddicpgkagkmiaaWakes
import Derived.Test.YtddicpgkagkmiaaRefNum
import Derived.Lib.SlBytesConst
import Derived.Lib.SmallJoins
namespace Go.Proofs.Ytddicpgkagkmiaa
open Go.RowKit
set_option linter.unusedVariables false

theorem wk_frame : frameL [97, 98] = [2, 70, 176, 132, 14, 32, 115, 101, 188, 97, 98] := by decide +kernel
theorem wk_take1 : takeL (frameL [97, 98] ++ [122]) = ([97, 98], 11, 0) := by
  rw [takeL_frame _ _ (by decide) (by decide), wk_frame]; rfl
theorem wk_num0 : St.num ⟨0, [0]⟩ = (0, ⟨0, []⟩) := by kernel_rfl
theorem wk_take0 : takeL [0] = ([], 0, 4) := takeL_size wk_num0 (by decide)

/-- Behind its first bytes an owned slice is a source, too. -/
theorem Own.tail {w : World} {base g n cap : Nat} {l : List UInt8} (h : Own w base g n cap l) (k : Nat) (hk : k ≤ n) (c : Nat) : Src w (some ⟨g, k, none⟩) (n - k) c (l.drop k) := by
  have hl := h.len
  refine ⟨by simp; omega, by simp, ?_⟩
  rintro ad ⟨rfl⟩ j u hu
  have hj : j < (l.drop k).length := by
    have := (List.getElem?_eq_some_iff.1 hu).1
    rwa [Lib.byteCells_length] at this
  simp at hj
  have hc := World.ownsRow.cellAt h (k + j) (by omega)
  rw [Addr.add_lit, hc]
  simp [Lib.byteCells, hj] at hu ⊢
  rw [List.getElem?_eq_getElem (by omega)]
  simpa using hu

theorem own_parts {w : World} {base g n cap : Nat} {l : List UInt8} (h : Own w base g n cap l) : n ≤ cap ∧ base ≤ g ∧ cap ≤ maxLen := by
  rcases h.2 with ⟨he, _⟩ | ⟨g', cap', cur, he, hb, _, hn, hm, _⟩
  · cases he
  · simp at he
    obtain ⟨rfl, rfl⟩ := he
    exact ⟨hn, hb, hm⟩

/-- A constant text of one byte as bytes: the row is marked; it reads as the byte. -/
theorem const_src (w : World) (x : UInt8) (n : Int) (hn : (x.toNat : Int) = n) (fr : Nat × Nat) : Src (w.alloc (.cells #[.int .u8 n] 5 fr)) (some ⟨w.heap.size, 0, none⟩) 1 1 [x] := by
  subst hn
  refine ⟨rfl, by simp, ?_⟩
  rintro ad ⟨rfl⟩ j u hu
  have hj : j < [x].length := by
    have := (List.getElem?_eq_some_iff.1 hu).1
    rwa [Lib.byteCells_length] at this
  obtain rfl : j = 0 := by simpa using hj
  rw [addr_at, World.cell?_alloc_mark]
  simpa [Lib.byteCells] using hu

set_option maxRecDepth 100000 in
set_option maxHeartbeats 1000000 in
theorem fwakes_any (w : World) : Calls Try.prog 8 #[] w fun r w' => r = .returned (.bool true) ∧ Below w.heap.size w w' := by
  have hP := fun w1 (a : Option Addr) (n c : Nat) (h : Src w1 a n c [120]) (hn : n ≤ 35184372088832) => put_ok a n c [120] [97, 98] w1 h hn (by decide) (by decide)
  have hT1 : ∀ w1, Calls Try.prog 11 #[.string (B [2, 70, 176, 132, 14, 32, 115, 101, 188, 97, 98] ++ ⟨#[122]⟩)] w1 fun r w' => r = .returned (.tuple #[.string (B [97, 98]), .int .i64 11, .int .i64 0]) ∧ Below w1.heap.size w1 w' := fun w1 => by
    have h := take_frame (frameL [97, 98] ++ [122]) w1 (by rw [wk_frame]; decide)
    rw [wk_take1, wk_frame] at h
    have e : B [2, 70, 176, 132, 14, 32, 115, 101, 188, 97, 98] ++ ⟨#[122]⟩ = B ([2, 70, 176, 132, 14, 32, 115, 101, 188, 97, 98] ++ [122]) := B_append _ _
    rw [e]
    exact h
  have hT0 : ∀ w1, Calls Try.prog 11 #[.string ⟨#[0]⟩] w1 fun r w' => r = .returned (.tuple #[.string ⟨#[]⟩, .int .i64 0, .int .i64 4]) ∧ Below w1.heap.size w1 w' := fun w1 => by
    have h := take_frame [0] w1 (by decide)
    rw [wk_take0] at h
    exact h
  rw [wk_frame] at hP
  simp only [List.cons_append, List.nil_append] at hP
  have HP := Lib.hid hP
  have HT1 := Lib.hid hT1
  have HT0 := Lib.hid hT0
  clear hP hT1 hT0
  have hsr := fun fr => const_src w 120 120 rfl fr
  have hcs := fun (w : World) (C : Array Value) (n c : Nat) => Lib.run_convert_bytes_const (P := Try.prog) w 22 5 C n c Try.underlying22 Try.underlying5
  go_enter Try.func8, Try.ntmps8
  go_wp2_with (first
    | (go_at_call 9; refine (HP.out _ _ _ _ (hsr _) (by decide)).mono ?_; rintro r w1 ⟨g, n, c, rfl, ho, b1⟩; obtain rfl : 12 = n := ho.len; have hc0 : w1.cell? ⟨g, 0, none⟩ = some (.int .u8 120) := World.ownsRow.cellAt ho 0 (by decide); have hc1 : w1.cell? ⟨g, 1, none⟩ = some (.int .u8 2) := World.ownsRow.cellAt ho 1 (by decide); have hcap : 12 ≤ c := (own_parts ho).1; have hcv := (Own.tail ho 1 (by decide) (c - 1)).string)
    | (go_at_call 11; (with_reducible refine (HT1.out _).mono ?_); rintro r w2 ⟨rfl, b2⟩)
    | (go_at_call 11; (with_reducible refine (HT0.out _).mono ?_); rintro r w3 ⟨rfl, b3⟩))
  go_ret
  exact ⟨rfl, bb (bb (bb ((Below.refl _ _).alloc (Nat.le_refl _) _) b1) b2) b3⟩

end Go.Proofs.Ytddicpgkagkmiaa
