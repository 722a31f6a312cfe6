/-
  The contracts of package wire's Reader over this translation: what each method answers and what it does to the reader's one block in memory.
-/
import Derived.Test.YtafhljmeofnbnaaRows
import Derived.WalkKit
import Derived.WalkSpells
import Derived.WalkLawsBesides
namespace Go.Proofs.Ytafhljmeofnbnaa
open Go.RowKit
set_option linter.unusedVariables false

/-- At block b there is a reader: its first error and the bytes that are left. -/
def Rd (w : World) (b : Nat) (e : Int) (s : ByteArray) : Prop := w.heap[b]? = some (.cells #[.int .i64 e, .string s] 61 (0, 0))

theorem Rd.c0 {w : World} {b : Nat} {e : Int} {s : ByteArray} (h : Rd w b e s) : w.cell? ⟨b, 0, none⟩ = some (.int .i64 e) := by
  rw [cell_of_row w b 0 _ _ _ h]; rfl
theorem Rd.c1 {w : World} {b : Nat} {e : Int} {s : ByteArray} (h : Rd w b e s) : w.cell? ⟨b, 1, none⟩ = some (.string s) := by
  rw [cell_of_row w b 1 _ _ _ h]; rfl
theorem Rd.f0 {w : World} {b : Nat} {e : Int} {s : ByteArray} (h : Rd w b e s) (j : Nat) : w.frozen? ⟨b, j, none⟩ = false := frozen_of_row w b j _ _ h
theorem Rd.lt {w : World} {b : Nat} {e : Int} {s : ByteArray} (h : Rd w b e s) : b < w.heap.size := (Array.getElem?_eq_some_iff.1 h).1
theorem Rd.set0 {w : World} {b : Nat} {e : Int} {s : ByteArray} (h : Rd w b e s) (e' : Int) : Rd (w.setCell ⟨b, 0, none⟩ (.int .i64 e')) b e' s := by
  have := heap_setCell_same w b 0 _ _ (.int .i64 e') h; simpa [Rd] using this
theorem Rd.set1 {w : World} {b : Nat} {e : Int} {s : ByteArray} (h : Rd w b e s) (s' : ByteArray) : Rd (w.setCell ⟨b, 1, none⟩ (.string s')) b e s' := by
  have := heap_setCell_same w b 1 _ _ (.string s') h; simpa [Rd] using this
/-- A reader elsewhere is as it was. -/
theorem Rd.kept {w w' : World} {b : Nat} {row : Option Nat} {e : Int} {s : ByteArray} (h : Rd w b e s) (hg : w.grownBy w' row) (hne : row ≠ some b) : Rd w' b e s := by
  unfold Rd; rw [hg.block b h.lt (fun e => hne e.symm)]; exact h
theorem Rd.below {w w' : World} {b B : Nat} {e : Int} {s : ByteArray} (h : Rd w b e s) (hg : Below B w w') (hb : b < B) : Rd w' b e s := by
  unfold Rd; rw [hg.block b hb]; exact h

theorem grown_setCell (w : World) (b j : Nat) (v : Value) : w.grownBy (w.setCell ⟨b, j, none⟩ v) (some b) :=
  ⟨rfl, rfl, rfl, by simp, fun k _ hk => heap_setCell_other w _ k v (fun e => hk (by simp [e]))⟩
theorem grown_trans {a b c : World} {row : Option Nat} (h : a.grownBy b row) (k : b.grownBy c row) : a.grownBy c row :=
  ⟨k.os.trans h.os, k.tape.trans h.tape, k.output.trans h.output, Nat.le_trans h.size k.size, fun i hi hr => (k.block i (Nat.lt_of_lt_of_le hi h.size) hr).trans (h.block i hi hr)⟩
theorem grown_any {a b : World} {row : Option Nat} (h : a.grownBy b none) : a.grownBy b row :=
  ⟨h.os, h.tape, h.output, h.size, fun i hi _ => h.block i hi (by simp)⟩
theorem grown_of_below {a b : World} {row : Option Nat} (h : Below a.heap.size a b) : a.grownBy b row :=
  ⟨h.os, h.tape, h.output, h.size, fun i hi _ => h.block i hi⟩

/-! ### fault and the small methods -/
theorem held_any (b : Nat) (e : Int) (s : ByteArray) (w : World) (h : Rd w b e s) :
    Calls Try.prog 36 #[.pointer (some ⟨b, 0, none⟩)] w fun r w' => r = .returned (.int .i64 e) ∧ w = w' := by
  have h0 := h.c0
  go_enter Try.func36, Try.ntmps36
  go_wp2
  go_ret
  exact ⟨rfl, rfl⟩

theorem err_nil (w : World) : Calls Try.prog 22 #[.pointer none] w fun r w' => r = .returned (.int .i64 1) ∧ w = w' := by
  go_enter Try.func22, Try.ntmps22
  go_wp2
  go_ret
  exact ⟨rfl, rfl⟩

theorem err_any (b : Nat) (e : Int) (s : ByteArray) (w : World) (h : Rd w b e s) :
    Calls Try.prog 22 #[.pointer (some ⟨b, 0, none⟩)] w fun r w' => r = .returned (.int .i64 e) ∧ w = w' := by
  have h0 := h.c0
  go_enter Try.func22, Try.ntmps22
  go_wp2
  go_ret
  exact ⟨rfl, rfl⟩

/-- fail: the first error stays. -/
def failE (e x : Int) : Int := if e = 0 then x else e

theorem fail_any (b : Nat) (e x : Int) (s : ByteArray) (w : World) (h : Rd w b e s) :
    Calls Try.prog 44 #[.pointer (some ⟨b, 0, none⟩), .int .i64 x] w fun r w' => r = .returned (.tuple #[]) ∧ Rd w' b (failE e x) s ∧ w.grownBy w' (some b) := by
  have h0 := h.c0
  have g0 := h.f0 0
  have hs := h.set0 x
  by_cases he : e = 0
  · subst he
    go_enter Try.func44, Try.ntmps44
    go_wp2
    go_end0
    exact ⟨rfl, hs, grown_setCell _ _ _ _⟩
  · have he' : (e == 0) = false := by simpa using he
    have hf : failE e x = e := by simp [failE, he]
    rw [hf]
    go_enter Try.func44, Try.ntmps44
    go_wp2
    go_end0
    exact ⟨rfl, h, World.grownBy.refl _ _⟩

theorem bad_nil (w : World) : Calls Try.prog 33 #[.pointer none] w fun r w' => r = .returned (.tuple #[]) ∧ w = w' := by
  go_enter Try.func33, Try.ntmps33
  go_wp2
  go_end0
  exact ⟨rfl, rfl⟩

theorem bad_any (b : Nat) (e : Int) (s : ByteArray) (w : World) (h : Rd w b e s) :
    Calls Try.prog 33 #[.pointer (some ⟨b, 0, none⟩)] w fun r w' => r = .returned (.tuple #[]) ∧ Rd w' b (failE e 4) s ∧ w.grownBy w' (some b) := by
  go_enter Try.func33, Try.ntmps33
  go_wp2_with (go_at_call 44; refine (fail_any b e 4 s _ h).mono ?_; rintro r w' ⟨rfl, h1, h2⟩)
  go_end0
  exact ⟨rfl, h1, h2⟩

theorem take_nil (n : Int) (w : World) : Calls Try.prog 42 #[.pointer none, .int .i64 n] w fun r w' => r = .returned (.string ⟨#[]⟩) ∧ w = w' := by
  go_enter Try.func42, Try.ntmps42
  go_wp2_with (go_at_call 22; refine (err_nil _).mono ?_; rintro r w' ⟨rfl, rfl⟩)
  go_ret
  exact ⟨rfl, rfl⟩

/-- take behind an error. -/
theorem take_err (b : Nat) (e n : Int) (s : ByteArray) (w : World) (h : Rd w b e s) (he : e ≠ 0) :
    Calls Try.prog 42 #[.pointer (some ⟨b, 0, none⟩), .int .i64 n] w fun r w' => r = .returned (.string ⟨#[]⟩) ∧ w = w' := by
  have he' : (e != 0) = true := by simpa using he
  go_enter Try.func42, Try.ntmps42
  go_wp2_with (go_at_call 22; refine (err_any b e s _ h).mono ?_; rintro r w' ⟨rfl, rfl⟩)
  go_ret
  exact ⟨rfl, rfl⟩

/-- take: too few are left. -/
theorem take_short (b : Nat) (n : Int) (s : ByteArray) (w : World) (h : Rd w b 0 s) (hn : (s.size : Int) < n) :
    Calls Try.prog 42 #[.pointer (some ⟨b, 0, none⟩), .int .i64 n] w fun r w' => r = .returned (.string ⟨#[]⟩) ∧ Rd w' b 3 s ∧ w.grownBy w' (some b) := by
  have h1 := h.c1
  go_enter Try.func42, Try.ntmps42
  go_wp2_with (first | (go_at_call 22; refine (err_any b 0 s _ h).mono ?_; rintro r w' ⟨rfl, rfl⟩) | (go_at_call 44; refine (fail_any b 0 3 s _ h).mono ?_; rintro r w' ⟨rfl, h1, h2⟩))
  go_ret
  exact ⟨rfl, h1, h2⟩

/-- take: enough are left. -/
theorem take_ok (b : Nat) (n : Nat) (s : ByteArray) (w : World) (h : Rd w b 0 s) (hn : n ≤ s.size) (h63 : s.size ≤ 9223372036854775807) :
    Calls Try.prog 42 #[.pointer (some ⟨b, 0, none⟩), .int .i64 n] w fun r w' => r = .returned (.string (s.extract 0 n)) ∧ Rd w' b 0 (s.extract n s.size) ∧ w.grownBy w' (some b) := by
  have h1 := h.c1
  have g1 := h.f0 1
  have hset := h.set1 (s.extract n s.size)
  go_enter Try.func42, Try.ntmps42
  go_wp2_with (go_at_call 22; refine (err_any b 0 s _ h).mono ?_; rintro r w' ⟨rfl, rfl⟩)
  go_ret
  exact ⟨rfl, hset, grown_setCell _ _ _ _⟩

end Go.Proofs.Ytafhljmeofnbnaa
