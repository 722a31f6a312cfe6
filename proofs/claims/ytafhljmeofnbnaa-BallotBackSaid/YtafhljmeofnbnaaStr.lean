/-
  The Reader's Below, Str, Left, End, and Of, strings.Clone over this translation.
-/
import Derived.Test.YtafhljmeofnbnaaNum
import Derived.Lib.UnsafeStr
import Derived.Lib.BufferWrite
import Derived.Laws.MakeOwn
namespace Go.Proofs.Ytafhljmeofnbnaa
open Go.RowKit
set_option linter.unusedVariables false

theorem bad_st (b : Nat) (s : St) (w : World) (h : RS w b s) :
    Calls Try.prog 33 #[.pointer (some ⟨b, 0, none⟩)] w fun r w' => r = .returned (.tuple #[]) ∧ RS w' b (s.fail 4) ∧ w.grownBy w' (some b) := by
  refine (bad_any b s.e _ w h).mono ?_
  rintro r w' ⟨h1, h2, h3⟩
  refine ⟨h1, ?_, h3⟩
  unfold St.fail
  by_cases he : s.e = 0
  · simpa [RS, failE, he] using h2
  · simpa [RS, failE, he] using h2

theorem err_st (b : Nat) (s : St) (w : World) (h : RS w b s) :
    Calls Try.prog 22 #[.pointer (some ⟨b, 0, none⟩)] w fun r w' => r = .returned (.int .i64 s.e) ∧ w = w' := err_any b s.e _ w h

theorem left_nil (w : World) : Calls Try.prog 23 #[.pointer none] w fun r w' => r = .returned (.int .i64 0) ∧ w = w' := by
  go_enter Try.func23, Try.ntmps23
  go_wp2_with (go_at_call 22; refine (err_nil _).mono ?_; rintro r w' ⟨rfl, rfl⟩)
  go_ret
  exact ⟨rfl, rfl⟩

theorem left_st (b : Nat) (s : St) (w : World) (h : RS w b s) :
    Calls Try.prog 23 #[.pointer (some ⟨b, 0, none⟩)] w fun r w' => r = .returned (.int .i64 s.left) ∧ w = w' := by
  obtain ⟨e, l⟩ := s
  have h1 := Rd.c1 h
  by_cases he : e = 0
  · subst he
    have e1 : St.left ⟨0, l⟩ = l.length := rfl
    rw [e1]
    go_enter Try.func23, Try.ntmps23
    go_wp2_with (go_at_call 22; refine (err_st b _ _ h).mono ?_; rintro r w' ⟨rfl, rfl⟩)
    go_ret
    exact ⟨rfl, rfl⟩
  · have e1 : St.left ⟨e, l⟩ = 0 := by simp [St.left, he]
    have he' : (e != 0) = true := by simpa using he
    rw [e1]
    go_enter Try.func23, Try.ntmps23
    go_wp2_with (go_at_call 22; refine (err_st b _ _ h).mono ?_; rintro r w' ⟨rfl, rfl⟩)
    go_ret
    exact ⟨rfl, rfl⟩

theorem end_nil (w : World) : Calls Try.prog 25 #[.pointer none] w fun r w' => r = .returned (.int .i64 1) ∧ w = w' := by
  go_enter Try.func25, Try.ntmps25
  go_wp2_with (first | (go_at_call 23; refine (left_nil _).mono ?_; rintro r w' ⟨rfl, rfl⟩) | (go_at_call 22; refine (err_nil _).mono ?_; rintro r w' ⟨rfl, rfl⟩))
  go_ret
  exact ⟨rfl, rfl⟩

theorem end_st (b : Nat) (s : St) (w : World) (h : RS w b s) :
    Calls Try.prog 25 #[.pointer (some ⟨b, 0, none⟩)] w fun r w' => r = .returned (.int .i64 s.fin.e) ∧ RS w' b s.fin ∧ w.grownBy w' (some b) := by
  by_cases hl : 0 < s.left
  · have e1 : s.fin = s.fail 4 := by simp [St.fin, hl]
    rw [e1]
    have hl' : (0 : Int) < (s.left : Int) := by omega
    go_enter Try.func25, Try.ntmps25
    go_wp2_with (first | (go_at_call 23; refine (left_st b s _ h).mono ?_; rintro r w' ⟨rfl, rfl⟩) | (go_at_call 33; refine (bad_st b s _ h).mono ?_; rintro r w2 ⟨rfl, h1, h2⟩) | (go_at_call 22; refine (err_st b _ _ h1).mono ?_; rintro r w3 ⟨rfl, rfl⟩))
    go_ret
    exact ⟨rfl, h1, h2⟩
  · have e1 : s.fin = s := by simp [St.fin, hl]
    rw [e1]
    have hl' : ¬ (0 : Int) < (s.left : Int) := by omega
    go_enter Try.func25, Try.ntmps25
    go_wp2_with (first | (go_at_call 23; refine (left_st b s _ h).mono ?_; rintro r w' ⟨rfl, rfl⟩) | (go_at_call 22; refine (err_st b _ _ h).mono ?_; rintro r w3 ⟨rfl, rfl⟩))
    go_ret
    exact ⟨rfl, h, World.grownBy.refl _ _⟩

/-- Of: a reader at a new block. -/
theorem of_any (l : List UInt8) (w : World) :
    Calls Try.prog 19 #[.string (B l)] w fun r w' => r = .returned (.pointer (some ⟨w.heap.size, 0, none⟩)) ∧ RS w' w.heap.size ⟨0, l⟩ ∧ Below w.heap.size w w' := by
  go_enter Try.func19, Try.ntmps19
  go_wp2
  go_ret
  exact ⟨rfl, heap_alloc_new w _, (Below.refl _ _).alloc (Nat.le_refl _) _⟩

theorem info_u8 : (Try.prog.info? 5).map (fun i => (i.zero, i.size, i.bytes)) = some (some (.int .u8 0), 1, 1) := by kernel_rfl

/-- Behind the length. -/
theorem str_rest (b x : Nat) (s1 : St) (w : World) (h : RS w b s1) (h63 : s1.l.length ≤ 281474976710656) (out : List UInt8) (s2 : St)
    (hout : (out, s2) = (if s1.e = 0 then (if s1.l.length < x then ([], ⟨3, s1.l⟩) else (s1.l.take x, ⟨0, s1.l.drop x⟩)) else ([], s1))) :
    Calls Try.prog 42 #[.pointer (some ⟨b, 0, none⟩), .int .i64 x] w fun r w' => r = .returned (.string (B out)) ∧ RS w' b s2 ∧ w.grownBy w' (some b) := by
  obtain ⟨e, l⟩ := s1
  by_cases he : e = 0
  · subst he
    by_cases hl : l.length < x
    · rw [if_pos rfl, if_pos hl] at hout
      obtain ⟨rfl, rfl⟩ := Prod.mk.inj hout
      exact take_short b x (B l) w h (by rw [B_size]; omega)
    · rw [if_pos rfl, if_neg hl] at hout
      obtain ⟨rfl, rfl⟩ := Prod.mk.inj hout
      have := take_ok b x (B l) w h (by rw [B_size]; omega) (by rw [B_size]; simp only at h63; omega)
      rw [B_take, B_drop] at this
      exact this
  · rw [if_neg he] at hout
    obtain ⟨rfl, rfl⟩ := Prod.mk.inj hout
    refine (take_err b e x _ w h he).mono ?_
    rintro r w' ⟨rfl, rfl⟩
    exact ⟨rfl, h, World.grownBy.refl _ _⟩

end Go.Proofs.Ytafhljmeofnbnaa
