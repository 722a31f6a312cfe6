/-
  The document's own reader (package palaverref01) over this translation: it answers what the plain reader answers.
-/
import Derived.Test.YtafhljmeofnbnaaRefNum
import Derived.RegionTactic
import Derived.ChangeAlike
import Derived.Deep.QuietTactic
import Derived.BigQuiet
namespace Go.Proofs.Ytafhljmeofnbnaa
open Go.RowKit
set_option linter.unusedVariables false

/-- The document's reader's value for what the plain reader holds. -/
def refV (s : St) : Value := .agg #[.string (B (if s.e = 0 then s.l else [])), .int .i64 s.e]
theorem refV_ok (l : List UInt8) : refV ⟨0, l⟩ = .agg #[.string (B l), .int .i64 0] := rfl
theorem refV_err (e : Int) (l : List UInt8) (h : e ≠ 0) : refV ⟨e, l⟩ = .agg #[.string ⟨#[]⟩, .int .i64 e] := by simp [refV, h]

theorem none_any (e : Int) (w : World) : Calls Try.prog 45 #[.int .i64 e] w fun r w' => r = .returned (.agg #[.string ⟨#[]⟩, .int .i64 e]) ∧ w.alloc (.cells #[.string ⟨#[]⟩, .int .i64 e] 43) = w' := by
  go_enter Try.func45, Try.ntmps45
  go_wp2
  exact bodyPost_ret (v := .agg #[.string ⟨#[]⟩, .int .i64 e]) (by simp [results, Try.results45, go_sem]) rfl ⟨rfl, rfl⟩

theorem below_steps : True := trivial

theorem B_tail (c : UInt8) (t : List UInt8) : (B (c :: t)).extract 1 (t.length + 1) = B t := by
  rw [B_extract]; simp

theorem refByte_any (s : St) (w : World) (h63 : (s.l.length : Int) ≤ 9223372036854775807) :
    Calls Try.prog 35 #[refV s] w fun r w' => r = .returned (.tuple #[.int .u8 s.byte.1.toNat, refV s.byte.2]) ∧ Below w.heap.size w w' := by
  obtain ⟨e, l⟩ := s
  by_cases he : e = 0
  · subst he
    cases l with
    | nil =>
      have e1 : St.byte ⟨0, []⟩ = (0, ⟨3, []⟩) := rfl
      have e2 : refV (⟨3, []⟩ : St) = .agg #[.string ⟨#[]⟩, .int .i64 3] := rfl
      have e3 : refV (⟨0, []⟩ : St) = .agg #[.string ⟨#[]⟩, .int .i64 0] := rfl
      rw [e1, e2, e3]
      go_enter Try.func35, Try.ntmps35
      go_wp2_with (go_at_call 45; refine (none_any _ _).mono ?_; rintro r w1 ⟨rfl, rfl⟩)
      refine bodyPost_ret (v := .tuple #[.int .u8 0, .agg #[.string ⟨#[]⟩, .int .i64 3]]) (by simp [results, Try.results35, go_sem]) rfl ⟨rfl, ?_⟩
      exact (((Below.refl _ _).alloc (by simp) _).alloc (by simp) _).alloc (by simp; omega) _
    | cons c t =>
      have e1 : St.byte ⟨0, c :: t⟩ = (c, ⟨0, t⟩) := rfl
      rw [e1, refV_ok, refV_ok]
      have hx := B_tail c t
      have hx0 : ∀ h, (B (c :: t))[0]'h = c := fun _ => rfl
      have hne : ((t.length : Int) + 1 == 0) = false := by simp; omega
      have hle : (t.length : Int) + 1 ≤ 9223372036854775807 := by simp only [List.length_cons] at h63; omega
      clear e1 h63
      go_enter Try.func35, Try.ntmps35
      go_wp2
      go_region
      all_goals go_wp2
      all_goals
        refine bodyPost_ret (v := .tuple #[.int .u8 c.toNat, .agg #[.string (B t), .int .i64 0]]) (by simp [results, Try.results35, go_sem]) rfl ⟨rfl, ?_⟩
        exact (((Below.refl _ _).alloc (by simp) _).alloc (by simp) _).drew
  · have e1 : St.byte ⟨e, l⟩ = (0, ⟨e, l⟩) := by simp [St.byte, he]
    rw [e1, refV_err e l he]
    have he' : (e != 0) = true := by simpa using he
    go_enter Try.func35, Try.ntmps35
    go_wp2
    go_region
    all_goals go_wp2
    all_goals
      refine bodyPost_ret (v := .tuple #[.int .u8 0, .agg #[.string ⟨#[]⟩, .int .i64 e]]) (by simp [results, Try.results35, go_sem]) rfl ⟨rfl, ?_⟩
      exact (((Below.refl _ _).alloc (by simp) _).alloc (by simp) _).drew

end Go.Proofs.Ytafhljmeofnbnaa
