/-
  Ballots, plainly: which may be, their order, the greatest one, a node's turn.
-/
import Derived.Test.YtafhljmeofnbnaaPureB
namespace Go.Proofs.Ytafhljmeofnbnaa
set_option linter.unusedVariables false

/-- A ballot: its number, its node. -/
abbrev Bal := Nat × Nat
def okBal (b : Bal) : Prop := b.1 < 18446744073709551616 ∧ b.2 < 256
instance (b : Bal) : Decidable (okBal b) := by unfold okBal; infer_instance
def mayL (b : Bal) : Bool := decide (b.1 = 0 ∧ b.2 = 0 ∨ 0 < b.1 ∧ b.2 ≤ 6)
def belowL (a b : Bal) : Bool := decide (a.1 < b.1 ∨ a.1 = b.1 ∧ a.2 < b.2)
def topGo (t : Bal) (l : List Bal) : Bal := l.foldl (fun t b => if belowL t b = true then b else t) t
def topL (l : List Bal) : Bal := topGo (0, 0) l
def turnL (b : Bal) (r : Nat) : Bal × Int :=
  if mayL b = false ∨ 6 < r then ((0, 0), 2) else if 0 < b.1 ∧ b.2 < r then ((b.1, r), 0) else if b.1 = 18446744073709551615 then ((0, 0), 7) else ((b.1 + 1, r), 0)

theorem below_iff {a b : Bal} : belowL a b = true ↔ a.1 < b.1 ∨ a.1 = b.1 ∧ a.2 < b.2 := by unfold belowL; exact decide_eq_true_iff
theorem below_not {a b : Bal} : belowL a b = false ↔ ¬ (a.1 < b.1 ∨ a.1 = b.1 ∧ a.2 < b.2) := by unfold belowL; exact decide_eq_false_iff_not
theorem may_iff {b : Bal} : mayL b = true ↔ b.1 = 0 ∧ b.2 = 0 ∨ 0 < b.1 ∧ b.2 ≤ 6 := by unfold mayL; exact decide_eq_true_iff
theorem bal_ext {a b : Bal} : a = b ↔ a.1 = b.1 ∧ a.2 = b.2 := Prod.ext_iff
/-- One order. -/
theorem below_one (a b : Bal) : (belowL a b = true ∧ belowL b a = true → False) ∧ ((belowL a b = true ∨ belowL b a = true) ↔ a ≠ b) := by
  rw [below_iff, below_iff, ne_eq, bal_ext]
  omega
theorem below_trans {a b c : Bal} (h : belowL a b = true) (k : belowL b c = true) : belowL a c = true := by
  rw [below_iff] at *
  omega
theorem below_refl (a : Bal) : belowL a a = false := by rw [below_not]; omega
theorem top_snoc (l : List Bal) (b : Bal) : topL (l ++ [b]) = if belowL (topL l) b = true then b else topL l := by
  unfold topL topGo
  rw [List.foldl_append]
  rfl
/-- The greatest one is below none, and one of them. -/
theorem top_go : ∀ (l : List Bal) (t : Bal), (∀ b ∈ l, belowL (topGo t l) b = false) ∧ belowL (topGo t l) t = false ∧ (topGo t l = t ∨ topGo t l ∈ l)
  | [], t => ⟨fun b hb => by simp at hb, below_refl t, .inl rfl⟩
  | b :: r, t => by
    have e : topGo t (b :: r) = topGo (if belowL t b = true then b else t) r := rfl
    rw [e]
    by_cases h : belowL t b = true
    · rw [if_pos h]
      obtain ⟨h1, h2, h3⟩ := top_go r b
      refine ⟨fun x hx => ?_, ?_, .inr ?_⟩
      · rcases List.mem_cons.1 hx with rfl | hx'
        · exact h2
        · exact h1 x hx'
      · generalize topGo b r = m at *
        rw [below_iff] at h
        rw [below_not] at *
        omega
      · rcases h3 with h3 | h3
        · rw [h3]; exact List.mem_cons_self
        · exact List.mem_cons_of_mem _ h3
    · rw [if_neg h]
      obtain ⟨h1, h2, h3⟩ := top_go r t
      refine ⟨fun x hx => ?_, h2, h3.imp id (fun h => List.mem_cons_of_mem _ h)⟩
      rcases List.mem_cons.1 hx with rfl | hx'
      · generalize topGo t r = m at *
        have h' : belowL t x = false := by simpa using h
        rw [below_not] at *
        omega
      · exact h1 x hx'
theorem top_max {l : List Bal} : ∀ b ∈ l, belowL (topL l) b = false := (top_go l (0, 0)).1
theorem top_in {l : List Bal} (h : l ≠ []) : topL l ∈ l := by
  obtain ⟨h1, h2, h3⟩ := top_go l (0, 0)
  rcases h3 with h3 | h3
  · cases l with
    | nil => exact absurd rfl h
    | cons b r =>
      have h4 := h1 b (by simp)
      rw [h3, below_not] at h4
      have : b = (0, 0) := by rw [bal_ext]; simp only at *; omega
      unfold topL
      rw [h3, ← this]
      exact List.mem_cons_self
  · exact h3
/-- Whoever is one of them and below none is the greatest one. -/
theorem top_only {l : List Bal} {m : Bal} (hm : m ∈ l) (h : ∀ b ∈ l, belowL m b = false) : m = topL l := by
  have h1 := top_max m hm
  have h2 := h _ (top_in (l := l) (fun e => by rw [e] at hm; cases hm))
  rw [below_not] at h1 h2
  rw [bal_ext]
  omega
theorem turn_spec {b : Bal} {r : Nat} (hb : okBal b) {x : Bal} (h : turnL b r = (x, 0)) : x.2 = r ∧ belowL b x = true ∧ mayL x = true ∧ okBal x ∧ r ≤ 6 ∧ ∀ y : Bal, y.2 = r → mayL y = true → belowL b y = true → belowL y x = false := by
  unfold turnL at h
  split at h
  · simp at h
  · rename_i h1
    have hr : r ≤ 6 := by omega
    split at h
    · rename_i h2
      simp only [Prod.mk.injEq, and_true] at h
      subst h
      refine ⟨rfl, below_iff.2 (.inr ⟨rfl, h2.2⟩), may_iff.2 (.inr ⟨h2.1, hr⟩), ⟨hb.1, by simp only; omega⟩, hr, fun y hy hm hl => ?_⟩
      rw [below_iff] at hl
      rw [below_not]
      simp only
      omega
    · rename_i h2
      split at h
      · simp at h
      · rename_i h3
        simp only [Prod.mk.injEq, and_true] at h
        subst h
        have := hb.1
        have hmb : mayL b = true := by cases hm : mayL b with
          | true => rfl
          | false => exact absurd (.inl hm) h1
        rw [may_iff] at hmb
        refine ⟨rfl, below_iff.2 (by simp only; omega), may_iff.2 (by simp only; omega), ⟨by simp only; omega, by simp only; omega⟩, hr, fun y hy hm hl => ?_⟩
        rw [below_iff] at hl
        rw [may_iff] at hm
        rw [below_not]
        simp only
        omega
theorem turn_bad {b : Bal} {r : Nat} {x : Bal} {e : Int} (h : turnL b r = (x, e)) (he : e ≠ 0) : x = (0, 0) ∧ (e = 2 ∧ (mayL b = false ∨ 6 < r) ∨ e = 7 ∧ b.1 = 18446744073709551615) := by
  unfold turnL at h
  split at h
  · rename_i h1
    simp only [Prod.mk.injEq] at h
    exact ⟨h.1.symm, .inl ⟨h.2.symm, h1⟩⟩
  · split at h
    · simp only [Prod.mk.injEq] at h; exact absurd h.2.symm he
    · split at h
      · rename_i h3
        simp only [Prod.mk.injEq] at h
        exact ⟨h.1.symm, .inr ⟨h.2.symm, h3⟩⟩
      · simp only [Prod.mk.injEq] at h; exact absurd h.2.symm he

end Go.Proofs.Ytafhljmeofnbnaa
