/-
  Plain facts of layer 3 (no Go in it): what Walk tells next, and what Split has told of it.
-/
import Derived.Test.YtddicpgkagkmiaaFrList
namespace Go.Proofs.Ytddicpgkagkmiaa
set_option linter.unusedVariables false

theorem sizes_append : ∀ (xs ys : List (List UInt8)), sizes (xs ++ ys) = sizes xs + sizes ys
  | [], ys => by simp [sizes]
  | x :: t, ys => by rw [List.cons_append, sizes, sizes_append t, sizes]; omega
theorem sizes_snoc (xs : List (List UInt8)) (y : List UInt8) : sizes (xs ++ [y]) = sizes xs + (frameL y).length := by rw [sizes_append]; simp [sizes]

theorem split_le (l : List UInt8) : ∀ (m a : Nat), l.length - a ≤ m → a ≤ l.length → (splitL l a).2.1 ≤ l.length := by
  intro m
  induction m with
  | zero => intro a h ha; rw [splitL_end (by omega)]; exact ha
  | succ m ih =>
    intro a h ha
    by_cases he : l.length ≤ a
    · rw [splitL_end he]; exact ha
    · by_cases h0 : (takeL (l.drop a)).2.2 = 0
      · have hpo := takeL_pos h0
        simp at hpo
        rw [splitL_go (by omega) h0]
        exact ih _ (by omega) (by omega)
      · rw [splitL_stop (by omega) h0]; exact ha

theorem chain_at : ∀ (L : List (Nat × List UInt8)) (a : Nat) (pre : List (Nat × List UInt8)) (x : Nat × List UInt8), chain a L → pre ++ [x] <+: L →
    x.1 = a + sizes (pre.map (·.2)) ∧ 1 ≤ x.2.length
  | [], a, pre, x, _, hp => by have := hp.length_le; simp at this
  | y :: t, a, [], x, hc, hp => by
    obtain ⟨u, hu⟩ := hp
    simp at hu
    obtain ⟨rfl, _⟩ := hu
    exact ⟨by rw [hc.1]; simp [sizes], hc.2.1⟩
  | y :: t, a, z :: pre, x, hc, hp => by
    rw [List.cons_append, List.cons_prefix_cons] at hp
    obtain ⟨rfl, hp⟩ := hp
    obtain ⟨h1, h2⟩ := chain_at t _ pre x hc.2.2 hp
    refine ⟨?_, h2⟩
    rw [h1, List.map_cons, sizes]; omega

/-- What Walk tells next, and what Split has told of it. -/
theorem walk_next (l : List UInt8) (pre : List (Nat × List UInt8)) (x : Nat × List UInt8) (hp : pre ++ [x] <+: walkL l 0) :
    ∃ h : pre.length < (splitL l 0).1.length, (splitL l 0).1[pre.length] = x.2 ∧ x.1 = sizes (pre.map (·.2)) ∧ sizes (pre.map (·.2)) + (frameL x.2).length ≤ (splitL l 0).2.1 ∧ (splitL l 0).2.1 ≤ l.length := by
  obtain ⟨hc, hm⟩ := walk_split l l.length 0 (by omega)
  have he := split_end l l.length 0 (by omega)
  obtain ⟨t, ht⟩ := hp
  have hm' : (splitL l 0).1 = pre.map (·.2) ++ (x.2 :: t.map (·.2)) := by rw [← hm, ← ht]; simp
  have hx := chain_at _ 0 pre x hc ⟨t, ht⟩
  refine ⟨by rw [hm']; simp, ?_, by omega, ?_, split_le l l.length 0 (by omega) (by omega)⟩
  · simp only [hm']
    rw [List.getElem_append_right (by simp)]
    simp
  · rw [he, hm', sizes_append, sizes]; omega

theorem walk_all (l : List UInt8) : (walkL l 0).length = (splitL l 0).1.length := by
  obtain ⟨_, hm⟩ := walk_split l l.length 0 (by omega)
  rw [← hm]; simp

theorem frame_len (x : List UInt8) : x.length + 9 ≤ (frameL x).length := by
  rw [frameL_length, enc_length]; omega

end Go.Proofs.Ytddicpgkagkmiaa
