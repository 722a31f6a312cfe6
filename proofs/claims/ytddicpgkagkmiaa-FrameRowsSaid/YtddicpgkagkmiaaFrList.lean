/-
  Plain facts of layer 3 (no Go in it): frames in a row, as they are told one by one, and all at once.
-/
import Derived.Test.YtddicpgkagkmiaaFrPure
namespace Go.Proofs.Ytddicpgkagkmiaa
set_option linter.unusedVariables false

abbrev Found := Nat × (List UInt8 × Nat × Int)

def okL (xs : List Found) : Prop := ∀ x ∈ xs, x.2.2.2 = 0
def insides (xs : List Found) : List (List UInt8) := xs.map (·.2.1)
def endOf : Nat → List Found → Nat
  | a, [] => a
  | _, x :: t => endOf (x.1 + x.2.2.1) t
def told (x : Found) : Nat × List UInt8 := (x.1, x.2.1)

theorem okL_nil : okL [] := by intro x h; cases h
theorem okL_snoc {xs : List Found} {x : Found} (h : okL xs) (hx : x.2.2.2 = 0) : okL (xs ++ [x]) := by
  intro y hy
  rcases List.mem_append.1 hy with h1 | h1
  · exact h y h1
  · simp at h1; subst h1; exact hx
theorem insides_snoc (xs : List Found) (x : Found) : insides (xs ++ [x]) = insides xs ++ [x.2.1] := by simp [insides]
theorem insides_length (xs : List Found) : (insides xs).length = xs.length := by simp [insides]
theorem endOf_snoc : ∀ (xs : List Found) (a : Nat) (x : Found), endOf a (xs ++ [x]) = x.1 + x.2.2.1
  | [], _, _ => rfl
  | y :: t, a, x => by rw [List.cons_append, endOf, endOf_snoc t]

/-- What all that is told comes to. -/
def summed : Nat → List Found → List (List UInt8) × Nat × Int
  | a, [] => ([], a, 0)
  | _, x :: t => if x.2.2.2 = 0 then (x.2.1 :: (summed (x.1 + x.2.2.1) t).1, (summed (x.1 + x.2.2.1) t).2) else ([], x.1, x.2.2.2)

theorem split_found (l : List UInt8) : ∀ (m a : Nat), l.length - a ≤ m → splitL l a = summed a (foundL l a) := by
  intro m
  induction m with
  | zero => intro a h; rw [splitL_end (by omega), foundL_end (by omega), summed]
  | succ m ih =>
    intro a h
    by_cases ha : l.length ≤ a
    · rw [splitL_end ha, foundL_end ha, summed]
    · by_cases h0 : (takeL (l.drop a)).2.2 = 0
      · have hp := takeL_pos h0
        rw [splitL_go (by omega) h0, foundL_go (by omega) h0, summed, if_pos h0, ih _ (by simp at hp; omega)]
      · rw [splitL_stop (by omega) h0, foundL_stop (by omega) h0, summed, if_neg h0]

theorem summed_append : ∀ (xs ys : List Found) (a : Nat), okL xs → summed a (xs ++ ys) = (insides xs ++ (summed (endOf a xs) ys).1, (summed (endOf a xs) ys).2)
  | [], _, _, _ => rfl
  | x :: t, ys, a, h => by
    rw [List.cons_append, summed, if_pos (h x (by simp)), summed_append t ys _ (fun y hy => h y (by simp [hy]))]
    rfl

theorem found_length (l : List UInt8) : ∀ (m a : Nat), l.length - a ≤ m → (foundL l a).length ≤ l.length - a := by
  intro m
  induction m with
  | zero => intro a h; rw [foundL_end (by omega)]; simp
  | succ m ih =>
    intro a h
    by_cases ha : l.length ≤ a
    · rw [foundL_end ha]; simp
    · by_cases h0 : (takeL (l.drop a)).2.2 = 0
      · have hp := takeL_pos h0
        rw [foundL_go (by omega) h0, List.length_cons]
        simp at hp
        have := ih (a + (takeL (l.drop a)).2.1) (by omega)
        omega
      · rw [foundL_stop (by omega) h0]; simp; omega

theorem found_le (l : List UInt8) : ∀ (m a : Nat), l.length - a ≤ m → ∀ x ∈ foundL l a, x.1 + x.2.2.1 ≤ l.length := by
  intro m
  induction m with
  | zero => intro a h x hx; rw [foundL_end (by omega)] at hx; cases hx
  | succ m ih =>
    intro a h x hx
    by_cases ha : l.length ≤ a
    · rw [foundL_end ha] at hx; cases hx
    · by_cases h0 : (takeL (l.drop a)).2.2 = 0
      · have hp := takeL_pos h0
        simp at hp
        rw [foundL_go (by omega) h0] at hx
        rcases List.mem_cons.1 hx with rfl | hx
        · simp only; omega
        · exact ih _ (by omega) x hx
      · rw [foundL_stop (by omega) h0] at hx
        simp at hx
        subst hx
        have := takeL_bad h0
        rw [this]
        simp only
        omega

/-- One that is none is the last one. -/
theorem none_last (l : List UInt8) : ∀ (m a : Nat) (pre : List Found) (x : Found), l.length - a ≤ m → pre ++ [x] <+: foundL l a → x.2.2.2 ≠ 0 → foundL l a = pre ++ [x] := by
  intro m
  induction m with
  | zero =>
    intro a pre x h hp hx
    rw [foundL_end (by omega)] at hp
    have := hp.length_le
    simp at this
  | succ m ih =>
    intro a pre x h hp hx
    by_cases ha : l.length ≤ a
    · rw [foundL_end ha] at hp
      have := hp.length_le
      simp at this
    · by_cases h0 : (takeL (l.drop a)).2.2 = 0
      · have hpo := takeL_pos h0
        rw [foundL_go (by omega) h0] at hp ⊢
        cases pre with
        | nil =>
          obtain ⟨t, ht⟩ := hp
          simp at ht
          rw [ht.1] at hx
          exact absurd h0 hx
        | cons y t =>
          rw [List.cons_append, List.cons_prefix_cons] at hp
          obtain ⟨rfl, hp⟩ := hp
          rw [List.cons_append, ← ih _ t x (by simp at hpo; omega) hp hx]
      · rw [foundL_stop (by omega) h0] at hp ⊢
        have hl := hp.length_le
        simp at hl
        subst hl
        obtain ⟨t, ht⟩ := hp
        simp at ht
        simp [ht]

/-- Each one begins where those ahead of it end. -/
theorem found_at (l : List UInt8) : ∀ (m a : Nat) (pre : List Found) (x : Found), l.length - a ≤ m → pre ++ [x] <+: foundL l a → x.1 = endOf a pre := by
  intro m
  induction m with
  | zero =>
    intro a pre x h hp
    rw [foundL_end (by omega)] at hp
    have := hp.length_le
    simp at this
  | succ m ih =>
    intro a pre x h hp
    by_cases ha : l.length ≤ a
    · rw [foundL_end ha] at hp
      have := hp.length_le
      simp at this
    · by_cases h0 : (takeL (l.drop a)).2.2 = 0
      · have hpo := takeL_pos h0
        rw [foundL_go (by omega) h0] at hp
        cases pre with
        | nil =>
          obtain ⟨t, ht⟩ := hp
          simp at ht
          rw [ht.1]; rfl
        | cons y t =>
          rw [List.cons_append, List.cons_prefix_cons] at hp
          obtain ⟨rfl, hp⟩ := hp
          exact ih (a + (takeL (l.drop a)).2.1) t x (by simp at hpo; omega) hp
      · rw [foundL_stop (by omega) h0] at hp
        have hl := hp.length_le
        simp at hl
        subst hl
        obtain ⟨t, ht⟩ := hp
        simp at ht
        rw [ht.1]; rfl

/-- What Walk tells. -/
def walkF (x : Found) : Option (Nat × List UInt8) := if x.2.2.2 = 0 then some (told x) else none
def walkL (l : List UInt8) (a : Nat) : List (Nat × List UInt8) := (foundL l a).filterMap walkF

theorem walk_ok {xs : List Found} (h : okL xs) : xs.filterMap walkF = xs.map told := by
  induction xs with
  | nil => rfl
  | cons x t ih =>
    have hx : walkF x = some (told x) := by unfold walkF; rw [if_pos (h x (by simp))]
    rw [List.filterMap_cons, hx, List.map_cons, ih (fun y hy => h y (by simp [hy]))]

theorem walk_stop {xs : List Found} {x : Found} (h : okL xs) (hx : x.2.2.2 ≠ 0) : (xs ++ [x]).filterMap walkF = xs.map told := by
  have hx' : walkF x = none := by unfold walkF; rw [if_neg hx]
  rw [List.filterMap_append, walk_ok h, List.filterMap_cons, hx']
  simp

/-- Each begins where the one ahead of it ends. -/
def chain : Nat → List (Nat × List UInt8) → Prop
  | _, [] => True
  | a, y :: t => y.1 = a ∧ 1 ≤ y.2.length ∧ chain (a + (frameL y.2).length) t

theorem walk_split (l : List UInt8) : ∀ (m a : Nat), l.length - a ≤ m → chain a (walkL l a) ∧ (walkL l a).map (·.2) = (splitL l a).1 := by
  intro m
  induction m with
  | zero => intro a h; unfold walkL; rw [foundL_end (by omega), splitL_end (by omega)]; exact ⟨trivial, rfl⟩
  | succ m ih =>
    intro a h
    by_cases ha : l.length ≤ a
    · unfold walkL; rw [foundL_end ha, splitL_end ha]; exact ⟨trivial, rfl⟩
    · by_cases h0 : (takeL (l.drop a)).2.2 = 0
      · have hpo := takeL_pos h0
        obtain ⟨s1, s2, s3, s4⟩ := takeL_stands (s := l.drop a) (inside := (takeL (l.drop a)).1) (n := (takeL (l.drop a)).2.1) (by rw [← h0])
        obtain ⟨i1, i2⟩ := ih (a + (takeL (l.drop a)).2.1) (by simp at hpo; omega)
        have hw : walkL l a = (a, (takeL (l.drop a)).1) :: walkL l (a + (takeL (l.drop a)).2.1) := by
          unfold walkL
          rw [foundL_go (by omega) h0, List.filterMap_cons]
          have : walkF (a, takeL (l.drop a)) = some (a, (takeL (l.drop a)).1) := by unfold walkF; rw [if_pos h0]; rfl
          rw [this]
        rw [hw, splitL_go (by omega) h0]
        refine ⟨⟨rfl, s1, ?_⟩, ?_⟩
        · simp only; rw [← s3]; exact i1
        · rw [List.map_cons, i2]
      · have hw : walkL l a = [] := by
          unfold walkL
          rw [foundL_stop (by omega) h0, List.filterMap_cons]
          have : walkF (a, takeL (l.drop a)) = none := by unfold walkF; rw [if_neg h0]
          rw [this]; rfl
        rw [hw, splitL_stop (by omega) h0]
        exact ⟨trivial, rfl⟩

/-- Where the frames end. -/
def sizes : List (List UInt8) → Nat
  | [] => 0
  | x :: t => (frameL x).length + sizes t

theorem split_end (l : List UInt8) : ∀ (m a : Nat), l.length - a ≤ m → (splitL l a).2.1 = a + sizes (splitL l a).1 := by
  intro m
  induction m with
  | zero => intro a h; rw [splitL_end (by omega)]; rfl
  | succ m ih =>
    intro a h
    by_cases ha : l.length ≤ a
    · rw [splitL_end ha]; rfl
    · by_cases h0 : (takeL (l.drop a)).2.2 = 0
      · have hpo := takeL_pos h0
        obtain ⟨s1, s2, s3, s4⟩ := takeL_stands (s := l.drop a) (inside := (takeL (l.drop a)).1) (n := (takeL (l.drop a)).2.1) (by rw [← h0])
        rw [splitL_go (by omega) h0]
        simp only [sizes]
        rw [ih _ (by simp at hpo; omega), s3]; omega
      · rw [splitL_stop (by omega) h0]; rfl

end Go.Proofs.Ytddicpgkagkmiaa
