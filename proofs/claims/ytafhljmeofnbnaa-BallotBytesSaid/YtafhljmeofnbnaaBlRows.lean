/-
  Rows of ballots that a call has made itself: what they hold, one more, and that rows of other types stay.
-/
import Derived.Test.YtafhljmeofnbnaaBlSpec
import Derived.Test.YtafhljmeofnbnaaBlOrder
namespace Go.Proofs.Ytafhljmeofnbnaa
open Go.RowKit
set_option linter.unusedVariables false

def balCells (l : List Bal) : List Value := l.flatMap fun b => [.int .u64 (b.1 : Nat), .int .u8 (b.2 : Nat)]
theorem balCells_len (l : List Bal) : (balCells l).length = l.length * 2 := by
  induction l with
  | nil => rfl
  | cons x l ih => simp only [balCells, List.flatMap_cons, List.length_append, List.length_cons, List.length_nil] at *; omega
theorem balCells_snoc (l : List Bal) (x : Bal) : balCells (l ++ [x]) = balCells l ++ [.int .u64 (x.1 : Nat), .int .u8 (x.2 : Nat)] := by simp [balCells]
theorem balCells_get : ∀ (l : List Bal) (j : Nat) (hj : j < l.length), (balCells l)[j * 2]? = some (.int .u64 (l[j].1 : Nat)) ∧ (balCells l)[j * 2 + 1]? = some (.int .u8 (l[j].2 : Nat))
  | x :: l, 0, _ => by simp [balCells]
  | x :: l, j + 1, hj => by
    have ih := balCells_get l j (by simpa using hj)
    have e : balCells (x :: l) = .int .u64 (x.1 : Nat) :: .int .u8 (x.2 : Nat) :: balCells l := by simp [balCells]
    have e1 : (j + 1) * 2 = j * 2 + 1 + 1 := by omega
    rw [e, e1]
    simpa using ih
def OwnB (w : World) (base : Nat) (v : Value) (l : List Bal) : Prop := w.ownsRow base 25 2 v l.length (balCells l)
theorem info_bal : (Try.prog.info? 25).map (fun i => (i.zero, i.size, i.bytes)) = some (some (.agg #[.int .u64 0, .int .u8 0]), 2, 16) := by kernel_rfl
theorem OwnB.nil (w : World) (base : Nat) : OwnB w base (.slice none 0 0) [] := World.ownsRow_nil w base _ _
theorem OwnB.form {w : World} {base : Nat} {v : Value} {l : List Bal} (h : OwnB w base v l) : ∃ a c, v = .slice a l.length c := by
  rcases h.2 with ⟨h1, h2⟩ | ⟨g, cap, cur, h1, _⟩
  · exact ⟨none, 0, by rw [h1, h2]⟩
  · exact ⟨_, _, h1⟩
theorem OwnB.bals {w : World} {base : Nat} {a : Option Addr} {n c : Nat} {l : List Bal} (h : OwnB w base (.slice a n c) l) (hok : ∀ b ∈ l, okBal b) : Bals w a n l := by
  rcases h.2 with ⟨h1, h2⟩ | ⟨g, cap, cur, h1, hb, hg, hnc, hcm, hcs, ht⟩
  · simp only [Value.slice.injEq] at h1
    obtain ⟨rfl, rfl, rfl⟩ := h1
    exact ⟨h2, hok, fun h => absurd h (by omega)⟩
  · simp only [Value.slice.injEq] at h1
    obtain ⟨rfl, rfl, rfl⟩ := h1
    refine ⟨rfl, hok, fun _ => ⟨g, 0, rfl, fun j hj => ?_⟩⟩
    have hown : w.ownsRow base 25 2 (.slice (some ⟨g, 0, none⟩) l.length c) l.length (balCells l) := h
    obtain ⟨e0, e1⟩ := balCells_get l j hj
    have c0 := hown.cellAt (j * 2) (by omega)
    have c1 := hown.cellAt (j * 2 + 1) (by omega)
    rw [Nat.zero_add]
    exact ⟨c0.trans e0, c1.trans e1⟩
theorem owns_low {w : World} {base base' : Nat} {e : TypeId} {size : Nat} {v : Value} {n : Nat} {xs : List Value} (h : w.ownsRow base e size v n xs) (hb : base' ≤ base) : w.ownsRow base' e size v n xs := by
  rcases h.2 with h1 | ⟨g, cap, cur, h1, h2, h3⟩
  · exact ⟨h.1, .inl h1⟩
  · exact ⟨h.1, .inr ⟨g, cap, cur, h1, Nat.le_trans hb h2, h3⟩⟩
/-- Rows of two types lie in two blocks. -/
theorem owns_ne {W : World} {b b' s s' k k' : Nat} {e e' : TypeId} {v v' : Value} {xs xs' : List Value} (h : W.ownsRow b e s v k xs) (h' : W.ownsRow b' e' s' v' k' xs') (hne : e ≠ e') : v.ownBlock = none ∨ v.ownBlock ≠ v'.ownBlock := by
  rcases h.2 with ⟨rfl, _⟩ | ⟨g, cap, cur, rfl, _, hg, _⟩
  · exact .inl rfl
  · right
    rcases h'.2 with ⟨rfl, _⟩ | ⟨g', cap', cur', rfl, _, hg', _⟩
    · simp [Value.ownBlock]
    · intro e2
      obtain rfl : g = g' := by simpa [Value.ownBlock] using e2
      rw [hg] at hg'
      simp at hg'
      exact hne hg'.2
/-- A row of ballots stays where a reader turns. -/
theorem OwnB.rd {w w' : World} {base b : Nat} {v : Value} {l : List Bal} {s : St} (h : OwnB w base v l) (hr : RS w b s) (hg : w.grownBy w' (some b)) : OwnB w' base v l := by
  refine h.kept hg ?_
  rcases h.2 with ⟨rfl, _⟩ | ⟨g, cap, cur, rfl, _, hc, _⟩
  · exact .inl rfl
  · refine .inr fun e => ?_
    obtain rfl : g = b := by simpa [Value.ownBlock] using e
    have hr' : w.heap[g]? = _ := hr
    rw [hc] at hr'
    simp at hr'
theorem OwnB.box {w w' : World} {base q : Nat} {v : Value} {l : List Bal} (h : OwnB w base v l) (hq : q < base) (hg : w.grownBy w' (some q)) : OwnB w' base v l := by
  refine h.kept hg ?_
  cases hv : v.ownBlock with
  | none => exact .inl rfl
  | some g =>
    have := (h.lt g hv).1
    exact .inr (by simp; omega)
theorem bal_cells_new (w : World) (x : Bal) : ∀ j u, ([.int .u64 (x.1 : Nat), .int .u8 (x.2 : Nat)] : List Value)[j]? = some u → (w.alloc (.cells #[.int .u64 (x.1 : Nat), .int .u8 (x.2 : Nat)] 25)).cell? ((⟨w.heap.size, 0, none⟩ : Addr).add j) = some u := by
  have h := heap_alloc_new w (.cells #[.int .u64 (x.1 : Nat), .int .u8 (x.2 : Nat)] 25)
  intro j u hu
  rw [Addr.add_lit, Nat.zero_add]
  match j, hu with
  | 0, hu => rw [cell_of_row _ _ 0 _ _ _ h]; simpa using hu
  | 1, hu => rw [cell_of_row _ _ 1 _ _ _ h]; simpa using hu
  | j + 2, hu => simp at hu
end Go.Proofs.Ytafhljmeofnbnaa
