/-
  A Ballot, and a slice of Ballots, that come in as arguments.
-/
import Derived.Test.YtafhljmeofnbnaaBlSpec
import Derived.Test.YtafhljmeofnbnaaRowLib
import Derived.Deep.Slices
import Derived.Deep.Strs
namespace Go.Proofs.Ytafhljmeofnbnaa
open Go.RowKit Go.ChangeShapes Go.WideShapes Go.ChangeAt Go.Deep
set_option linter.unusedVariables false

theorem cells_bal : Try.prog.cellsOf 25 = 2 := by kernel_rfl
theorem cells_u64B : Try.prog.cellsOf 23 = 1 := by kernel_rfl
theorem cells_u8B : Try.prog.cellsOf 5 = 1 := by kernel_rfl
theorem two_vals {l : List Value} (h : l.length = 2) : ∃ x y, l = [x, y] := by
  match l, h with
  | [x, y], _ => exact ⟨x, y, rfl⟩
set_option maxRecDepth 100000 in
theorem bal_of {H : Type} {enc : TypeId × Value → H} {W : World} {v : Value} {d : DataW H} {p : List MemPlace} {base : Nat} (hw : Value.okWide Try.prog W .any base 25 v)
    (h : DataW.Trod enc Try.prog W 0 (fun _ => true) true 25 v d p) : ∃ b : Bal, v = balV b ∧ okBal b := by
  obtain ⟨cs, rfl, hsz⟩ := okWide_struct Try.underlying25 hw
  obtain ⟨fuel, hf⟩ := h
  obtain ⟨y0, y1, n', _, hcl, t0, t1⟩ := trod_struct2 Try.underlying25 hf
  rw [cells_bal] at hcl
  obtain ⟨c0, c1, hc⟩ := two_vals hcl
  rw [hc] at t0 t1
  simp only [cells_u64B, cells_u8B, List.drop, List.take] at t0 t1
  obtain ⟨N0, e0, _, wN⟩ := DataW.trod_int Try.underlying23 t0
  obtain ⟨R0, e1, _, wR⟩ := DataW.trod_int Try.underlying5 t1
  simp only [List.cons.injEq, and_true] at e0 e1
  subst e0 e1
  obtain ⟨n0, n1⟩ := bounds_u64 wN
  obtain ⟨r0, r1⟩ := bounds_u8 wR
  have hcs : cs = #[.int .u64 N0, .int .u8 R0] := by
    simp [Value.cells] at hc
    cases cs
    simp_all
  refine ⟨(N0.toNat, R0.toNat), ?_, by simp only; omega, by simp only; omega⟩
  rw [hcs]
  unfold balV
  simp only
  rw [Int.toNat_of_nonneg n0, Int.toNat_of_nonneg r0]
set_option maxRecDepth 100000 in
theorem bals_of {H : Type} {enc : TypeId × Value → H} {W : World} {a : Option Addr} {len cap : Nat} {d : DataW H} {p : List MemPlace}
    (h : DataW.Trod enc Try.prog W 0 (fun _ => true) true 22 (.slice a len cap) d p) : len ≤ cap ∧ cap ≤ maxLen ∧ ∃ ls, Bals W a len ls := by
  obtain ⟨fuel, hf⟩ := h
  rcases open_slice Try.underlying22 hf with ⟨hcs, _⟩ | ⟨x, l, c, m, n, D, Pl, hcs, _, hl, hm, hmm, _, hcell⟩
  · simp [Value.cells] at hcs
    obtain ⟨rfl, rfl, rfl⟩ := hcs
    exact ⟨Nat.le_refl _, by decide, [], ⟨rfl, by simp, fun h => absurd h (by omega)⟩⟩
  · simp [Value.cells] at hcs
    obtain ⟨rfl, rfl, rfl⟩ := hcs
    refine ⟨hl, hm, ?_⟩
    by_cases h0 : len = 0
    · exact ⟨[], ⟨h0.symm, by simp, fun h => absurd h (by omega)⟩⟩
    obtain ⟨xb, xo, xs⟩ := x
    have hsp : xs = none := by
      obtain ⟨cs', hc, ht⟩ := hcell 0 (by rw [hmm]; simp; omega)
      rw [cells_bal] at hc
      obtain ⟨_, hcl, hat⟩ := World.cells?_some hc
      obtain ⟨c0, c1, rfl⟩ := two_vals hcl
      have := World.cell?_spot (hat 0 (by omega))
      simpa [Addr.add] using this
    subst hsp
    have key : ∀ i, i < len → ∃ y : Bal, okBal y ∧ W.cell? ⟨xb, xo + i * 2, none⟩ = some (.int .u64 (y.1 : Nat)) ∧ W.cell? ⟨xb, xo + i * 2 + 1, none⟩ = some (.int .u8 (y.2 : Nat)) := by
      intro i hi
      obtain ⟨cs', hc, ht⟩ := hcell i (by rw [hmm]; simp; omega)
      rw [cells_bal] at hc
      obtain ⟨_, hcl, hat⟩ := World.cells?_some hc
      obtain ⟨c0, c1, rfl⟩ := two_vals hcl
      obtain ⟨y0, y1, n', _, _, t0, t1⟩ := trod_struct2 Try.underlying25 ht
      simp only [cells_u64B, cells_u8B, List.drop, List.take] at t0 t1
      obtain ⟨N0, e0, _, wN⟩ := DataW.trod_int Try.underlying23 t0
      obtain ⟨R0, e1, _, wR⟩ := DataW.trod_int Try.underlying5 t1
      simp only [List.cons.injEq, and_true] at e0 e1
      subst e0 e1
      have g0 := hat 0 (by omega)
      have g1 := hat 1 (by omega)
      rw [Addr.add_lit, Addr.add_lit] at g0 g1
      obtain ⟨n0, n1⟩ := bounds_u64 wN
      obtain ⟨r0, r1⟩ := bounds_u8 wR
      refine ⟨(N0.toNat, R0.toNat), ⟨by simp only; omega, by simp only; omega⟩, ?_, ?_⟩
      · simp only
        rw [Int.toNat_of_nonneg n0]
        simpa using g0
      · simp only
        rw [Int.toNat_of_nonneg r0]
        simpa using g1
    refine ⟨(List.range len).map (fun i => if h : i < len then Classical.choose (key i h) else (0, 0)), ⟨by simp, ?_, fun _ => ⟨xb, xo, rfl, fun j hj => ?_⟩⟩⟩
    · intro x hx
      obtain ⟨i, hi, rfl⟩ := List.mem_map.1 hx
      have hi' : i < len := by simpa using hi
      simp only [dif_pos hi']
      exact (Classical.choose_spec (key i hi')).1
    · have hj' : j < len := by simpa using hj
      simp only [List.getElem_map, List.getElem_range, dif_pos hj']
      exact (Classical.choose_spec (key j hj')).2
end Go.Proofs.Ytafhljmeofnbnaa
