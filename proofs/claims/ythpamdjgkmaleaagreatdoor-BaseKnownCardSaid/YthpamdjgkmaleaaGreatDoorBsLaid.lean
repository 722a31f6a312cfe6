/-
  What a row's list of variables gives a walk; a start that meets it; the arguments of the laws of layer 6.
-/
import Derived.Test.YthpamdjgkmaleaaGreatDoorMs
import Derived.Test.YthpamdjgkmaleaaGreatDoorBsLasts
import Derived.Test.YthpamdjgkmaleaaGreatDoorRows
import Derived.Stop.LaidErr
import Derived.LaidMore
import Derived.LaidHandle
import Derived.Deep.Slices
import Derived.Deep.Strs
import Derived.SevenTiedAt
import Derived.Stop.Joined
namespace Go.Proofs.YthpamdjgkmaleaaGreatDoor
open Go.RowKit Go.ChangeShapes Go.WideShapes Go.ChangeAt Go.Deep
set_option linter.unusedVariables false

/-- The list, as all rows have it. -/
def laid5 : List (String × DataW Unit) := Rows.baseNilRow.laid
def doorSteps : Nat := 62

theorem gSyn : Tryz.prog.globalNamed "strconv.ErrSyntax" = some 2 := by kernel_rfl
theorem gRng : Tryz.prog.globalNamed "strconv.ErrRange" = some 3 := by kernel_rfl
theorem gDeb : Tryz.prog.globalNamed "math/bits.deBruijn64tab" = some 5 := by kernel_rfl
theorem tSyn : (Tryz.prog.globals[2]?).map (·.type) = some 114 := by kernel_rfl
theorem tRng : (Tryz.prog.globals[3]?).map (·.type) = some 114 := by kernel_rfl
theorem tTab : (Tryz.prog.globals[0]?).map (·.type) = some 152 := by kernel_rfl
theorem tDeb : (Tryz.prog.globals[5]?).map (·.type) = some 182 := by kernel_rfl
theorem cells_tab : Tryz.prog.cellsOf 152 = 20 := by kernel_rfl
theorem cells_deb : Tryz.prog.cellsOf 182 = 64 := by kernel_rfl
theorem cells_u64' : Tryz.prog.cellsOf 22 = 1 := by kernel_rfl
theorem cells_u8' : Tryz.prog.cellsOf 5 = 1 := by kernel_rfl
theorem cells_err : Tryz.prog.cellsOf 188 = 1 := by kernel_rfl
theorem cells_str' : Tryz.prog.cellsOf 9 = 1 := by kernel_rfl
theorem row_err (u : TypeId) (h : Tryz.prog.typeName? 3 u = some "*errors.errorString") : u = 186 :=
  typeName_ptr_named (nm := "errors.errorString") (by kernel_rfl) (by kernel_rfl) (by decide) u h
theorem pow_data : Rows.laid_internal_strconv_uint64pow10 (H := Unit) = Lib.tabData .u64 Lib.pow10Tab := by kernel_rfl
/-- The table's numbers. -/
def debTab : List Int := match (Rows.laid_math_bits_deBruijn64tab : DataW Unit) with
  | .agg l => l.map fun x => match x with
    | .lit (.int _ z) => z
    | _ => 0
  | _ => []
theorem deb_data : Rows.laid_math_bits_deBruijn64tab (H := Unit) = Lib.tabData .u8 debTab := by kernel_rfl

theorem env_of_laid {W : World} (h : laidMetH Tryz.prog laid5 W) : Env W := by
  rw [MakeChecks.laidMetH_plain _ _ _ (by kernel_rfl)] at h
  have h1 : laidMet Tryz.prog (("math/bits.deBruijn64tab", Rows.laid_math_bits_deBruijn64tab) :: ("internal/strconv.uint64pow10", Rows.laid_internal_strconv_uint64pow10) :: ("strconv.ErrRange", Rows.laid_strconv_ErrRange) :: ("strconv.ErrSyntax", Rows.laid_strconv_ErrSyntax) :: []) W := h.tail
  have h2 : laidMet Tryz.prog (("internal/strconv.uint64pow10", Rows.laid_internal_strconv_uint64pow10) :: ("strconv.ErrRange", Rows.laid_strconv_ErrRange) :: ("strconv.ErrSyntax", Rows.laid_strconv_ErrSyntax) :: []) W := h1.tail
  have h3 : laidMet Tryz.prog (("strconv.ErrRange", Rows.laid_strconv_ErrRange) :: ("strconv.ErrSyntax", Rows.laid_strconv_ErrSyntax) :: []) W := h2.tail
  have h4 : laidMet Tryz.prog (("strconv.ErrSyntax", Rows.laid_strconv_ErrSyntax) :: []) W := h3.tail
  rw [deb_data] at h1
  rw [pow_data] at h2
  have hd := Lib.tabIs_of_head gDeb tDeb Tryz.underlying182 Tryz.underlying5 cells_u8' cells_deb h1
  refine ⟨Lib.tabIs_of_head tab_named tTab Tryz.underlying152 Tryz.underlying22 cells_u64' cells_tab h2, ?_, ?_, ?_⟩
  · obtain ⟨a, s, hv, _⟩ := laid_sentinel h4 gSyn tSyn Tryz.underlying114 row_err Tryz.underlying186 Tryz.underlying188 rfl rfl Tryz.underlying9 cells_err cells_str'
    exact ⟨_, _, World.var?_cell gSyn hv 0⟩
  · obtain ⟨a, s, hv, _⟩ := laid_sentinel h3 gRng tRng Tryz.underlying114 row_err Tryz.underlying186 Tryz.underlying188 rfl rfl Tryz.underlying9 cells_err cells_str'
    exact ⟨_, _, World.var?_cell gRng hv 0⟩
  · have h15 := hd.cell gDeb 15 (of_decide_eq_true (by kernel_rfl))
    rw [h15]
    have : debTab.getD 15 0 = 4 := by kernel_rfl
    rw [this]

theorem door_met (os : Os) (args : Array Value) : laidMetH Tryz.prog laid5 ((World.doorLaid Tryz.prog doorSteps os).forCall (fun _ _ => 0) ⟨#[], args, []⟩).memory :=
  laidMetH_of_parts3 (fuel := 8) (laidMet_of_run' 8 (by kernel_rfl) (by kernel_rfl)) (by kernel_rfl) (by kernel_rfl)
theorem door_shaped (os : Os) (args : Array Value) : ((World.doorLaid Tryz.prog doorSteps os).forCall (fun _ _ => 0) ⟨#[], args, []⟩).Shaped Tryz.prog := World.shaped_of_RefB (by kernel_rfl) (by kernel_rfl)

/-! ### arguments -/
theorem cells_one : Tryz.prog.cellsOf 37 = 2 := by kernel_rfl
theorem two_of {l : List Value} (h : l.length = 2) : ∃ x y, l = [x, y] := by
  match l, h with
  | [x, y], _ => exact ⟨x, y, rfl⟩
set_option maxRecDepth 100000 in
theorem one_of {H : Type} {enc : TypeId × Value → H} {W : World} {v : Value} {d : DataW H} {p : List MemPlace} {base : Nat} (hw : Value.okWide Tryz.prog W .any base 37 v)
    (h : DataW.Trod enc Tryz.prog W 0 (fun _ => true) true 37 v d p) : ∃ (n : Nat) (t : List UInt8), v = .agg #[.int .u64 n, .string (B t)] ∧ n < 2 ^ 64 ∧ t.length ≤ maxLen := by
  obtain ⟨cs, rfl, hsz⟩ := okWide_struct Tryz.underlying37 hw
  obtain ⟨fuel, hf⟩ := h
  obtain ⟨y0, y1, n', _, hcl, t0, t1⟩ := trod_struct2 Tryz.underlying37 hf
  rw [cells_one] at hcl
  obtain ⟨c0, c1, hc⟩ := two_of hcl
  rw [hc] at t0 t1
  simp only [cells_u64', cells_str', List.drop, List.take] at t0 t1
  obtain ⟨N0, e0, _, wN⟩ := DataW.trod_int Tryz.underlying22 t0
  obtain ⟨S0, e1, _, wS⟩ := DataW.trod_string Tryz.underlying9 t1
  simp only [List.cons.injEq, and_true] at e0 e1
  subst e0 e1
  obtain ⟨n0, n1⟩ := bounds_u64 wN
  have hcs : cs = #[.int .u64 N0, .string S0] := by
    simp [Value.cells] at hc
    cases cs
    simp_all
  refine ⟨N0.toNat, S0.data.toList, ?_, by omega, ?_⟩
  · rw [hcs, Int.toNat_of_nonneg n0, ← B_data]
  · have : S0.size ≤ maxLen := wS
    rw [Lib.size_eq] at this
    exact this
set_option maxRecDepth 100000 in
theorem ones_of {H : Type} {enc : TypeId × Value → H} {W : World} {a : Option Addr} {len cap : Nat} {d : DataW H} {p : List MemPlace}
    (h : DataW.Trod enc Tryz.prog W 0 (fun _ => true) true 32 (.slice a len cap) d p) : len ≤ cap ∧ cap ≤ maxLen ∧ ∃ ls, Ones W a len ls ∧ ∀ x ∈ ls, x.2.length ≤ maxLen := by
  obtain ⟨fuel, hf⟩ := h
  rcases open_slice Tryz.underlying32 hf with ⟨hcs, _⟩ | ⟨x, l, c, m, n, D, Pl, hcs, _, hl, hm, hmm, _, hcell⟩
  · simp [Value.cells] at hcs
    obtain ⟨rfl, rfl, rfl⟩ := hcs
    exact ⟨Nat.le_refl _, by decide, [], ⟨rfl, by simp, fun h => absurd h (by omega)⟩, by simp⟩
  · simp [Value.cells] at hcs
    obtain ⟨rfl, rfl, rfl⟩ := hcs
    refine ⟨hl, hm, ?_⟩
    by_cases h0 : len = 0
    · exact ⟨[], ⟨h0.symm, by simp, fun h => absurd h (by omega)⟩, by simp⟩
    obtain ⟨xb, xo, xs⟩ := x
    have hsp : xs = none := by
      obtain ⟨cs', hc, ht⟩ := hcell 0 (by rw [hmm]; simp; omega)
      rw [cells_one] at hc
      obtain ⟨_, hcl, hat⟩ := World.cells?_some hc
      obtain ⟨c0, c1, rfl⟩ := two_of hcl
      have := World.cell?_spot (hat 0 (by omega))
      simpa [Addr.add] using this
    subst hsp
    have key : ∀ i, i < len → ∃ y : Nat × List UInt8, y.1 < 2 ^ 64 ∧ y.2.length ≤ maxLen ∧ W.cell? ⟨xb, xo + i * 2, none⟩ = some (.int .u64 (y.1 : Nat)) ∧ W.cell? ⟨xb, xo + i * 2 + 1, none⟩ = some (.string (B y.2)) := by
      intro i hi
      obtain ⟨cs', hc, ht⟩ := hcell i (by rw [hmm]; simp; omega)
      rw [cells_one] at hc
      obtain ⟨_, hcl, hat⟩ := World.cells?_some hc
      obtain ⟨c0, c1, rfl⟩ := two_of hcl
      obtain ⟨y0, y1, n', _, _, t0, t1⟩ := trod_struct2 Tryz.underlying37 ht
      simp only [cells_u64', cells_str', List.drop, List.take] at t0 t1
      obtain ⟨N0, e0, _, wN⟩ := DataW.trod_int Tryz.underlying22 t0
      obtain ⟨S0, e1, _, wS⟩ := DataW.trod_string Tryz.underlying9 t1
      simp only [List.cons.injEq, and_true] at e0 e1
      subst e0 e1
      have g0 := hat 0 (by omega)
      have g1 := hat 1 (by omega)
      rw [Addr.add_lit, Addr.add_lit] at g0 g1
      obtain ⟨n0, n1⟩ := bounds_u64 wN
      have hsz : S0.size ≤ maxLen := wS
      rw [Lib.size_eq] at hsz
      refine ⟨(N0.toNat, S0.data.toList), by simp only; omega, hsz, ?_, ?_⟩
      · simp only
        rw [Int.toNat_of_nonneg n0]
        simpa using g0
      · simp only
        rw [← B_data]
        simpa using g1
    refine ⟨(List.range len).map (fun i => if h : i < len then Classical.choose (key i h) else (0, [])), ⟨by simp, ?_, fun _ => ⟨xb, xo, rfl, fun j hj => ?_⟩⟩, ?_⟩
    · intro x hx
      obtain ⟨i, hi, rfl⟩ := List.mem_map.1 hx
      have hi' : i < len := by simpa using hi
      simp only [dif_pos hi']
      exact (Classical.choose_spec (key i hi')).1
    · have hj' : j < len := by simpa using hj
      simp only [List.getElem_map, List.getElem_range, dif_pos hj']
      exact (Classical.choose_spec (key j hj')).2.2
    · intro x hx
      obtain ⟨i, hi, rfl⟩ := List.mem_map.1 hx
      have hi' : i < len := by simpa using hi
      simp only [dif_pos hi']
      exact (Classical.choose_spec (key i hi')).2.1

end Go.Proofs.YthpamdjgkmaleaaGreatDoor
