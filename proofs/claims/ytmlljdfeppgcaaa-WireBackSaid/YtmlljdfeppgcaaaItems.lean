/-
  What a walk is told of a slice of Items (the argument of WireBack) and of a slice of Asks (the argument of WireReads).
-/
import Derived.Test.YtmlljdfeppgcaaaRowLib
import Derived.Deep.Slices
import Derived.Deep.Strs
namespace Go.Proofs.Ytmlljdfeppgcaaa
open Go.RowKit Go.ChangeShapes Go.WideShapes Go.ChangeAt Go.Deep
set_option linter.unusedVariables false

/-- One Item. -/
structure It where
  t : Bool
  n : Int
  s : ByteArray

structure ItAt (w : World) (b off : Nat) (x : It) : Prop where
  c0 : w.cell? ⟨b, off, none⟩ = some (.bool x.t)
  c1 : w.cell? ⟨b, off + 1, none⟩ = some (.int .u64 x.n)
  c2 : w.cell? ⟨b, off + 2, none⟩ = some (.string x.s)
  n0 : 0 ≤ x.n
  n1 : x.n ≤ 18446744073709551615
  s1 : x.s.size ≤ maxLen

theorem at_lit (b off : Nat) (i j : Nat) : ((⟨b, off, none⟩ : Addr).add i).add j = ⟨b, off + i + j, none⟩ := by
  rw [Addr.add_lit, Addr.add_lit]

theorem cells3_item : Try.prog.cellsOf 46 = 3 := by kernel_rfl
theorem cells3_ask : Try.prog.cellsOf 39 = 3 := by kernel_rfl
theorem cells_bool : Try.prog.cellsOf 4 = 1 := by kernel_rfl
theorem cells_u8 : Try.prog.cellsOf 5 = 1 := by kernel_rfl
theorem cells_u64 : Try.prog.cellsOf 23 = 1 := by kernel_rfl
theorem cells_int : Try.prog.cellsOf 3 = 1 := by kernel_rfl
theorem cells_str : Try.prog.cellsOf 9 = 1 := by kernel_rfl

theorem three_of {l : List Value} (h : l.length = 3) : ∃ x y z, l = [x, y, z] := by
  match l, h with
  | [x, y, z], _ => exact ⟨x, y, z, rfl⟩

theorem items_of {H : Type} {enc : TypeId × Value → H} {W : World} {a : Option Addr} {len cap : Nat} {d : DataW H} {p : List MemPlace}
    (h : DataW.Trod enc Try.prog W 0 (fun _ => true) true 44 (.slice a len cap) d p) :
    len ≤ maxLen ∧ (len = 0 ∨ ∃ b off, a = some ⟨b, off, none⟩ ∧ ∃ it : Nat → It, ∀ i, i < len → ItAt W b (off + i * 3) (it i)) := by
  obtain ⟨fuel, hf⟩ := h
  rcases open_slice Try.underlying44 hf with ⟨hcs, _⟩ | ⟨x, l, c, m, n, D, Pl, hcs, _, hl, hm, hmm, _, hcell⟩
  · simp [Value.cells] at hcs
    exact ⟨by omega, .inl hcs.2.1⟩
  · simp [Value.cells] at hcs
    obtain ⟨rfl, rfl, rfl⟩ := hcs
    refine ⟨by omega, ?_⟩
    by_cases h0 : len = 0
    · exact .inl h0
    obtain ⟨xb, xo, xs⟩ := x
    have hsp : xs = none := by
      obtain ⟨cs', hc, ht⟩ := hcell 0 (by rw [hmm]; simp; omega)
      rw [cells3_item] at hc
      obtain ⟨_, hcl, hat⟩ := World.cells?_some hc
      obtain ⟨c0, c1, c2, rfl⟩ := three_of hcl
      have := World.cell?_spot (hat 0 (by omega))
      simpa [Addr.add] using this
    subst hsp
    have key : ∀ i, i < len → ∃ y : It, ItAt W xb (xo + i * 3) y := by
      intro i hi
      obtain ⟨cs', hc, ht⟩ := hcell i (by rw [hmm]; simp; omega)
      rw [cells3_item] at hc
      obtain ⟨_, hcl, hat⟩ := World.cells?_some hc
      obtain ⟨c0, c1, c2, rfl⟩ := three_of hcl
      obtain ⟨y0, y1, y2, n', _, _, t0, t1, t2⟩ := trod_struct3 Try.underlying46 ht
      simp only [cells_bool, cells_u64, cells_str, List.drop, List.take] at t0 t1 t2
      obtain ⟨B0, e0, _⟩ := DataW.trod_bool Try.underlying4 t0
      obtain ⟨N0, e1, _, wN⟩ := DataW.trod_int Try.underlying23 t1
      obtain ⟨S0, e2, _, wS⟩ := DataW.trod_string Try.underlying9 t2
      simp only [List.cons.injEq, and_true] at e0 e1 e2
      subst e0 e1 e2
      have g0 := hat 0 (by omega)
      have g1 := hat 1 (by omega)
      have g2 := hat 2 (by omega)
      rw [at_lit] at g0 g1 g2
      obtain ⟨n0, n1⟩ := bounds_u64 wN
      exact ⟨⟨B0, N0, S0⟩, by simpa using g0, by simpa using g1, by simpa using g2, n0, n1, wS⟩
    refine .inr ⟨xb, xo, rfl, fun i => if h : i < len then Classical.choose (key i h) else ⟨false, 0, ByteArray.empty⟩, fun i hi => ?_⟩
    simp only [dif_pos hi]
    exact Classical.choose_spec (key i hi)

/-- One Ask. -/
structure As where
  d : Int
  n : Int
  m : Int

structure AsAt (w : World) (b off : Nat) (x : As) : Prop where
  c0 : w.cell? ⟨b, off, none⟩ = some (.int .u8 x.d)
  c1 : w.cell? ⟨b, off + 1, none⟩ = some (.int .u64 x.n)
  c2 : w.cell? ⟨b, off + 2, none⟩ = some (.int .i64 x.m)
  d0 : 0 ≤ x.d
  d1 : x.d ≤ 255
  n0 : 0 ≤ x.n
  n1 : x.n ≤ 18446744073709551615
  m0 : -9223372036854775808 ≤ x.m
  m1 : x.m ≤ 9223372036854775807

theorem asks_of {H : Type} {enc : TypeId × Value → H} {W : World} {a : Option Addr} {len cap : Nat} {d : DataW H} {p : List MemPlace}
    (h : DataW.Trod enc Try.prog W 0 (fun _ => true) true 30 (.slice a len cap) d p) :
    len ≤ maxLen ∧ (len = 0 ∨ ∃ b off, a = some ⟨b, off, none⟩ ∧ ∃ it : Nat → As, ∀ i, i < len → AsAt W b (off + i * 3) (it i)) := by
  obtain ⟨fuel, hf⟩ := h
  rcases open_slice Try.underlying30 hf with ⟨hcs, _⟩ | ⟨x, l, c, m, n, D, Pl, hcs, _, hl, hm, hmm, _, hcell⟩
  · simp [Value.cells] at hcs
    exact ⟨by omega, .inl hcs.2.1⟩
  · simp [Value.cells] at hcs
    obtain ⟨rfl, rfl, rfl⟩ := hcs
    refine ⟨by omega, ?_⟩
    by_cases h0 : len = 0
    · exact .inl h0
    obtain ⟨xb, xo, xs⟩ := x
    have hsp : xs = none := by
      obtain ⟨cs', hc, ht⟩ := hcell 0 (by rw [hmm]; simp; omega)
      rw [cells3_ask] at hc
      obtain ⟨_, hcl, hat⟩ := World.cells?_some hc
      obtain ⟨c0, c1, c2, rfl⟩ := three_of hcl
      have := World.cell?_spot (hat 0 (by omega))
      simpa [Addr.add] using this
    subst hsp
    have key : ∀ i, i < len → ∃ y : As, AsAt W xb (xo + i * 3) y := by
      intro i hi
      obtain ⟨cs', hc, ht⟩ := hcell i (by rw [hmm]; simp; omega)
      rw [cells3_ask] at hc
      obtain ⟨_, hcl, hat⟩ := World.cells?_some hc
      obtain ⟨c0, c1, c2, rfl⟩ := three_of hcl
      obtain ⟨y0, y1, y2, n', _, _, t0, t1, t2⟩ := trod_struct3 Try.underlying39 ht
      simp only [cells_u8, cells_u64, cells_int, List.drop, List.take] at t0 t1 t2
      obtain ⟨B0, e0, _, wB⟩ := DataW.trod_int Try.underlying5 t0
      obtain ⟨N0, e1, _, wN⟩ := DataW.trod_int Try.underlying23 t1
      obtain ⟨S0, e2, _, wS⟩ := DataW.trod_int Try.underlying3 t2
      simp only [List.cons.injEq, and_true] at e0 e1 e2
      subst e0 e1 e2
      have g0 := hat 0 (by omega)
      have g1 := hat 1 (by omega)
      have g2 := hat 2 (by omega)
      rw [at_lit] at g0 g1 g2
      obtain ⟨b0, b1⟩ := bounds_u8 wB
      obtain ⟨n0, n1⟩ := bounds_u64 wN
      obtain ⟨m0, m1⟩ := bounds_i64 wS
      exact ⟨⟨B0, N0, S0⟩, by simpa using g0, by simpa using g1, by simpa using g2, b0, b1, n0, n1, m0, m1⟩
    refine .inr ⟨xb, xo, rfl, fun i => if h : i < len then Classical.choose (key i h) else ⟨0, 0, 0⟩, fun i hi => ?_⟩
    simp only [dif_pos hi]
    exact Classical.choose_spec (key i hi)

end Go.Proofs.Ytmlljdfeppgcaaa
