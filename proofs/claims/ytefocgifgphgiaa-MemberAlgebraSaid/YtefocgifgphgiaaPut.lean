/-
  wire's withRoom, putNum, Num and Str over this translation: new memory, the bytes that there were and the new ones behind them.
-/
import Derived.Test.YtefocgifgphgiaaStr
import Derived.Lib.Hide
import Derived.Lib.BufferRead
import Derived.Laws.IdiomStrings
namespace Go.Proofs.Ytefocgifgphgiaa
open Go.RowKit
set_option linter.unusedVariables false

/-- The slice of bytes (a, n, c) holds the bytes l (and may be nil where there are none). -/
structure Src (w : World) (a : Option Addr) (n c : Nat) (l : List UInt8) : Prop where
  len : l.length = n
  nul : a = none → n = 0 ∧ c = 0
  cell : ∀ ad, a = some ad → ∀ j u, (Lib.byteCells l)[j]? = some u → w.cell? (ad.add j) = some u

theorem Src.kept {w w' : World} {a : Option Addr} {n c : Nat} {l : List UInt8} (h : Src w a n c l) (hg : w.grownBy w' none) : Src w' a n c l :=
  ⟨h.len, h.nul, fun ad ha j u hu => hg.cell (h.cell ad ha j u hu) (by simp)⟩

theorem Src.below {w w' : World} {a : Option Addr} {n c : Nat} {l : List UInt8} (h : Src w a n c l) (hg : Below w.heap.size w w') : Src w' a n c l :=
  h.kept (grown_of_below hg)

theorem Src.nil (w : World) : Src w none 0 0 [] := ⟨rfl, fun _ => ⟨rfl, rfl⟩, by simp⟩

/-- What is owned may be a source. -/
theorem Src.of_own {w : World} {base g n c : Nat} {l : List UInt8} (h : w.ownsRow base 5 1 (.slice (some ⟨g, 0, none⟩) n c) n (Lib.byteCells l)) : Src w (some ⟨g, 0, none⟩) n c l := by
  refine ⟨by have := h.1; simpa [Lib.byteCells_length] using this, by simp, ?_⟩
  rintro ad ⟨rfl⟩ j u hu
  exact h.cells (g := g) rfl j u hu

theorem bytes_one (l : List UInt8) : ∀ u ∈ Lib.byteCells l, u.oneCell' = true := by
  intro u hu
  obtain ⟨x, _, rfl⟩ := List.mem_map.1 hu
  rfl

/-- The owned slice of bytes at the head of block g. -/
def Own (w : World) (base g n cap : Nat) (l : List UInt8) : Prop := w.ownsRow base 5 1 (.slice (some ⟨g, 0, none⟩) n cap) n (Lib.byteCells l)

theorem Own.len {w : World} {base g n cap : Nat} {l : List UInt8} (h : Own w base g n cap l) : l.length = n := by
  have := h.1; simpa [Lib.byteCells_length] using this

theorem one_cell (w : World) (x : UInt8) (n : Int) (hn : (x.toNat : Int) = n) : ∀ j u, (Lib.byteCells [x])[j]? = some u → (w.alloc (.cells #[.int .u8 n] 5)).cell? ((⟨w.heap.size, 0, none⟩ : Addr).add j) = some u := by
  intro j u hu
  subst hn
  match j, hu with
  | 0, hu => simp [Lib.byteCells] at hu; subst hu; simp [Addr.add]
  | j + 1, hu => simp [Lib.byteCells] at hu

/-- Behind an append of one byte that fits. -/
theorem Own.one {w1 : World} {base g n cap : Nat} {l : List UInt8} {x : UInt8} (h : w1.ownsRow base 5 1 (.slice (some ⟨g, 0, none⟩) (n + 1) cap) (n + 1) (Lib.byteCells l ++ Lib.byteCells [x])) : Own w1 base g (n + 1) cap (l ++ [x]) := by
  unfold Own; rw [Lib.byteCells_append]; exact h

theorem byte_at (n K j : Nat) (h : j < K) : ((UInt8.ofNat (n / 256 ^ (K - (j + 1)) % 256)).toNat : Int) = (n : Int) / 2 ^ (8 * (K - 1 - j)) % 256 := by
  rw [UInt8.toNat_ofNat', pow256, show K - (j + 1) = K - 1 - j from by omega]
  have e : n / 2 ^ (8 * (K - 1 - j)) % 256 % 2 ^ 8 = n / 2 ^ (8 * (K - 1 - j)) % 256 := by
    generalize n / 2 ^ (8 * (K - 1 - j)) = y; omega
  rw [e, Int.natCast_emod, Int.natCast_ediv, Int.natCast_pow]
  rfl

/-- string(b) of such a slice. -/
theorem Src.string {w : World} {a : Option Addr} {n c : Nat} {l : List UInt8} (h : Src w a n c l) :
    (convert 22 9 (.slice a n c)).run Try.prog w = .ok (.string (B l)) w := by
  obtain ⟨hl, hn, hc⟩ := h
  cases a with
  | none =>
    obtain ⟨rfl, rfl⟩ := hn rfl
    obtain rfl := List.eq_nil_of_length_eq_zero hl
    exact Lib.run_convert_nil_bytes w 22 9 5 0 Try.underlying22 Try.underlying5 Try.underlying9
  | some ad =>
    subst hl
    exact run_convert_bytes_back w 22 9 5 ad c l Try.underlying22 Try.underlying5 Try.underlying9 (fun j hj => hc ad rfl j _ (by simp [Lib.byteCells, hj]))

end Go.Proofs.Ytefocgifgphgiaa
