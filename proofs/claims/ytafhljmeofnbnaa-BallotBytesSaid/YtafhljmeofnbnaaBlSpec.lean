/-
  What the calls on ballots answer, as the laws of layer 7 meet them: a specification; ballots in memory; a ballot out of its parts.
-/
import Derived.Test.YtafhljmeofnbnaaBlPure
import Derived.Test.YtafhljmeofnbnaaRefRdN
import Derived.Test.YtafhljmeofnbnaaRefNum
import Derived.Test.YtafhljmeofnbnaaRowLib
import Derived.Test.YtafhljmeofnbnaaRegion
namespace Go.Proofs.Ytafhljmeofnbnaa
open Go.RowKit
set_option linter.unusedVariables false

def balV (b : Bal) : Value := .agg #[.int .u64 (b.1 : Nat), .int .u8 (b.2 : Nat)]
/-- A ballot's bytes. -/
def bytesL (x : Bal) : List UInt8 := enc x.1 ++ [UInt8.ofNat x.2]
/-- A slice of ballots. -/
structure Bals (w : World) (a : Option Addr) (n : Nat) (l : List Bal) : Prop where
  len : l.length = n
  ok : ∀ b ∈ l, okBal b
  base : 0 < n → ∃ b off, a = some ⟨b, off, none⟩ ∧ ∀ j (hj : j < l.length), w.cell? ⟨b, off + j * 2, none⟩ = some (.int .u64 (l[j].1 : Nat)) ∧ w.cell? ⟨b, off + j * 2 + 1, none⟩ = some (.int .u8 (l[j].2 : Nat))
/-- What a reader reads as a ballot. -/
def takeB (s : St) : Bal × St :=
  if s.num.2.byte.2.e ≠ 0 then ((0, 0), s.num.2.byte.2) else if mayL (s.num.1, s.num.2.byte.1.toNat) = true then ((s.num.1, s.num.2.byte.1.toNat), s.num.2.byte.2) else ((0, 0), s.num.2.byte.2.fail 4)
structure BallotSpec : Prop where
  check : ∀ w b, okBal b → Calls Try.prog 12 #[balV b] w fun r w' => r = .returned (.int .i64 (if mayL b = true then 0 else 2)) ∧ Below w.heap.size w w'
  below : ∀ w a b, okBal a → okBal b → Calls Try.prog 13 #[balV a, balV b] w fun r w' => r = .returned (.bool (belowL a b)) ∧ Below w.heap.size w w'
  top : ∀ w a n c l, Bals w a n l → n ≤ 100 → Calls Try.prog 15 #[.slice a n c] w fun r w' => r = .returned (balV (topL l)) ∧ Below w.heap.size w w'
  turn : ∀ (w : World) b (r : Nat), okBal b → r < 256 → Calls Try.prog 9 #[balV b, .int .u8 (r : Nat)] w fun e w' => e = .returned (.tuple #[balV (turnL b r).1, .int .i64 (turnL b r).2]) ∧ Below w.heap.size w w'
  put : ∀ w a n c l x, Src w a n c l → n ≤ 1000000 → okBal x → Calls Try.prog 17 #[.slice a n c, balV x] w fun r w' => ∃ g n' c', r = .returned (.slice (some ⟨g, 0, none⟩) n' c') ∧ Own w' w.heap.size g n' c' (l ++ bytesL x) ∧ Below w.heap.size w w'
  take : ∀ w b s, RS w b s → s.l.length ≤ 1000000 → Calls Try.prog 20 #[.pointer (some ⟨b, 0, none⟩)] w fun r w' => r = .returned (balV (takeB s).1) ∧ RS w' b (takeB s).2 ∧ w.grownBy w' (some b)
  take_nil : ∀ w, Calls Try.prog 20 #[.pointer none] w fun r w' => r = .returned (balV (0, 0)) ∧ Below w.heap.size w w'

theorem BalVal.new (w : World) (n r : Int) : (w.alloc (.cells #[.int .u64 n, .int .u8 r] 25)).cell? ⟨w.heap.size, 0, none⟩ = some (.int .u64 n) ∧ (w.alloc (.cells #[.int .u64 n, .int .u8 r] 25)).cell? ⟨w.heap.size, 1, none⟩ = some (.int .u8 r) := by
  have h := heap_alloc_new w (.cells #[.int .u64 n, .int .u8 r] 25)
  exact ⟨by rw [cell_of_row _ _ 0 _ _ _ h]; rfl, by rw [cell_of_row _ _ 1 _ _ _ h]; rfl⟩
theorem of_is (n r : Int) (w : World) : Calls Try.prog 24 #[.int .u64 n, .int .u8 r] w fun e w' => e = .returned (.agg #[.int .u64 n, .int .u8 r]) ∧ Below w.heap.size w w' := by
  go_enter Try.func24, Try.ntmps24
  go_wp2
  have hb := BalVal.new w n r
  obtain ⟨k0, k1⟩ := hb
  exact bodyPost_ret (v := .agg #[.int .u64 n, .int .u8 r]) (by simp [results, Try.f24, go_sem, k0, k1]) rfl ⟨rfl, (Below.refl _ w).alloc (Nat.le_refl _) _⟩

/-- A box of a ballot. -/
def BalB (q : Nat) (b : Bal) (w : World) : Prop := w.heap[q]? = some (.cells #[.int .u64 (b.1 : Nat), .int .u8 (b.2 : Nat)] 25 (0, 0))
theorem BalB.lt {q : Nat} {b : Bal} {w : World} (h : BalB q b w) : q < w.heap.size := (Array.getElem?_eq_some_iff.1 h).1
theorem BalB.below {q : Nat} {b : Bal} {w w' : World} (h : BalB q b w) (hb : Below w.heap.size w w') : BalB q b w' := (hb.block q h.lt).trans h
theorem BalB.vals {q : Nat} {b : Bal} {w : World} (h : BalB q b w) : w.cell? ⟨q, 0, none⟩ = some (.int .u64 (b.1 : Nat)) ∧ w.cell? ⟨q, 1, none⟩ = some (.int .u8 (b.2 : Nat)) :=
  ⟨by rw [cell_of_row w q 0 _ _ _ h]; rfl, by rw [cell_of_row w q 1 _ _ _ h]; rfl⟩
theorem BalB.frozen {q : Nat} {b : Bal} {w : World} (h : BalB q b w) (j : Nat) : w.frozen? ⟨q, j, none⟩ = false := frozen_of_row w q j _ _ h
theorem BalB.store {q : Nat} {b : Bal} {w : World} (h : BalB q b w) (c : Bal) : BalB q c ((w.setCell ⟨q, 0, none⟩ (.int .u64 (c.1 : Nat))).setCell ⟨q, 1, none⟩ (.int .u8 (c.2 : Nat))) := by
  have h1 := heap_setCell_same w q 0 _ _ (.int .u64 (c.1 : Nat)) h
  have h2 := heap_setCell_same _ q 1 _ _ (.int .u8 (c.2 : Nat)) h1
  simpa [BalB] using h2
theorem BalB.new (w : World) (b : Bal) : BalB w.heap.size b (w.alloc (.cells #[.int .u64 (b.1 : Nat), .int .u8 (b.2 : Nat)] 25)) := heap_alloc_new w _

/-! ### the document's own answers -/
theorem refBelow_is (a b : Bal) (w : World) : Calls Try.prog 14 #[balV a, balV b] w fun r w' => r = .returned (.bool (belowL a b)) ∧ Below w.heap.size w w' := by
  go_enter Try.func14, Try.ntmps14
  unfold balV
  go_wp2
  all_goals
    go_ret
    refine ⟨congrArg (fun x => Ending.returned (Value.bool x)) ?_, ((Below.refl _ w).alloc (Nat.le_refl _) _).alloc (by simp) _⟩
    rw [Bool.eq_iff_iff]
    simp [belowL]
    try omega
theorem refMay_is (b : Bal) (w : World) : Calls Try.prog 11 #[balV b] w fun r w' => r = .returned (.bool (mayL b)) ∧ Below w.heap.size w w' := by
  go_enter Try.func11, Try.ntmps11
  unfold balV
  go_wp2
  all_goals
    go_ret
    refine ⟨congrArg (fun x => Ending.returned (Value.bool x)) ?_, (Below.refl _ w).alloc (Nat.le_refl _) _⟩
    rw [Bool.eq_iff_iff]
    simp [mayL]
    try omega
end Go.Proofs.Ytafhljmeofnbnaa
