/-
  What the calls on sets answer, as the laws of layer 8 meet them: a specification; and the document's own answers.
-/
import Derived.Test.YtefocgifgphgiaaMbPure
import Derived.Test.YtefocgifgphgiaaApp
import Derived.Test.YtefocgifgphgiaaRowLib
import Derived.Deep.DeepCutAuto
import Derived.Deep.CutBlock
namespace Go.Proofs.Ytefocgifgphgiaa
open Go.RowKit
set_option linter.unusedVariables false

/-- A row of bytes that a call has made. -/
def OwnU (w : World) (base : Nat) (v : Value) (l : List UInt8) : Prop := w.ownsRow base 5 1 v l.length (Lib.byteCells l)
theorem OwnU.form {w : World} {base : Nat} {v : Value} {l : List UInt8} (h : OwnU w base v l) : ∃ a c, v = .slice a l.length c ∧ Src w a l.length c l := src_of_owns h
theorem OwnU.below {w w' : World} {base : Nat} {v : Value} {l : List UInt8} (h : OwnU w base v l) (hb : Below w.heap.size w w') : OwnU w' base v l := ownsRow_below h hb
theorem OwnU.src {w : World} {base : Nat} {a : Option Addr} {n c : Nat} {l : List UInt8} (h : OwnU w base (.slice a n c) l) : n = l.length ∧ Src w a n c l := by
  obtain ⟨a', c', e, hs⟩ := h.form
  simp only [Value.slice.injEq] at e
  obtain ⟨rfl, rfl, rfl⟩ := e
  exact ⟨rfl, hs⟩
/-- The byte at an index of a source. -/
theorem Src.nth {w : World} {a : Option Addr} {n c : Nat} {l : List UInt8} (h : Src w a n c l) (h0 : 0 < n) : ∃ b off, a = some ⟨b, off, none⟩ ∧ ∀ j (hj : j < l.length), w.cell? ⟨b, off + j, none⟩ = some (.int .u8 (l[j].toNat : Nat)) := by
  cases a with
  | none => exact absurd (h.nul rfl).1 (by omega)
  | some ad =>
    obtain ⟨b, off, sp⟩ := ad
    have hl := h.len
    have key : ∀ j (hj : j < l.length), (Lib.byteCells l)[j]? = some (.int .u8 (l[j].toNat : Nat)) := by
      intro j hj
      simp [Lib.byteCells, hj]
    have hs : sp = none := by
      have := World.cell?_spot (h.cell _ rfl 0 _ (key 0 (by omega)))
      simpa [Addr.add] using this
    subst hs
    refine ⟨b, off, rfl, fun j hj => ?_⟩
    have := h.cell _ rfl j _ (key j hj)
    rwa [Addr.add_lit] at this

structure MemberSpec : Prop where
  of : ∀ w a n c l, Src w a n c l → n ≤ 100 → Calls Try.prog 10 #[.slice a n c] w fun r w' => r = .returned (.int .u8 (ofL l : Nat)) ∧ Below w.heap.size w w'
  first : ∀ w (i : Int), -9223372036854775808 ≤ i → i ≤ 9223372036854775807 → Calls Try.prog 12 #[.int .i64 i] w fun r w' => r = .returned (.int .u8 (firstL i : Nat)) ∧ Below w.heap.size w w'
  has : ∀ w (x n : Nat), x < 256 → n < 256 → Calls Try.prog 13 #[.int .u8 (x : Nat), .int .u8 (n : Nat)] w fun r w' => r = .returned (.bool (hasL x n)) ∧ Below w.heap.size w w'
  with_ : ∀ w (x y : Nat), x < 256 → y < 256 → Calls Try.prog 17 #[.int .u8 (x : Nat), .int .u8 (y : Nat)] w fun r w' => r = .returned (.int .u8 (withL x y : Nat)) ∧ Below w.heap.size w w'
  without : ∀ w (x y : Nat), x < 256 → y < 256 → Calls Try.prog 18 #[.int .u8 (x : Nat), .int .u8 (y : Nat)] w fun r w' => r = .returned (.int .u8 (withoutL x y : Nat)) ∧ Below w.heap.size w w'
  both : ∀ w (x y : Nat), x < 256 → y < 256 → Calls Try.prog 19 #[.int .u8 (x : Nat), .int .u8 (y : Nat)] w fun r w' => r = .returned (.int .u8 (bothL x y : Nat)) ∧ Below w.heap.size w w'
  len : ∀ w (x : Nat), x < 256 → Calls Try.prog 15 #[.int .u8 (x : Nat)] w fun r w' => r = .returned (.int .i64 (lenL x : Nat)) ∧ Below w.heap.size w w'
  need : ∀ w (x : Nat), x < 256 → Calls Try.prog 24 #[.int .u8 (x : Nat)] w fun r w' => r = .returned (.int .i64 (needL x : Nat)) ∧ Below w.heap.size w w'
  major : ∀ w (x y : Nat), x < 256 → y < 256 → Calls Try.prog 20 #[.int .u8 (x : Nat), .int .u8 (y : Nat)] w fun r w' => r = .returned (.bool (majorL x y)) ∧ Below w.heap.size w w'
  may : ∀ w (x y : Nat), x < 256 → y < 256 → Calls Try.prog 22 #[.int .u8 (x : Nat), .int .u8 (y : Nat)] w fun r w' => r = .returned (.bool (mayS x y)) ∧ Below w.heap.size w w'
  told : ∀ w (x : Nat) (most : Int), x < 256 → 1 ≤ most → most ≤ 99 → Calls Try.prog 9 #[.int .u8 (x : Nat), .int .i64 most] w fun r w' => ∃ v, r = .returned v ∧ OwnU w' w.heap.size v ((nodesL x).take most.toNat) ∧ Below w.heap.size w w'

/-! ### the document's own answers -/
def anyL (l : List UInt8) (n : Nat) : Bool := l.any fun c => c.toNat == n
set_option maxRecDepth 100000 in
theorem refHas_is (w : World) (a : Option Addr) (n c : Nat) (l : List UInt8) (k : Nat) (h : Src w a n c l) (hn : n ≤ 1000000) :
    Calls Try.prog 14 #[.slice a n c, .int .u8 (k : Nat)] w fun r w' => r = .returned (.bool (anyL l k)) ∧ w = w' := by
  have HS := Lib.hid h
  have HL := Lib.hid h.len
  clear h
  go_enter Try.func14, Try.ntmps14
  go_wp2_with fail
  go_loopw [5] (fun iv wx => wx = w ∧ ∃ i : Nat, i ≤ n ∧ iv = .int .i64 i ∧ anyL (l.take i) k = false) (fun iv _ => n - (intOf iv).toNat)
  case atStart => exact ⟨rfl, 0, by omega, rfl, rfl⟩
  case round =>
    obtain ⟨rfl, i, hi, rfl, hno⟩ := hrel
    have HNO := Lib.hid hno
    clear hno
    by_cases hlt : i < n
    · have hil : i < l.length := by rw [HL.out]; exact hlt
      obtain ⟨b, off, rfl, hc⟩ := HS.out.nth (by omega)
      have c0 := hc i hil
      have HT := Lib.hid (show anyL (l.take (i + 1)) k = (l[i].toNat == k) by
        have := HNO.out
        unfold anyL at *
        rw [List.take_succ_eq_append_getElem hil, List.any_append, this]
        simp)
      have HA := Lib.hid (show (l[i].toNat == k) = true → anyL l k = true from fun e => List.any_eq_true.2 ⟨_, List.getElem_mem hil, e⟩)
      generalize l[i] = x at c0 HT HA
      clear hc
      by_cases e : x.toNat = k
      · have ei : (x.toNat : Int) = (k : Int) := by omega
        have HR := Lib.hid (HA.out (by simpa using e))
        clear e
        go_wp2_with fail
        go_ret
        exact ⟨by rw [HR.out]; rfl, rfl⟩
      · have ei : ¬ (x.toNat : Int) = (k : Int) := by omega
        have HR := Lib.hid (HT.out.trans (show (x.toNat == k) = false by simpa using e))
        clear e
        go_wp2_with fail
        go_roundw
        case rel => exact ⟨by first | rfl | trivial, i + 1, by omega, by go_num, HR.out⟩
        case measure => simp [intOf]; omega
    · have hin : i = n := by omega
      have HR := Lib.hid (show anyL l k = false by have := HNO.out; rwa [hin, ← HL.out, List.take_length] at this)
      go_wp2_with fail
      go_ret
      exact ⟨by rw [HR.out]; rfl, rfl⟩

set_option maxRecDepth 100000 in
theorem refSet_is (w : World) (a : Option Addr) (n c : Nat) (l : List UInt8) (h : Src w a n c l) (hn : n ≤ 1000000) :
    Calls Try.prog 11 #[.slice a n c] w fun r w' => r = .returned (.int .u8 (ofL l : Nat)) ∧ w = w' := by
  have HS := Lib.hid h
  have HN := Lib.hid hn
  have HE := Lib.hid (mkU_end fun k => anyL l k)
  have HF := Lib.hid (show mkL (fun k => anyL l k) = ofL l from rfl)
  have HM := Lib.hid (mk_lt fun k => anyL l k)
  clear h hn
  go_enter Try.func11, Try.ntmps11
  go_wp2_with fail
  go_loopw [3, 4, 5] (fun sv vv iv wx => wx = w ∧ ∃ i : Nat, i ≤ 7 ∧ iv = .int .i64 i ∧ sv = .int .i64 (mkU (fun k => anyL l k) i : Nat) ∧ vv = .int .i64 (2 ^ i : Nat)) (fun _ _ iv _ => 7 - (intOf iv).toNat)
  case atStart => exact ⟨rfl, 0, by omega, rfl, rfl, rfl⟩
  case round =>
    obtain ⟨rfl, i, hi, rfl, rfl, rfl⟩ := hrel
    by_cases hlt : i < 7
    · have hmu := mkU_lt (fun k => anyL l k) i
      have hpw : 2 ^ i ≤ 64 := by
        have : ∀ k : Fin 7, 2 ^ k.val ≤ 64 := by decide
        exact this ⟨i, hlt⟩
      have hst : mkU (fun k => anyL l k) (i + 1) = mkU (fun k => anyL l k) i + (anyL l i).toNat * 2 ^ i := rfl
      have hp2 : 2 ^ (i + 1) = 2 * 2 ^ i := by rw [Nat.pow_succ]; omega
      have HCL := Lib.hid (fun v (hv : Src v a n c l) => refHas_is v a n c l i hv HN.out)
      have hw8 : IntKind.u8.wrap (i : Int) = (i : Int) := by
        have : ∀ k : Fin 7, IntKind.u8.wrap (k.val : Int) = (k.val : Int) := by decide
        exact this ⟨i, hlt⟩
      generalize mkU (fun k => anyL l k) i = m at *
      generalize 2 ^ i = p at *
      have HST := Lib.hid hst
      have HP2 := Lib.hid hp2
      clear hst hp2
      rcases ht : anyL l i with _ | _
      · have h3 := HCL.out
        rw [ht] at h3
        have H3 := Lib.hid h3
        have HM2 := Lib.hid (show mkU (fun k => anyL l k) (i + 1) = m by rw [HST.out, ht]; simp)
        clear h3 ht HCL
        go_wp2_with (go_at_call 14; (with_reducible refine (H3.out _ HS.out).mono ?_); rintro r w1 ⟨rfl, rfl⟩)
        go_roundw
        case rel => exact ⟨by first | rfl | trivial, i + 1, by omega, by go_num, by rw [HM2.out], by rw [HP2.out, Int.natCast_mul]; rfl⟩
        case measure => simp [intOf]; omega
      · have h3 := HCL.out
        rw [ht] at h3
        have H3 := Lib.hid h3
        have HM2 := Lib.hid (show mkU (fun k => anyL l k) (i + 1) = m + p by rw [HST.out, ht]; simp)
        clear h3 ht HCL
        go_wp2_with (go_at_call 14; (with_reducible refine (H3.out _ HS.out).mono ?_); rintro r w1 ⟨rfl, rfl⟩)
        go_roundw
        case rel => exact ⟨by first | rfl | trivial, i + 1, by omega, by go_num, by rw [HM2.out, Int.natCast_add], by rw [HP2.out, Int.natCast_mul]; rfl⟩
        case measure => simp [intOf]; omega
    · have hin : i = 7 := by omega
      subst hin
      rw [HE.out, HF.out]
      have hm := HM.out
      rw [HF.out] at hm
      have hw8 : IntKind.u8.wrap (ofL l : Int) = (ofL l : Int) := by
        have : ∀ k : Fin 128, IntKind.u8.wrap (k.val : Int) = (k.val : Int) := by decide
        exact this ⟨ofL l, hm⟩
      go_wp2_with fail
      go_ret
      exact ⟨rfl, rfl⟩
end Go.Proofs.Ytefocgifgphgiaa
