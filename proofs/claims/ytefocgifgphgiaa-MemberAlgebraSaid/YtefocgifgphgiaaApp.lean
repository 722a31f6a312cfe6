/-
  'append' of bytes from whatever source (nil, empty, owned, an argument) to a slice that the call owns, as a law of the run, of the walk, and of a step of a region that draws its order.
-/
import Derived.Test.YtefocgifgphgiaaPut
import Derived.Deep.RegionLaw
namespace Go.Proofs.Ytefocgifgphgiaa
open Go.RowKit
set_option linter.unusedVariables false

theorem run_append_src (w : World) (ty : TypeId) (base : Nat) (v : Value) (n : Nat) (xs : List UInt8) (hown : w.ownsRow base 5 1 v n (Lib.byteCells xs))
    (sa : Option Addr) (m c : Nat) (l : List UInt8) (hs : Src w sa m c l) (hsz : n + m ≤ 140737488355328) (hbase : base ≤ w.heap.size) :
    ∃ v' w', (Builtin.append_ #[22, 22] ty #[v, .slice sa m c]).run Try.prog w = .ok v' w' ∧ w'.ownsRow base 5 1 v' (n + m) (Lib.byteCells (xs ++ l)) ∧ w.grownBy w' v.ownBlock := by
  obtain ⟨ti, hi, hz, hs1, hby⟩ := info_parts info_u8
  rw [Lib.byteCells_append]
  cases sa with
  | none =>
    obtain ⟨rfl, rfl⟩ := hs.nul rfl
    obtain rfl := List.eq_nil_of_length_eq_zero hs.len
    have hr := run_append_owned_none (P := Try.prog) w base 22 ty 5 ti 1 Try.underlying22 hi v n _ hown
    exact ⟨v, w, hr, by simpa [Lib.byteCells] using hown, World.grownBy.refl _ _⟩
  | some ad =>
    obtain ⟨v', w', h1, h2, h3, _⟩ := run_append_own (P := Try.prog) w base 22 ty 5 ti (.int .u8 0) 1 1 Try.underlying22 hi hz hs1 hby rfl (by decide) v n _ hown ad m c (Lib.byteCells l)
      (by rw [Lib.byteCells_length, hs.len]; omega) (hs.cell ad rfl) (bytes_one l) (by unfold maxLen; omega) (by omega) hbase
    exact ⟨v', w', h1, h2, h3⟩

theorem wp_append_src (w : World) {o : Oper} {a : Act} {K : Act → World → Prop} {Q : Exit → Act → World → Prop} (s x : Operand)
    (ho : o.op = .call { callee := .builtin .append, args := #[s, x], argTypes := #[22, 22] })
    (base : Nat) (v : Value) (n : Nat) (xs : List UInt8) (hv : a.eval s = v) (hown : w.ownsRow base 5 1 v n (Lib.byteCells xs))
    (sa : Option Addr) (m c : Nat) (l : List UInt8) (hx : a.eval x = .slice sa m c) (hs : Src w sa m c l) (hsz : n + m ≤ 140737488355328) (hbase : base ≤ w.heap.size)
    (h : ∀ v' w', w'.ownsRow base 5 1 v' (n + m) (Lib.byteCells (xs ++ l)) → w.grownBy w' v.ownBlock → K (a.put o.dst v') w') : o.wp Try.prog a w K Q := by
  obtain ⟨v', w', hr, h2, h3⟩ := run_append_src w o.type base v n xs hown sa m c l hs hsz hbase
  unfold Oper.wp execOp
  simp only [ho, resolve, invoke, builtin, Sem.run_bind, Sem.run_pure, Result.andThen_ok, List.map_toArray, List.map_cons, List.map_nil, hv, hx, hr]
  exact h v' w' h2 h3

theorem wpList_append_src (w : World) {ops : Array Oper} {rest : List Oper} {o : Oper} {a : Act} {Q : Exit → Act → World → Prop} (hgd : o.guard = none) (s x : Operand)
    (ho : o.op = .call { callee := .builtin .append, args := #[s, x], argTypes := #[22, 22] })
    (base : Nat) (v : Value) (n : Nat) (xs : List UInt8) (hv : a.eval s = v) (hown : w.ownsRow base 5 1 v n (Lib.byteCells xs))
    (sa : Option Addr) (m c : Nat) (l : List UInt8) (hx : a.eval x = .slice sa m c) (hs : Src w sa m c l) (hsz : n + m ≤ 140737488355328) (hbase : base ≤ w.heap.size)
    (h : ∀ v' w', w'.ownsRow base 5 1 v' (n + m) (Lib.byteCells (xs ++ l)) → w.grownBy w' v.ownBlock → wpList Try.prog ops Q rest (a.put o.dst v') w') : wpList Try.prog ops Q (o :: rest) a w :=
  wpList_plain hgd fun _ hK => wp_append_src w s x ho base v n xs hv hown sa m c l hx hs hsz hbase fun v' w' h2 h3 => hK _ _ (h v' w' h2 h3)

theorem step_append_src (w : World) {ops : Array Oper} {o : Oper} {a : Act} {K : Act → World → Prop} {Q : Exit → Act → World → Prop} {E : Prop} (hw : Region.wanted o (yielded ops a.tmps) = true) (s x : Operand)
    (ho : o.op = .call { callee := .builtin .append, args := #[s, x], argTypes := #[22, 22] })
    (base : Nat) (v : Value) (n : Nat) (xs : List UInt8) (hv : a.eval s = v) (hown : w.ownsRow base 5 1 v n (Lib.byteCells xs))
    (sa : Option Addr) (m c : Nat) (l : List UInt8) (hx : a.eval x = .slice sa m c) (hs : Src w sa m c l) (hsz : n + m ≤ 140737488355328) (hbase : base ≤ w.heap.size)
    (h : ∀ v' w', w'.ownsRow base 5 1 v' (n + m) (Lib.byteCells (xs ++ l)) → w.grownBy w' v.ownBlock → K (a.put o.dst v') w') :
    if Region.wanted o (yielded ops a.tmps) = true then Oper.wp Try.prog o a w K Q else E := by
  rw [if_pos hw]
  exact wp_append_src w s x ho base v n xs hv hown sa m c l hx hs hsz hbase h

/-- What is owned, whatever its shape, is a source. -/
theorem src_of_owns {w : World} {base : Nat} {v : Value} {n : Nat} {l : List UInt8} (h : w.ownsRow base 5 1 v n (Lib.byteCells l)) :
    ∃ a c, v = .slice a n c ∧ Src w a n c l := by
  have hl : l.length = n := by have := h.1; simpa [Lib.byteCells_length] using this
  rcases h.2 with ⟨rfl, rfl⟩ | ⟨g, cap, cur, rfl, _⟩
  · obtain rfl := List.eq_nil_of_length_eq_zero hl
    exact ⟨none, 0, rfl, Src.nil w⟩
  · exact ⟨some ⟨g, 0, none⟩, cap, rfl, Src.of_own h⟩

/-- A new block of one byte is owned. -/
theorem own_one (w : World) (x : UInt8) (n : Int) (hn : (x.toNat : Int) = n) : (w.alloc (.cells #[.int .u8 n] 5)).ownsRow w.heap.size 5 1 (.slice (some ⟨w.heap.size, 0, none⟩) 1 1) 1 (Lib.byteCells [x]) := by
  subst hn
  exact World.ownsRow_lit w #[.int .u8 x.toNat] 1 (Nat.le_refl _) (by decide) rfl

/-- Behind a step that may write into rows of the call's own alone. -/
theorem bgo {w0 w w' : World} {row : Option Nat} (h : Below w0.heap.size w0 w) (g : w.grownBy w' row) (hb : ∀ k, row = some k → w0.heap.size ≤ k) : Below w0.heap.size w0 w' := h.grown g h.size hb

theorem Src.drew {w : World} {a : Option Addr} {n c : Nat} {l : List UInt8} (h : Src w a n c l) : Src w.drew a n c l := ⟨h.len, h.nul, h.cell⟩

/-- append([]byte(nil), b...). In a region that draws its order: 'rw [if_pos (by kernel_rfl)]' ahead of it. -/
theorem wp_append_nil (w : World) {o : Oper} {a : Act} {K : Act → World → Prop} {Q : Exit → Act → World → Prop} (s x : Operand)
    (ho : o.op = .call { callee := .builtin .append, args := #[s, x], argTypes := #[22, 22] })
    (hv : a.eval s = .slice none 0 0) (sa : Option Addr) (m c : Nat) (l : List UInt8) (hx : a.eval x = .slice sa m c) (hs : Src w sa m c l) (hsz : m ≤ 140737488355328)
    (h : ∀ a' c' w', Src w' a' m c' l → Below w.heap.size w w' → K (a.put o.dst (.slice a' m c')) w') : o.wp Try.prog a w K Q := by
  refine wp_append_src w s x ho w.heap.size (.slice none 0 0) 0 [] hv (World.ownsRow_nil _ _ _ _) sa m c l hx hs (by omega) (Nat.le_refl _) ?_
  intro v' w' ho' hg
  simp only [Nat.zero_add, List.nil_append] at ho'
  obtain ⟨a2, c2, rfl, hs2⟩ := src_of_owns ho'
  exact h a2 c2 w' hs2 ((Below.refl _ _).grown hg (Nat.le_refl _) (by simp [Value.ownBlock]))

end Go.Proofs.Ytefocgifgphgiaa
