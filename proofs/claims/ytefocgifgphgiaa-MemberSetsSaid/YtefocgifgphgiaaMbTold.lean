/-
  The laws' own 'told' over what a set's All answers: a thing to range over that tells the set's nodes.
-/
import Derived.Test.YtefocgifgphgiaaMbRef
import Derived.Test.YtefocgifgphgiaaSeqM
import Derived.Shelf.Abstract
import Derived.Shelf.RegionOpen
import Derived.WalkKit
import Derived.OwnWalkIn
import Derived.TacticsInMore
import Derived.LoopNIn
import Derived.LoopIn
import Derived.Maps.AppendAt
import Derived.RangeFuncBox
namespace Go.Proofs.Ytefocgifgphgiaa
open Go.RowKit Go.Shelf
set_option linter.unusedVariables false

attribute [local go_sem] Oper.semAt_some

theorem fn_eql_nil (t : TypeId) (ps rs : Array TypeId) (v : Bool) (h : Try.prog.underlying t = some (.func ps rs v)) (f : Fn) (a b : Array Value) (w : World) : (binOp .eql t (.func f a b) .nilFunc).run Try.prog w = .ok (.bool false) w := by
  have h1 : ∀ d, (Op.equalIn (d + 1) t (.func f a b) .nilFunc).run Try.prog w = .ok false w := fun d => by simp [Op.equalIn, run_underlying h]
  have h2 : (Op.equal t (.func f a b) .nilFunc).run Try.prog w = .ok false w := h1 9999
  simp [binOp, h2]
/-- What is handed to yield. -/
def encU (c : UInt8) : Array Value := #[.int .u8 (c.toNat : Nat)]
/-- A round leaves what All has laid as it was. -/
def KpM (lo hi : Nat) (V W W' : World) : Prop := ∀ k, lo ≤ k → k < hi → W'.heap[k]? = W.heap[k]?
/-- What a set's All answers. -/
def AllSpec : Prop := ∀ (w : World) (x : Nat), x < 256 → Calls Try.prog 25 #[.int .u8 (x : Nat)] w fun r w' => ∃ gf ba lb, r = .returned (.func (.func gf) ba lb) ∧ (∀ args v, (callFunc gf args).run Try.prog v = .ok (.enter gf args) v) ∧ TellsM Try.prog gf ba lb encU (KpM w.heap.size w'.heap.size) (nodesL x) w' ∧ Below w.heap.size w w'

theorem owns_lowU {w : World} {base base' : Nat} {e : TypeId} {size : Nat} {v : Value} {n : Nat} {xs : List Value} (h : w.ownsRow base e size v n xs) (hb : base' ≤ base) : w.ownsRow base' e size v n xs := by
  rcases h.2 with h1 | ⟨g, cap, cur, h1, h2, h3⟩
  · exact ⟨h.1, .inl h1⟩
  · exact ⟨h.1, .inr ⟨g, cap, cur, h1, Nat.le_trans hb h2, h3⟩⟩
/-- Between two rounds. -/
def ToI (w : World) (hi : Nat) (most : Int) (pre : List UInt8) (W : World) : Prop :=
  (∃ v, Boxed W (w.heap.size + 1) 22 v ∧ W.ownsRow hi 5 1 v pre.length (Lib.byteCells pre) ∧ True) ∧ Boxed W w.heap.size 3 (.int .i64 most) ∧ Below w.heap.size w W ∧ hi ≤ W.heap.size ∧ (pre.length : Int) < most
def ToX (w : World) (hi : Nat) (most : Int) (cd : Code) (pre : List UInt8) (W : World) : Prop :=
  cd = .exit 0 ∧ (∃ v, Boxed W (w.heap.size + 1) 22 v ∧ W.ownsRow hi 5 1 v pre.length (Lib.byteCells pre) ∧ True) ∧ Below w.heap.size w W ∧ (pre.length : Int) = most
theorem toI_own (w : World) (hi : Nat) (most : Int) (B : Nat) (hB : w.heap.size ≤ B) : OwnFrom B (ToI w hi most) := by
  rintro pre X Y row ⟨h1, h2, h3, h4, h5⟩ hg hr
  have hr' : ∀ r, row = some r → ∃ o : Obj, X.heap[r]? = some o ∧ o.isCells = false := fun r e => (hr r e).2
  exact ⟨holdsRow_own hi (w.heap.size + 1) 22 5 1 (fun (p : List UInt8) => p.length) (fun p => Lib.byteCells p) (fun _ _ => True) pre X Y row h1 hg hr',
    boxed_own _ _ (fun (_ : Unit) => _) () X Y row h2 hg hr', ownFrom_below (Nat.le_refl _) hB () X Y row h3 hg hr, Nat.le_trans h4 hg.size, h5⟩
theorem toX_own (w : World) (hi : Nat) (most : Int) (B : Nat) (hB : w.heap.size ≤ B) (cd : Code) : OwnFrom B (ToX w hi most cd) := by
  rintro pre X Y row ⟨h0, h1, h3, h5⟩ hg hr
  have hr' : ∀ r, row = some r → ∃ o : Obj, X.heap[r]? = some o ∧ o.isCells = false := fun r e => (hr r e).2
  exact ⟨h0, holdsRow_own hi (w.heap.size + 1) 22 5 1 (fun (p : List UInt8) => p.length) (fun p => Lib.byteCells p) (fun _ _ => True) pre X Y row h1 hg hr', ownFrom_below (Nat.le_refl _) hB () X Y row h3 hg hr, h5⟩

set_option maxRecDepth 100000 in
set_option maxHeartbeats 4000000 in
theorem told_of (A : AllSpec) (w : World) (x : Nat) (most : Int) (hx : x < 256) (m0 : 1 ≤ most) (m1 : most ≤ 99) :
    Calls Try.prog 9 #[.int .u8 (x : Nat), .int .i64 most] w fun r w' => ∃ v, r = .returned v ∧ OwnU w' w.heap.size v ((nodesL x).take most.toNat) ∧ Below w.heap.size w w' := by
  have hnil := fun v g ab bb => fn_eql_nil 42 _ _ _ Try.underlying42 (.func g) ab bb v
  have HA := Lib.hid (fun v => A v x hx)
  have hlen : (nodesL x).length ≤ 7 := by rw [len_nodes]; exact lenF_le _
  generalize nodesL x = ns at *
  have HLN := Lib.hid hlen
  clear hlen
  refine (callsIn_wide (n := 9)).1 ?_
  refine callsIn_of_wp_marks Try.func9 rfl trivial ?_ rfl
  simp only [Try.ntmps9, List.size_toArray, List.length_cons, List.length_nil, Nat.reduceAdd, Nat.reduceSub, Array.replicate_succ, Array.replicate_zero, List.push_toArray, List.append_toArray, List.nil_append, List.cons_append]
  gi_wp2_with (refine ⟨trivial, ?_⟩; gi_at_call 25; refine (callsIn_wide.2 (HA.out _)).mono ?_; rintro r w1 ⟨gf, ba, lb, rfl, hen, htl, hb1⟩)
  obtain ⟨W2, hW2⟩ : ∃ W, (w.alloc (.cells #[.int .i64 most] 3)).alloc (.cells #[.slice none 0 0] 22) = W := ⟨_, rfl⟩
  have z2 : W2.heap.size = w.heap.size + 2 := by rw [← hW2]; simp
  have c2 : Below w.heap.size w W2 := by rw [← hW2]; exact ((Below.refl _ _).alloc (Nat.le_refl _) _).alloc (by simp) _
  have q3 : Boxed W2 w.heap.size 3 (.int .i64 most) := by rw [← hW2]; exact (Boxed.new w _ _).alloc _
  have q5 : Boxed W2 (w.heap.size + 1) 22 (.slice none 0 0) := by
    rw [← hW2]
    have := Boxed.new (w.alloc (.cells #[.int .i64 most] 3)) 22 (.slice none 0 0)
    simpa using this
  rw [hW2] at htl hb1
  clear hW2
  have i0 : ToI w w1.heap.size most [] w1 :=
    ⟨⟨_, (hb1.block _ q5.lt).trans q5, World.ownsRow_nil _ _ _ _, trivial⟩, (hb1.block _ q3.lt).trans q3, c2.trans (hb1.mono c2.size), Nat.le_refl _, by simp; omega⟩
  have HSZ := Lib.hid (show W2.heap.size = w.heap.size + 2 ∧ w.heap.size + 2 ≤ w1.heap.size from ⟨z2, by have := hb1.size; omega⟩)
  rw [z2] at htl
  clear q3 q5 c2 z2 hb1
  refine range_plain_m (gf := gf) (ba := ba) (lb := lb) rfl hen htl (Below.refl _ _) (fun _ => rfl)
    (fun V W k _ _ => rfl)
    (fun V {X Y Z} h k j h1 h2 => (k j h1 h2).trans (h j h1 h2))
    (fun V W l o' h1 h2 h3 k h4 h5 => World.putObj_heap_other (by omega))
    (ToI w w1.heap.size most) (ToX w w1.heap.size most) (toI_own _ _ _ _ (by have := HSZ.out.2; omega)) (toX_own _ _ _ _ (by have := HSZ.out.2; omega)) i0
    (fun x t => t.setIfInBounds 7 (.int .u8 (x.toNat : Nat)))
    ?assign ?body ?done ?stop
  case assign =>
    intro m lp y W K hK
    simp [roundAct, encU, go_sem] at hK
    unfold encU
    gi_wp2
    exact hK
  case body =>
    rintro m lp V pre y W sV ⟨⟨v, h1, hrow6, _⟩, h2, h3, h4, h5⟩ hx
    have HX := Lib.hid hx
    have hlen : pre.length + 1 ≤ 7 := by have := hx.length_le; simp at this; have := HLN.out; omega
    clear hx
    have cO := h1.cell
    have cM := h2.cell
    obtain ⟨ti, hi, hz, hs1, hby⟩ := info_parts info_u8
    have hrow := owns_lowU hrow6 (show w.heap.size ≤ w1.heap.size by have := HSZ.out.2; omega)
    have hal6 := hrow6.alloc (.cells #[.int .u8 (y.toNat : Nat)] 5)
    have hal := hrow.alloc (.cells #[.int .u8 (y.toNat : Nat)] 5)
    have HLEN := Lib.hid hlen
    unfold roundAct encU
    by_cases hlast : ((pre.length + 1 : Nat) : Int) = most
    · have hge : most ≤ (pre.length : Int) + 1 := by omega
      gi_wp2_with (gi_at_builtin; refine wpListIn_append_own _ rfl _ _ 22 rfl w1.heap.size 5 ti (.int .u8 0) 1 1 Try.underlying22 hi hz hs1 hby rfl (by decide) _ _ _ rfl hal6 ⟨W.heap.size, 0, none⟩ 1 1 [.int .u8 (y.toNat : Nat)] rfl rfl (cell_one_new _ _ _) (by simp [Value.oneCell']) (by have := HLEN.out; unfold maxLen; omega) (by have := HLEN.out; omega) (by simp; omega) ?_; intro v' w3 hown6 hgrow _; have hown' := owns_lowU hown6 (show w.heap.size ≤ w1.heap.size by have := HSZ.out.2; omega); replace hgrow : (W.alloc (.cells #[.int .u8 (y.toNat : Nat)] 5)).grownBy w3 v.ownBlock := hgrow; obtain ⟨g', cap', rfl⟩ := ownsRow_succ hown'; obtain ⟨hv1, hv2, hr2, hk2, hb2⟩ := h1.appended (by decide) hrow h3.size (by omega) hown' hgrow; have hc1 := hv1.cell; have hf1 := hv1.frozen; have hM1 := (h2.alloc (.cells #[.int .u8 (y.toNat : Nat)] 5)).kept hgrow ((h2.alloc (.cells #[.int .u8 (y.toNat : Nat)] 5)).not_row (by decide) hal); have hcM := hM1.cell)
      have hkp : KpM (w.heap.size + 2) w1.heap.size V W (w3.setCell ⟨w.heap.size + 1, 0, none⟩ (.slice (some ⟨g', 0, none⟩) (pre.length + 1) cap')) := by
        intro k h6 h7
        rw [Below.heap_setCell _ _ _ _ (by show k ≠ w.heap.size + 1; omega), hgrow.block k (by simp; omega) (fun e => by have := (hrow6.lt k e.symm).1; omega)]
        exact Below.heap_alloc W _ _ (by omega)
      have hr6 := hown6.kept (grownBy_setCell' w3 (w.heap.size + 1) (.slice (some ⟨g', 0, none⟩) (pre.length + 1) cap')) (.inr (hv1.not_row (by decide) hown6).symm)
      have hr7 : (w3.setCell ⟨w.heap.size + 1, 0, none⟩ (.slice (some ⟨g', 0, none⟩) (pre.length + 1) cap')).ownsRow w1.heap.size 5 1 (.slice (some ⟨g', 0, none⟩) (pre.length + 1) cap') (pre ++ [y]).length (Lib.byteCells (pre ++ [y])) := by
        rw [List.length_append, Lib.byteCells_append]
        exact hr6
      exact ⟨hk2.from _, hkp, rfl, ⟨_, hv2, hr7, trivial⟩, h3.trans hb2, by rw [List.length_append]; exact hlast⟩
    · have hge : ¬ most ≤ (pre.length : Int) + 1 := by omega
      gi_wp2_with (gi_at_builtin; refine wpListIn_append_own _ rfl _ _ 22 rfl w1.heap.size 5 ti (.int .u8 0) 1 1 Try.underlying22 hi hz hs1 hby rfl (by decide) _ _ _ rfl hal6 ⟨W.heap.size, 0, none⟩ 1 1 [.int .u8 (y.toNat : Nat)] rfl rfl (cell_one_new _ _ _) (by simp [Value.oneCell']) (by have := HLEN.out; unfold maxLen; omega) (by have := HLEN.out; omega) (by simp; omega) ?_; intro v' w3 hown6 hgrow _; have hown' := owns_lowU hown6 (show w.heap.size ≤ w1.heap.size by have := HSZ.out.2; omega); replace hgrow : (W.alloc (.cells #[.int .u8 (y.toNat : Nat)] 5)).grownBy w3 v.ownBlock := hgrow; obtain ⟨g', cap', rfl⟩ := ownsRow_succ hown'; obtain ⟨hv1, hv2, hr2, hk2, hb2⟩ := h1.appended (by decide) hrow h3.size (by omega) hown' hgrow; have hc1 := hv1.cell; have hf1 := hv1.frozen; have hM1 := (h2.alloc (.cells #[.int .u8 (y.toNat : Nat)] 5)).kept hgrow ((h2.alloc (.cells #[.int .u8 (y.toNat : Nat)] 5)).not_row (by decide) hal); have hcM := hM1.cell)
      have hkp : KpM (w.heap.size + 2) w1.heap.size V W (w3.setCell ⟨w.heap.size + 1, 0, none⟩ (.slice (some ⟨g', 0, none⟩) (pre.length + 1) cap')) := by
        intro k h6 h7
        rw [Below.heap_setCell _ _ _ _ (by show k ≠ w.heap.size + 1; omega), hgrow.block k (by simp; omega) (fun e => by have := (hrow6.lt k e.symm).1; omega)]
        exact Below.heap_alloc W _ _ (by omega)
      have hr6 := hown6.kept (grownBy_setCell' w3 (w.heap.size + 1) (.slice (some ⟨g', 0, none⟩) (pre.length + 1) cap')) (.inr (hv1.not_row (by decide) hown6).symm)
      have hr7 : (w3.setCell ⟨w.heap.size + 1, 0, none⟩ (.slice (some ⟨g', 0, none⟩) (pre.length + 1) cap')).ownsRow w1.heap.size 5 1 (.slice (some ⟨g', 0, none⟩) (pre.length + 1) cap') (pre ++ [y]).length (Lib.byteCells (pre ++ [y])) := by
        rw [List.length_append, Lib.byteCells_append]
        exact hr6
      refine ⟨hk2.from _, hkp, ⟨_, hv2, hr7, trivial⟩, ?_, h3.trans hb2, ?_, ?_⟩
      · exact hM1.other (by omega) _
      · exact Nat.le_trans h4 hk2.size
      · rw [List.length_append, List.length_singleton]; omega
  case done =>
    rintro D W hD ⟨⟨v, h1, hrow6, _⟩, h2, h3, h4, h5⟩ hK
    have cO := h1.cell
    have ht : ns.take most.toNat = ns := List.take_of_length_le (by omega)
    have HT := Lib.hid ht
    have hX := toX_own w w1.heap.size (ns.length : Nat) w1.heap.size (by have := HSZ.out.2; omega) (.exit 0) ns W _ _ ⟨rfl, ⟨v, h1, hrow6, trivial⟩, h3, rfl⟩ (grownBy_putObj' W D (.deferred none)) (fun r e => by cases e; exact ⟨hD, _, hK, rfl⟩)
    obtain ⟨_, ⟨v', b0, row, _⟩, hb, _⟩ := hX
    have hvv : v' = v := by
      have e1 := b0.cell
      have e2 : (W.putObj D (.deferred none)).cell? ⟨w.heap.size + 1, 0, none⟩ = some v := (boxed_own (w.heap.size + 1) 22 (fun (_ : Unit) => v) () _ _ _ h1 (grownBy_putObj' W D (.deferred none)) (fun r e => by cases e; exact ⟨_, hK, rfl⟩)).cell
      rw [e1] at e2
      simpa using e2
    subst hvv
    have HK := Lib.hid hK
    have HR := Lib.hid (owns_lowU row (show w.heap.size ≤ w1.heap.size by have := HSZ.out.2; omega))
    have HB := Lib.hid hb
    clear hK ht row hb b0 h1 hrow6 h2
    gi_wp2
    refine ⟨by simp, .inl ⟨_, _, rfl, run_takeDeferred HK.out, v', by simp [results, Try.f9, go_sem], v', rfl, ?_, HB.out⟩⟩
    rw [HT.out]
    exact HR.out
  case stop =>
    rintro D cd pre W hD hpre ⟨rfl, ⟨v, h1, hrow6, _⟩, h3, h5⟩ hK
    have cO := h1.cell
    have ht : ns.take most.toNat = pre := by
      have e : most.toNat = pre.length := by omega
      rw [e]
      exact (List.prefix_iff_eq_take.1 hpre).symm
    have HT := Lib.hid ht
    have hX := toX_own w w1.heap.size most w1.heap.size (by have := HSZ.out.2; omega) (.exit 0) pre W _ _ ⟨rfl, ⟨v, h1, hrow6, trivial⟩, h3, h5⟩ (grownBy_putObj' W D (.deferred none)) (fun r e => by cases e; exact ⟨hD, _, hK, rfl⟩)
    obtain ⟨_, ⟨v', b0, row, _⟩, hb, _⟩ := hX
    have hvv : v' = v := by
      have e1 := b0.cell
      have e2 : (W.putObj D (.deferred none)).cell? ⟨w.heap.size + 1, 0, none⟩ = some v := (boxed_own (w.heap.size + 1) 22 (fun (_ : Unit) => v) () _ _ _ h1 (grownBy_putObj' W D (.deferred none)) (fun r e => by cases e; exact ⟨_, hK, rfl⟩)).cell
      rw [e1] at e2
      simpa using e2
    subst hvv
    have HK := Lib.hid hK
    have HR := Lib.hid (owns_lowU row (show w.heap.size ≤ w1.heap.size by have := HSZ.out.2; omega))
    have HB := Lib.hid hb
    clear hK ht row hb b0 h1 hrow6
    gi_wp2
    refine ⟨by simp, .inl ⟨_, _, rfl, run_takeDeferred HK.out, v', by simp [results, Try.f9, go_sem], v', rfl, ?_, HB.out⟩⟩
    rw [HT.out]
    exact HR.out
end Go.Proofs.Ytefocgifgphgiaa
