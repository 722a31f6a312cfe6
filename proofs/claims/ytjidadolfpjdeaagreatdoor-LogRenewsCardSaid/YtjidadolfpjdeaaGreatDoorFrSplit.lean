/-
  Package frame's Split over this translation: what it answers.
-/
import Derived.Test.YtjidadolfpjdeaaGreatDoorFrSeq
import Derived.Test.YtjidadolfpjdeaaGreatDoorMa
import Derived.Maps.AppendAt
import Derived.RangeFuncBox
namespace Go.Proofs.YtjidadolfpjdeaaGreatDoor
open Go.RowKit Go.Shelf
set_option linter.unusedVariables false

attribute [local go_sem] Oper.semAt_some

/-- Texts as values. -/
def strV (ls : List (List UInt8)) : List Value := ls.map fun l => .string (B l)
theorem strV_snoc (ls : List (List UInt8)) (l : List UInt8) : strV (ls ++ [l]) = strV ls ++ [.string (B l)] := by simp [strV]
theorem strV_length (ls : List (List UInt8)) : (strV ls).length = ls.length := by simp [strV]

theorem info_str : (Tryz.prog.info? 9).map (fun i => (i.zero, i.size, i.bytes)) = some (some (.string ⟨#[]⟩), 1, 16) := by kernel_rfl

theorem ownsRow_low {W : World} {b b' : Nat} {e : TypeId} {size : Nat} {v : Value} {k : Nat} {xs : List Value} (h : W.ownsRow b e size v k xs) (hb : b' ≤ b) : W.ownsRow b' e size v k xs := by
  refine ⟨h.1, ?_⟩
  rcases h.2 with h' | ⟨g, cap, cur, he, hg, rest⟩
  · exact .inl h'
  · exact .inr ⟨g, cap, cur, he, Nat.le_trans hb hg, rest⟩

/-- Between two rounds of Split. -/
def SpI (w : World) (pre : List Found) (W : World) : Prop :=
  okL pre ∧ (∃ v, Boxed W (w.heap.size + 3) 23 v ∧ W.ownsRow (w.heap.size + 6) 9 1 v pre.length (strV (insides pre)) ∧ True) ∧ Boxed W (w.heap.size + 4) 3 (.int .i64 (endOf 0 pre)) ∧
    Boxed W w.heap.size 23 (.slice none 0 0) ∧ Boxed W (w.heap.size + 1) 3 (.int .i64 0) ∧ Boxed W (w.heap.size + 2) 24 (.int .i64 0) ∧ Below w.heap.size w W ∧ w.heap.size + 6 ≤ W.heap.size

/-- What Split has laid in its results. -/
def SpX (w : World) (ls : List (List UInt8)) (e1 e2 : Int) (W : World) : Prop :=
  (∃ v, Boxed W w.heap.size 23 v ∧ W.ownsRow w.heap.size 9 1 v ls.length (strV ls) ∧ True) ∧ Boxed W (w.heap.size + 1) 3 (.int .i64 e1) ∧ Boxed W (w.heap.size + 2) 24 (.int .i64 e2) ∧ Below w.heap.size w W

/-- A round that has left: by a return, behind what is no frame. -/
def SpOut (w : World) (c : Code) (pre : List Found) (W : World) : Prop := c = .ret ∧ ∃ pre0 x, pre = pre0 ++ [x] ∧ okL pre0 ∧ x.2.2.2 ≠ 0 ∧ SpX w (insides pre0) (endOf 0 pre0) x.2.2.2 W

theorem spI_own (w : World) (B : Nat) (hB : w.heap.size ≤ B) : OwnFrom B (SpI w) := by
  rintro pre X Y row ⟨h0, h1, h2, h3, h4, h5, h6, h7⟩ hg hr
  have hr' : ∀ r, row = some r → ∃ o : Obj, X.heap[r]? = some o ∧ o.isCells = false := fun r e => (hr r e).2
  exact ⟨h0, holdsRow_own (w.heap.size + 6) (w.heap.size + 3) 23 9 1 (fun (p : List Found) => p.length) (fun p => strV (insides p)) (fun _ _ => True) pre X Y row h1 hg hr',
    boxed_own _ _ (fun (p : List Found) => Value.int .i64 (endOf 0 p)) pre X Y row h2 hg hr', boxed_own _ _ (fun (_ : Unit) => _) () X Y row h3 hg hr', boxed_own _ _ (fun (_ : Unit) => _) () X Y row h4 hg hr', boxed_own _ _ (fun (_ : Unit) => _) () X Y row h5 hg hr',
    ownFrom_below (Nat.le_refl _) hB () X Y row h6 hg hr, Nat.le_trans h7 hg.size⟩

theorem spX_own (w : World) (ls : List (List UInt8)) (e1 e2 : Int) (B : Nat) (hB : w.heap.size ≤ B) : OwnFrom B (fun (_ : Unit) W => SpX w ls e1 e2 W) := by
  rintro _ X Y row ⟨h1, h2, h3, h6⟩ hg hr
  have hr' : ∀ r, row = some r → ∃ o : Obj, X.heap[r]? = some o ∧ o.isCells = false := fun r e => (hr r e).2
  exact ⟨holdsRow_own w.heap.size w.heap.size 23 9 1 (fun (_ : Unit) => ls.length) (fun _ => strV ls) (fun _ _ => True) () X Y row h1 hg hr',
    boxed_own _ _ (fun (_ : Unit) => _) () X Y row h2 hg hr', boxed_own _ _ (fun (_ : Unit) => _) () X Y row h3 hg hr', ownFrom_below (Nat.le_refl _) hB () X Y row h6 hg hr⟩

/-- The results laid. -/
def laidS (w : World) (v : Value) (e1 e2 : Int) (W : World) : World :=
  (((W.setCell ⟨w.heap.size, 0, none⟩ v).setCell ⟨w.heap.size + 1, 0, none⟩ (.int .i64 e1)).setCell ⟨w.heap.size + 1 + 1, 0, none⟩ (.int .i64 e2)).drew

theorem laidS_ok (w W : World) (ls : List (List UInt8)) (v u : Value) (e1 e2 z1 z2 : Int) (h3 : Boxed W w.heap.size 23 u) (h4 : Boxed W (w.heap.size + 1) 3 (.int .i64 z1)) (h5 : Boxed W (w.heap.size + 2) 24 (.int .i64 z2))
    (hrow : W.ownsRow (w.heap.size + 6) 9 1 v ls.length (strV ls)) (h6 : Below w.heap.size w W) :
    KeepsOthers W (laidS w v e1 e2 W) ∧ (laidS w v e1 e2 W).heap[w.heap.size + 5]? = W.heap[w.heap.size + 5]? ∧ SpX w ls e1 e2 (laidS w v e1 e2 W) := by
  have hr0 := ownsRow_low hrow (Nat.le_add_right w.heap.size 6)
  have ne : ∀ k, k < w.heap.size + 6 → v.ownBlock ≠ some k := fun k hk e => by have := (hrow.lt _ e).1; omega
  have r1 := hr0.kept (grownBy_setCell' W w.heap.size v) (.inr (ne _ (by omega)))
  have r2 := r1.kept (grownBy_setCell' _ (w.heap.size + 1) (.int .i64 e1)) (.inr (ne _ (by omega)))
  have r3 := r2.kept (grownBy_setCell' _ (w.heap.size + 1 + 1) (.int .i64 e2)) (.inr (ne _ (by omega)))
  refine ⟨(((KeepsOthers.setCell _ _ _).trans (KeepsOthers.setCell _ _ _)).trans (KeepsOthers.setCell _ _ _)).trans (KeepsOthers.drew _), ?_, ⟨v, ?_, r3, trivial⟩, ?_, ?_, ?_⟩
  · show (((W.setCell ⟨w.heap.size, 0, none⟩ v).setCell ⟨w.heap.size + 1, 0, none⟩ (.int .i64 e1)).setCell ⟨w.heap.size + 1 + 1, 0, none⟩ (.int .i64 e2)).heap[w.heap.size + 5]? = _
    rw [Below.heap_setCell _ _ _ _ (by show w.heap.size + 5 ≠ w.heap.size + 1 + 1; omega), Below.heap_setCell _ _ _ _ (by show w.heap.size + 5 ≠ w.heap.size + 1; omega), Below.heap_setCell _ _ _ _ (by show w.heap.size + 5 ≠ w.heap.size; omega)]
  · exact ((h3.set v).other (by omega) _).other (by omega) _
  · exact ((h4.other (by omega) v).set (.int .i64 e1)).other (by omega) _
  · exact ((h5.other (by omega) v).other (by omega) (.int .i64 e1)).set (.int .i64 e2)
  · exact (((h6.setCell (Nat.le_refl _) _).setCell (by show w.heap.size ≤ w.heap.size + 1; omega) _).setCell (by show w.heap.size ≤ w.heap.size + 1 + 1; omega) _).drew

/-- A found thing in its box. -/
def FBox (x : Found) (Bx : Nat) (W : World) : Prop := W.heap[Bx]? = some (.cells #[.string (B x.2.1), .int .i64 x.2.2.1, .int .i64 x.2.2.2] 104 (0, 0))
theorem fBox_own (x : Found) (Bx B : Nat) : OwnFrom B (fun (_ : Unit) W => FBox x Bx W) := by
  rintro _ X Y row h hg hr
  refine (hg.block Bx (Array.getElem?_eq_some_iff.1 h).1 (fun e => ?_)).trans h
  obtain ⟨_, o, ho, hc⟩ := hr Bx e.symm
  rw [show X.heap[Bx]? = _ from h] at ho; cases ho; cases hc

theorem FBox.not_row {x : Found} {Bx base k : Nat} {v : Value} {xs : List Value} {W : World} (h : FBox x Bx W) (hr : W.ownsRow base 9 1 v k xs) : some Bx ≠ v.ownBlock := by
  rcases hr.2 with ⟨rfl, _⟩ | ⟨g, cap, cur, rfl, _, hgb, _⟩
  · simp [Value.ownBlock]
  · intro e'
    obtain rfl : Bx = g := by simpa [Value.ownBlock] using e'
    have := (show W.heap[Bx]? = _ from h).symm.trans hgb
    simp at this
theorem FBox.kept {x : Found} {Bx : Nat} {W W' : World} {row : Option Nat} (h : FBox x Bx W) (hg : W.grownBy W' row) (hne : some Bx ≠ row) : FBox x Bx W' :=
  (hg.block Bx (Array.getElem?_eq_some_iff.1 h).1 hne).trans h
theorem FBox.at1 {x : Found} {Bx : Nat} {W : World} (h : FBox x Bx W) : W.cell? ⟨Bx, 1, none⟩ = some (.int .i64 x.2.2.1) := by rw [cell_of_row W Bx 1 _ _ _ h]; rfl

set_option maxRecDepth 100000 in
set_option maxHeartbeats 4000000 in
theorem split_any (l : List UInt8) (w : World) (hl : l.length ≤ 1000000000) :
    Calls Tryz.prog 50 #[.string (B l)] w fun r w' => ∃ v, r = .returned (.tuple #[v, .int .i64 (splitL l 0).2.1, .int .i64 (splitL l 0).2.2]) ∧ w'.ownsRow w.heap.size 9 1 v (splitL l 0).1.length (strV (splitL l 0).1) ∧ Below w.heap.size w w' := by
  refine (callsIn_wide (n := 9)).1 ?_
  refine callsIn_of_wp_marks Tryz.func50 rfl trivial ?_ rfl
  simp only [Tryz.ntmps50, List.size_toArray, List.length_cons, List.length_nil, Nat.reduceAdd, Nat.reduceSub, Array.replicate_succ, Array.replicate_zero, List.push_toArray, List.append_toArray, List.nil_append, List.cons_append]
  gi_wp2_with (refine ⟨trivial, ?_⟩; gi_at_call 67; refine (callsIn_wide.2 (frames_any _ _)).mono ?_; rintro r w1 ⟨rfl, rfl⟩)
  have hst := split_found l l.length 0 (by omega)
  have hfl := found_length l l.length 0 (by omega)
  obtain ⟨W0, hW0⟩ : ∃ W0, ((((((w.alloc (.cells #[.slice none 0 0] 23)).alloc (.cells #[.int .i64 0] 3)).alloc (.cells #[.int .i64 0] 24)).alloc (.cells #[.slice none 0 0] 23)).alloc (.cells #[.int .i64 0] 3)).alloc (.cells #[.string (B l)] 9)) = W0 := ⟨_, rfl⟩
  have sW0 : W0.heap.size = w.heap.size + 6 := by rw [← hW0]; simp
  have bS : Boxed W0 (w.heap.size + 5) 9 (.string (B l)) := by rw [← hW0]; have := Boxed.new ((((((w.alloc (.cells #[.slice none 0 0] 23)).alloc (.cells #[.int .i64 0] 3)).alloc (.cells #[.int .i64 0] 24)).alloc (.cells #[.slice none 0 0] 23)).alloc (.cells #[.int .i64 0] 3))) 9 (.string (B l)); simpa using this
  have i0 : SpI w [] W0 := by
    rw [← hW0]
    refine ⟨okL_nil, ⟨.slice none 0 0, ?_, World.ownsRow_nil _ _ _ _, trivial⟩, ?_, ?_, ?_, ?_, ?_, by simp⟩
    · have := ((Boxed.new (((w.alloc (.cells #[.slice none 0 0] 23)).alloc (.cells #[.int .i64 0] 3)).alloc (.cells #[.int .i64 0] 24)) 23 (.slice none 0 0)).alloc (.cells #[.int .i64 0] 3)).alloc (.cells #[.string (B l)] 9); simpa using this
    · have := (Boxed.new ((((w.alloc (.cells #[.slice none 0 0] 23)).alloc (.cells #[.int .i64 0] 3)).alloc (.cells #[.int .i64 0] 24)).alloc (.cells #[.slice none 0 0] 23)) 3 (.int .i64 0)).alloc (.cells #[.string (B l)] 9); simpa [endOf] using this
    · have := (((((Boxed.new w 23 (.slice none 0 0)).alloc (.cells #[.int .i64 0] 3)).alloc (.cells #[.int .i64 0] 24)).alloc (.cells #[.slice none 0 0] 23)).alloc (.cells #[.int .i64 0] 3)).alloc (.cells #[.string (B l)] 9); simpa using this
    · have := ((((Boxed.new (w.alloc (.cells #[.slice none 0 0] 23)) 3 (.int .i64 0)).alloc (.cells #[.int .i64 0] 24)).alloc (.cells #[.slice none 0 0] 23)).alloc (.cells #[.int .i64 0] 3)).alloc (.cells #[.string (B l)] 9); simpa using this
    · have := (((Boxed.new ((w.alloc (.cells #[.slice none 0 0] 23)).alloc (.cells #[.int .i64 0] 3)) 24 (.int .i64 0)).alloc (.cells #[.slice none 0 0] 23)).alloc (.cells #[.int .i64 0] 3)).alloc (.cells #[.string (B l)] 9); simpa using this
    · exact (((((((Below.refl _ w).alloc (Nat.le_refl _) _).alloc (by simp) _).alloc (by simp; omega) _).alloc (by simp; omega) _).alloc (by simp; omega) _).alloc (by simp; omega) _)
  have HST := Lib.hid hst
  have HFL := Lib.hid hfl
  rw [hW0]
  clear hW0 hst hfl
  refine range_tells (gf := 82) (lb := #[.pointer (some ⟨w.heap.size + 1 + 1 + 1 + 1 + 1, 0, none⟩)]) rfl (enters_of Tryz.func82 (by kernel_rfl) rfl)
    (frames_tell l (w.heap.size + 5) W0 (by omega) bS) (Below.refl _ _) (fun _ => rfl)
    (fun V {X Y Z} h k => k.trans h)
    (fun V W l o' h1 h2 h3 => World.putObj_heap_other (by omega))
    (SpI w) (SpOut w)
    (spI_own w _ (by omega)) ?hIx i0
    (fun x a' W => ∃ Bx, w.heap.size + 6 ≤ Bx ∧ FBox x Bx W ∧ a' = { tmps := #[.string (B l), undef, .pointer (some ⟨w.heap.size, 0, none⟩), .pointer (some ⟨w.heap.size + 1, 0, none⟩), .pointer (some ⟨w.heap.size + 1 + 1, 0, none⟩), .pointer (some ⟨w.heap.size + 1 + 1 + 1, 0, none⟩), .pointer (some ⟨w.heap.size + 1 + 1 + 1 + 1, 0, none⟩), .int .i64 x.1, .pointer (some ⟨Bx, 0, none⟩), .string (B l), .func (.func 82) #[] #[.pointer (some ⟨w.heap.size + 1 + 1 + 1 + 1 + 1, 0, none⟩)], .int .i64 x.1, .agg #[.string (B x.2.1), .int .i64 x.2.2.1, .int .i64 x.2.2.2], undef, undef, undef, undef, undef, undef, undef, undef, undef, undef, undef, undef, undef, undef, undef, undef, undef, undef], defers := [] })
    ?hAx ?assign ?body ?done ?stop
  case hIx =>
    rintro c pre X Y row ⟨h1, pre0, x, h2, h3, h4, h5⟩ hg hr
    exact ⟨h1, pre0, x, h2, h3, h4, spX_own w _ _ _ _ (by omega) () X Y row h5 hg hr⟩
  case hAx =>
    rintro x a' _ X Y row ⟨Bx, h1, h2, h3⟩ hg hr
    exact ⟨Bx, h1, fBox_own x Bx _ () X Y row h2 hg hr, h3⟩
  case assign =>
    rintro m lp V pre x W K sV hi hx hK
    unfold encF
    gi_wp2
    obtain ⟨h0, h1, h2, h3, h4, h5, h6, h7⟩ := hi
    exact hK _ _ ((KeepsOthers.alloc _ _).from _) (Below.heap_alloc W _ _ (by omega)) (spI_own w (W0.heap.size) (by omega) pre W _ none ⟨h0, h1, h2, h3, h4, h5, h6, h7⟩ (World.grownBy_alloc W _ none) (by simp)) ⟨W.heap.size, h7, heap_alloc_new W _, rfl⟩
  case body =>
    rintro m lp V pre x a' W sV ⟨h0, ⟨v, h1, hrow6, _⟩, h2, h3, h4, h5, h6, h7⟩ hx ⟨Bx, hBx, hF, rfl⟩
    obtain ⟨at_, ins, n, e⟩ := x
    have cI := h1.cell
    have cE := h2.cell
    have cF0 : W.cell? ⟨Bx, 0, none⟩ = some (.string (B ins)) := by rw [cell_of_row W Bx 0 _ _ _ hF]; rfl
    have cF1 : W.cell? ⟨Bx, 1, none⟩ = some (.int .i64 n) := by rw [cell_of_row W Bx 1 _ _ _ hF]; rfl
    have cF2 : W.cell? ⟨Bx, 2, none⟩ = some (.int .i64 e) := by rw [cell_of_row W Bx 2 _ _ _ hF]; rfl
    by_cases he : e = 0
    · subst he
      obtain ⟨ti, hi, hz, hs1, hby⟩ := info_parts info_str
      have hlen : pre.length + 1 ≤ 1000000001 := by
        have h1 := hx.length_le
        have h2 := HFL.out
        simp at h1
        omega
      have hle : at_ + n ≤ l.length := found_le l l.length 0 (by omega) (at_, ins, n, 0) (hx.subset (by simp))
      have hrow := ownsRow_low hrow6 (Nat.le_add_right _ 6)
      have hal6 := hrow6.alloc (.cells #[.string (B ins)] 9)
      have hal := hrow.alloc (.cells #[.string (B ins)] 9)
      have HX := Lib.hid hx
      clear hx
      gi_wp2_with (gi_at_builtin; refine wpListIn_append_own _ rfl _ _ 23 rfl (w.heap.size + 6) 9 ti (.string ⟨#[]⟩) 1 16 Tryz.underlying23 hi hz hs1 hby rfl (by decide) _ _ _ rfl hal6 ⟨W.heap.size, 0, none⟩ 1 1 [.string (B ins)] rfl rfl (cell_one_new _ _ _) (by simp [Value.oneCell']) (by unfold maxLen; omega) (by omega) (by simp; omega) ?_; intro v' w1 hown6 hgrow _; have hown' := ownsRow_low hown6 (Nat.le_add_right w.heap.size 6); replace hgrow : (W.alloc (.cells #[.string (B ins)] 9)).grownBy w1 v.ownBlock := hgrow; obtain ⟨g', cap', rfl⟩ := ownsRow_succ hown'; obtain ⟨hv1, hv2, hr2, hk2, hb2⟩ := h1.appended (by decide) hrow h6.size (by omega) hown' hgrow; have hc1 := hv1.cell; have hf1 := hv1.frozen; have hFB := (FBox.kept hF (World.grownBy_alloc W _ none) (by simp)).kept hgrow (FBox.not_row (FBox.kept hF (World.grownBy_alloc W _ none) (by simp)) hal); have hFB1 := hFB.at1; have hE1 := (h2.alloc (.cells #[.string (B ins)] 9)).kept hgrow ((h2.alloc (.cells #[.string (B ins)] 9)).not_row (by decide) hal); have hcE := hE1.cell; have hfE := hE1.frozen)
      have kb : ∀ B' t' u, Boxed W B' t' u → t' ≠ 9 → B' ≠ w.heap.size + 3 → Boxed (w1.setCell ⟨w.heap.size + 3, 0, none⟩ (.slice (some ⟨g', 0, none⟩) (pre.length + 1) cap')) B' t' u :=
        fun B' t' u hb ht hne => ((hb.alloc (.cells #[.string (B ins)] 9)).kept hgrow ((hb.alloc (.cells #[.string (B ins)] 9)).not_row ht hal)).other hne _
      have hr6 := hown6.kept (grownBy_setCell' w1 (w.heap.size + 3) (.slice (some ⟨g', 0, none⟩) (pre.length + 1) cap')) (.inr (hv1.not_row (by decide) hown6).symm)
      have hbx : some (w.heap.size + 5) ≠ v.ownBlock := fun e => by have := (hrow6.lt _ e.symm).1; omega
      have hkp : (w1.setCell ⟨w.heap.size + 3, 0, none⟩ (.slice (some ⟨g', 0, none⟩) (pre.length + 1) cap')).heap[w.heap.size + 5]? = W.heap[w.heap.size + 5]? := by
        rw [Below.heap_setCell _ _ _ _ (by show w.heap.size + 5 ≠ w.heap.size + 3; omega), hgrow.block _ (by simp; omega) hbx]
        exact Below.heap_alloc W _ _ (by omega)
      refine ⟨(hk2.trans (KeepsOthers.setCell _ _ _)).from _, (Below.heap_setCell _ _ _ _ (by show w.heap.size + 5 ≠ w.heap.size + 4; omega)).trans hkp, okL_snoc h0 rfl, ⟨_, hv2.other (by omega) _, ?_, trivial⟩, ?_, (kb _ _ _ h3 (by decide) (by omega)).other (by omega) _, (kb _ _ _ h4 (by decide) (by omega)).other (by omega) _, (kb _ _ _ h5 (by decide) (by omega)).other (by omega) _, (h6.trans hb2).setCell (by show w.heap.size ≤ w.heap.size + 4; omega) _, ?_⟩
      · have hne := (Boxed.not_row (kb _ _ _ h2 (by decide) (by omega)) (by decide) hr6).symm
        have := hr6.kept (grownBy_setCell' _ (w.heap.size + 4) (.int .i64 ((at_ : Int) + n))) (.inr hne)
        rw [insides_snoc, strV_snoc, List.length_append]
        exact this
      · rw [endOf_snoc]
        have := (kb _ _ _ h2 (by decide) (by omega)).set (.int .i64 ((at_ : Int) + n))
        simpa using this
      · have h8 := hk2.size
        have h9 := (KeepsOthers.setCell (w1.setCell ⟨w.heap.size + 3, 0, none⟩ (.slice (some ⟨g', 0, none⟩) (pre.length + 1) cap')) ⟨w.heap.size + 4, 0, none⟩ (.int .i64 ((at_ : Int) + n))).size
        exact Nat.le_trans h7 (Nat.le_trans h8 h9)
    · obtain ⟨va, vk, vc, rfl⟩ : ∃ va vk vc, v = .slice va vk vc := by
        rcases hrow6.2 with ⟨rfl, _⟩ | ⟨g, cap, cur, rfl, _⟩
        · exact ⟨_, _, _, rfl⟩
        · exact ⟨_, _, _, rfl⟩
      have c0 := h3.cell
      have f0 := h3.frozen
      have c1 := h4.cell
      have f1 := h4.frozen
      have c2 := h5.cell
      have f2 := h5.frozen
      have hne : (e != 0) = true := by simpa using he
      have mixed : Tryz.prog.follows .mixedOrders = true := by kernel_rfl
      have hfin : KeepsFrom W0.heap.size W (laidS w (.slice va vk vc) (endOf 0 pre) e W) ∧ KpBox (w.heap.size + 5) V W (laidS w (.slice va vk vc) (endOf 0 pre) e W) ∧ SpOut w .ret (pre ++ [(at_, ins, n, e)]) (laidS w (.slice va vk vc) (endOf 0 pre) e W) := by
        obtain ⟨l1, l2, l3⟩ := laidS_ok w W (insides pre) (.slice va vk vc) _ (endOf 0 pre) e 0 0 h3 h4 h5 (by rw [insides_length]; exact hrow6) h6
        exact ⟨l1.from _, l2, rfl, pre, (at_, ins, n, e), rfl, h0, he, l3⟩
      have HFIN := Lib.hid hfin
      clear hfin
      gi_wp2
      gi_region_with_o (fail)
      all_goals (gi_wp2; exact HFIN.out)
  case done =>
    rintro D W hD ⟨h0, ⟨v, h1, hrow6, _⟩, h2, h3, h4, h5, h6, h7⟩ hK
    obtain ⟨va, vk, vc, rfl⟩ : ∃ va vk vc, v = .slice va vk vc := by
      rcases hrow6.2 with ⟨rfl, _⟩ | ⟨g, cap, cur, rfl, _⟩
      · exact ⟨_, _, _, rfl⟩
      · exact ⟨_, _, _, rfl⟩
    have cI := h1.cell
    have cE := h2.cell
    have c0 := h3.cell
    have f0 := h3.frozen
    have c1 := h4.cell
    have f1 := h4.frozen
    have c2 := h5.cell
    have f2 := h5.frozen
    have mixed : Tryz.prog.follows .mixedOrders = true := by kernel_rfl
    have hsum := HST.out
    have hap := summed_append (foundL l 0) [] 0 h0
    rw [List.append_nil] at hap
    rw [hap, summed, List.append_nil] at hsum
    have hlaid := laidS_ok w W (insides (foundL l 0)) (.slice va vk vc) _ (endOf 0 (foundL l 0)) 0 0 0 h3 h4 h5 (by rw [insides_length]; exact hrow6) h6
    have HL := Lib.hid hlaid
    have HK := Lib.hid hK
    have HS := Lib.hid hsum
    clear hlaid hK hsum hap
    gi_wp2
    gi_region_with_o (fail)
    all_goals gi_wp2
    all_goals
      obtain ⟨l1, _, l3⟩ := HL.out
      have hK' := l1.same D _ HK.out rfl
      have hX := spX_own w _ _ _ W0.heap.size (by omega) () _ _ _ l3 (grownBy_putObj' _ D (.deferred none)) (fun r e => by cases e; exact ⟨hD, _, hK', rfl⟩)
      obtain ⟨⟨v', b0, row, _⟩, b1, b2, hb⟩ := hX
      have d0 := b0.cell
      have d1 := b1.cell
      have d2 := b2.cell
      unfold laidS at hK' d0 d1 d2 row hb
      refine ⟨by simp, .inl ⟨_, _, rfl, run_takeDeferred hK', .tuple #[v', .int .i64 (endOf 0 (foundL l 0)), .int .i64 0], by simp [results, Tryz.f50, go_sem, d0, d1, d2], v', ?_, ?_, hb⟩⟩
      · rw [HS.out]
      · rw [HS.out]; exact row
  case stop =>
    rintro D c pre W hD hpre ⟨rfl, pre0, x, rfl, h0, hx, hX0⟩ hK
    have hsum := HST.out
    have hlast := none_last l l.length 0 pre0 x (by omega) hpre hx
    have hap := summed_append pre0 [x] 0 h0
    rw [hlast, hap, summed, if_neg hx] at hsum
    have hX := spX_own w _ _ _ W0.heap.size (by omega) () _ _ _ hX0 (grownBy_putObj' _ D (.deferred none)) (fun r e => by cases e; exact ⟨hD, _, hK, rfl⟩)
    obtain ⟨⟨v', b0, row, _⟩, b1, b2, hb⟩ := hX
    have d0 := b0.cell
    have d1 := b1.cell
    have d2 := b2.cell
    have HS := Lib.hid hsum
    have hx1 : x.1 = endOf 0 pre0 := found_at l l.length 0 pre0 x (by omega) hpre
    clear hsum hlast hap
    gi_wp2
    refine ⟨by simp, .inl ⟨_, _, rfl, run_takeDeferred hK, .tuple #[v', .int .i64 (endOf 0 pre0), .int .i64 x.2.2.2], by simp [results, Tryz.f50, go_sem, d0, d1, d2], v', ?_, ?_, hb⟩⟩
    · rw [HS.out, hx1]
    · rw [HS.out]; simpa using row

end Go.Proofs.YtjidadolfpjdeaaGreatDoor
