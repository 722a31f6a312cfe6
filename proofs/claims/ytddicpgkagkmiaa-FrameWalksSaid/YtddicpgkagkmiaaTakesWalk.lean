/-
  FrameTakes over this translation: it answers true, whatever the bytes; of what was there nothing has turned.
-/
import Derived.Test.YtddicpgkagkmiaaFrWalk
import Derived.Test.YtddicpgkagkmiaaSeqB
import Derived.Test.YtddicpgkagkmiaaFrNext
import Derived.Test.YtddicpgkagkmiaaFrSame
import Derived.Test.YtddicpgkagkmiaaFrWakes
namespace Go.Proofs.Ytddicpgkagkmiaa
open Go.RowKit Go.Shelf
set_option linter.unusedVariables false

attribute [local go_sem] Oper.semAt_some

theorem Txt.own {a : Option Addr} {n : Nat} {ls : List (List UInt8)} {X Y : World} {row : Option Nat} (h : Txt X a n ls) (hg : X.grownBy Y row) (hr : ∀ r, row = some r → ∃ o : Obj, X.heap[r]? = some o ∧ o.isCells = false) : Txt Y a n ls := by
  refine ⟨h.len, fun j hj => ?_⟩
  obtain ⟨b, off, ha, hc⟩ := h.cell j hj
  exact ⟨b, off, ha, cell_kept hc hg hr⟩

theorem walk_found (l : List UInt8) : (walkL l 0).length ≤ l.length := by
  have h1 := found_length l l.length 0 (by omega)
  have h2 := List.length_filterMap_le walkF (foundL l 0)
  unfold walkL
  omega

theorem Txt.set {W : World} {a : Option Addr} {n B : Nat} {t : TypeId} {k : IntKind} {z : Int} {ls : List (List UInt8)} (h : Txt W a n ls) (hb : Boxed W B t (.int k z)) (u : Value) : Txt (W.setCell ⟨B, 0, none⟩ u) a n ls := by
  refine ⟨h.len, fun j hj => ?_⟩
  obtain ⟨b, off, ha, hc⟩ := h.cell j hj
  refine ⟨b, off, ha, ?_⟩
  have hne : b ≠ B := by
    rintro rfl
    rw [cell_of_row W b (off + j) _ _ _ hb] at hc
    cases hoj : off + j with
    | zero => rw [hoj] at hc; simp at hc
    | succ m => rw [hoj] at hc; simp at hc
  exact (World.cell?_of_block (Below.heap_setCell W ⟨B, 0, none⟩ u b hne)).trans hc

/-- Between two rounds of FrameTakes' loop. -/
def TkI (w : World) (bW bP : Nat) (a4 : Option Addr) (c4 : Nat) (ws : List (List UInt8)) (pre : List (Nat × List UInt8)) (W : World) : Prop :=
  Boxed W w.heap.size 4 (.bool false) ∧ Boxed W bW 31 (.slice a4 ws.length c4) ∧ Txt W a4 ws.length ws ∧ Boxed W bP 3 (.int .i64 (sizes (pre.map (·.2)) : Nat)) ∧ Boxed W (bP + 1) 3 (.int .i64 (pre.length : Nat)) ∧ Below w.heap.size w W

theorem tkI_own (w : World) (bW bP : Nat) (a4 : Option Addr) (c4 : Nat) (ws : List (List UInt8)) (n : Nat) (hn : w.heap.size ≤ n) : OwnFrom n (TkI w bW bP a4 c4 ws) := by
  rintro pre X Y row ⟨h1, h2, h3, h4, h5, h6⟩ hg hr
  have hr' : ∀ r, row = some r → ∃ o : Obj, X.heap[r]? = some o ∧ o.isCells = false := fun r e => (hr r e).2
  exact ⟨boxed_own _ _ (fun (_ : Unit) => _) () X Y row h1 hg hr', boxed_own _ _ (fun (_ : Unit) => _) () X Y row h2 hg hr', h3.own hg hr', boxed_own _ _ (fun (_ : Unit) => _) () X Y row h4 hg hr', boxed_own _ _ (fun (_ : Unit) => _) () X Y row h5 hg hr',
    ownFrom_below (Nat.le_refl _) hn () X Y row h6 hg hr⟩

set_option maxRecDepth 100000 in
set_option maxHeartbeats 4000000 in
theorem takes_in (l : List UInt8) (w : World) (hl : (l.length : Int) ≤ 6000) :
    Calls Try.prog 4 #[.string (B l)] w fun e w' => e = .returned (.bool true) ∧ Below w.heap.size w w' := by
  have hT := fun v => take_frame l v (by omega)
  have hRT := fun v => refTake_any l v (by omega)
  have hS := fun v => split_any l v (by omega)
  have hRS := fun v => refSplit_any l v (by omega)
  have hnx := walk_next l
  have hall := walk_all l
  generalize splitL l 0 = sp at hS hRS hnx hall
  obtain ⟨ws, e1, e2⟩ := sp
  simp only at hS hRS hnx hall
  generalize takeL l = tk at hT hRT
  obtain ⟨ti, tn, te⟩ := tk
  simp only at hT hRT
  have HT := Lib.hid hT
  have HRT := Lib.hid hRT
  have HS := Lib.hid hS
  have HRS := Lib.hid hRS
  have HNX := Lib.hid hnx
  have HALL := Lib.hid hall
  clear hT hRT hS hRS hnx hall
  have hnil := fun v bb => func_eql_nil 36 _ _ _ Try.underlying36 (.func 33) #[] bb v
  refine (callsIn_wide (n := 9)).1 ?_
  refine callsIn_of_wp_marks Try.func4 rfl trivial ?_ rfl
  simp only [Try.ntmps4, List.size_toArray, List.length_cons, List.length_nil, Nat.reduceAdd, Nat.reduceSub, Array.replicate_succ, Array.replicate_zero, List.push_toArray, List.append_toArray, List.nil_append, List.cons_append]
  gi_wp2_with (first
    | (refine ⟨trivial, ?_⟩; gi_at_call 11; refine (callsIn_wide.2 (HT.out _)).mono ?_; rintro r w1 ⟨rfl, b1⟩)
    | (refine ⟨trivial, ?_⟩; gi_at_call 12; refine (callsIn_wide.2 (HRT.out _)).mono ?_; rintro r w2 ⟨rfl, b2⟩)
    | (refine ⟨trivial, ?_⟩; gi_at_call 13; refine (callsIn_wide.2 (HS.out _)).mono ?_; rintro r w3 ⟨v3, rfl, o3, b3⟩; obtain ⟨a3, c3, rfl⟩ := row_val o3)
    | (refine ⟨trivial, ?_⟩; gi_at_call 14; refine (callsIn_wide.2 (HRS.out _)).mono ?_; rintro r w4 ⟨v4, rfl, o4, b4⟩; obtain ⟨a4, c4, rfl⟩ := row_val o4; have t4 := Txt.below (Txt.of_own o4) ((Below.refl w4.heap.size w4).alloc (Nat.le_refl _) (.cells #[.slice a4 ws.length c4] 31)); have t3 := Txt.below (Txt.of_own o3) (bb b4 ((Below.refl w4.heap.size w4).alloc (Nat.le_refl _) (.cells #[.slice a4 ws.length c4] 31))); have hwl : ws.length ≤ 1000000 := by have := HALL.out; have := (walk_found l); omega)
    | (refine ⟨trivial, ?_⟩; gi_at_call 15; refine (callsIn_wide.2 (same_any _ _ _ _ _ ws _ t3 t4 hwl)).mono ?_; rintro r w5 ⟨rfl, b5⟩; have hw4 : w4.heap.size < w5.heap.size := by have := b5.size; simp at this; omega)
    | (refine ⟨trivial, ?_⟩; gi_at_call 16; refine (callsIn_wide.2 (walk_any _ _)).mono ?_; rintro r w6 ⟨rfl, rfl⟩))
  obtain ⟨W0, hW0⟩ : ∃ W0, (((w5.alloc (.cells #[.int .i64 0] 3)).alloc (.cells #[.int .i64 0] 3)).alloc (.cells #[.string (B l)] 9)) = W0 := ⟨_, rfl⟩
  have sW0 : W0.heap.size = w5.heap.size + 3 := by rw [← hW0]; simp
  have bS : Boxed W0 (w5.heap.size + 2) 9 (.string (B l)) := by
    rw [← hW0]
    have := Boxed.new ((w5.alloc (.cells #[.int .i64 0] 3)).alloc (.cells #[.int .i64 0] 3)) 9 (.string (B l))
    simpa using this
  have b5' : Below w4.heap.size w4 w5 := (((Below.refl _ _).alloc (Nat.le_refl _) _).trans (b5.mono (by simp)))
  have b5W : Below w5.heap.size w5 W0 := by rw [← hW0]; exact (((Below.refl _ _).alloc (Nat.le_refl _) _).alloc (by simp) _).alloc (by simp; omega) _
  have bN : Below w.heap.size w W0 := by
    have ba : Below w.heap.size w (w.alloc (.cells #[.bool false] 4)) := (Below.refl _ _).alloc (Nat.le_refl _) _
    exact bb (bb (bb (bb (bb (bb ba b1) b2) b3) b4) b5') b5W
  have sz : w.heap.size < w4.heap.size ∧ w4.heap.size < w5.heap.size := by
    have h1 := b1.size; have h2 := b2.size; have h3 := b3.size; have h4 := b4.size
    simp at h1
    exact ⟨by omega, hw4⟩
  have i0 : TkI w w4.heap.size w5.heap.size a4 c4 ws [] W0 := by
    refine ⟨?_, ?_, ?_, ?_, ?_, bN⟩
    · have h := (Boxed.new w 4 (.bool false))
      have h1 : Boxed w1 w.heap.size 4 (.bool false) := (b1.block _ (by simp)).trans h
      have h2 : Boxed w2 w.heap.size 4 (.bool false) := (b2.block _ h1.lt).trans h1
      have h3 : Boxed w3 w.heap.size 4 (.bool false) := (b3.block _ h2.lt).trans h2
      have h4 : Boxed w4 w.heap.size 4 (.bool false) := (b4.block _ h3.lt).trans h3
      have h5 : Boxed w5 w.heap.size 4 (.bool false) := (b5'.block _ h4.lt).trans h4
      exact (b5W.block _ h5.lt).trans h5
    · have h5 : Boxed w5 w4.heap.size 31 (.slice a4 ws.length c4) := (b5.block _ (by simp)).trans (Boxed.new w4 _ _)
      exact (b5W.block _ h5.lt).trans h5
    · exact Txt.below (Txt.below t4 b5) b5W
    · rw [← hW0]
      have := ((Boxed.new w5 3 (.int .i64 0)).alloc (.cells #[.int .i64 0] 3)).alloc (.cells #[.string (B l)] 9)
      simpa [sizes] using this
    · rw [← hW0]
      have := (Boxed.new (w5.alloc (.cells #[.int .i64 0] 3)) 3 (.int .i64 0)).alloc (.cells #[.string (B l)] 9)
      simpa using this
  rw [hW0]
  clear hW0
  refine range_plain (gf := 33) (lb := #[.pointer (some ⟨w5.heap.size + 1 + 1, 0, none⟩)]) rfl (enters_of Try.func33 (by kernel_rfl) rfl)
    (walk_tells l (w5.heap.size + 2) W0 (by omega) bS) (Below.refl _ _) (fun _ => rfl)
    (fun V W => ⟨Nat.le_refl _, fun _ _ _ => rfl⟩)
    (fun V {X Y Z} h k => ⟨Nat.le_trans h.1 k.1, fun j h1 h2 => (k.2 j h1 (Nat.lt_of_lt_of_le h2 h.1)).trans (h.2 j h1 h2)⟩)
    (fun V W l o' h1 h2 h3 => ⟨by simp, fun j h4 h5 => World.putObj_heap_other (by omega)⟩)
    (TkI w w4.heap.size w5.heap.size a4 c4 ws) (fun _ _ _ => False) (tkI_own _ _ _ _ _ _ _ (by omega)) (fun _ _ _ _ _ h _ _ => h) i0
    (fun x t => (t.setIfInBounds 18 (.int .i64 x.1)).setIfInBounds 19 (.string (B x.2)))
    ?assign ?body ?done ?stop
  case assign =>
    intro m lp x W K hK
    simp [roundAct, encW, go_sem] at hK
    unfold encW
    gi_wp2
    exact hK
  case body =>
    rintro m lp V pre x W sV ⟨h1, h2, h3, h4, h5, h6⟩ hx
    obtain ⟨p, hp⟩ := HNX.out pre x hx
    obtain ⟨hx2, hx1, hsz, hle⟩ := hp
    have HX2lt : pre.length < ws.length := p
    obtain ⟨bt, off, rfl, htx⟩ := h3.base (by omega)
    have ct := htx pre.length p
    rw [hx2] at ct
    have c4' := h2.cell
    have cP := h4.cell
    have fP := h4.frozen
    have cI := h5.cell
    have fI := h5.frozen
    have hxl := frame_len x.2
    have hF := fun v => refFrame_any x.2 v (by omega)
    obtain ⟨xa, xs⟩ := x
    simp only at hx1 hx2 ct hsz hxl hF
    have HX := Lib.hid hx
    have HX1 := Lib.hid hx1
    have HX2 := Lib.hid hx2
    have HT3 := Lib.hid h3
    have HF := Lib.hid hF
    clear hx hx2 hF htx h3
    subst hx1
    generalize hq : sizes (pre.map (·.2)) = q at *
    have HQ := Lib.hid hq
    clear hq
    have bPl := h4.lt
    have bIl := h5.lt
    have hpl : pre.length ≤ 1000000 := by have := HX2lt; omega
    have hwr : IntKind.i64.wrap ((q : Int) + ((frameL xs).length : Int)) = (q : Int) + ((frameL xs).length : Int) := by rw [IntKind.wrap_i64]; omega
    have mixed : Try.prog.follows .mixedOrders = true := by kernel_rfl
    unfold roundAct encW
    gi_wp2
    gi_region_with_o (refine ⟨trivial, (fun h => by simp [Fence.wide] at h), ?_⟩; gi_at_call 10; refine (CallsIn.inRound lp (callsIn_wide.2 (HF.out _))).mono ?_; rintro r w7 ⟨rfl, b7⟩; have cP7 := (b7.cell (p := ⟨w5.heap.size, 0, none⟩) bPl).trans cP; have fP7 := (b7.frozen (p := ⟨w5.heap.size, 0, none⟩) bPl).trans fP; have cI7 := (b7.cell (p := ⟨w5.heap.size + 1, 0, none⟩) bIl).trans cI; have fI7 := (b7.frozen (p := ⟨w5.heap.size + 1, 0, none⟩) bIl).trans fI)
    all_goals
      have g2 : Boxed w7 w4.heap.size 31 (.slice (some ⟨bt, off, none⟩) ws.length c4) := (b7.block _ h2.lt).trans h2
      have g1 : Boxed w7 w.heap.size 4 (.bool false) := (b7.block _ h1.lt).trans h1
      have g3 : Txt w7 (some ⟨bt, off, none⟩) ws.length ws := Txt.below HT3.out ⟨b7.os, b7.tape, b7.output, b7.size, b7.block⟩
      have g4 : Boxed w7 w5.heap.size 3 (.int .i64 (q : Nat)) := (b7.block _ h4.lt).trans h4
      have g5 : Boxed w7 (w5.heap.size + 1) 3 (.int .i64 (pre.length : Nat)) := (b7.block _ h5.lt).trans h5
      have k7 : KeepsOthers W w7 := ⟨b7.size, fun k o hk _ => (b7.block k (Array.getElem?_eq_some_iff.1 hk).1).trans hk⟩
      gi_wp2
      refine ⟨((k7.trans (KeepsOthers.setCell _ _ _)).trans (KeepsOthers.setCell _ _ _)).from _, ⟨?_, ?_⟩, (g1.other (by omega) _).other (by omega) _, (g2.other (by omega) _).other (by omega) _, (g3.set g4 _).set (g5.other (by omega) _) _, ?_, ?_, ?_⟩
      · exact ((k7.trans (KeepsOthers.setCell _ _ _)).trans (KeepsOthers.setCell _ _ _)).size
      · intro k hk1 hk2
        rw [Below.heap_setCell _ _ _ _ (by show k ≠ w5.heap.size + 1; omega), Below.heap_setCell _ _ _ _ (by show k ≠ w5.heap.size; omega)]
        exact b7.block k hk2
      · have := (g4.set (.int .i64 ((q : Int) + (frameL xs).length))).other (by omega : w5.heap.size ≠ w5.heap.size + 1) (.int .i64 ((pre.length : Int) + 1))
        rw [List.map_append, List.map_cons, List.map_nil, sizes_snoc, HQ.out]
        simpa using this
      · have := (g5.other (by omega : w5.heap.size + 1 ≠ w5.heap.size) (.int .i64 ((q : Int) + (frameL xs).length))).set (.int .i64 ((pre.length : Int) + 1))
        simpa using this
      · exact ((h6.trans (Below.mono ⟨b7.os, b7.tape, b7.output, b7.size, b7.block⟩ h6.size)).setCell (by show w.heap.size ≤ w5.heap.size; omega) _).setCell (by show w.heap.size ≤ w5.heap.size + 1; omega) _
  case done =>
    rintro D W hD ⟨h1, h2, h3, h4, h5, h6⟩ hK
    rw [HALL.out] at h5
    have cN := h1.cell
    have fN := h1.frozen
    have cW := h2.cell
    have cI := h5.cell
    have HK := Lib.hid hK
    have hDl := (Array.getElem?_eq_some_iff.1 hK).1
    have hNl := h1.lt
    clear hK
    gi_wp2_with (refine ⟨trivial, ?_⟩; gi_at_call 8; refine (callsIn_wide.2 (fwakes_any _)).mono ?_; rintro r w8 ⟨rfl, b8⟩; have g1 : Boxed w8 w.heap.size 4 (.bool false) := (b8.block _ hNl).trans h1; have cN8 := g1.cell; have fN8 := g1.frozen)
    have hK8 := (KeepsOthers.setCell w8 ⟨w.heap.size, 0, none⟩ (.bool true)).same D _ ((b8.block D hDl).trans HK.out) rfl
    have g2 := boxed_own w.heap.size 4 (fun (_ : Unit) => .bool true) () _ _ _ (g1.set (.bool true)) (grownBy_putObj' _ D (.deferred none)) (fun r e => by cases e; exact ⟨_, hK8, rfl⟩)
    have c9 := g2.cell
    refine ⟨by simp, .inl ⟨_, _, rfl, run_takeDeferred hK8, .bool true, by simp [results, Try.f4, go_sem, c9], rfl, ?_⟩⟩
    exact ((h6.trans (b8.mono h6.size)).setCell (Nat.le_refl _) _).trans (belowK_b (w := W0) (by omega) _ D _ _ hD hK8 rfl rfl)
  case stop =>
    rintro D c pre W _ _ h _
    exact h.elim

set_option maxRecDepth 100000 in
set_option maxHeartbeats 1000000 in
theorem takes_long (s : ByteArray) (w : World) (h : 6000 < (s.size : Int)) :
    Calls Try.prog 4 #[.string s] w fun e w' => e = .returned (.bool true) ∧ Below w.heap.size w w' := by
  refine (callsIn_wide (n := 9)).1 ?_
  refine callsIn_of_wp_marks Try.func4 rfl trivial ?_ rfl
  simp only [Try.ntmps4, List.size_toArray, List.length_cons, List.length_nil, Nat.reduceAdd, Nat.reduceSub, Array.replicate_succ, Array.replicate_zero, List.push_toArray, List.append_toArray, List.nil_append, List.cons_append]
  gi_wp2_with (refine ⟨trivial, ?_⟩; gi_at_call 8; refine (callsIn_wide.2 (fwakes_any _)).mono ?_; rintro r w1 ⟨rfl, b1⟩; have g1 : Boxed w1 w.heap.size 4 (.bool false) := (b1.block _ (by simp)).trans (Boxed.new w _ _); have cN := g1.cell; have fN := g1.frozen)
  have c9 := (g1.set (.bool true)).cell
  exact ⟨.bool true, by simp [results, Try.f4, go_sem, c9], rfl, (((Below.refl _ w).alloc (Nat.le_refl _) _).trans (b1.mono (by simp))).setCell (Nat.le_refl _) _⟩

theorem frameTakes_walk (a0 : ByteArray) (w0 : a0.size ≤ maxLen) (w : World) :
    Calls Try.prog 4 #[.string a0] w fun e w' => e = .returned (.bool true) ∧ Below w.heap.size w w' := by
  by_cases h : 6000 < (a0.size : Int)
  · exact takes_long a0 w h
  · have e1 := B_data a0
    have hsz : (a0.data.toList.length : Int) ≤ 6000 := by have := Lib.size_eq a0; omega
    generalize a0.data.toList = t at e1 hsz
    subst e1
    exact takes_in t w hsz

end Go.Proofs.Ytddicpgkagkmiaa
