/-
  FrameWalks over this translation: it answers true, whatever the bytes and wherever the loop is left; of what was there nothing has turned.
-/
import Derived.Test.YtddicpgkagkmiaaTakesWalk
namespace Go.Proofs.Ytddicpgkagkmiaa
open Go.RowKit Go.Shelf
set_option linter.unusedVariables false

attribute [local go_sem] Oper.semAt_some

/-- The cells of FrameWalks' loop: n frames have been told, the last one at z. -/
structure WlC (w : World) (b : Nat) (a : Option Addr) (c : Nat) (ws : List (List UInt8)) (e1 : Nat) (E n : Nat) (z : Int) (W : World) : Prop where
  r : Boxed W w.heap.size 4 (.bool false)
  l : Boxed W b 31 (.slice a ws.length c)
  t : Txt W a ws.length ws
  till : Boxed W (b + 1) 3 (.int .i64 (e1 : Nat))
  e : Boxed W (b + 2) 3 (.int .i64 (E : Nat))
  n : Boxed W (b + 3) 3 (.int .i64 (n : Nat))
  z : Boxed W (b + 4) 3 (.int .i64 z)
  bel : Below w.heap.size w W

theorem WlC.own {w : World} {b : Nat} {a : Option Addr} {c : Nat} {ws : List (List UInt8)} {e1 E n : Nat} {z : Int} {X Y : World} {row : Option Nat} {B : Nat} (h : WlC w b a c ws e1 E n z X) (hB : w.heap.size ≤ B)
    (hg : X.grownBy Y row) (hr : ∀ r, row = some r → B ≤ r ∧ ∃ o : Obj, X.heap[r]? = some o ∧ o.isCells = false) : WlC w b a c ws e1 E n z Y := by
  have hr' : ∀ r, row = some r → ∃ o : Obj, X.heap[r]? = some o ∧ o.isCells = false := fun r e => (hr r e).2
  exact ⟨boxed_own _ _ (fun (_ : Unit) => _) () X Y row h.r hg hr', boxed_own _ _ (fun (_ : Unit) => _) () X Y row h.l hg hr', h.t.own hg hr', boxed_own _ _ (fun (_ : Unit) => _) () X Y row h.till hg hr',
    boxed_own _ _ (fun (_ : Unit) => _) () X Y row h.e hg hr', boxed_own _ _ (fun (_ : Unit) => _) () X Y row h.n hg hr', boxed_own _ _ (fun (_ : Unit) => _) () X Y row h.z hg hr', ownFrom_below (Nat.le_refl _) hB () X Y row h.bel hg hr⟩

theorem WlC.step {w : World} {b : Nat} {a : Option Addr} {c : Nat} {ws : List (List UInt8)} {e1 E n : Nat} {z : Int} {W : World} (h : WlC w b a c ws e1 E n z W) (hb : w.heap.size < b) (q : Nat) :
    WlC w b a c ws e1 E (n + 1) q ((W.setCell ⟨b + 4, 0, none⟩ (.int .i64 (q : Nat))).setCell ⟨b + 3, 0, none⟩ (.int .i64 ((n : Int) + 1))) := by
  refine ⟨(h.r.other (by omega) _).other (by omega) _, (h.l.other (by omega) _).other (by omega) _, (h.t.set h.z _).set (h.n.other (by omega) _) _, (h.till.other (by omega) _).other (by omega) _, (h.e.other (by omega) _).other (by omega) _, ?_, (h.z.set _).other (by omega) _, ?_⟩
  · have := (h.n.other (by omega : b + 3 ≠ b + 4) (.int .i64 (q : Nat))).set (.int .i64 ((n : Int) + 1))
    simpa using this
  · exact (h.bel.setCell (by show w.heap.size ≤ b + 4; omega) _).setCell (by show w.heap.size ≤ b + 3; omega) _

def WlI (w : World) (b : Nat) (a : Option Addr) (c : Nat) (ws : List (List UInt8)) (e1 E : Nat) (pre : List (Nat × List UInt8)) (W : World) : Prop :=
  pre.length < E ∧ ∃ z : Int, -1 ≤ z ∧ z < (sizes (pre.map (·.2)) : Nat) ∧ WlC w b a c ws e1 E pre.length z W
def WlX (w : World) (b : Nat) (a : Option Addr) (c : Nat) (ws : List (List UInt8)) (e1 E : Nat) (cd : Code) (pre : List (Nat × List UInt8)) (W : World) : Prop :=
  cd = .exit 0 ∧ ∃ z : Int, WlC w b a c ws e1 E E z W

theorem wlI_own (w : World) (b : Nat) (a : Option Addr) (c : Nat) (ws : List (List UInt8)) (e1 E B : Nat) (hB : w.heap.size ≤ B) : OwnFrom B (WlI w b a c ws e1 E) := by
  rintro pre X Y row ⟨h0, z, h1, h2, h3⟩ hg hr
  exact ⟨h0, z, h1, h2, h3.own hB hg hr⟩
theorem wlX_own (w : World) (b : Nat) (a : Option Addr) (c : Nat) (ws : List (List UInt8)) (e1 E B : Nat) (hB : w.heap.size ≤ B) (cd : Code) : OwnFrom B (WlX w b a c ws e1 E cd) := by
  rintro pre X Y row ⟨h0, z, h3⟩ hg hr
  exact ⟨h0, z, h3.own hB hg hr⟩

set_option maxRecDepth 100000 in
set_option maxHeartbeats 4000000 in
theorem walks_in (l : List UInt8) (most : Int) (w : World) (hl : (l.length : Int) ≤ 6000) (m0 : 0 ≤ most) (m1 : most ≤ 255) :
    Calls Try.prog 6 #[.string (B l), .int .u8 most] w fun e w' => e = .returned (.bool true) ∧ Below w.heap.size w w' := by
  obtain ⟨E, hE, hE1, hE2⟩ : ∃ E : Nat, max most 1 = (E : Int) ∧ 1 ≤ E ∧ E ≤ 255 := ⟨(max most 1).toNat, by omega, by omega, by omega⟩
  have hS := fun v => split_any l v (by omega)
  have hnx := walk_next l
  have hall := walk_all l
  generalize splitL l 0 = sp at hS hnx hall
  obtain ⟨ws, e1, e2⟩ := sp
  simp only at hS hnx hall
  have HS := Lib.hid hS
  have HNX := Lib.hid hnx
  have HALL := Lib.hid hall
  have HE := Lib.hid hE
  clear hS hnx hall
  have hnil := fun v bb => func_eql_nil 36 _ _ _ Try.underlying36 (.func 33) #[] bb v
  refine (callsIn_wide (n := 9)).1 ?_
  refine callsIn_of_wp_marks Try.func6 rfl trivial ?_ rfl
  simp only [Try.ntmps6, List.size_toArray, List.length_cons, List.length_nil, Nat.reduceAdd, Nat.reduceSub, Array.replicate_succ, Array.replicate_zero, List.push_toArray, List.append_toArray, List.nil_append, List.cons_append]
  gi_wp2_with (first
    | (refine ⟨trivial, ?_⟩; gi_at_call 13; refine (callsIn_wide.2 (HS.out _)).mono ?_; rintro r w1 ⟨v1, rfl, o1, b1⟩; obtain ⟨a1, c1, rfl⟩ := row_val o1)
    | (refine ⟨trivial, ?_⟩; gi_at_call 16; refine (callsIn_wide.2 (walk_any _ _)).mono ?_; rintro r w6 ⟨rfl, rfl⟩))
  obtain ⟨A1, hA1⟩ : ∃ W, w1.alloc (.cells #[.slice a1 ws.length c1] 31) = W := ⟨_, rfl⟩
  obtain ⟨A2, hA2⟩ : ∃ W, A1.alloc (.cells #[.int .i64 (e1 : Nat)] 3) = W := ⟨_, rfl⟩
  obtain ⟨A3, hA3⟩ : ∃ W, A2.alloc (.cells #[.int .i64 (E : Nat)] 3) = W := ⟨_, rfl⟩
  obtain ⟨A4, hA4⟩ : ∃ W, A3.alloc (.cells #[.int .i64 0] 3) = W := ⟨_, rfl⟩
  obtain ⟨A5, hA5⟩ : ∃ W, A4.alloc (.cells #[.int .i64 (-1)] 3) = W := ⟨_, rfl⟩
  obtain ⟨W0, hW0⟩ : ∃ W, A5.alloc (.cells #[.string (B l)] 9) = W := ⟨_, rfl⟩
  have z1 : A1.heap.size = w1.heap.size + 1 := by rw [← hA1]; simp
  have z2 : A2.heap.size = w1.heap.size + 2 := by rw [← hA2]; simp; omega
  have z3 : A3.heap.size = w1.heap.size + 3 := by rw [← hA3]; simp; omega
  have z4 : A4.heap.size = w1.heap.size + 4 := by rw [← hA4]; simp; omega
  have z5 : A5.heap.size = w1.heap.size + 5 := by rw [← hA5]; simp; omega
  have z6 : W0.heap.size = w1.heap.size + 6 := by rw [← hW0]; simp; omega
  have c0 : Below w1.heap.size w1 A1 := by rw [← hA1]; exact (Below.refl _ _).alloc (Nat.le_refl _) _
  have c1' : Below A1.heap.size A1 A2 := by rw [← hA2]; exact (Below.refl _ _).alloc (Nat.le_refl _) _
  have c2 : Below A2.heap.size A2 A3 := by rw [← hA3]; exact (Below.refl _ _).alloc (Nat.le_refl _) _
  have c3 : Below A3.heap.size A3 A4 := by rw [← hA4]; exact (Below.refl _ _).alloc (Nat.le_refl _) _
  have c4 : Below A4.heap.size A4 A5 := by rw [← hA5]; exact (Below.refl _ _).alloc (Nat.le_refl _) _
  have c5 : Below A5.heap.size A5 W0 := by rw [← hW0]; exact (Below.refl _ _).alloc (Nat.le_refl _) _
  have sz : w.heap.size < w1.heap.size := by have h1 := b1.size; simp at h1; omega
  have bS : Boxed W0 (w1.heap.size + 5) 9 (.string (B l)) := by rw [← z5, ← hW0]; exact Boxed.new A5 _ _
  have i0 : WlI w w1.heap.size a1 c1 ws e1 E [] W0 := by
    refine ⟨hE1, -1, by omega, by simp [sizes], ⟨?_, ?_, ?_, ?_, ?_, ?_, ?_, ?_⟩⟩
    · have h0 : Boxed w1 w.heap.size 4 (.bool false) := (b1.block _ (by simp)).trans (Boxed.new w 4 (.bool false))
      exact ((bb (bb (bb (bb (bb c0 c1') c2) c3) c4) c5).block _ h0.lt).trans h0
    · have h0 : Boxed A1 w1.heap.size 31 (.slice a1 ws.length c1) := by rw [← hA1]; exact Boxed.new w1 _ _
      exact ((bb (bb (bb (bb c1' c2) c3) c4) c5).block _ h0.lt).trans h0
    · exact Txt.below (Txt.of_own o1) (bb (bb (bb (bb (bb c0 c1') c2) c3) c4) c5)
    · have h0 : Boxed A2 (w1.heap.size + 1) 3 (.int .i64 (e1 : Nat)) := by rw [← z1, ← hA2]; exact Boxed.new A1 _ _
      exact ((bb (bb (bb c2 c3) c4) c5).block _ h0.lt).trans h0
    · have h0 : Boxed A3 (w1.heap.size + 2) 3 (.int .i64 (E : Nat)) := by rw [← z2, ← hA3]; exact Boxed.new A2 _ _
      exact ((bb (bb c3 c4) c5).block _ h0.lt).trans h0
    · have h0 : Boxed A4 (w1.heap.size + 3) 3 (.int .i64 0) := by rw [← z3, ← hA4]; exact Boxed.new A3 _ _
      exact ((bb c4 c5).block _ h0.lt).trans h0
    · have h0 : Boxed A5 (w1.heap.size + 4) 3 (.int .i64 (-1)) := by rw [← z4, ← hA5]; exact Boxed.new A4 _ _
      exact (c5.block _ h0.lt).trans h0
    · have ba : Below w.heap.size w (w.alloc (.cells #[.bool false] 4)) := (Below.refl _ _).alloc (Nat.le_refl _) _
      exact bb (bb ba b1) (bb (bb (bb (bb (bb c0 c1') c2) c3) c4) c5)
  rw [hA1, hA2, hA3, hA4, hA5, hW0]
  clear hA1 hA2 hA3 hA4 hA5 hW0 c0 c1' c2 c3 c4 c5 z1 z2 z3 z4 z5
  refine range_plain (gf := 33) (lb := #[.pointer (some ⟨w1.heap.size + 1 + 1 + 1 + 1 + 1, 0, none⟩)]) rfl (enters_of Try.func33 (by kernel_rfl) rfl)
    (walk_tells l (w1.heap.size + 5) W0 (by omega) bS) (Below.refl _ _) (fun _ => rfl)
    (fun V W => ⟨Nat.le_refl _, fun _ _ _ => rfl⟩)
    (fun V {X Y Z} h k => ⟨Nat.le_trans h.1 k.1, fun j h1 h2 => (k.2 j h1 (Nat.lt_of_lt_of_le h2 h.1)).trans (h.2 j h1 h2)⟩)
    (fun V W l o' h1 h2 h3 => ⟨by simp, fun j h4 h5 => World.putObj_heap_other (by omega)⟩)
    (WlI w w1.heap.size a1 c1 ws e1 E) (WlX w w1.heap.size a1 c1 ws e1 E) (wlI_own _ _ _ _ _ _ _ _ (by omega)) (wlX_own _ _ _ _ _ _ _ _ (by omega)) i0
    (fun x t => (t.setIfInBounds 12 (.int .i64 x.1)).setIfInBounds 13 (.string (B x.2)))
    ?assign ?body ?done ?stop
  case assign =>
    intro m lp x W K hK
    simp [roundAct, encW, go_sem] at hK
    unfold encW
    gi_wp2
    exact hK
  case body =>
    rintro m lp V pre x W sV ⟨hn, z, hz1, hz2, h⟩ hx
    obtain ⟨p, hp⟩ := HNX.out pre x hx
    obtain ⟨hx2, hx1, hsz, hle⟩ := hp
    obtain ⟨bt, off, rfl, htx⟩ := h.t.base (by omega)
    have ct := htx pre.length p
    rw [hx2] at ct
    have cL := h.l.cell
    have cT := h.till.cell
    have cE := h.e.cell
    have cN := h.n.cell
    have fN := h.n.frozen
    have cZ := h.z.cell
    have fZ := h.z.frozen
    have hxl := frame_len x.2
    obtain ⟨xa, xs⟩ := x
    simp only at hx1 hx2 ct hsz hxl
    have HX := Lib.hid hx
    have HX2 := Lib.hid hx2
    have HH := Lib.hid h
    clear hx hx2 htx h
    subst hx1
    generalize hq : sizes (pre.map (·.2)) = q at *
    have HQ := Lib.hid hq
    have g1 : ¬ ((q : Int) ≤ z) := by omega
    have g2 : (q : Int) < (e1 : Int) := by omega
    clear hq
    have k9 : KeepsOthers W ((W.setCell ⟨w1.heap.size + 4, 0, none⟩ (.int .i64 (q : Nat))).setCell ⟨w1.heap.size + 3, 0, none⟩ (.int .i64 ((pre.length : Int) + 1))) := (KeepsOthers.setCell _ _ _).trans (KeepsOthers.setCell _ _ _)
    have hkp : KpAll V W ((W.setCell ⟨w1.heap.size + 4, 0, none⟩ (.int .i64 (q : Nat))).setCell ⟨w1.heap.size + 3, 0, none⟩ (.int .i64 ((pre.length : Int) + 1))) := by
      refine ⟨k9.size, fun k hk1 hk2 => ?_⟩
      rw [Below.heap_setCell _ _ _ _ (by show k ≠ w1.heap.size + 3; omega), Below.heap_setCell _ _ _ _ (by show k ≠ w1.heap.size + 4; omega)]
    by_cases hlast : pre.length + 1 = E
    · have hX : WlX w w1.heap.size (some ⟨bt, off, none⟩) c1 ws e1 E (.exit 0) (pre ++ [(q, xs)]) ((W.setCell ⟨w1.heap.size + 4, 0, none⟩ (.int .i64 (q : Nat))).setCell ⟨w1.heap.size + 3, 0, none⟩ (.int .i64 ((pre.length : Int) + 1))) := by
        have := HH.out.step sz q
        rw [hlast] at this
        exact ⟨rfl, _, this⟩
      have H1 := Lib.hid k9
      have H2 := Lib.hid hkp
      have H3 := Lib.hid hX
      clear k9 hkp hX
      unfold roundAct encW
      gi_wp2
      exact ⟨H1.out.from _, H2.out, H3.out⟩
    · have hI : WlI w w1.heap.size (some ⟨bt, off, none⟩) c1 ws e1 E (pre ++ [(q, xs)]) ((W.setCell ⟨w1.heap.size + 4, 0, none⟩ (.int .i64 (q : Nat))).setCell ⟨w1.heap.size + 3, 0, none⟩ (.int .i64 ((pre.length : Int) + 1))) := by
        refine ⟨by rw [List.length_append]; simp; omega, (q : Nat), by omega, ?_, ?_⟩
        · rw [List.map_append, List.map_cons, List.map_nil, sizes_snoc, HQ.out]
          show ((q : Nat) : Int) < ((q + (frameL xs).length : Nat) : Int)
          omega
        · rw [List.length_append]
          exact HH.out.step sz q
      have H1 := Lib.hid k9
      have H2 := Lib.hid hkp
      have H3 := Lib.hid hI
      clear k9 hkp hI
      unfold roundAct encW
      gi_wp2
      exact ⟨H1.out.from _, H2.out, H3.out⟩
  case done =>
    rintro D W hD ⟨hn, z, hz1, hz2, h⟩ hK
    rw [HALL.out] at h
    have cL := h.l.cell
    have cE := h.e.cell
    have cN := h.n.cell
    have c0 := h.r.cell
    have f0 := h.r.frozen
    have hNl := h.r.lt
    have HK := Lib.hid hK
    have hDl := (Array.getElem?_eq_some_iff.1 hK).1
    have HH := Lib.hid h
    clear hK h
    gi_wp2_with (refine ⟨trivial, ?_⟩; gi_at_call 8; refine (callsIn_wide.2 (fwakes_any _)).mono ?_; rintro r w8 ⟨rfl, b8⟩; have g1 : Boxed w8 w.heap.size 4 (.bool false) := (b8.block _ hNl).trans HH.out.r; have cN8 := g1.cell; have fN8 := g1.frozen)
    have hK8 := (KeepsOthers.setCell w8 ⟨w.heap.size, 0, none⟩ (.bool true)).same D _ ((b8.block D hDl).trans HK.out) rfl
    have g2 := boxed_own w.heap.size 4 (fun (_ : Unit) => .bool true) () _ _ _ (g1.set (.bool true)) (grownBy_putObj' _ D (.deferred none)) (fun r e => by cases e; exact ⟨_, hK8, rfl⟩)
    have c9 := g2.cell
    refine ⟨by simp, .inl ⟨_, _, rfl, run_takeDeferred hK8, .bool true, by simp [results, Try.f6, go_sem, c9], rfl, ?_⟩⟩
    exact ((HH.out.bel.trans (b8.mono HH.out.bel.size)).setCell (Nat.le_refl _) _).trans (belowK_b (w := W0) (by omega) _ D _ _ hD hK8 rfl rfl)
  case stop =>
    rintro D cd pre W hD hpre ⟨rfl, z, h⟩ hK
    have cL := h.l.cell
    have cE := h.e.cell
    have cN := h.n.cell
    have c0 := h.r.cell
    have f0 := h.r.frozen
    have hNl := h.r.lt
    have HK := Lib.hid hK
    have hDl := (Array.getElem?_eq_some_iff.1 hK).1
    have HH := Lib.hid h
    clear hK h
    by_cases hEw : E = ws.length
    all_goals
      gi_wp2_with (refine ⟨trivial, ?_⟩; gi_at_call 8; refine (callsIn_wide.2 (fwakes_any _)).mono ?_; rintro r w8 ⟨rfl, b8⟩; have g1 : Boxed w8 w.heap.size 4 (.bool false) := (b8.block _ hNl).trans HH.out.r; have cN8 := g1.cell; have fN8 := g1.frozen)
      have hK8 := (KeepsOthers.setCell w8 ⟨w.heap.size, 0, none⟩ (.bool true)).same D _ ((b8.block D hDl).trans HK.out) rfl
      have g2 := boxed_own w.heap.size 4 (fun (_ : Unit) => .bool true) () _ _ _ (g1.set (.bool true)) (grownBy_putObj' _ D (.deferred none)) (fun r e => by cases e; exact ⟨_, hK8, rfl⟩)
      have c9 := g2.cell
      refine ⟨by simp, .inl ⟨_, _, rfl, run_takeDeferred hK8, .bool true, by simp [results, Try.f6, go_sem, c9], rfl, ?_⟩⟩
      exact ((HH.out.bel.trans (b8.mono HH.out.bel.size)).setCell (Nat.le_refl _) _).trans (belowK_b (w := W0) (by omega) _ D _ _ hD hK8 rfl rfl)

set_option maxRecDepth 100000 in
set_option maxHeartbeats 1000000 in
theorem walks_long (s : ByteArray) (most : Int) (w : World) (h : 6000 < (s.size : Int)) :
    Calls Try.prog 6 #[.string s, .int .u8 most] w fun e w' => e = .returned (.bool true) ∧ Below w.heap.size w w' := by
  refine (callsIn_wide (n := 9)).1 ?_
  refine callsIn_of_wp_marks Try.func6 rfl trivial ?_ rfl
  simp only [Try.ntmps6, List.size_toArray, List.length_cons, List.length_nil, Nat.reduceAdd, Nat.reduceSub, Array.replicate_succ, Array.replicate_zero, List.push_toArray, List.append_toArray, List.nil_append, List.cons_append]
  gi_wp2_with (refine ⟨trivial, ?_⟩; gi_at_call 8; refine (callsIn_wide.2 (fwakes_any _)).mono ?_; rintro r w1 ⟨rfl, b1⟩; have g1 : Boxed w1 w.heap.size 4 (.bool false) := (b1.block _ (by simp)).trans (Boxed.new w _ _); have cN := g1.cell; have fN := g1.frozen)
  have c9 := (g1.set (.bool true)).cell
  exact ⟨.bool true, by simp [results, Try.f6, go_sem, c9], rfl, (((Below.refl _ w).alloc (Nat.le_refl _) _).trans (b1.mono (by simp))).setCell (Nat.le_refl _) _⟩

theorem frameWalks_walk (a0 : ByteArray) (w0 : a0.size ≤ maxLen) (a1 : Int) (w1 : (Lit.int .u8 a1).wf = true) (w : World) :
    Calls Try.prog 6 #[.string a0, .int .u8 a1] w fun e w' => e = .returned (.bool true) ∧ Below w.heap.size w w' := by
  obtain ⟨m0, m1⟩ := bounds_u8 w1
  by_cases h : 6000 < (a0.size : Int)
  · exact walks_long a0 a1 w h
  · have e1 := B_data a0
    have hsz : (a0.data.toList.length : Int) ≤ 6000 := by have := Lib.size_eq a0; omega
    generalize a0.data.toList = t at e1 hsz
    subst e1
    exact walks_in t a1 w hsz m0 m1

end Go.Proofs.Ytddicpgkagkmiaa
