/-
  Package frame's Walk over this translation: what it tells, one by one. Its function ranges over frames' in its turn.
-/
import Derived.Test.YtddicpgkagkmiaaFrSplit
namespace Go.Proofs.Ytddicpgkagkmiaa
open Go.RowKit Go.Shelf
set_option linter.unusedVariables false

attribute [local go_sem] Oper.semAt_some

/-- Walk: the text is boxed; the function value has the box. -/
theorem walk_any (s : ByteArray) (w : World) :
    Calls Try.prog 16 #[.string s] w fun r w' => r = .returned (.func (.func 33) #[] #[.pointer (some ⟨w.heap.size, 0, none⟩)]) ∧ w.alloc (.cells #[.string s] 9) = w' := by
  go_enter Try.func16, Try.ntmps16
  go_wp2
  go_ret
  exact ⟨rfl, rfl⟩

/-- A function is not nil. -/
theorem func_eql_nil (t : TypeId) (ps rs : Array TypeId) (v : Bool) (h : Try.prog.underlying t = some (.func ps rs v)) (f : Fn) (a b : Array Value) (w : World) : (binOp .eql t (.func f a b) .nilFunc).run Try.prog w = .ok (.bool false) w := by
  have h1 : ∀ d, (Op.equalIn (d + 1) t (.func f a b) .nilFunc).run Try.prog w = .ok false w := fun d => by simp [Op.equalIn, run_underlying h]
  have h2 : (Op.equal t (.func f a b) .nilFunc).run Try.prog w = .ok false w := h1 9999
  simp [binOp, h2]

/-- What is handed to yield. -/
def encW (y : Nat × List UInt8) : Array Value := #[.int .i64 y.1, .string (B y.2)]

/-- A round leaves what the iterator has laid as it was. -/
def KpAll (V W W' : World) : Prop := W.heap.size ≤ W'.heap.size ∧ ∀ k, V.heap.size ≤ k → k < W.heap.size → W'.heap[k]? = W.heap[k]?

/-- Between two rounds of Walk's own loop. -/
def WkI (V : World) (lp : Nat) (J : List (Nat × List UInt8) → World → Prop) (pre : List Found) (W : World) : Prop :=
  okL pre ∧ J (pre.map told) W ∧ Boxed W V.heap.size 65 (.func (.yield lp) #[] #[]) ∧ V.heap.size + 2 ≤ W.heap.size
def WkX (l : List UInt8) (J Jx : List (Nat × List UInt8) → World → Prop) (c : Code) (pre : List Found) (W : World) : Prop :=
  c = .ret ∧ (J (walkL l 0) W ∨ ∃ p, p <+: walkL l 0 ∧ Jx p W)

theorem wkI_own (V : World) (lp : Nat) (J : List (Nat × List UInt8) → World → Prop) (hJ : OwnFrom V.heap.size J) : OwnFrom V.heap.size (WkI V lp J) := by
  rintro pre X Y row ⟨h0, h1, h2, h3⟩ hg hr
  exact ⟨h0, hJ _ X Y row h1 hg hr, boxed_own _ _ (fun (_ : Unit) => _) () X Y row h2 hg (fun r e => (hr r e).2), Nat.le_trans h3 hg.size⟩
theorem wkX_own (l : List UInt8) (n : Nat) (J Jx : List (Nat × List UInt8) → World → Prop) (hJ : OwnFrom n J) (hJx : OwnFrom n Jx) (c : Code) : OwnFrom n (WkX l J Jx c) := by
  rintro pre X Y row ⟨h0, h1⟩ hg hr
  refine ⟨h0, ?_⟩
  rcases h1 with h1 | ⟨p, hp, h1⟩
  · exact .inl (hJ _ X Y row h1 hg hr)
  · exact .inr ⟨p, hp, hJx _ X Y row h1 hg hr⟩

theorem walk_prefix {l : List UInt8} {pre : List Found} {x : Found} (h : pre ++ [x] <+: foundL l 0) (h0 : okL pre) (hx : x.2.2.2 = 0) : pre.map told ++ [told x] <+: walkL l 0 := by
  have := h.filterMap walkF
  rw [walk_ok (okL_snoc h0 hx), List.map_append] at this
  exact this

set_option maxRecDepth 100000 in
set_option maxHeartbeats 4000000 in
theorem walk_tells (l : List UInt8) (b : Nat) (w0 : World) (hl : l.length ≤ 1000000) (hb : Boxed w0 b 9 (.string (B l))) :
    Tells Try.prog 33 #[.pointer (some ⟨b, 0, none⟩)] encW KpAll (walkL l 0) w0 := by
  intro lp J Jx V hV hlV hJ hJx hY h0
  have hbV : Boxed V b 9 (.string (B l)) := (hV.block b hb.lt).trans hb
  have cb := hbV.cell
  have hblt := hbV.lt
  have hnil := fun w1 => func_eql_nil 65 _ _ _ Try.underlying65 (.yield lp) #[] #[] w1
  refine (callsIn_wide (n := 9)).1 ?_
  refine callsIn_of_wp_marks Try.func33 rfl trivial ?_ rfl
  simp only [Try.ntmps33, List.size_toArray, List.length_cons, List.length_nil, Nat.reduceAdd, Nat.reduceSub, Array.replicate_succ, Array.replicate_zero, List.push_toArray, List.append_toArray, List.nil_append, List.cons_append]
  gi_wp2_with (refine ⟨trivial, ?_⟩; gi_at_call 32; refine (callsIn_wide.2 (frames_any _ _)).mono ?_; rintro r w1 ⟨rfl, rfl⟩)
  obtain ⟨W0, hW0⟩ : ∃ W0, ((V.alloc (.cells #[.func (.yield lp) #[] #[]] 65)).alloc (.cells #[.string (B l)] 9)) = W0 := ⟨_, rfl⟩
  have sW0 : W0.heap.size = V.heap.size + 2 := by rw [← hW0]; simp
  have bS : Boxed W0 (V.heap.size + 1) 9 (.string (B l)) := by
    rw [← hW0]
    have := Boxed.new (V.alloc (.cells #[.func (.yield lp) #[] #[]] 65)) 9 (.string (B l))
    simpa using this
  have i0 : WkI V lp J [] W0 := by
    refine ⟨okL_nil, ?_, ?_, by omega⟩
    · rw [← hW0]
      exact hJ.alloc _ (hJ.alloc _ h0)
    · rw [← hW0]
      exact (Boxed.new V 65 (.func (.yield lp) #[] #[])).alloc _
  have HS := Lib.hid sW0
  rw [hW0]
  clear hW0
  refine range_tells (gf := 45) (lb := #[.pointer (some ⟨V.heap.size + 1, 0, none⟩)]) rfl (enters_of Try.func45 (by kernel_rfl) rfl)
    (frames_tell l (V.heap.size + 1) W0 (by omega) bS) (Below.refl _ _) (fun _ => rfl)
    (fun V {X Y Z} h k => k.trans h)
    (fun V' W l o' h1 h2 h3 => World.putObj_heap_other (by omega))
    (WkI V lp J) (WkX l J Jx) (own_up (wkI_own V lp J hJ) (by omega)) (fun c => own_up (wkX_own l _ J Jx hJ hJx c) (by omega)) i0
    (fun x a' W => ∃ Bx, FBox x Bx W ∧ a' = { tmps := #[.func (.yield lp) #[] #[], .pointer (some ⟨b, 0, none⟩), .pointer (some ⟨V.heap.size, 0, none⟩), .int .i64 x.1, .pointer (some ⟨Bx, 0, none⟩), .func (.yield lp) #[] #[], .bool false, .string (B l), .func (.func 45) #[] #[.pointer (some ⟨V.heap.size + 1, 0, none⟩)], .int .i64 x.1, .agg #[.string (B x.2.1), .int .i64 x.2.2.1, .int .i64 x.2.2.2], undef, undef, undef, undef, undef, undef, undef, undef, undef, undef, undef], defers := [] })
    ?hAx ?assign ?body ?done ?stop
  case hAx =>
    rintro x a' _ X Y row ⟨Bx, h2, h3⟩ hg hr
    exact ⟨Bx, fBox_own x Bx _ () X Y row h2 hg hr, h3⟩
  case assign =>
    rintro m lp2 V2 pre x W K sV hi hx hK
    unfold encF
    gi_wp2
    obtain ⟨h1, h2, h3, h4⟩ := hi
    exact hK _ _ ((KeepsOthers.alloc _ _).from _) (Below.heap_alloc W _ _ (by omega)) (wkI_own V lp J hJ pre W _ none ⟨h1, h2, h3, h4⟩ (World.grownBy_alloc W _ none) (by simp)) ⟨W.heap.size, heap_alloc_new W _, rfl⟩
  case body =>
    rintro m lp2 V2 pre x a' W sV ⟨h1, h2, h3, h4⟩ hx ⟨Bx, hF, rfl⟩
    obtain ⟨at_, ins, n, e⟩ := x
    have cY := h3.cell
    have cF0 : W.cell? ⟨Bx, 0, none⟩ = some (.string (B ins)) := by rw [cell_of_row W Bx 0 _ _ _ hF]; rfl
    have cF2 : W.cell? ⟨Bx, 2, none⟩ = some (.int .i64 e) := by rw [cell_of_row W Bx 2 _ _ _ hF]; rfl
    by_cases he : e = 0
    · subst he
      have hpx := walk_prefix hx h1 rfl
      obtain ⟨fn, tmps, assign, body, hy, hR⟩ := hY (pre.map told) _ W h2 hpx
      simp only [encW, told] at hy
      have HX := Lib.hid hx
      have HPX := Lib.hid hpx
      clear hx hpx
      gi_wp2
      refine ⟨fun h => by simp [Fence.wide] at h, ?_⟩
      refine RoundIn.mono (show RoundIn (Fence.wide.inRound lp2) (m - 1) _ lp fn tmps assign body W _ from hR (m - 1)) ?_
      rintro e2 W2 ⟨⟨hks, hkp⟩, ⟨rfl, hj2⟩ | ⟨rfl, hjx2⟩⟩
      · have hkf : KeepsFrom W0.heap.size W W2 := ⟨hks, fun k o hk ho _ => (hkp k (by have := HS.out; omega) (Array.getElem?_eq_some_iff.1 ho).1).trans ho⟩
        have hkb : KpBox (V.heap.size + 1) V2 W W2 := hkp _ (by omega) (by omega)
        have hI : WkI V lp J (pre ++ [(at_, ins, n, 0)]) W2 := ⟨okL_snoc h1 rfl, by rw [List.map_append]; exact hj2, (hkp _ (Nat.le_refl _) (by omega)).trans h3, by omega⟩
        have HI := Lib.hid hI
        clear hI
        gi_wp2
        exact ⟨hkf, hkb, HI.out⟩
      · have hkf : KeepsFrom W0.heap.size W W2 := ⟨hks, fun k o hk ho _ => (hkp k (by have := HS.out; omega) (Array.getElem?_eq_some_iff.1 ho).1).trans ho⟩
        have hkb : KpBox (V.heap.size + 1) V2 W W2 := hkp _ (by omega) (by omega)
        have hO : WkX l J Jx .ret (pre ++ [(at_, ins, n, 0)]) W2 := ⟨rfl, .inr ⟨_, HPX.out, hjx2⟩⟩
        have HO := Lib.hid hO
        clear hO
        gi_wp2
        exact ⟨hkf, hkb, HO.out⟩
    · have hne : (e != 0) = true := by simpa using he
      have hout : WkX l J Jx .ret (pre ++ [(at_, ins, n, e)]) W := by
        refine ⟨rfl, .inl ?_⟩
        unfold walkL
        rw [none_last l l.length 0 pre (at_, ins, n, e) (by omega) hx he, walk_stop h1 he]
        exact h2
      have HO := Lib.hid hout
      clear hout hx
      gi_wp2
      refine ⟨fun _ _ => trivial, ?_⟩
      gi_wp2
      exact ⟨KeepsFrom.refl _ _, rfl, HO.out⟩
  case done =>
    rintro D W hD ⟨h1, h2, h3, h4⟩ hK
    have hw : walkL l 0 = (foundL l 0).map told := walk_ok h1
    have hJ2 := hJ _ _ _ _ h2 (grownBy_putObj' W D (.deferred none)) (fun r e => by cases e; exact ⟨by omega, _, hK, rfl⟩)
    rw [← hw] at hJ2
    have HJ2 := Lib.hid hJ2
    clear hJ2 hw
    gi_wp2
    refine ⟨by simp, .inl ⟨_, _, rfl, run_takeDeferred hK, ?_⟩⟩
    exact ⟨_, results_none rfl _ _ _, ⟨_, rfl⟩, .inl HJ2.out⟩
  case stop =>
    rintro D c pre W hD hpre ⟨rfl, hX⟩ hK
    have hX2 : J (walkL l 0) (W.putObj D (.deferred none)) ∨ ∃ p, p <+: walkL l 0 ∧ Jx p (W.putObj D (.deferred none)) := by
      rcases hX with h | ⟨p, hp, h⟩
      · exact .inl (hJ _ _ _ _ h (grownBy_putObj' W D (.deferred none)) (fun r e => by cases e; exact ⟨by omega, _, hK, rfl⟩))
      · exact .inr ⟨p, hp, hJx _ _ _ _ h (grownBy_putObj' W D (.deferred none)) (fun r e => by cases e; exact ⟨by omega, _, hK, rfl⟩)⟩
    have HX2 := Lib.hid hX2
    clear hX2 hX
    gi_wp2
    refine ⟨by simp, .inl ⟨_, _, rfl, run_takeDeferred hK, ?_⟩⟩
    exact ⟨_, results_none rfl _ _ _, ⟨_, rfl⟩, HX2.out⟩

end Go.Proofs.Ytddicpgkagkmiaa
