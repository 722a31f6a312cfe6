/-
  Ranges over a function, told of one by one: what an iterator owes to a loop's rounds and they to it, and the statement's law, where no fence is asked for. An iterator may range over another one in its turn (so it turns records of its own between two rounds); what a round must not turn is the iterator's to say, in the world in which it was called.
-/
import Derived.RangeFuncNested
import Derived.RangeFuncBound
import Derived.RangeFuncCalls
import Derived.RangeFuncLeaves
namespace Go.Proofs.Ytefocgifgphgiaa
open Go.RowKit
set_option linter.unusedVariables false

/-- A call of yield: the round that it leads to, at whatever depth. -/
def Asks (P : Program) (l : Nat) (args : Array Value) (W : World) (R : Ending → World → Prop) : Prop :=
  ∃ fn tmps assign body, (Instr.yield l args).run P W = .ok (.round l fn tmps assign body) W ∧ ∀ m, RoundIn Fence.wide m P l fn tmps assign body W R

theorem Asks.mono {P : Program} {l : Nat} {args : Array Value} {W : World} {R R' : Ending → World → Prop} (h : Asks P l args W R) (hr : ∀ e w, R e w → R' e w) : Asks P l args W R' := by
  obtain ⟨fn, tmps, assign, body, hy, hR⟩ := h
  exact ⟨fn, tmps, assign, body, hy, fun m => (hR m).mono hr⟩

/-- No depth is asked for where there is no fence. -/
theorem round_deep {m m' : Nat} {P : Program} {l : Nat} {fn : FuncId} {tmps : Array Value} {assign body : Code} {W : World} {R : Ending → World → Prop}
    (h : RoundIn Fence.wide m P l fn tmps assign body W R) : RoundIn Fence.wide m' P l fn tmps assign body W R :=
  ⟨h.1, fun c cs _ => h.2 c cs (room_wide _)⟩

/-- What the iterator g (with its captured lb) tells: all of xs, one behind the other, or a beginning of it, if a round has said 'no more'. Kp V W W': what a round that began in W must have kept in W', the iterator having been called in V. -/
def Tells {α : Type} (P : Program) (g : Nat) (lb : Array Value) (encs : α → Array Value) (Kp : World → World → World → Prop) (xs : List α) (w0 : World) : Prop :=
  ∀ (l : Nat) (J Jx : List α → World → Prop) (V : World), Below w0.heap.size w0 V → l < V.heap.size → OwnFrom V.heap.size J → OwnFrom V.heap.size Jx →
    (∀ pre x W, J pre W → pre ++ [x] <+: xs → Asks P l (encs x) W fun e W' => Kp V W W' ∧ ((e = .returned (.bool true) ∧ J (pre ++ [x]) W') ∨ (e = .returned (.bool false) ∧ Jx (pre ++ [x]) W'))) →
    J [] V →
    Calls P g (#[.func (.yield l) #[] #[]] ++ lb) V fun e W' => (∃ v, e = .returned v) ∧ (J xs W' ∨ ∃ pre, pre <+: xs ∧ Jx pre W')

/-- How a round's body may be left. -/
def roundEnd {α : Type} (B : Nat) (Kp : World → World → Prop) (I : List α → World → Prop) (Ix : Code → List α → World → Prop) (xs : List α) (W : World) : Exit → Act → World → Prop
  | .normal, _, W' => KeepsFrom B W W' ∧ Kp W W' ∧ I xs W'
  | .ret, _, W' => KeepsFrom B W W' ∧ Kp W W' ∧ Ix .ret xs W'
  | .exit id, _, W' => KeepsFrom B W W' ∧ Kp W W' ∧ Ix (.exit id) xs W'
  | .goto t, _, W' => KeepsFrom B W W' ∧ Kp W W' ∧ Ix (.goto t) xs W'
  | .panic _, _, _ => False
  | .outgrown, _, _ => False

theorem own_up {β : Type} {B B' : Nat} {I : β → World → Prop} (h : OwnFrom B I) (hB : B ≤ B') : OwnFrom B' I :=
  fun s X Y row hs hg hr => h s X Y row hs hg fun r e => ⟨Nat.le_trans hB (hr r e).1, (hr r e).2⟩

/-- A block ahead of all that may turn lies as it lay. -/
theorem lies_on {X Y : World} {row : Option Nat} {B k : Nat} {o : Obj} (hg : X.grownBy Y row) (hr : ∀ r, row = some r → B ≤ r ∧ ∃ o : Obj, X.heap[r]? = some o ∧ o.isCells = false) (hk : k < B) (h : X.heap[k]? = some o) : Y.heap[k]? = some o :=
  (hg.block k (Array.getElem?_eq_some_iff.1 h).1 (fun e => by have := (hr k e.symm).1; omega)).trans h

variable {P : Program} {n : Nat}

/-- A loop's record in its states. -/
def rec_ (fn : FuncId) (a : Act) (ps : Array Tmp) (assign body : Code) (D : Nat) (st : LoopState) (pe : Option Code) : Loop :=
  { state := st, pending := pe, fn, tmps := a.tmps, params := ps, assign, body, defers := D }

/-- One round, from yield's call to its answer: the loop's own two blocks turn as they must. -/
theorem range_round {α : Type} {fn : FuncId} {a : Act} {ps : Array Tmp} {assign body : Code} {B l D : Nat} (hl : B ≤ l) (hD : B ≤ D) (hne : D ≠ l) {args : Array Value} (hps : args.size = ps.size)
    {Kp : World → World → Prop} (hKt : ∀ {X Y Z : World}, Kp X Y → Kp Y Z → Kp X Z) (hKb : ∀ (W : World) (o' : Obj), (∃ o : Obj, W.heap[l]? = some o ∧ o.isCells = false) → Kp W (W.putObj l o'))
    {I : List α → World → Prop} {Ix : Code → List α → World → Prop} (hI : OwnFrom B I) (hIx : ∀ c, OwnFrom B (Ix c)) {Ax : Act → World → Prop} (hAx : ∀ a', OwnFrom B (fun (_ : Unit) W => Ax a' W)) {xs ys : List α} {W : World}
    (hrec : W.heap[l]? = some (.loop (rec_ fn a ps assign body D .ready none))) (hdef : W.heap[D]? = some (.deferred (some [])))
    (hassign : ∀ m (K : Act → World → Prop), (∀ a' W', KeepsFrom B W W' → Kp W W' → I xs W' → Ax a' W' → K a' W') → assign.wpIn (Fence.wide.inRound l) m P (Exit.then K (fun _ _ _ => False)) { tmps := (ps.zip args).foldl (fun t (p, v) => t.setIfInBounds p v) a.tmps, defers := [] } W)
    (hbody : ∀ m a' W1, I xs W1 → Ax a' W1 → body.wpIn (Fence.wide.inRound l) m P (roundEnd B Kp I Ix ys W1) a' W1) :
    Asks P l args W fun e W' => Kp W W' ∧ ((e = .returned (.bool true) ∧ I ys W' ∧ W'.heap[l]? = some (.loop (rec_ fn a ps assign body D .ready none)) ∧ W'.heap[D]? = some (.deferred (some []))) ∨
      (e = .returned (.bool false) ∧ ∃ c, Ix c ys W' ∧ W'.heap[l]? = some (.loop (rec_ fn a ps assign body D .done (some c))) ∧ W'.heap[D]? = some (.deferred (some [])))) := by
  refine ⟨fn, _, assign, body, run_yield hrec hps, fun m => roundIn_of_wpIn trivial (hassign m _ ?_)⟩
  intro a' W1 k1 kp1 i1 x1
  have r1 := k1.same l _ hl hrec rfl
  have d1 := k1.same D _ hD hdef rfl
  refine ⟨_, run_beginRound r1 rfl, ?_⟩
  have lt1 := (Array.getElem?_eq_some_iff.1 r1).1
  have r2 : (W1.putObj l (.loop (rec_ fn a ps assign body D .busy none))).heap[l]? = some (.loop (rec_ fn a ps assign body D .busy none)) := World.putObj_heap_same lt1
  have d2 : (W1.putObj l (.loop (rec_ fn a ps assign body D .busy none))).heap[D]? = some (.deferred (some [])) := (World.putObj_heap_other hne).trans d1
  have kp2 : Kp W (W1.putObj l (.loop (rec_ fn a ps assign body D .busy none))) := hKt kp1 (hKb W1 _ ⟨_, r1, rfl⟩)
  refine wpIn_mono (hbody m a' _ (hI.putObj _ i1 hl r1 rfl) ((hAx a').putObj (s := ()) _ x1 hl r1 rfl)) ?_
  have fin : ∀ (jump : Option Code) (W3 : World), KeepsFrom B (W1.putObj l (.loop (rec_ fn a ps assign body D .busy none))) W3 → Kp (W1.putObj l (.loop (rec_ fn a ps assign body D .busy none))) W3 →
      ∃ W4, W4 = W3.putObj l (.loop (rec_ fn a ps assign body D (if jump.isNone then .ready else .done) jump)) ∧ (Instr.endRound l jump).run P W3 = .ok (.bool jump.isNone) W4 ∧ W3.heap[l]? = some (.loop (rec_ fn a ps assign body D .busy none)) ∧
        Kp W W4 ∧ W4.heap[l]? = some (.loop (rec_ fn a ps assign body D (if jump.isNone then .ready else .done) jump)) ∧ W4.heap[D]? = some (.deferred (some [])) := by
    intro jump W3 k3 kp3
    have r3 := k3.same l _ hl r2 rfl
    have d3 := k3.same D _ hD d2 rfl
    exact ⟨_, rfl, run_endRound (P := P) jump r3, r3, hKt kp2 (hKt kp3 (hKb W3 _ ⟨_, r3, rfl⟩)), World.putObj_heap_same (Array.getElem?_eq_some_iff.1 r3).1, (World.putObj_heap_other hne).trans d3⟩
  have left : ∀ (c : Code) (W3 : World), KeepsFrom B (W1.putObj l (.loop (rec_ fn a ps assign body D .busy none))) W3 ∧ Kp (W1.putObj l (.loop (rec_ fn a ps assign body D .busy none))) W3 ∧ Ix c ys W3 →
      ∃ v W4, (Instr.endRound l (some c)).run P W3 = .ok v W4 ∧ (Kp W W4 ∧ ((Ending.returned v = .returned (.bool true) ∧ I ys W4 ∧ W4.heap[l]? = some (.loop (rec_ fn a ps assign body D .ready none)) ∧ W4.heap[D]? = some (.deferred (some []))) ∨
        (Ending.returned v = .returned (.bool false) ∧ ∃ c, Ix c ys W4 ∧ W4.heap[l]? = some (.loop (rec_ fn a ps assign body D .done (some c))) ∧ W4.heap[D]? = some (.deferred (some []))))) := by
    rintro c W3 ⟨k3, kp3, i3⟩
    obtain ⟨W4, rfl, h1, h2, h3, h4, h5⟩ := fin (some c) W3 k3 kp3
    exact ⟨_, _, h1, h3, .inr ⟨rfl, c, (hIx c).putObj _ i3 hl h2 rfl, h4, h5⟩⟩
  intro e a3 W3 hp
  cases e with
  | normal =>
    obtain ⟨k3, kp3, i3⟩ := hp
    obtain ⟨W4, rfl, h1, h2, h3, h4, h5⟩ := fin none W3 k3 kp3
    exact ⟨_, _, h1, h3, .inl ⟨rfl, hI.putObj _ i3 hl h2 rfl, h4, h5⟩⟩
  | ret => exact left .ret W3 hp
  | exit id => exact left (.exit id) W3 hp
  | goto t => exact left (.goto t) W3 hp
  | panic ch => exact hp.elim
  | outgrown => exact hp.elim

/-- The statement over an iterator that tells xs. -/
theorem range_tells {α : Type} {g : Operand} {ps : Array Tmp} {assign body : Code} {Q : Exit → Act → World → Prop} {a : Act} {w : World} {gf : Nat} {lb : Array Value}
    (hg : a.eval g = .func (.func gf) #[] lb) (eg : ∀ args w, (callFunc gf args).run P w = .ok (.enter gf args) w)
    {encs : α → Array Value} {Kp : World → World → World → Prop} {xs : List α} {w0 : World} (hseq : Tells P gf lb encs Kp xs w0) (hb0 : Below w0.heap.size w0 w) (hps : ∀ x, (encs x).size = ps.size)
    (hKt : ∀ (V : World) {X Y Z : World}, Kp V X Y → Kp V Y Z → Kp V X Z)
    (hKb : ∀ (V W : World) (l : Nat) (o' : Obj), w.heap.size ≤ l → l < V.heap.size → (∃ o : Obj, W.heap[l]? = some o ∧ o.isCells = false) → Kp V W (W.putObj l o'))
    (I : List α → World → Prop) (Ix : Code → List α → World → Prop) (hI : OwnFrom w.heap.size I) (hIx : ∀ c, OwnFrom w.heap.size (Ix c)) (h0 : I [] w)
    (Ax : α → Act → World → Prop) (hAx : ∀ x a', OwnFrom w.heap.size (fun (_ : Unit) W => Ax x a' W))
    (hassign : ∀ (m l : Nat) (V : World) (pre : List α) (x : α) (W : World) (K : Act → World → Prop), V.heap.size = w.heap.size + 2 → I pre W → pre ++ [x] <+: xs → (∀ a' W', KeepsFrom w.heap.size W W' → Kp V W W' → I pre W' → Ax x a' W' → K a' W') →
      assign.wpIn (Fence.wide.inRound l) m P (Exit.then K (fun _ _ _ => False)) { tmps := (ps.zip (encs x)).foldl (fun t (p, v) => t.setIfInBounds p v) a.tmps, defers := [] } W)
    (hbody : ∀ (m l : Nat) (V : World) (pre : List α) (x : α) (a' : Act) (W : World), V.heap.size = w.heap.size + 2 → I pre W → pre ++ [x] <+: xs → Ax x a' W → body.wpIn (Fence.wide.inRound l) m P (roundEnd w.heap.size (Kp V) I Ix (pre ++ [x]) W) a' W)
    (hdone : ∀ (D : Nat) (W : World), w.heap.size ≤ D → I xs W → W.heap[D]? = some (.deferred (some [])) → Q .normal { a with defers := { target := .collected D, args := #[] } :: a.defers } W)
    (hstop : ∀ (D : Nat) (c : Code) (pre : List α) (W : World), w.heap.size ≤ D → pre <+: xs → Ix c pre W → W.heap[D]? = some (.deferred (some [])) → c.wpIn Fence.wide n P Q { a with defers := { target := .collected D, args := #[] } :: a.defers } W) :
    (Code.rangeFunc g ps assign body).wpIn Fence.wide n P Q a w := by
  refine wpIn_rangeFunc fun fn _ => ?_
  obtain ⟨V, hV⟩ : ∃ V, (w.alloc (.deferred (some []))).alloc (.loop (rec_ fn a ps assign body w.heap.size .ready none)) = V := ⟨_, rfl⟩
  have sV : V.heap.size = w.heap.size + 2 := by rw [← hV]; simp
  have rV : V.heap[w.heap.size + 1]? = some (.loop (rec_ fn a ps assign body w.heap.size .ready none)) := by
    rw [← hV]
    have := World.alloc_heap_new (w.alloc (.deferred (some []))) (.loop (rec_ fn a ps assign body w.heap.size .ready none))
    rwa [World.size_alloc] at this
  have dV : V.heap[w.heap.size]? = some (.deferred (some [])) := by
    rw [← hV]; exact (Below.heap_alloc _ _ _ (by simp)).trans (World.alloc_heap_new w _)
  have iV : I [] V := by rw [← hV]; exact hI.alloc _ (hI.alloc _ h0)
  have bV : Below w0.heap.size w0 V := by
    rw [← hV]; exact hb0.trans ((((Below.refl _ w).alloc (Nat.le_refl _) _).alloc (by simp) _).mono hb0.size)
  refine ⟨w.heap.size + 1, [{ target := .collected w.heap.size, args := #[] }], V, { target := .fn (.func gf) lb, args := #[.func (.yield (w.heap.size + 1)) #[] #[]] }, V, gf,
    #[.func (.yield (w.heap.size + 1)) #[] #[]] ++ lb, V, ?_, ?_, fun _ _ => trivial, ?_, fun h => by simp [Fence.wide] at h, ?_⟩
  · rw [← hV]; exact run_enterLoop_outer _ _ _ _ _
  · simp only [resolve, hg]
    simp [go_sem]
  · simp [invoke, go_sem, eg]
  refine callsIn_wide.2 ((hseq (w.heap.size + 1)
      (fun pre W => I pre W ∧ W.heap[w.heap.size + 1]? = some (.loop (rec_ fn a ps assign body w.heap.size .ready none)) ∧ W.heap[w.heap.size]? = some (.deferred (some [])))
      (fun pre W => ∃ c, Ix c pre W ∧ W.heap[w.heap.size + 1]? = some (.loop (rec_ fn a ps assign body w.heap.size .done (some c))) ∧ W.heap[w.heap.size]? = some (.deferred (some [])))
      V bV (by omega) ?_ ?_ ?_ ⟨iV, rV, dV⟩).mono ?_)
  · rintro s X Y row ⟨h1, h2, h3⟩ hg hr
    exact ⟨own_up hI (by omega) s X Y row h1 hg hr, lies_on hg hr (by omega) h2, lies_on hg hr (by omega) h3⟩
  · rintro s X Y row ⟨c, h1, h2, h3⟩ hg hr
    exact ⟨c, own_up (hIx c) (by omega) s X Y row h1 hg hr, lies_on hg hr (by omega) h2, lies_on hg hr (by omega) h3⟩
  · rintro pre x W ⟨h1, h2, h3⟩ hx
    exact range_round (l := w.heap.size + 1) (Kp := Kp V) (Nat.le_succ _) (Nat.le_refl _) (by omega) (hps x) (fun h k => hKt V h k) (fun W o' ho => hKb V W _ o' (by omega) (by omega) ho) hI hIx (hAx x) h2 h3
      (fun m K hK => hassign m _ V pre x W K sV h1 hx hK) (fun m a' W1 i1 x1 => hbody m _ V pre x a' W1 sV i1 hx x1)
  · rintro e W2 ⟨⟨v, rfl⟩, ⟨h1, h2, h3⟩ | ⟨pre, hp, c, h1, h2, h3⟩⟩
    · exact ⟨none, _, run_endLoop (P := P) h2 (by simp [rec_]), hdone _ _ (Nat.le_refl _) (hI.putObj _ h1 (by omega) h2 rfl) ((World.putObj_heap_other (by omega)).trans h3)⟩
    · exact ⟨some c, _, run_endLoop (P := P) h2 (by simp [rec_]), hstop _ c pre _ (Nat.le_refl _) hp ((hIx c).putObj _ h1 (by omega) h2 rfl) ((World.putObj_heap_other (by omega)).trans h3)⟩

end Go.Proofs.Ytefocgifgphgiaa
