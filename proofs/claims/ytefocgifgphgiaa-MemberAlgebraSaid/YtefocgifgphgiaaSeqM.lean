/-
  Ranges over a method value: what its method owes to a loop's rounds, the receiver being bound; the statement's law, where the loop's variables lie in boxes and where they lie in slots.
-/
import Derived.Test.YtefocgifgphgiaaSeqB
namespace Go.Proofs.Ytefocgifgphgiaa
open Go.RowKit
set_option linter.unusedVariables false

/-- What the iterator g tells (with its bound ba, a method value's receiver, and its captured lb): all of xs, one behind the other, or a beginning of it, if a round has said 'no more'. Kp V W W': what a round that began in W must have kept in W', the iterator having been called in V. -/
def TellsM {α : Type} (P : Program) (g : Nat) (ba lb : Array Value) (encs : α → Array Value) (Kp : World → World → World → Prop) (xs : List α) (w0 : World) : Prop :=
  ∀ (l : Nat) (J Jx : List α → World → Prop) (V : World), Below w0.heap.size w0 V → l < V.heap.size → OwnFrom V.heap.size J → OwnFrom V.heap.size Jx →
    (∀ pre x W, J pre W → pre ++ [x] <+: xs → Asks P l (encs x) W fun e W' => Kp V W W' ∧ ((e = .returned (.bool true) ∧ J (pre ++ [x]) W') ∨ (e = .returned (.bool false) ∧ Jx (pre ++ [x]) W'))) →
    J [] V →
    Calls P g (ba ++ #[.func (.yield l) #[] #[]] ++ lb) V fun e W' => (∃ v, e = .returned v) ∧ (J xs W' ∨ ∃ pre, pre <+: xs ∧ Jx pre W')

theorem Tells.method {α : Type} {P : Program} {g : Nat} {lb : Array Value} {encs : α → Array Value} {Kp : World → World → World → Prop} {xs : List α} {w0 : World} (h : Tells P g lb encs Kp xs w0) : TellsM P g #[] lb encs Kp xs w0 := by
  intro l J Jx V h1 h2 h3 h4 h5 h6
  simpa using h l J Jx V h1 h2 h3 h4 h5 h6

variable {P : Program} {n : Nat}

/-- The statement over an iterator that tells xs. -/
theorem range_tells_m {α : Type} {g : Operand} {ps : Array Tmp} {assign body : Code} {Q : Exit → Act → World → Prop} {a : Act} {w : World} {gf : Nat} {ba lb : Array Value}
    (hg : a.eval g = .func (.func gf) ba lb) (eg : ∀ args w, (callFunc gf args).run P w = .ok (.enter gf args) w)
    {encs : α → Array Value} {Kp : World → World → World → Prop} {xs : List α} {w0 : World} (hseq : TellsM P gf ba lb encs Kp xs w0) (hb0 : Below w0.heap.size w0 w) (hps : ∀ x, (encs x).size = ps.size)
    (hKt : ∀ (V : World) {X Y Z : World}, Kp V X Y → Kp V Y Z → Kp V X Z)
    (hKb : ∀ (V W : World) (l : Nat) (o' : Obj), w.heap.size ≤ l → l < V.heap.size → (∃ o : Obj, W.heap[l]? = some o ∧ o.isCells = false) → Kp V W (W.putObj l o'))
    (I : List α → World → Prop) (Ix : Code → List α → World → Prop) (hI : OwnFrom w.heap.size I) (hIx : ∀ c, OwnFrom w.heap.size (Ix c)) (h0 : I [] w)
    (Ax : α → Act → World → Prop) (hAx : ∀ x a', OwnFrom w.heap.size (fun (_ : Unit) W => Ax x a' W))
    (hassign : ∀ (m l : Nat) (V : World) (pre : List α) (x : α) (W : World) (K : Act → World → Prop), V.heap.size = w.heap.size + 2 → I pre W → pre ++ [x] <+: xs → (∀ a' W', KeepsFrom w.heap.size W W' → Kp V W W' → I pre W' → Ax x a' W' → K a' W') →
      assign.wpIn (Fence.wide.inRound l) m P (Exit.then K (fun _ _ _ => False)) { tmps := (ps.zip (encs x)).foldl (fun t (p, v) => t.setIfInBounds p v) a.tmps, defers := [] } W)
    (hbody : ∀ (m l : Nat) (V : World) (pre : List α) (x : α) (a' : Act) (W : World), V.heap.size = w.heap.size + 2 → I pre W → pre ++ [x] <+: xs → Ax x a' W → body.wpIn (Fence.wide.inRound l) m P (roundEnd w.heap.size (Kp V) I Ix (pre ++ [x]) W) a' W)
    (hdone : ∀ (D : Nat) (W : World), w.heap.size ≤ D → I xs W → W.heap[D]? = some (.deferred (some [])) → Q .normal { a with defers := { target := .collected D, args := #[] } :: a.defers } W)
    (hstop : ∀ (D : Nat) (c : Code) (pre : List α) (W : World), w.heap.size ≤ D → pre <+: xs → Ix c pre W → W.heap[D]? = some (.deferred (some [])) → c.wpIn Fence.wide n P Q { a with defers := { target := .collected D, args := #[] } :: a.defers } W) :
    (Code.rangeFunc g ps assign body).wpIn Fence.wide n P Q a w := by
  refine wpIn_rangeFunc fun fn _ => ?_
  obtain ⟨V, hV⟩ : ∃ V, (w.alloc (.deferred (some []))).alloc (.loop (rec_ fn a ps assign body w.heap.size .ready none)) = V := ⟨_, rfl⟩
  have sV : V.heap.size = w.heap.size + 2 := by rw [← hV]; simp
  have rV : V.heap[w.heap.size + 1]? = some (.loop (rec_ fn a ps assign body w.heap.size .ready none)) := by
    rw [← hV]
    have := World.alloc_heap_new (w.alloc (.deferred (some []))) (.loop (rec_ fn a ps assign body w.heap.size .ready none))
    rwa [World.size_alloc] at this
  have dV : V.heap[w.heap.size]? = some (.deferred (some [])) := by
    rw [← hV]; exact (Below.heap_alloc _ _ _ (by simp)).trans (World.alloc_heap_new w _)
  have iV : I [] V := by rw [← hV]; exact hI.alloc _ (hI.alloc _ h0)
  have bV : Below w0.heap.size w0 V := by
    rw [← hV]; exact hb0.trans ((((Below.refl _ w).alloc (Nat.le_refl _) _).alloc (by simp) _).mono hb0.size)
  refine ⟨w.heap.size + 1, [{ target := .collected w.heap.size, args := #[] }], V, { target := .fn (.func gf) lb, args := ba ++ #[.func (.yield (w.heap.size + 1)) #[] #[]] }, V, gf,
    ba ++ #[.func (.yield (w.heap.size + 1)) #[] #[]] ++ lb, V, ?_, ?_, fun _ _ => trivial, ?_, fun h => by simp [Fence.wide] at h, ?_⟩
  · rw [← hV]; exact run_enterLoop_outer _ _ _ _ _
  · simp only [resolve, hg]
    simp [go_sem]
  · simp [invoke, go_sem, eg]
  refine callsIn_wide.2 ((hseq (w.heap.size + 1)
      (fun pre W => I pre W ∧ W.heap[w.heap.size + 1]? = some (.loop (rec_ fn a ps assign body w.heap.size .ready none)) ∧ W.heap[w.heap.size]? = some (.deferred (some [])))
      (fun pre W => ∃ c, Ix c pre W ∧ W.heap[w.heap.size + 1]? = some (.loop (rec_ fn a ps assign body w.heap.size .done (some c))) ∧ W.heap[w.heap.size]? = some (.deferred (some [])))
      V bV (by omega) ?_ ?_ ?_ ⟨iV, rV, dV⟩).mono ?_)
  · rintro s X Y row ⟨h1, h2, h3⟩ hg hr
    exact ⟨own_up hI (by omega) s X Y row h1 hg hr, lies_on hg hr (by omega) h2, lies_on hg hr (by omega) h3⟩
  · rintro s X Y row ⟨c, h1, h2, h3⟩ hg hr
    exact ⟨c, own_up (hIx c) (by omega) s X Y row h1 hg hr, lies_on hg hr (by omega) h2, lies_on hg hr (by omega) h3⟩
  · rintro pre x W ⟨h1, h2, h3⟩ hx
    exact range_round (l := w.heap.size + 1) (Kp := Kp V) (Nat.le_succ _) (Nat.le_refl _) (by omega) (hps x) (fun h k => hKt V h k) (fun W o' ho => hKb V W _ o' (by omega) (by omega) ho) hI hIx (hAx x) h2 h3
      (fun m K hK => hassign m _ V pre x W K sV h1 hx hK) (fun m a' W1 i1 x1 => hbody m _ V pre x a' W1 sV i1 hx x1)
  · rintro e W2 ⟨⟨v, rfl⟩, ⟨h1, h2, h3⟩ | ⟨pre, hp, c, h1, h2, h3⟩⟩
    · exact ⟨none, _, run_endLoop (P := P) h2 (by simp [rec_]), hdone _ _ (Nat.le_refl _) (hI.putObj _ h1 (by omega) h2 rfl) ((World.putObj_heap_other (by omega)).trans h3)⟩
    · exact ⟨some c, _, run_endLoop (P := P) h2 (by simp [rec_]), hstop _ c pre _ (Nat.le_refl _) hp ((hIx c).putObj _ h1 (by omega) h2 rfl) ((World.putObj_heap_other (by omega)).trans h3)⟩

theorem range_plain_m {α : Type} {g : Operand} {ps : Array Tmp} {assign body : Code} {Q : Exit → Act → World → Prop} {a : Act} {w : World} {gf : Nat} {ba lb : Array Value}
    (hg : a.eval g = .func (.func gf) ba lb) (eg : ∀ args w, (callFunc gf args).run P w = .ok (.enter gf args) w)
    {encs : α → Array Value} {Kp : World → World → World → Prop} {xs : List α} {w0 : World} (hseq : TellsM P gf ba lb encs Kp xs w0) (hb0 : Below w0.heap.size w0 w) (hps : ∀ x, (encs x).size = ps.size)
    (hKr : ∀ V W, Kp V W W) (hKt : ∀ (V : World) {X Y Z : World}, Kp V X Y → Kp V Y Z → Kp V X Z)
    (hKb : ∀ (V W : World) (l : Nat) (o' : Obj), w.heap.size ≤ l → l < V.heap.size → (∃ o : Obj, W.heap[l]? = some o ∧ o.isCells = false) → Kp V W (W.putObj l o'))
    (I : List α → World → Prop) (Ix : Code → List α → World → Prop) (hI : OwnFrom w.heap.size I) (hIx : ∀ c, OwnFrom w.heap.size (Ix c)) (h0 : I [] w) (upd : α → Array Value → Array Value)
    (hassign : ∀ (m l : Nat) (x : α) (W : World) (K : Act → World → Prop), K (roundAct ps encs upd a x) W →
      assign.wpIn (Fence.wide.inRound l) m P (Exit.then K (fun _ _ _ => False)) { tmps := (ps.zip (encs x)).foldl (fun t (p, v) => t.setIfInBounds p v) a.tmps, defers := [] } W)
    (hbody : ∀ (m l : Nat) (V : World) (pre : List α) (x : α) (W : World), V.heap.size = w.heap.size + 2 → I pre W → pre ++ [x] <+: xs → body.wpIn (Fence.wide.inRound l) m P (roundEnd w.heap.size (Kp V) I Ix (pre ++ [x]) W) (roundAct ps encs upd a x) W)
    (hdone : ∀ (D : Nat) (W : World), w.heap.size ≤ D → I xs W → W.heap[D]? = some (.deferred (some [])) → Q .normal { a with defers := { target := .collected D, args := #[] } :: a.defers } W)
    (hstop : ∀ (D : Nat) (c : Code) (pre : List α) (W : World), w.heap.size ≤ D → pre <+: xs → Ix c pre W → W.heap[D]? = some (.deferred (some [])) → c.wpIn Fence.wide n P Q { a with defers := { target := .collected D, args := #[] } :: a.defers } W) :
    (Code.rangeFunc g ps assign body).wpIn Fence.wide n P Q a w :=
  range_tells_m hg eg hseq hb0 hps (fun V {X Y Z} h k => hKt V h k) hKb I Ix hI hIx h0 (fun x a' _ => a' = roundAct ps encs upd a x) (fun _ _ _ _ _ _ hs _ _ => hs)
    (fun m l V pre x W K sV hi hx hK => hassign m l x W K (hK _ _ (KeepsFrom.refl _ _) (hKr V W) hi rfl))
    (fun m l V pre x a' W sV hi hx ha => by subst ha; exact hbody m l V pre x W sV hi hx) hdone hstop

end Go.Proofs.Ytefocgifgphgiaa
