/-
  Ranges over a function whose loop variables lie in slots (nothing is laid for them): the statement's law, the frame of a round told by what turns in it.
-/
import Derived.Test.YtefocgifgphgiaaSeq
namespace Go.Proofs.Ytefocgifgphgiaa
open Go.RowKit
set_option linter.unusedVariables false

variable {P : Program} {n : Nat}

/-- The frame in which a round's body begins. -/
def roundAct {α : Type} (ps : Array Tmp) (encs : α → Array Value) (upd : α → Array Value → Array Value) (a : Act) (x : α) : Act :=
  { tmps := upd x ((ps.zip (encs x)).foldl (fun t (p, v) => t.setIfInBounds p v) a.tmps), defers := [] }

theorem range_plain {α : Type} {g : Operand} {ps : Array Tmp} {assign body : Code} {Q : Exit → Act → World → Prop} {a : Act} {w : World} {gf : Nat} {lb : Array Value}
    (hg : a.eval g = .func (.func gf) #[] lb) (eg : ∀ args w, (callFunc gf args).run P w = .ok (.enter gf args) w)
    {encs : α → Array Value} {Kp : World → World → World → Prop} {xs : List α} {w0 : World} (hseq : Tells P gf lb encs Kp xs w0) (hb0 : Below w0.heap.size w0 w) (hps : ∀ x, (encs x).size = ps.size)
    (hKr : ∀ V W, Kp V W W) (hKt : ∀ (V : World) {X Y Z : World}, Kp V X Y → Kp V Y Z → Kp V X Z)
    (hKb : ∀ (V W : World) (l : Nat) (o' : Obj), w.heap.size ≤ l → l < V.heap.size → (∃ o : Obj, W.heap[l]? = some o ∧ o.isCells = false) → Kp V W (W.putObj l o'))
    (I : List α → World → Prop) (Ix : Code → List α → World → Prop) (hI : OwnFrom w.heap.size I) (hIx : ∀ c, OwnFrom w.heap.size (Ix c)) (h0 : I [] w) (upd : α → Array Value → Array Value)
    (hassign : ∀ (m l : Nat) (x : α) (W : World) (K : Act → World → Prop), K (roundAct ps encs upd a x) W →
      assign.wpIn (Fence.wide.inRound l) m P (Exit.then K (fun _ _ _ => False)) { tmps := (ps.zip (encs x)).foldl (fun t (p, v) => t.setIfInBounds p v) a.tmps, defers := [] } W)
    (hbody : ∀ (m l : Nat) (V : World) (pre : List α) (x : α) (W : World), V.heap.size = w.heap.size + 2 → I pre W → pre ++ [x] <+: xs → body.wpIn (Fence.wide.inRound l) m P (roundEnd w.heap.size (Kp V) I Ix (pre ++ [x]) W) (roundAct ps encs upd a x) W)
    (hdone : ∀ (D : Nat) (W : World), w.heap.size ≤ D → I xs W → W.heap[D]? = some (.deferred (some [])) → Q .normal { a with defers := { target := .collected D, args := #[] } :: a.defers } W)
    (hstop : ∀ (D : Nat) (c : Code) (pre : List α) (W : World), w.heap.size ≤ D → pre <+: xs → Ix c pre W → W.heap[D]? = some (.deferred (some [])) → c.wpIn Fence.wide n P Q { a with defers := { target := .collected D, args := #[] } :: a.defers } W) :
    (Code.rangeFunc g ps assign body).wpIn Fence.wide n P Q a w :=
  range_tells hg eg hseq hb0 hps (fun V {X Y Z} h k => hKt V h k) hKb I Ix hI hIx h0 (fun x a' _ => a' = roundAct ps encs upd a x) (fun _ _ _ _ _ _ hs _ _ => hs)
    (fun m l V pre x W K sV hi hx hK => hassign m l x W K (hK _ _ (KeepsFrom.refl _ _) (hKr V W) hi rfl))
    (fun m l V pre x a' W sV hi hx ha => by subst ha; exact hbody m l V pre x W sV hi hx) hdone hstop

end Go.Proofs.Ytefocgifgphgiaa
