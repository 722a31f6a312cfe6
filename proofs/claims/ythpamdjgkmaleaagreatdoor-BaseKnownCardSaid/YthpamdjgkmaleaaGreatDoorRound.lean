/-
  A region whose order is drawn, in a round of a range over a function: what is shown of it by taking first what yields (XRegion's steps) holds there too, where none of its operations is a defer.
-/
import Derived.Test.YthpamdjgkmaleaaGreatDoorRegion
import Derived.RangeFuncCalls
import Derived.OwnWalkIn
namespace Go.Proofs.YthpamdjgkmaleaaGreatDoor

section
variable {P : Program} {Q : Exit → Act → World → Prop} {md : Region.Mode} {S : World → Prop} {l m : Nat}

theorem opIn_of_op {o : Oper} {a : Act} {w : World} {K : Act → World → Prop} (hd : ∀ c, o.op ≠ .defer c) (h : o.wp P a w K Q) : o.wpIn (Fence.wide.inRound l) m P a w K Q := by
  refine ⟨fun f _ => trivial, ?_⟩
  rw [Oper.semAt_plain _ _ _ hd]
  unfold Oper.wp at h
  generalize (execOp a.eval o).run P w = r at *
  have hno : (Fence.wide.inRound l).depth.isSome = true → 1 ≤ m := fun h => by simp [Fence.wide] at h
  cases r with
  | ok x w' =>
    cases x <;> simp only [Oper.upon, Oper.uponIn] at h ⊢ <;>
      first
        | exact h
        | exact ⟨hno, CallsIn.inRound l (callsIn_wide.2 h)⟩
        | exact ⟨hno, fun c cs _ => let ⟨v, w2, q, s⟩ := h c cs; ⟨v, w2, q, (stepsIn_wide (P := P)).2 s⟩⟩
        | exact h.elim
  | halt x w' => cases x <;> simp only [Oper.upon, Oper.uponIn] at h ⊢ <;> exact h

theorem anyIn_of_held {ops : Array Oper} (hlo : ¬ LetsOut Q) (hd : ∀ (j : Nat) (o : Oper), ops[j]? = some o → ∀ c, o.op ≠ .defer c) : ∀ (fuel : Nat) (listed : Array Bool) (a : Act) (w : World), wpAnyH P md ops Q S fuel listed a w → wpAnyIn (Fence.wide.inRound l) m P md ops Q fuel listed a w
  | 0, _, _, _, h => h
  | fuel + 1, listed, a, w, h => by
    refine ⟨h.1, fun i hi => ?_⟩
    have hi2 := h.2 i hi
    unfold wpOp at hi2
    unfold wpOpIn
    cases ho : ops[i]? with
    | none =>
      rw [ho] at hi2
      exact anyIn_of_held hlo hd fuel _ _ _ hi2.2
    | some o =>
      rw [ho] at hi2
      simp only at hi2 ⊢
      by_cases hw : Region.wanted o (yielded ops a.tmps) = true
      · rw [if_pos hw] at hi2 ⊢
        rcases hi2 with hi2 | hi2
        · refine Oper.wpIn_mono (K := fun a' w' => S w' ∧ wpAnyH P md ops Q S fuel (listed.setIfInBounds i true) a' w') (fun a' w' hk => anyIn_of_held hlo hd fuel _ _ _ hk.2) (opIn_of_op (hd i o ho) hi2)
        · exact absurd hi2.2 hlo
      · rw [if_neg hw] at hi2 ⊢
        exact ⟨fun _ _ => trivial, anyIn_of_held hlo hd fuel _ _ _ hi2.2⟩

/-- None of a region's operations is a defer. -/
def noDefer (os : List Oper) : Bool := os.all fun o => match o.op with | .defer _ => false | _ => true
theorem noDefer_spec {os : List Oper} (h : noDefer os = true) : ∀ (j : Nat) (o : Oper), os.toArray[j]? = some o → ∀ c, o.op ≠ .defer c := by
  intro j o hj c hc
  have hm : o ∈ os := by
    rw [List.getElem?_toArray] at hj
    exact List.mem_of_getElem? hj
  have := List.all_eq_true.1 h o hm
  rw [hc] at this
  cases this

/-- The beginning: S is shown of the world behind the draw. -/
theorem region_round {id : Nat} {os : List Oper} {a : Act} {w : World} (hlo : ¬ LetsOut Q) (hn : noDefer os = true) (hm : P.follows .mixedOrders = true) (hS : S w.drew)
    (h : S w.drew → wpAnyH P .any os.toArray Q S os.toArray.size (Array.replicate os.toArray.size false) a w.drew) : (Code.region id os.toArray true).wpIn (Fence.wide.inRound l) m P Q a w :=
  wpIn_region_any hm (anyIn_of_held hlo (noDefer_spec hn) _ _ _ _ (h hS))

end
end Go.Proofs.YthpamdjgkmaleaaGreatDoor
