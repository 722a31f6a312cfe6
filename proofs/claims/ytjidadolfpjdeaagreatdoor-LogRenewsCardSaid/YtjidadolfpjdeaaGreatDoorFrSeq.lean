/-
  Package frame's frames, and the function that it answers: what it tells, one by one.
-/
import Derived.Test.YtjidadolfpjdeaaGreatDoorSeq
import Derived.Test.YtjidadolfpjdeaaGreatDoorFrTake
import Derived.Shelf.Abstract
import Derived.Shelf.RegionOpen
import Derived.WalkKit
import Derived.OwnWalkIn
import Derived.TacticsInMore
import Derived.LoopNIn
import Derived.LoopIn
namespace Go.Proofs.YtjidadolfpjdeaaGreatDoor
open Go.RowKit Go.Shelf
set_option linter.unusedVariables false

attribute [local go_sem] Oper.semAt_some

/-- frames: the text is boxed; the function value has the box. -/
theorem frames_any (s : ByteArray) (w : World) :
    Calls Tryz.prog 67 #[.string s] w fun r w' => r = .returned (.func (.func 82) #[] #[.pointer (some ⟨w.heap.size, 0, none⟩)]) ∧ w.alloc (.cells #[.string s] 9) = w' := by
  go_enter Tryz.func67, Tryz.ntmps67
  go_wp2
  go_ret
  exact ⟨rfl, rfl⟩

/-- What is handed to yield. -/
def encF (x : Nat × (List UInt8 × Nat × Int)) : Array Value := #[.int .i64 x.1, .agg #[.string (B x.2.1), .int .i64 x.2.2.1, .int .i64 x.2.2.2]]

/-- A round leaves the box b as it was. -/
def KpBox (b : Nat) (V W W' : World) : Prop := W'.heap[b]? = W.heap[b]?

set_option maxRecDepth 100000 in
set_option maxHeartbeats 1000000 in
theorem frames_tell (l : List UInt8) (b : Nat) (w0 : World) (hl : l.length ≤ 281474976710656) (hb : Boxed w0 b 9 (.string (B l))) :
    Tells Tryz.prog 82 #[.pointer (some ⟨b, 0, none⟩)] encF (KpBox b) (foundL l 0) w0 := by
  intro lp J Jx V hV hlV hJ hJx hY h0
  have hbV : Boxed V b 9 (.string (B l)) := (hV.block b hb.lt).trans hb
  refine (callsIn_wide (n := 9)).1 ?_
  refine callsIn_of_wp Tryz.func82 rfl trivial ?_ rfl
  simp only [Tryz.ntmps82, List.size_toArray, List.length_cons, List.length_nil, Nat.reduceAdd, Nat.reduceSub, Array.replicate_succ, Array.replicate_zero, List.push_toArray, List.append_toArray, List.nil_append, List.cons_append]
  gi_wp2
  gi_loopw [3] (fun av wr => ∃ (pre : List (Nat × (List UInt8 × Nat × Int))) (a : Nat), av = .int .i64 a ∧ foundL l 0 = pre ++ foundL l a ∧ J pre wr ∧ Boxed wr b 9 (.string (B l))) (fun av _ => l.length - (intOf av).toNat)
  case atStart => exact ⟨[], 0, rfl, rfl, h0, hbV⟩
  case round =>
    obtain ⟨pre, a, rfl, hf, hj, hbw⟩ := hrel
    have hcell := hbw.cell
    by_cases hlt : a < l.length
    · have hex : (B l).extract a l.length = B (l.drop a) := by rw [B_extract, List.take_of_length_le (by simp)]
      have htk := fun w1 => take_frame (l.drop a) w1 (by simp; omega)
      have hgo := foundL_go hlt
      have hstop := foundL_stop hlt
      have hpos := takeL_pos (s := l.drop a)
      generalize takeL (l.drop a) = tk at htk hgo hstop hpos
      obtain ⟨ins, n, e⟩ := tk
      simp only at htk hgo hstop hpos
      have hrest : ∃ rest, foundL l a = (a, (ins, n, e)) :: rest ∧ (e = 0 → rest = foundL l (a + n)) ∧ (e ≠ 0 → rest = []) := by
        by_cases he : e = 0
        · exact ⟨_, hgo he, fun _ => rfl, fun h => absurd he h⟩
        · exact ⟨_, hstop he, fun h => absurd h he, fun _ => rfl⟩
      obtain ⟨rest, hr, hr0, hr1⟩ := hrest
      rw [hr] at hf
      have hpx : pre ++ [(a, (ins, n, e))] <+: foundL l 0 := ⟨rest, by rw [hf]; simp⟩
      have hq : ∀ w1, Below wr.heap.size wr w1 → J pre w1 := fun w1 b1 => hJ pre wr w1 none hj (grown_of_below b1) (by simp)
      have HT := Lib.hid htk
      have HF := Lib.hid hf
      have HR0 := Lib.hid hr0
      have HR1 := Lib.hid hr1
      clear htk hf hgo hstop hr hr0 hr1
      by_cases he : e = 0
      · subst he
        obtain ⟨hp1, hp2⟩ := hpos rfl
        have hp3 : (a : Int) + (n : Int) ≤ 281474976710656 := by simp at hp2; omega
        have HP := Lib.hid hp2
        clear hpos hp2
        gi_wp2_with (refine ⟨trivial, ?_⟩; gi_at_call 83; refine (callsIn_wide.2 (HT.out _)).mono ?_; rintro r w1 ⟨rfl, b1⟩; have hb1 : Boxed w1 b 9 (.string (B l)) := (b1.block b hbw.lt).trans hbw; obtain ⟨fn, tmps, assign, body, hy, hR⟩ := hY pre _ w1 (hq _ b1) hpx; dsimp only [encF] at hy)
        refine (hR _).mono ?_
        rintro e2 w2 ⟨hk, ⟨rfl, hj2⟩ | ⟨rfl, hjx2⟩⟩
        · have hb2 : Boxed w2 b 9 (.string (B l)) := (show w2.heap[b]? = _ from hk).trans hb1
          gi_wp2
          go_roundw
          case rel => exact ⟨pre ++ [(a, (ins, n, 0))], a + n, by go_num, by rw [HF.out, show rest = foundL l (a + n) from by simpa using HR0.out]; simp, hj2, hb2⟩
          case measure => have := HP.out; simp [intOf] at this ⊢; omega
        · gi_wp2
          refine bodyPost_ret (results_none rfl _ _ _) rfl ?_
          exact ⟨⟨_, rfl⟩, .inr ⟨_, hpx, hjx2⟩⟩
      · have hne : (e != 0) = true := by simpa using he
        gi_wp2_with (refine ⟨trivial, ?_⟩; gi_at_call 83; refine (callsIn_wide.2 (HT.out _)).mono ?_; rintro r w1 ⟨rfl, b1⟩; have hb1 : Boxed w1 b 9 (.string (B l)) := (b1.block b hbw.lt).trans hbw; obtain ⟨fn, tmps, assign, body, hy, hR⟩ := hY pre _ w1 (hq _ b1) hpx; dsimp only [encF] at hy)
        refine (hR _).mono ?_
        rintro e2 w2 ⟨hk, ⟨rfl, hj2⟩ | ⟨rfl, hjx2⟩⟩
        · gi_wp2
          refine bodyPost_ret (results_none rfl _ _ _) rfl ?_
          refine ⟨⟨_, rfl⟩, .inl ?_⟩
          rw [HF.out, HR1.out he]
          exact hj2
        · gi_wp2
          refine bodyPost_ret (results_none rfl _ _ _) rfl ?_
          exact ⟨⟨_, rfl⟩, .inr ⟨_, hpx, hjx2⟩⟩
    · gi_wp2
      go_end0
      refine ⟨⟨_, rfl⟩, .inl ?_⟩
      rw [hf, foundL_end (by omega), List.append_nil]
      exact hj

end Go.Proofs.YtjidadolfpjdeaaGreatDoor
