/-
  The document's own Top of ballots: its contract.
-/
import Derived.Test.YtafhljmeofnbnaaBlRef
namespace Go.Proofs.Ytafhljmeofnbnaa
open Go.RowKit
set_option linter.unusedVariables false

/-- Whether a ballot is below none of the first. -/
def mostL (l : List Bal) (x : Bal) (k : Nat) : Bool := (l.take k).all (fun y => !belowL x y)
theorem most_zero (l : List Bal) (x : Bal) : mostL l x 0 = true := by simp [mostL]
theorem most_succ {l : List Bal} {x : Bal} {k : Nat} (hk : k < l.length) : mostL l x (k + 1) = (mostL l x k && !belowL x l[k]) := by
  unfold mostL
  rw [List.take_succ_eq_append_getElem hk, List.all_append]
  simp
theorem most_end {l : List Bal} {x : Bal} (h : x ∈ l) : mostL l x l.length = decide (x = topL l) := by
  rw [Bool.eq_iff_iff]
  simp only [mostL, List.take_length, List.all_eq_true, Bool.not_eq_true', decide_eq_true_eq]
  exact ⟨fun hh => top_only h hh, fun hh b hb => by rw [hh]; exact top_max b hb⟩
/-- What the walk has found among the first. -/
def outL (l : List Bal) (i : Nat) : Bal := if topL l ∈ l.take i then topL l else (0, 0)
theorem out_zero (l : List Bal) : outL l 0 = (0, 0) := by simp [outL]
theorem out_hit {l : List Bal} {i : Nat} (hi : i < l.length) (h : l[i] = topL l) : outL l (i + 1) = l[i] := by
  unfold outL
  rw [List.take_succ_eq_append_getElem hi, if_pos (by rw [List.mem_append, List.mem_singleton]; exact .inr h.symm), h]
theorem out_miss {l : List Bal} {i : Nat} (hi : i < l.length) (h : ¬ l[i] = topL l) : outL l (i + 1) = outL l i := by
  unfold outL
  rw [List.take_succ_eq_append_getElem hi]
  simp only [List.mem_append, List.mem_singleton]
  have h' : ¬ topL l = l[i] := fun e => h e.symm
  simp only [h', or_false]
theorem out_end (l : List Bal) : outL l l.length = topL l := by
  unfold outL
  rw [List.take_length]
  rcases l with _ | ⟨x, l⟩
  · rfl
  · rw [if_pos (top_in (by simp))]
theorem BalB.other {q : Nat} {b : Bal} {w : World} {p : Addr} (h : BalB q b w) (hp : q ≠ p.block) (u : Value) : BalB q b (w.setCell p u) := (Below.heap_setCell w p u q hp).trans h
/-- The result's cell, the walk's cell, the slice. -/
structure RTop (w0 : World) (q : Nat) (o : Bal) (sl : Option Addr) (n : Nat) (l : List Bal) (w : World) : Prop where
  res : BalB q (0, 0) w
  out : BalB (q + 1) o w
  bals : Bals w sl n l
  bel : Below w0.heap.size w0 w
theorem RTop.below {w0 : World} {q : Nat} {o : Bal} {sl : Option Addr} {n : Nat} {l : List Bal} {w w' : World} (h : RTop w0 q o sl n l w) (hb : Below w.heap.size w w') : RTop w0 q o sl n l w' := ⟨h.res.below hb, h.out.below hb, h.bals.below hb, h.bel.trans (hb.mono h.bel.size)⟩

set_option maxRecDepth 100000 in
set_option maxHeartbeats 4000000 in
theorem refTop_is (w : World) (a : Option Addr) (n c : Nat) (l : List Bal) (h : Bals w a n l) (hn : n ≤ 100) :
    Calls Try.prog 16 #[.slice a n c] w fun r w' => r = .returned (balV (topL l)) ∧ Below w.heap.size w w' := by
  have HB := Lib.hid (fun v x y => refBelow_is x y v)
  have K1 := BalB.new w (0, 0)
  have K2 := BalB.new (w.alloc (.cells #[.int .u64 0, .int .u8 0] 25)) (0, 0)
  have hB : Below w.heap.size w ((w.alloc (.cells #[.int .u64 0, .int .u8 0] 25)).alloc (.cells #[.int .u64 0, .int .u8 0] 25)) := ((Below.refl _ w).alloc (Nat.le_refl _) _).alloc (by simp) _
  replace K1 := K1.below ((Below.refl _ _).alloc (Nat.le_refl _) (.cells #[.int .u64 0, .int .u8 0] 25))
  simp only [World.size_alloc] at K2
  have HLN := Lib.hid h.len
  have HBL := Lib.hid h
  have HJ := Lib.hid (show RTop w w.heap.size (outL l 0) a n l _ from ⟨K1, by rw [out_zero]; exact K2, h.below hB, hB⟩)
  clear K1 K2 hB
  go_enter Try.func16, Try.ntmps16
  unfold balV at *
  go_upto_region 2 with fail
  generalize ((w.alloc (.cells #[.int .u64 0, .int .u8 0] 25)).alloc (.cells #[.int .u64 0, .int .u8 0] 25)) = V at *
  go_wp2_with fail
  go_loopw [4] (fun iv wx => ∃ i : Nat, i ≤ n ∧ iv = .int .i64 i ∧ RTop w w.heap.size (outL l i) a n l wx) (fun iv _ => n - (intOf iv).toNat)
  case atStart => exact ⟨0, by omega, rfl, HJ.out⟩
  case round =>
    obtain ⟨i, hi, rfl, hJ⟩ := hrel
    have HJ2 := Lib.hid hJ
    clear hJ HJ
    by_cases hlt : i < n
    · have hil : i < l.length := by rw [HLN.out]; exact hlt
      obtain ⟨bb, off, rfl, _⟩ := HJ2.out.bals.base (by omega)
      have hhit := out_hit hil
      have hmiss := out_miss hil
      have hme := most_end (List.getElem_mem hil)
      obtain ⟨x, hx⟩ : ∃ x, l[i] = x := ⟨_, rfl⟩
      rw [hx] at hhit hmiss hme
      have HHIT := Lib.hid hhit
      have HMISS := Lib.hid hmiss
      have HME := Lib.hid hme
      have HX := Lib.hid hx
      clear hhit hmiss hme hx
      go_wp2_with fail
      go_loopw [5, 6] (fun mv kv wx => ∃ k : Nat, k ≤ n ∧ kv = .int .i64 k ∧ mv = .bool (mostL l x k) ∧ RTop w w.heap.size (outL l i) (some ⟨bb, off, none⟩) n l wx) (fun _ kv _ => n - (intOf kv).toNat)
      case atStart => exact ⟨0, by omega, rfl, by rw [most_zero], HJ2.out⟩
      case round =>
        obtain ⟨k, hk, rfl, rfl, hJ⟩ := hrel
        have HJ3 := Lib.hid hJ
        clear hJ HJ2
        obtain ⟨b2, o2, eb, hcc⟩ := HJ3.out.bals.base (by omega)
        simp only [Option.some.injEq, Addr.mk.injEq, and_true] at eb
        obtain ⟨rfl, rfl⟩ := eb
        obtain ⟨c0, c1⟩ := hcc i hil
        rw [HX.out] at c0 c1
        by_cases hkn : k < n
        · have hkl : k < l.length := by rw [HLN.out]; exact hkn
          have hms := Lib.hid (most_succ (x := x) hkl)
          obtain ⟨d0, d1⟩ := hcc k hkl
          clear hcc
          generalize l[k] = y at d0 d1 hms
          go_upto_region 9 with fail
          rcases ht : mostL l x k with _ | _
          · have HH := Lib.hid (show false = mostL l x (k + 1) by rw [hms.out, ht]; rfl)
            clear ht
            go_quiet (fail)
            go_wp2_with fail
            go_roundw
            case rel => exact ⟨k + 1, by omega, by go_num, by rw [HH.out], HJ3.out.below (below_drewN (Below.refl wr.heap.size wr) _)⟩
            case measure => simp [intOf]; omega
          · have HH := Lib.hid (show (!belowL x y) = mostL l x (k + 1) by rw [hms.out, ht]; simp)
            clear ht
            go_region_with (go_at_call 14; (with_reducible refine (HB.out _ x y).mono ?_); rintro r w8 ⟨rfl, b8⟩)
            all_goals
              go_wp2_with fail
              go_roundw
              case rel => exact ⟨k + 1, by omega, by go_num, by rw [← HH.out], (HJ3.out.below ((Below.refl wr.heap.size wr).drew)).below b8⟩
              case measure => simp [intOf]; omega
        · have hke : k = n := by omega
          clear hcc
          have K1 := HJ3.out.res
          have K2 := HJ3.out.out
          obtain ⟨p0, p1⟩ := K2.vals
          have f0 := K2.frozen 0
          have f1 := K2.frozen 1
          by_cases hxt : x = topL l
          · have hm : mostL l x k = true := by rw [hke, ← HLN.out, HME.out, hxt]; simp
            rw [hm]
            have HE := Lib.hid (HHIT.out hxt)
            clear hm hxt
            go_wp2_with fail
            go_roundw
            case rel =>
              have hb2 : Below w.heap.size w ((wr.setCell ⟨w.heap.size + 1, 0, none⟩ (.int .u64 (x.1 : Nat))).setCell ⟨w.heap.size + 1, 1, none⟩ (.int .u8 (x.2 : Nat))) := ((HJ3.out.bel.setCell (p := ⟨w.heap.size + 1, 0, none⟩) (by show w.heap.size ≤ w.heap.size + 1; omega) _).setCell (p := ⟨w.heap.size + 1, 1, none⟩) (by show w.heap.size ≤ w.heap.size + 1; omega) _)
              exact ⟨i + 1, by omega, by go_num, (K1.other (by simp) _).other (by simp) _, by rw [HE.out]; exact K2.store x, HBL.out.below hb2, hb2⟩
            case measure => simp [intOf]; omega
          · have hm : mostL l x k = false := by rw [hke, ← HLN.out, HME.out]; simp [hxt]
            rw [hm]
            have HE := Lib.hid (HMISS.out hxt)
            clear hm hxt
            go_wp2_with fail
            go_roundw
            case rel => exact ⟨i + 1, by omega, by go_num, by rw [HE.out]; exact HJ3.out⟩
            case measure => simp [intOf]; omega
    · have hin : i = n := by omega
      subst hin
      have he : outL l i = topL l := by rw [← HLN.out]; exact out_end l
      have K1 := HJ2.out.res
      have K2 := HJ2.out.out
      rw [he] at K2
      clear he
      obtain ⟨m0, m1⟩ := K1.vals
      have f0 := K1.frozen 0
      have f1 := K1.frozen 1
      obtain ⟨p0, p1⟩ := K2.vals
      go_wp2_with fail
      have hz := K1.store (topL l)
      obtain ⟨z0, z1⟩ := hz.vals
      refine bodyPost_ret (v := .agg #[.int .u64 ((topL l).1 : Nat), .int .u8 ((topL l).2 : Nat)]) ?_ rfl ⟨rfl, ?_⟩
      · simp [results, Try.f16, go_sem] at z0 z1 ⊢; simp [z0, z1]
      · exact ((HJ2.out.bel.setCell (p := ⟨w.heap.size, 0, none⟩) (Nat.le_refl _) _).setCell (p := ⟨w.heap.size, 1, none⟩) (Nat.le_refl _) _)
end Go.Proofs.Ytafhljmeofnbnaa
