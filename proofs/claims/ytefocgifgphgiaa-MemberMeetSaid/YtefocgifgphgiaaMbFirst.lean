/-
  The landed Of and First; all that the calls on sets answer.
-/
import Derived.Test.YtefocgifgphgiaaMbAll
namespace Go.Proofs.Ytefocgifgphgiaa
open Go.RowKit Go.Shelf
set_option linter.unusedVariables false

attribute [local go_sem] Oper.semAt_some

theorem of_next {l : List UInt8} {i : Nat} (h : i < l.length) : withL (ofL (l.take i)) (onlyL l[i].toNat) = ofL (l.take (i + 1)) :=
  mk_ext fun n hn => by
    show (bt (mkL fun n => (l.take i).any fun c => c.toNat == n) n || bt (onlyL l[i].toNat) n) = _
    rw [bt_mk _ hn, bt_only _ hn, List.take_succ_eq_append_getElem h, List.any_append]
    simp only [List.any_cons, List.any_nil, Bool.or_false]
    congr 1
    rw [Bool.eq_iff_iff, decide_eq_true_eq, beq_iff_eq]
    omega
set_option maxRecDepth 100000 in
theorem of_is (w : World) (a : Option Addr) (n c : Nat) (l : List UInt8) (h : Src w a n c l) (hn : n ≤ 100) :
    Calls Try.prog 10 #[.slice a n c] w fun r w' => r = .returned (.int .u8 (ofL l : Nat)) ∧ w = w' := by
  have HS := Lib.hid h
  have HL := Lib.hid h.len
  clear h
  go_enter Try.func10, Try.ntmps10
  go_wp2_with fail
  go_loopw [3, 8] (fun sv iv wx => wx = w ∧ ∃ i : Nat, i ≤ n ∧ iv = .int .i64 i ∧ sv = .int .u8 (ofL (l.take i) : Nat)) (fun _ iv _ => n - (intOf iv).toNat)
  case atStart => exact ⟨rfl, 0, by omega, rfl, rfl⟩
  case round =>
    obtain ⟨rfl, i, hi, rfl, rfl⟩ := hrel
    by_cases hlt : i < n
    · have hil : i < l.length := by rw [HL.out]; exact hlt
      obtain ⟨b, off, rfl, hc⟩ := HS.out.nth (by omega)
      have c0 := hc i hil
      have hnx := of_next hil
      have hx : l[i].toNat < 256 := l[i].toNat_lt
      have hs : ofL (l.take i) < 128 := mk_lt _
      have hol := only_lt l[i].toNat
      have H1 := Lib.hid (fun v => only_is v l[i].toNat hx)
      have H2 := Lib.hid (fun v => with_is v (ofL (l.take i)) (onlyL l[i].toNat) (by omega) (by omega))
      rw [hnx] at H2
      have HX := Lib.hid hs
      clear hnx hx hs hol hc
      generalize ofL (l.take i) = s at *
      generalize onlyL l[i].toNat = o at *
      generalize l[i].toNat = x at *
      go_wp2_with (first
        | (go_at_call 26; (with_reducible refine (H1.out _).mono ?_); rintro r w1 ⟨rfl, rfl⟩)
        | (go_at_call 17; (with_reducible refine (H2.out _).mono ?_); rintro r w1 ⟨rfl, rfl⟩))
      go_roundw
      case rel => exact ⟨by first | rfl | trivial, i + 1, by omega, by go_num, rfl⟩
      case measure => simp [intOf]; omega
    · have hin : i = n := by omega
      have ht : l.take i = l := by rw [hin, ← HL.out, List.take_length]
      rw [ht]
      go_wp2_with fail
      go_ret
      exact ⟨rfl, rfl⟩

/-- The nodes below k. -/
def loL (k : Nat) : Nat := mkL fun n => decide (n < k)
theorem lo_lt (k : Nat) : loL k < 128 := mk_lt _
theorem lo_len : ∀ k : Fin 8, lenL (loL k.val) = k.val := by decide +kernel
theorem lo_next (k : Nat) : withL (loL k) (onlyL k) = loL (k + 1) := mk_ext fun n hn => by
  show (bt (mkL fun n => decide (n < k)) n || bt (onlyL k) n) = _
  rw [bt_mk _ hn, bt_only _ hn, Bool.eq_iff_iff]
  simp only [Bool.or_eq_true, decide_eq_true_eq]
  omega
theorem every_list : nodesL 127 = [0, 1, 2, 3, 4, 5, 6] := by decide +kernel
theorem every_at {pre : List UInt8} {x : UInt8} (h : pre ++ [x] <+: nodesL 127) : pre.length < 7 ∧ x.toNat = pre.length := by
  have hl := h.length_le
  have h7 : (nodesL 127).length = 7 := by rw [every_list]; rfl
  rw [h7, List.length_append, List.length_singleton] at hl
  obtain ⟨rest, hr⟩ := h
  have hg : (nodesL 127)[pre.length]? = some x := by rw [← hr]; simp
  have key : ∀ k : Fin 7, (nodesL 127)[k.val]? = some (UInt8.ofNat k.val) := by decide +kernel
  have hk := key ⟨pre.length, by omega⟩
  rw [hk] at hg
  have hx : UInt8.ofNat pre.length = x := by simpa using hg
  refine ⟨by omega, ?_⟩
  rw [← hx, UInt8.toNat_ofNat']
  omega
theorem lo_first {i : Int} {k : Nat} (h0 : i ≤ k) (h1 : 0 < k → (k : Int) ≤ i) : loL k = firstL i := mk_ext fun n hn => by
  rw [decide_eq_decide]
  by_cases h : 0 < k
  · have := h1 h; omega
  · omega
theorem all_first {i : Int} (h : 7 ≤ i) : loL 7 = firstL i := mk_ext fun n hn => by rw [decide_eq_decide]; omega

/-- Between two rounds. -/
def FtI (w : World) (i : Int) (pre : List UInt8) (W : World) : Prop :=
  Boxed W w.heap.size 3 (.int .i64 i) ∧ Boxed W (w.heap.size + 1) 24 (.int .u8 (loL pre.length : Nat)) ∧ Below w.heap.size w W ∧ (0 < pre.length → (pre.length : Int) ≤ i)
def FtX (w : World) (i : Int) (cd : Code) (pre : List UInt8) (W : World) : Prop :=
  cd = .exit 0 ∧ ∃ k : Nat, Boxed W (w.heap.size + 1) 24 (.int .u8 (loL k : Nat)) ∧ Below w.heap.size w W ∧ i ≤ k ∧ (0 < k → (k : Int) ≤ i)
theorem ftI_own (w : World) (i : Int) (B : Nat) (hB : w.heap.size ≤ B) : OwnFrom B (FtI w i) := by
  rintro pre X Y row ⟨h1, h2, h3, h4⟩ hg hr
  have hr' : ∀ r, row = some r → ∃ o : Obj, X.heap[r]? = some o ∧ o.isCells = false := fun r e => (hr r e).2
  exact ⟨boxed_own _ _ (fun (_ : Unit) => _) () X Y row h1 hg hr', boxed_own _ _ (fun (_ : Unit) => _) () X Y row h2 hg hr', ownFrom_below (Nat.le_refl _) hB () X Y row h3 hg hr, h4⟩
theorem ftX_own (w : World) (i : Int) (B : Nat) (hB : w.heap.size ≤ B) (cd : Code) : OwnFrom B (FtX w i cd) := by
  rintro pre X Y row ⟨h0, k, h2, h3, h4⟩ hg hr
  have hr' : ∀ r, row = some r → ∃ o : Obj, X.heap[r]? = some o ∧ o.isCells = false := fun r e => (hr r e).2
  exact ⟨h0, k, boxed_own _ _ (fun (_ : Unit) => _) () X Y row h2 hg hr', ownFrom_below (Nat.le_refl _) hB () X Y row h3 hg hr, h4⟩

set_option maxRecDepth 100000 in
set_option maxHeartbeats 4000000 in
theorem first_is (w : World) (i : Int) (i0 : -9223372036854775808 ≤ i) (i1 : i ≤ 9223372036854775807) :
    Calls Try.prog 12 #[.int .i64 i] w fun r w' => r = .returned (.int .u8 (firstL i : Nat)) ∧ Below w.heap.size w w' := by
  have hnil := fun v g ab bb => fn_eql_nil 42 _ _ _ Try.underlying42 (.func g) ab bb v
  have HA := Lib.hid (fun v => allSpec v 127 (by omega))
  refine (callsIn_wide (n := 9)).1 ?_
  refine callsIn_of_wp_marks Try.func12 rfl trivial ?_ rfl
  simp only [Try.ntmps12, List.size_toArray, List.length_cons, List.length_nil, Nat.reduceAdd, Nat.reduceSub, Array.replicate_succ, Array.replicate_zero, List.push_toArray, List.append_toArray, List.nil_append, List.cons_append]
  gi_wp2_with (refine ⟨trivial, ?_⟩; gi_at_call 25; refine (callsIn_wide.2 (HA.out _)).mono ?_; rintro r w1 ⟨gf, ba, lb, rfl, hen, htl, hb1⟩)
  obtain ⟨W2, hW2⟩ : ∃ W, (w.alloc (.cells #[.int .i64 i] 3)).alloc (.cells #[.int .u8 0] 24) = W := ⟨_, rfl⟩
  have z2 : W2.heap.size = w.heap.size + 2 := by rw [← hW2]; simp
  have c2 : Below w.heap.size w W2 := by rw [← hW2]; exact ((Below.refl _ _).alloc (Nat.le_refl _) _).alloc (by simp) _
  have q3 : Boxed W2 w.heap.size 3 (.int .i64 i) := by rw [← hW2]; exact (Boxed.new w _ _).alloc _
  have q5 : Boxed W2 (w.heap.size + 1) 24 (.int .u8 (loL 0 : Nat)) := by
    rw [← hW2]
    have := Boxed.new (w.alloc (.cells #[.int .i64 i] 3)) 24 (.int .u8 0)
    have e : loL 0 = 0 := rfl
    rw [e]
    simpa using this
  rw [hW2] at htl hb1
  clear hW2
  have i0 : FtI w i [] w1 :=
    ⟨(hb1.block _ q3.lt).trans q3, (hb1.block _ q5.lt).trans q5, c2.trans (hb1.mono c2.size), fun h => absurd h (by simp)⟩
  have HSZ := Lib.hid (show W2.heap.size = w.heap.size + 2 ∧ w.heap.size + 2 ≤ w1.heap.size from ⟨z2, by have := hb1.size; omega⟩)
  rw [z2] at htl
  clear q3 q5 c2 z2 hb1
  refine range_plain_m (gf := gf) (ba := ba) (lb := lb) rfl hen htl (Below.refl _ _) (fun _ => rfl)
    (fun V W k _ _ => rfl)
    (fun V {X Y Z} h k j h1 h2 => (k j h1 h2).trans (h j h1 h2))
    (fun V W l o' h1 h2 h3 k h4 h5 => World.putObj_heap_other (by omega))
    (FtI w i) (FtX w i) (ftI_own _ _ _ (by have := HSZ.out.2; omega)) (ftX_own _ _ _ (by have := HSZ.out.2; omega)) i0
    (fun x t => t.setIfInBounds 4 (.int .u8 (x.toNat : Nat)))
    ?assign ?body ?done ?stop
  case assign =>
    intro m lp y W K hK
    simp [roundAct, encU, go_sem] at hK
    unfold encU
    gi_wp2
    exact hK
  case body =>
    rintro m lp V pre y W sV ⟨h1, h2, h3, h4⟩ hx
    obtain ⟨hk, hy⟩ := every_at hx
    have cN := h1.cell
    have cS := h2.cell
    have fS := h2.frozen
    have hl := lo_len ⟨pre.length, by omega⟩
    simp only at hl
    have hnx := lo_next pre.length
    have h128 := lo_lt pre.length
    have hk128 := only_lt pre.length
    have H1 := Lib.hid (fun v => len_is v (loL pre.length) (by omega))
    rw [hl] at H1
    have H2 := Lib.hid (fun v => only_is v pre.length (by omega))
    have H3 := Lib.hid (fun v => with_is v (loL pre.length) (onlyL pre.length) (by omega) (by omega))
    rw [hnx] at H3
    clear hl hnx hx
    unfold roundAct encU
    rw [hy]
    have mixed : Try.prog.follows .mixedOrders = true := by kernel_rfl
    by_cases hle : i ≤ (pre.length : Int)
    · gi_wp2
      gi_region_with_o (refine ⟨trivial, (fun h => by simp [Fence.wide] at h), ?_⟩; gi_at_call 15; refine (CallsIn.inRound lp (callsIn_wide.2 (H1.out _))).mono ?_; rintro r w7 ⟨rfl, rfl⟩)
      all_goals
        gi_wp2
        exact ⟨(show KeepsOthers W W.drew from ⟨Nat.le_refl _, fun k o h _ => h⟩).from _, fun k _ _ => rfl, rfl, pre.length, h2, h3.drew, hle, h4⟩
    · have hlen : (pre ++ [y]).length = pre.length + 1 := by rw [List.length_append, List.length_singleton]
      have HFIN := Lib.hid (show KeepsFrom w1.heap.size W ((W.setCell ⟨w.heap.size + 1, 0, none⟩ (.int .u8 (loL (pre.length + 1) : Nat))).drew.drew) ∧ KpM (w.heap.size + 2) w1.heap.size V W ((W.setCell ⟨w.heap.size + 1, 0, none⟩ (.int .u8 (loL (pre.length + 1) : Nat))).drew.drew) ∧ FtI w i (pre ++ [y]) ((W.setCell ⟨w.heap.size + 1, 0, none⟩ (.int .u8 (loL (pre.length + 1) : Nat))).drew.drew) by
        have hko : KeepsOthers W ((W.setCell ⟨w.heap.size + 1, 0, none⟩ (.int .u8 (loL (pre.length + 1) : Nat))).drew.drew) := ⟨(KeepsOthers.setCell W ⟨w.heap.size + 1, 0, none⟩ (.int .u8 (loL (pre.length + 1) : Nat))).size, fun k o hk hc => (KeepsOthers.setCell W ⟨w.heap.size + 1, 0, none⟩ (.int .u8 (loL (pre.length + 1) : Nat))).same k o hk hc⟩
        refine ⟨hko.from _, ?_, ?_⟩
        · intro k hk1 hk2
          exact Below.heap_setCell _ _ _ _ (by show k ≠ w.heap.size + 1; omega)
        · refine ⟨h1.other (by omega) _, ?_, ((h3.setCell (by show w.heap.size ≤ w.heap.size + 1; omega) _).drew).drew, fun _ => by rw [hlen]; omega⟩
          rw [hlen]
          exact h2.set _)
      gi_wp2
      gi_region_with_o (refine ⟨trivial, (fun h => by simp [Fence.wide] at h), ?_⟩; gi_at_call 15; refine (CallsIn.inRound lp (callsIn_wide.2 (H1.out _))).mono ?_; rintro r w7 ⟨rfl, rfl⟩)
      all_goals gi_wp2
      all_goals gi_region_with_o (refine ⟨trivial, (fun h => by simp [Fence.wide] at h), ?_⟩; first
        | (gi_at_call 26; refine (CallsIn.inRound lp (callsIn_wide.2 (H2.out _))).mono ?_; rintro r w7 ⟨rfl, rfl⟩)
        | (gi_at_call 17; refine (CallsIn.inRound lp (callsIn_wide.2 (H3.out _))).mono ?_; rintro r w7 ⟨rfl, rfl⟩))
      all_goals
        gi_wp2
        exact HFIN.out
  case done =>
    rintro D W hD ⟨h1, h2, h3, h4⟩ hK
    have h7 : (nodesL 127).length = 7 := by rw [every_list]; rfl
    rw [h7] at h2 h4
    have hX := ftX_own w i w1.heap.size (by have := HSZ.out.2; omega) (.exit 0)
    have cS := h2.cell
    have HE := Lib.hid (all_first (i := i) (by have := h4 (by omega); omega))
    have HB := Lib.hid (ownFrom_below (Nat.le_refl w.heap.size) (show w.heap.size ≤ w1.heap.size by have := HSZ.out.2; omega) () W _ _ h3 (grownBy_putObj' W D (.deferred none)) (fun r e => by cases e; exact ⟨hD, _, hK, rfl⟩))
    have HK := Lib.hid hK
    clear hK hX
    gi_wp2
    refine ⟨by simp, .inl ⟨_, _, rfl, run_takeDeferred HK.out, .int .u8 (loL 7 : Nat), by simp [results, Try.f12, go_sem], ?_, HB.out⟩⟩
    rw [HE.out]
  case stop =>
    rintro D cd pre W hD hpre ⟨rfl, k, h2, h3, h4, h5⟩ hK
    have cS := h2.cell
    have HE := Lib.hid (lo_first h4 h5)
    have HB := Lib.hid (ownFrom_below (Nat.le_refl w.heap.size) (show w.heap.size ≤ w1.heap.size by have := HSZ.out.2; omega) () W _ _ h3 (grownBy_putObj' W D (.deferred none)) (fun r e => by cases e; exact ⟨hD, _, hK, rfl⟩))
    have HK := Lib.hid hK
    clear hK h4 h5
    gi_wp2
    refine ⟨by simp, .inl ⟨_, _, rfl, run_takeDeferred HK.out, .int .u8 (loL k : Nat), by simp [results, Try.f12, go_sem], ?_, HB.out⟩⟩
    rw [HE.out]

theorem below_of {P : Program} {f : Nat} {vs : Array Value} {w : World} {r0 : Value} (h : Calls P f vs w fun r w' => r = .returned r0 ∧ w = w') : Calls P f vs w fun r w' => r = .returned r0 ∧ Below w.heap.size w w' :=
  h.mono (by rintro r w' ⟨rfl, rfl⟩; exact ⟨rfl, Below.refl _ _⟩)
/-- What the landed calls on sets answer. -/
theorem memberSpec : MemberSpec where
  of w a n c l h hn := below_of (of_is w a n c l h hn)
  first w i h0 h1 := first_is w i h0 h1
  has w x n hx hn := below_of (has_is w x n hx hn)
  with_ w x y hx hy := below_of (with_is w x y hx hy)
  without w x y hx hy := below_of (without_is w x y hx hy)
  both w x y hx hy := below_of (both_is w x y hx hy)
  len w x hx := below_of (len_is w x hx)
  need w x hx := below_of (need_is w x hx)
  major w x y hx hy := below_of (major_is w x y hx hy)
  may w x y hx hy := below_of (may_is w x y hx hy)
  told w x most hx m0 m1 := told_of allSpec w x most hx m0 m1
end Go.Proofs.Ytefocgifgphgiaa
