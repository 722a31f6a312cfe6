/-
  The landed All, a method value of tell: it tells a set's nodes, rising.
-/
import Derived.Test.YtefocgifgphgiaaMbCode
import Derived.Test.YtefocgifgphgiaaMbTold
namespace Go.Proofs.Ytefocgifgphgiaa
open Go.RowKit Go.Shelf
set_option linter.unusedVariables false

attribute [local go_sem] Oper.semAt_some

/-- The nodes below i. -/
def nodesTo (x i : Nat) : List UInt8 := ((List.range i).filter (bt x)).map UInt8.ofNat
theorem nodesTo_all (x : Nat) : nodesTo x 7 = nodesL x := rfl
theorem nodesTo_in {x i : Nat} (h : bt x i = true) : nodesTo x (i + 1) = nodesTo x i ++ [UInt8.ofNat i] := by
  unfold nodesTo
  rw [List.range_succ, List.filter_append, List.map_append]
  simp [h]
theorem nodesTo_out {x i : Nat} (h : bt x i = false) : nodesTo x (i + 1) = nodesTo x i := by
  unfold nodesTo
  rw [List.range_succ, List.filter_append, List.map_append]
  simp [h]
theorem range_pre : ∀ {i n : Nat}, i ≤ n → List.range i <+: List.range n
  | i, 0, h => by rw [show i = 0 by omega]; exact List.prefix_refl _
  | i, n + 1, h => by
    by_cases e : i = n + 1
    · rw [e]; exact List.prefix_refl _
    · rw [List.range_succ]
      exact (range_pre (show i ≤ n by omega)).trans (List.prefix_append _ _)
theorem nodesTo_pre (x : Nat) {i : Nat} (h : i ≤ 7) : nodesTo x i <+: nodesL x := ((range_pre h).filter _).map _

set_option maxRecDepth 100000 in
set_option maxHeartbeats 1000000 in
theorem tell_tells (x : Nat) (hx : x < 256) (w0 : World) (lo hi : Nat) : TellsM Try.prog 28 #[.int .u8 (x : Nat)] #[] encU (KpM lo hi) (nodesL x) w0 := by
  intro lp J Jx V hV hlV hJ hJx hY h0
  have hnil := fun v => fn_eql_nil 30 _ _ _ Try.underlying30 (.yield lp) #[] #[] v
  have HH := Lib.hid (fun v n (hn : n < 256) => has_is v x n hx hn)
  clear hx
  refine (callsIn_wide (n := 9)).1 ?_
  refine callsIn_of_wp Try.func28 rfl trivial ?_ rfl
  simp only [Try.ntmps28, List.size_toArray, List.length_cons, List.length_nil, Nat.reduceAdd, Nat.reduceSub, Array.replicate_succ, Array.replicate_zero, List.push_toArray, List.append_toArray, List.nil_append, List.cons_append]
  gi_wp2
  gi_loopw [7] (fun av wr => ∃ i : Nat, av = .int .u8 i ∧ i ≤ 7 ∧ J (nodesTo x i) wr) (fun av _ => 7 - (intOf av).toNat)
  case atStart => exact ⟨0, rfl, Nat.zero_le _, h0⟩
  case round =>
    obtain ⟨i, rfl, hi, hj⟩ := hrel
    by_cases hlt : i < 7
    · have hh : hasL x i = bt x i := by unfold hasL; simp [hlt]
      have HI := Lib.hid (HH.out wr i (by omega))
      have hpre := nodesTo_pre x (show i + 1 ≤ 7 by omega)
      by_cases hb : bt x i = true
      · rw [nodesTo_in hb] at hpre
        have hi1 := HI.out
        rw [hh, hb] at hi1
        have H1 := Lib.hid hi1
        obtain ⟨fn, tmps, assign, body, hy, hR⟩ := hY (nodesTo x i) (UInt8.ofNat i) wr hj hpre
        have e8 : (UInt8.ofNat i).toNat = i := by rw [UInt8.toNat_ofNat']; omega
        simp only [encU, e8] at hy
        have HT := Lib.hid (nodesTo_in hb)
        have HP := Lib.hid hpre
        have HR := Lib.hid hR
        clear hi1 HI hpre hb hh hR e8
        gi_wp2_with (refine ⟨trivial, ?_⟩; gi_at_call 13; refine (callsIn_wide.2 H1.out).mono ?_; rintro r w1 ⟨rfl, rfl⟩)
        refine (HR.out _).mono ?_
        rintro e2 w2 ⟨hk, ⟨rfl, hj2⟩ | ⟨rfl, hjx2⟩⟩
        · clear hk
          gi_wp2
          go_roundw
          case rel => exact ⟨i + 1, by go_num, by omega, by rw [HT.out]; exact hj2⟩
          case measure => simp [intOf]; omega
        · clear hk
          gi_wp2
          refine bodyPost_ret (results_none rfl _ _ _) rfl ?_
          exact ⟨⟨_, rfl⟩, .inr ⟨_, HP.out, hjx2⟩⟩
      · replace hb : bt x i = false := by simpa using hb
        have hi1 := HI.out
        rw [hh, hb] at hi1
        have H1 := Lib.hid hi1
        have HT := Lib.hid (nodesTo_out hb)
        clear hi1 HI hpre hb hh
        gi_wp2_with (refine ⟨trivial, ?_⟩; gi_at_call 13; refine (callsIn_wide.2 H1.out).mono ?_; rintro r w1 ⟨rfl, rfl⟩)
        refine ⟨(fun _ h => nomatch h), ?_⟩
        gi_wp2
        go_roundw
        case rel => exact ⟨i + 1, by go_num, by omega, by rw [HT.out]; exact hj⟩
        case measure => simp [intOf]; omega
    · obtain rfl : i = 7 := by omega
      gi_wp2
      go_end0
      refine ⟨⟨_, rfl⟩, .inl ?_⟩
      rw [← nodesTo_all]
      exact hj

theorem all_any (w : World) (x : Nat) : Calls Try.prog 25 #[.int .u8 (x : Nat)] w fun r w' => r = .returned (.func (.func 28) #[.int .u8 (x : Nat)] #[]) ∧ w = w' := by
  go_enter Try.func25, Try.ntmps25
  go_wp2
  go_ret
  exact ⟨rfl, rfl⟩
theorem allSpec : AllSpec := by
  intro w x hx
  refine (all_any w x).mono ?_
  rintro r w' ⟨rfl, rfl⟩
  exact ⟨_, _, _, rfl, fun _ _ => rfl, tell_tells x hx w _ _, Below.refl _ _⟩
end Go.Proofs.Ytefocgifgphgiaa
