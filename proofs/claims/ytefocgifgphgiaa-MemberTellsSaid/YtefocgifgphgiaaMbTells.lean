/-
  The law MemberTells over this translation, over a MemberSpec.
-/
import Derived.Test.YtefocgifgphgiaaMbMeet
import Derived.Deep.QuietTactic
import Derived.BigQuiet
import Derived.Deep.RegionWith
namespace Go.Proofs.Ytefocgifgphgiaa
open Go.RowKit
set_option linter.unusedVariables false

def fewL (i : Nat) : List UInt8 := nodesU (fun _ => true) i
theorem few_succ (i : Nat) : fewL (i + 1) = fewL i ++ [UInt8.ofNat i] := nodesU_hit rfl
theorem few_len (i : Nat) : (fewL i).length = i := by
  unfold fewL nodesU
  rw [List.length_map, List.filter_eq_self.2 (fun _ _ => rfl), List.length_range]
theorem few_of {i : Nat} {n : Int} (hi : i ≤ 7) (h : ∀ k : Nat, k < 7 → (k < i ↔ (k : Int) < n)) : ofL (fewL i) = firstL n := by
  refine mk_ext fun k hk => ?_
  have key : ∀ i : Fin 8, ∀ k : Fin 7, ((fewL i.val).any fun c => c.toNat == k.val) = decide (k.val < i.val) := by decide
  rw [show ((fewL i).any fun c => c.toNat == k) = decide (k < i) from key ⟨i, by omega⟩ ⟨k, hk⟩, decide_eq_decide]
  exact h k hk

set_option maxRecDepth 100000 in
theorem tells_long (S : MemberSpec) (x : Nat) (a : Option Addr) (n c : Nat) (i : Int) (one : Nat) (w : World) (h : 100 < (n : Int)) :
    Calls Try.prog 3 #[.int .u8 (x : Nat), .slice a n c, .int .i64 i, .int .u8 (one : Nat)] w fun e w' => e = .returned (.bool true) ∧ Below w.heap.size w w' := by
  have HW := Lib.hid S.wakes
  go_enter Try.func3, Try.ntmps3
  go_wp2_with (go_at_call 7; refine (HW.out _).mono ?_; rintro r w1 ⟨rfl, b1⟩)
  go_ret
  exact ⟨rfl, b1⟩
/-- The lists behind the calls: the document's, the told one; the argument. -/
structure TlS (a1 a2 a : Option Addr) (k c1 c2 n c : Nat) (ls l : List UInt8) (w0 w : World) : Prop where
  s1 : Src w a1 k c1 ls
  s2 : Src w a2 k c2 ls
  arg : Src w a n c l
  bel : Below w0.heap.size w0 w
theorem TlS.below {a1 a2 a : Option Addr} {k c1 c2 n c : Nat} {ls l : List UInt8} {w0 w w' : World} (h : TlS a1 a2 a k c1 c2 n c ls l w0 w) (hb : Below w.heap.size w w') : TlS a1 a2 a k c1 c2 n c ls l w0 w' := ⟨h.s1.below hb, h.s2.below hb, h.arg.below hb, h.bel.trans (hb.mono h.bel.size)⟩

set_option maxRecDepth 100000 in
set_option maxHeartbeats 4000000 in
theorem tells_some (S : MemberSpec) (x : Nat) (hx : x < 256) (a : Option Addr) (n c : Nat) (l : List UInt8) (i : Int) (hi0 : -9223372036854775808 ≤ i) (hi1 : i ≤ 9223372036854775807) (one : Nat) (h1 : one < 256) (w : World) (hS : Src w a n c l) (h : ¬ 100 < (n : Int)) :
    Calls Try.prog 3 #[.int .u8 (x : Nat), .slice a n c, .int .i64 i, .int .u8 (one : Nat)] w fun e w' => e = .returned (.bool true) ∧ Below w.heap.size w w' := by
  have HW := Lib.hid S.wakes
  have HSA := Lib.hid hS
  have hn : n ≤ 100 := by omega
  have hlx : (nodesL x).length ≤ 7 := by rw [len_nodes]; exact lenF_le _
  have hnx := len_nodes x
  have HLX := Lib.hid (fun v => refList_is v x hx)
  have HT1 := Lib.hid (show ∀ v, Calls Try.prog 9 #[.int .u8 (x : Nat), .int .i64 99] v fun r w' => ∃ v', r = .returned v' ∧ OwnU w' v.heap.size v' (nodesL x) ∧ Below v.heap.size v w' from fun v => by
    have := S.told v x 99 hx (by decide) (by decide)
    rwa [List.take_of_length_le (by rw [len_nodes]; exact Nat.le_trans (lenF_le _) (by decide))] at this)
  have HT2 := Lib.hid (show ∀ v, Calls Try.prog 9 #[.int .u8 (x : Nat), .int .i64 1] v fun r w' => ∃ v', r = .returned v' ∧ OwnU w' v.heap.size v' ((nodesL x).take 1) ∧ Below v.heap.size v w' from fun v => S.told v x 1 hx (by decide) (by decide))
  have HOF := Lib.hid (fun v (hv : Src v a n c l) => S.of v a n c l hv hn)
  have HRS := Lib.hid (fun v (hv : Src v a n c l) => refSet_is v a n c l hv (by omega))
  have HFI := Lib.hid (fun v => S.first v i hi0 hi1)
  have HHS := Lib.hid (fun v => S.has v x one hx h1)
  have HLN := Lib.hid (fun v => S.len v x hx)
  have HRH := Lib.hid (show ∀ v a1 c1, Src v a1 (nodesL x).length c1 (nodesL x) → Calls Try.prog 14 #[.slice a1 (nodesL x).length c1, .int .u8 (one : Nat)] v fun r w' => r = .returned (.bool (hasL x one)) ∧ v = w' from fun v a1 c1 hv => by
    have := refHas_is v a1 _ c1 (nodesL x) one hv (by omega)
    rwa [show anyL (nodesL x) one = hasL x one from has_nodes x one] at this)
  rw [← hnx] at HLN
  have hml : ((nodesL x).take 1).length = min 1 (nodesL x).length := by rw [List.length_take]
  generalize hasL x one = b1 at *
  generalize hfo : firstL i = fo at *
  generalize hol : ofL l = ol at *
  generalize hls : nodesL x = ls at *
  generalize hkk : ls.length = k at *
  generalize htk : ls.take 1 = lt at *
  have HKK := Lib.hid hkk
  have HML := Lib.hid hml
  have HK7 := Lib.hid hlx
  have HFO := Lib.hid hfo
  have HNN := Lib.hid hn
  have HI1 := Lib.hid hi1
  clear hls hkk hml hnx hS hol hfo htk
  go_enter Try.func3, Try.ntmps3
  go_upto_region 6 with (first
    | (go_at_call 8; (with_reducible refine (HLX.out _).mono ?_); rintro r9 w1 ⟨v1, rfl, o1, b1⟩; obtain ⟨a1, c1, rfl, s1⟩ := o1.form; rw [HKK.out])
    | (go_at_call 9; (with_reducible refine (HT1.out _).mono ?_); rintro r9 w2 ⟨v2, rfl, o2, b2⟩; obtain ⟨a2, c2, rfl, s2⟩ := o2.form; rw [HKK.out]))
  rw [HKK.out] at s1 s2
  have HTL := Lib.hid (show TlS a1 a2 a k c1 c2 n c ls l w w2 from ⟨s1.below b2, s2, (HSA.out.below b1).below b2, b1.trans (b2.mono b1.size)⟩)
  clear s1 s2 o1 o2 b1 b2 HSA
  go_wp2_with fail
  go_loopw [12, 13] (fun fv jv wx => ∃ j : Nat, j ≤ 7 ∧ (j : Int) ≤ max i 0 ∧ jv = .int .i64 j ∧ (∃ a5 c5, fv = .slice a5 j c5) ∧ OwnU wx w2.heap.size fv (fewL j) ∧ Below w2.heap.size w2 wx) (fun _ jv _ => 7 - (intOf jv).toNat)
  case atStart => exact ⟨0, by omega, by omega, rfl, ⟨none, 0, rfl⟩, OwnU.nil _ _, Below.refl _ _⟩
  case round =>
    obtain ⟨j, hj7, hjm, rfl, ⟨a5, c5, rfl⟩, hO, hB⟩ := hrel
    have HO := Lib.hid hO
    have HB := Lib.hid hB
    clear hO hB
    by_cases hlt : (j : Int) < i ∧ j < 7
    · obtain ⟨hl1, hl2⟩ := hlt
      have hw8 := wrap_u8 (show j < 256 by omega)
      have e3 : ((UInt8.ofNat j).toNat : Int) = ((j : Nat) : Int) := by rw [UInt8.toNat_ofNat']; omega
      have HE3 := Lib.hid e3
      have HFL := Lib.hid (few_len j)
      have HFS := Lib.hid (few_succ j)
      have HJM := Lib.hid (show ((j + 1 : Nat) : Int) ≤ max i 0 by omega)
      clear e3
      go_wp2_with (at_builtin; refine wpList_append_src _ rfl _ _ rfl w2.heap.size _ j (fewL j) rfl (by have := HO.out; unfold OwnU at this; rw [HFL.out] at this; exact ownsRow_below this ((Below.refl _ _).alloc (Nat.le_refl _) _)) _ 1 _ [UInt8.ofNat j] rfl (Src.of_own (own_one wr (UInt8.ofNat j) _ HE3.out)) (by omega) (by have := HB.out.size; simp; omega) ?_; intro v' w3 hown hgrow)
      have hob := HO.out.below ((Below.refl _ wr).alloc (Nat.le_refl _) (.cells #[.int .u8 (j : Nat)] 5))
      have hO2 : OwnU w3 w2.heap.size v' (fewL j ++ [UInt8.ofNat j]) := HO.out.more (by rw [HFL.out]; exact hown)
      rw [← HFS.out] at hO2
      obtain ⟨a', c', rfl, _⟩ := hO2.form
      have hB2 : Below w2.heap.size w2 w3 := (HB.out.alloc HB.out.size _).grown hgrow (HB.out.alloc HB.out.size _).size (fun k hk => (hob.lt k hk).1)
      go_roundw
      case rel => exact ⟨j + 1, by omega, HJM.out, by go_num, ⟨a', c', by rw [few_len]⟩, hO2, hB2⟩
      case measure => simp [intOf]; omega
    · have hfew : ofL (fewL j) = fo := by rw [few_of hj7 (n := i) (fun q hq => by omega)]; exact HFO.out
      have HTB := Lib.hid (HTL.out.below HB.out)
      obtain ⟨a6, c6, e6, s6⟩ := HO.out.form
      rw [few_len] at e6 s6
      simp only [Value.slice.injEq, true_and] at e6
      obtain ⟨rfl, rfl⟩ := e6
      have HSF := Lib.hid (show ∀ v, Src v a5 j c5 (fewL j) → Calls Try.prog 11 #[.slice a5 j c5] v fun r w' => r = .returned (.int .u8 (fo : Nat)) ∧ v = w' from fun v hv => by have := refSet_is v a5 j c5 (fewL j) hv (by omega); rwa [hfew] at this)
      have HS6 := Lib.hid s6
      clear s6 hfew HO HTL hjm
      have hi7 : ¬ ((j : Int) < i ∧ (j : Int) < 7) := by omega
      obtain ⟨q, hq⟩ : ∃ q, lt.length = q := ⟨_, rfl⟩
      have hmin : min (1 : Int) (k : Int) = (q : Int) := by have := HML.out; rw [hq] at this; omega
      have HQ := Lib.hid hq
      have hcase : ((j : Int) < i ∧ ¬ (j : Int) < 7) ∨ ¬ (j : Int) < i := by omega
      clear hlt hi7 hq
      rcases hcase with ⟨q1, q2⟩ | q1
      all_goals
        go_wp2_with (first
          | (go_at_call 10; (with_reducible refine (HOF.out _ HTB.out.arg).mono ?_); rintro r9 w9 ⟨rfl, b9⟩; have HTB := Lib.hid (HTB.out.below b9); have HS6 := Lib.hid (HS6.out.below b9); clear b9)
          | (go_at_call 11; (with_reducible refine (HRS.out _ HTB.out.arg).mono ?_); rintro r9 w9 ⟨rfl, rfl⟩)
          | (go_at_call 11; (with_reducible refine (HSF.out _ HS6.out).mono ?_); rintro r9 w9 ⟨rfl, rfl⟩)
          | (go_at_call 12; (with_reducible refine (HFI.out _).mono ?_); rintro r9 w9 ⟨rfl, b9⟩; have HTB := Lib.hid (HTB.out.below b9); have HS6 := Lib.hid (HS6.out.below b9); clear b9)
          | (go_at_call 13; (with_reducible refine (HHS.out _).mono ?_); rintro r9 w9 ⟨rfl, b9⟩; have HTB := Lib.hid (HTB.out.below b9); have HS6 := Lib.hid (HS6.out.below b9); clear b9)
          | (go_at_call 15; (with_reducible refine (HLN.out _).mono ?_); rintro r9 w9 ⟨rfl, b9⟩; have HTB := Lib.hid (HTB.out.below b9); have HS6 := Lib.hid (HS6.out.below b9); clear b9)
          | (go_at_call 14; (with_reducible refine (HRH.out _ _ _ HTB.out.s1).mono ?_); rintro r9 w9 ⟨rfl, rfl⟩)
          | (go_at_call 9; (with_reducible refine (HT2.out _).mono ?_); rintro r9 w9 ⟨v9, rfl, o9, b9⟩; obtain ⟨a9, c9, rfl, _⟩ := o9.form; rw [HQ.out]; clear o9; have HTB := Lib.hid (HTB.out.below b9); have HS6 := Lib.hid (HS6.out.below b9); clear b9))
        go_loopw [14] (fun jv wx => ∃ t : Nat, t ≤ k ∧ jv = .int .i64 t ∧ TlS a1 a2 a k c1 c2 n c ls l w wx) (fun jv _ => k - (intOf jv).toNat)
        case atStart => exact ⟨0, by omega, rfl, HTB.out⟩
        case round =>
          obtain ⟨t, ht, rfl, hT⟩ := hrel
          have HT := Lib.hid hT
          have hk7 := HK7.out
          clear hT HTB
          by_cases htk : t < k
          · have htl : t < ls.length := by rw [HKK.out]; exact htk
            obtain ⟨bb1, of1, rfl, hc1⟩ := HT.out.s1.nth (by omega)
            obtain ⟨bb2, of2, rfl, hc2⟩ := HT.out.s2.nth (by omega)
            have d1 := hc1 t htl
            have d2 := hc2 t htl
            clear hc1 hc2
            generalize ls[t] = y at d1 d2
            go_upto_region 16 with fail
            go_quiet (fail)
            go_wp2_with fail
            go_roundw
            case rel => exact ⟨t + 1, by omega, by go_num, HT.out.below (below_drewN (Below.refl wr.heap.size wr) _)⟩
            case measure => simp [intOf]; omega
          · go_wp2_with (go_at_call 7; (with_reducible refine (HW.out _).mono ?_); rintro r9 w9 ⟨rfl, b9⟩)
            go_ret
            exact ⟨rfl, HT.out.bel.trans (b9.mono HT.out.bel.size)⟩
end Go.Proofs.Ytefocgifgphgiaa
