/-
  The laws MemberMeet and MemberSets over this translation, over a MemberSpec.
-/
import Derived.Test.YtefocgifgphgiaaMbWakes
namespace Go.Proofs.Ytefocgifgphgiaa
open Go.RowKit
set_option linter.unusedVariables false

theorem wrap_u8 {n : Nat} (h : n < 256) : IntKind.u8.wrap ((n : Nat) : Int) = ((n : Nat) : Int) := by
  have : ∀ k : Fin 256, IntKind.u8.wrap (k.val : Int) = (k.val : Int) := by decide +kernel
  exact this ⟨n, h⟩
theorem mk_lt' (f : Nat → Bool) : mkL f < 256 := Nat.lt_of_lt_of_le (mk_lt f) (by decide)

set_option maxRecDepth 100000 in
set_option maxHeartbeats 4000000 in
theorem meet_go (S : MemberSpec) (x a b m : Nat) (hx : x < 256) (ha : a < 256) (hb : b < 256) (hm : m < 256) (w : World) :
    Calls Try.prog 5 #[.int .u8 (x : Nat), .int .u8 (a : Nat), .int .u8 (b : Nat), .int .u8 (m : Nat)] w fun e w' => e = .returned (.bool true) ∧ Below w.heap.size w w' := by
  have HW := Lib.hid S.wakes
  have hmod : (m : Int).tmod 8 = ((m % 8 : Nat) : Int) := by rw [Int.tmod_eq_emod_of_nonneg (by omega)]; rfl
  have hwm := wrap_u8 (show m % 8 < 256 by omega)
  have e3 : ((UInt8.ofNat (m % 8)).toNat : Int) = ((m % 8 : Nat) : Int) := by rw [UInt8.toNat_ofNat']; omega
  generalize m % 8 = r at *
  generalize hc : UInt8.ofNat r = c at *
  have HOF := Lib.hid (fun v : World => S.of (v.alloc (.cells #[.int .u8 (r : Nat)] 5)) _ 1 1 [c] (Src.of_own (own_one v c _ e3)) (by decide))
  have hoo : ofL [c] < 256 := mk_lt' _
  have HWT := Lib.hid (fun v => S.with_ v x (ofL [c]) hx hoo)
  have hmore := fun (h : majorL x a = true) (k : majorL (withL x (ofL [c])) b = true) => meet_more (c := c) h k
  have htt : withL x (ofL [c]) < 256 := mk_lt' _
  generalize withL x (ofL [c]) = t at *
  generalize ofL [c] = o at *
  have hone := fun (h : majorL x a = true) (k : majorL x b = true) => meet_one h k
  have hap := fun (h : majorL x a = true) => meet_apart (q := b) h
  have hpq : bothL a b < 256 := mk_lt' _
  have hqp : withoutL b a < 256 := mk_lt' _
  have hps : bothL (bothL a b) x < 256 := mk_lt' _
  have hpt : bothL (bothL a b) t < 256 := mk_lt' _
  have M1 := fun v => S.major v x a hx ha
  have M2 := fun v => S.major v x b hx hb
  have M3 := fun v => S.major v t b htt hb
  have M4 := fun v => S.major v x (withoutL b a) hx hqp
  have HBO := Lib.hid (fun v => S.both v a b ha hb)
  have HWO := Lib.hid (fun v => S.without v b a hb ha)
  have HB1 := Lib.hid (fun v => S.both v (bothL a b) x hpq hx)
  have HB2 := Lib.hid (fun v => S.both v (bothL a b) t hpq htt)
  have HL1 := Lib.hid (fun v => S.len v (bothL (bothL a b) x) hps)
  have HL2 := Lib.hid (fun v => S.len v (bothL (bothL a b) t) hpt)
  generalize majorL x a = b1 at *
  generalize majorL x b = b2 at *
  generalize majorL t b = b3 at *
  generalize majorL x (withoutL b a) = b4 at *
  generalize lenL (bothL (bothL a b) x) = k1 at *
  generalize lenL (bothL (bothL a b) t) = k2 at *
  generalize bothL (bothL a b) x = u1 at *
  generalize bothL (bothL a b) t = u2 at *
  generalize bothL a b = u at *
  generalize withoutL b a = v at *
  have HK1 := Lib.hid hone
  have HK2 := Lib.hid hmore
  have HK4 := Lib.hid hap
  have HB0 := Lib.hid (Below.refl w.heap.size w)
  clear hone hmore hap hoo htt hpq hqp hps hpt e3 hc hx ha hb hm
  cases b1 <;> cases b2 <;> cases b3 <;> cases b4
  all_goals (try cases HK4.out rfl)
  all_goals
    (try have n1 : ¬ (k1 : Int) = 0 := by have := HK1.out rfl rfl; omega)
    (try have n2 : ¬ (k2 : Int) = 0 := by have := HK2.out rfl rfl; omega)
    have HM1 := Lib.hid M1
    have HM2 := Lib.hid M2
    have HM3 := Lib.hid M3
    have HM4 := Lib.hid M4
    clear M1 M2 M3 M4
    go_enter Try.func5, Try.ntmps5
    go_wp2_with (first
      | (go_at_call 10; (with_reducible refine (HOF.out _).mono ?_); rintro r9 w1 ⟨rfl, b1⟩; have HB0 := Lib.hid (HB0.out.trans (((Below.refl _ _).alloc (Nat.le_refl _) _).trans (b1.mono (by simp)) |>.mono HB0.out.size)); clear b1)
      | (go_at_call 17; (with_reducible refine (HWT.out _).mono ?_); rintro r9 w1 ⟨rfl, b1⟩; have HB0 := Lib.hid (HB0.out.trans (b1.mono HB0.out.size)); clear b1)
      | (go_at_call 18; (with_reducible refine (HWO.out _).mono ?_); rintro r9 w1 ⟨rfl, b1⟩; have HB0 := Lib.hid (HB0.out.trans (b1.mono HB0.out.size)); clear b1)
      | (go_at_call 19; (first | (with_reducible refine (HBO.out _).mono ?_) | (with_reducible refine (HB1.out _).mono ?_) | (with_reducible refine (HB2.out _).mono ?_)); rintro r9 w1 ⟨rfl, b1⟩; have HB0 := Lib.hid (HB0.out.trans (b1.mono HB0.out.size)); clear b1)
      | (go_at_call 15; (first | (with_reducible refine (HL1.out _).mono ?_) | (with_reducible refine (HL2.out _).mono ?_)); rintro r9 w1 ⟨rfl, b1⟩; have HB0 := Lib.hid (HB0.out.trans (b1.mono HB0.out.size)); clear b1)
      | (go_at_call 20; (first | (with_reducible refine (HM1.out _).mono ?_) | (with_reducible refine (HM2.out _).mono ?_) | (with_reducible refine (HM3.out _).mono ?_) | (with_reducible refine (HM4.out _).mono ?_)); rintro r9 w1 ⟨rfl, b1⟩; have HB0 := Lib.hid (HB0.out.trans (b1.mono HB0.out.size)); clear b1)
      | (go_at_call 7; (with_reducible refine (HW.out _).mono ?_); rintro r9 w1 ⟨rfl, b1⟩; have HB0 := Lib.hid (HB0.out.trans (b1.mono HB0.out.size)); clear b1))
    go_ret
    exact ⟨rfl, HB0.out⟩

/-- The four lists. -/
structure SetS (a1 a2 a3 a4 : Option Addr) (n1 n2 n3 n4 c1 c2 c3 c4 : Nat) (l1 l2 l3 l4 : List UInt8) (w0 w : World) : Prop where
  s1 : Src w a1 n1 c1 l1
  s2 : Src w a2 n2 c2 l2
  s3 : Src w a3 n3 c3 l3
  s4 : Src w a4 n4 c4 l4
  bel : Below w0.heap.size w0 w
theorem SetS.below {a1 a2 a3 a4 : Option Addr} {n1 n2 n3 n4 c1 c2 c3 c4 : Nat} {l1 l2 l3 l4 : List UInt8} {w0 w w' : World} (h : SetS a1 a2 a3 a4 n1 n2 n3 n4 c1 c2 c3 c4 l1 l2 l3 l4 w0 w) (hb : Below w.heap.size w w') : SetS a1 a2 a3 a4 n1 n2 n3 n4 c1 c2 c3 c4 l1 l2 l3 l4 w0 w' :=
  ⟨h.s1.below hb, h.s2.below hb, h.s3.below hb, h.s4.below hb, h.bel.trans (hb.mono h.bel.size)⟩
set_option maxRecDepth 100000 in
set_option maxHeartbeats 4000000 in
theorem sets_go (S : MemberSpec) (x y : Nat) (hx : x < 256) (hy : y < 256) (w : World) :
    Calls Try.prog 4 #[.int .u8 (x : Nat), .int .u8 (y : Nat)] w fun e w' => e = .returned (.bool true) ∧ Below w.heap.size w w' := by
  have HW := Lib.hid S.wakes
  have hlx : (nodesL x).length ≤ 7 := by rw [len_nodes]; exact lenF_le _
  have hly : (nodesL y).length ≤ 7 := by rw [len_nodes]; exact lenF_le _
  have hnx := len_nodes x
  have e1 := of_append x y
  have e2 := of_pick_true x y
  have e3 := of_pick_false x y
  have e4 := major_pick x y
  have e5 := may_pick x y
  have e6 := need_fits x
  rw [← hnx] at e6
  have l1 : (pickL (nodesL x) (nodesL y) true).length ≤ 7 := by rw [len_pick_true]; exact lenF_le _
  have l2 : (pickL (nodesL x) (nodesL y) false).length ≤ 7 := by rw [len_pick_false]; exact lenF_le _
  have HLX := Lib.hid (fun v => refList_is v x hx)
  have HLY := Lib.hid (fun v => refList_is v y hy)
  have HWT := Lib.hid (fun v => S.with_ v x y hx hy)
  have HWO := Lib.hid (fun v => S.without v x y hx hy)
  have HBO := Lib.hid (fun v => S.both v x y hx hy)
  have HMJ := Lib.hid (fun v => S.major v x y hx hy)
  have HMY := Lib.hid (fun v => S.may v x y hx hy)
  have HND := Lib.hid (fun v => S.need v x hx)
  generalize needL x = nd at *
  generalize nodesL x = lx at *
  generalize nodesL y = ly at *
  have HPT := Lib.hid (fun v a n c a2 n2 c2 (h1 : Src v a n c lx) (h2 : Src v a2 n2 c2 ly) (i1 : n ≤ 7) (i2 : n2 ≤ 7) => refPick_is v a a2 n c n2 c2 lx ly true h1 h2 (by omega) (by omega))
  have HPF := Lib.hid (fun v a n c a2 n2 c2 (h1 : Src v a n c lx) (h2 : Src v a2 n2 c2 ly) (i1 : n ≤ 7) (i2 : n2 ≤ 7) => refPick_is v a a2 n c n2 c2 lx ly false h1 h2 (by omega) (by omega))
  have HRM := Lib.hid (fun v a c a2 c2 (h1 : Src v a lx.length c lx) (h2 : Src v a2 ly.length c2 ly) => refMajor_is v a a2 lx.length c ly.length c2 lx ly h1 h2 (by omega) (by omega) (majorL x y) e4.symm)
  have HRY := Lib.hid (fun v a c a2 c2 (h1 : Src v a lx.length c lx) (h2 : Src v a2 ly.length c2 ly) => refMay_is v a a2 lx.length c ly.length c2 lx ly h1 h2 (by omega) (by omega) (mayS x y) e5.symm)
  have HST := Lib.hid (fun v a n c (h : Src v a n c (lx ++ ly)) (hn : n ≤ 14) => refSet_is v a n c (lx ++ ly) h (by omega))
  have HSP := Lib.hid (fun v a n c (h : Src v a n c (pickL lx ly true)) (hn : n ≤ 7) => refSet_is v a n c (pickL lx ly true) h (by omega))
  have HSF := Lib.hid (fun v a n c (h : Src v a n c (pickL lx ly false)) (hn : n ≤ 7) => refSet_is v a n c (pickL lx ly false) h (by omega))
  rw [e1] at HST
  rw [e2] at HSP
  rw [e3] at HSF
  generalize pickL lx ly true = pt at *
  generalize pickL lx ly false = pf at *
  generalize majorL x y = b1 at *
  generalize mayS x y = b2 at *
  generalize hkx : lx.length = kx at *
  generalize hky : ly.length = ky at *
  generalize hk1 : pt.length = k1 at *
  generalize hk2 : pf.length = k2 at *
  have HKX := Lib.hid hkx
  have HKY := Lib.hid hky
  have HK1 := Lib.hid hk1
  have HK2 := Lib.hid hk2
  have HLX7 := Lib.hid hlx
  have HLY7 := Lib.hid hly
  have HL1 := Lib.hid l1
  have HL2 := Lib.hid l2
  have i1 : (kx : Int) < 2 * (nd : Int) := by omega
  have i2 : 2 * (nd : Int) ≤ (kx : Int) + 2 := by omega
  have HB0 := Lib.hid (Below.refl w.heap.size w)
  clear hkx hky hk1 hk2 hly l1 l2 e1 e2 e3 e4 e5 e6 hnx hx hy
  go_enter Try.func4, Try.ntmps4
  go_upto_region 4 with (first
    | (go_at_call 8; (with_reducible refine (HLX.out _).mono ?_); rintro r9 w1 ⟨v1, rfl, o1, b1⟩; obtain ⟨a1, c1, rfl, s1⟩ := o1.form; rw [HKX.out])
    | (go_at_call 8; (with_reducible refine (HLY.out _).mono ?_); rintro r9 w2 ⟨v2, rfl, o2, b2⟩; obtain ⟨a2, c2, rfl, s2⟩ := o2.form; rw [HKY.out])
    | (go_at_call 16; (with_reducible refine (HPT.out _ _ _ _ _ _ _ (by have := s1.below b2; rwa [HKX.out] at this) (by rwa [HKY.out] at s2) HLX7.out HLY7.out).mono ?_); rintro r9 w3 ⟨v3, rfl, o3, b3⟩; obtain ⟨a3, c3, rfl, s3⟩ := o3.form; rw [HK1.out]))
  rw [HKX.out] at s1
  rw [HKY.out] at s2
  rw [HK1.out] at s3
  have hs1 := (s1.below b2).below b3
  have hs2 := s2.below b3
  have hbb : Below w.heap.size w w3 := (b1.trans (b2.mono b1.size)).trans (b3.mono (Nat.le_trans b1.size b2.size))
  have HS1 := Lib.hid hs1
  have HS2 := Lib.hid hs2
  have HS3 := Lib.hid s3
  have HBB := Lib.hid hbb
  clear s1 s2 s3 o1 o2 o3 b1 b2 b3 hs1 hs2 hbb
  go_upto_region 5 with (first
    | (at_builtin; refine wpList_append_src _ rfl _ _ rfl w3.heap.size (.slice none 0 0) 0 [] rfl (World.ownsRow_nil _ _ _ _) _ _ _ lx rfl HS1.out (by have := HLX7.out; omega) (Nat.le_refl _) ?_; intro v4 w4 o4 g4; simp only [Nat.zero_add, List.nil_append] at o4; have HG4 := Lib.hid (show Below w3.heap.size w3 w4 from (Below.refl _ _).grown g4 (Nat.le_refl _) (by simp [Value.ownBlock])); have HO4 := Lib.hid o4; clear o4 g4)
    | (at_builtin; refine wpList_append_src _ rfl _ _ rfl w3.heap.size v4 _ lx rfl HO4.out _ _ _ ly rfl (HS2.out.below HG4.out) (by have := HLX7.out; have := HLY7.out; omega) HG4.out.size ?_; intro v5 w5 o5 g5; have HG5 := Lib.hid (show Below w3.heap.size w3 w5 from HG4.out.grown g5 HG4.out.size (fun k hk => (HO4.out.lt k hk).1)); obtain ⟨a5, c5, rfl, s5⟩ := src_of_owns o5; have HS5 := Lib.hid s5; clear s5 o5 g5))
  have HK := Lib.hid (show SetS a1 a2 a3 a5 kx ky k1 (kx + ky) c1 c2 c3 c5 lx ly pt (lx ++ ly) w w5 from ⟨HS1.out.below HG5.out, HS2.out.below HG5.out, HS3.out.below HG5.out, HS5.out, HBB.out.trans (HG5.out.mono HBB.out.size)⟩)
  clear HS1 HS2 HS3 HBB HG4 HG5 HS5 HO4
  go_wp2_with (first
    | (go_at_call 17; (with_reducible refine (HWT.out _).mono ?_); rintro r9 w9 ⟨rfl, b9⟩; have HK := Lib.hid (HK.out.below b9); clear b9)
    | (go_at_call 18; (with_reducible refine (HWO.out _).mono ?_); rintro r9 w9 ⟨rfl, b9⟩; have HK := Lib.hid (HK.out.below b9); clear b9)
    | (go_at_call 19; (with_reducible refine (HBO.out _).mono ?_); rintro r9 w9 ⟨rfl, b9⟩; have HK := Lib.hid (HK.out.below b9); clear b9)
    | (go_at_call 20; (with_reducible refine (HMJ.out _).mono ?_); rintro r9 w9 ⟨rfl, b9⟩; have HK := Lib.hid (HK.out.below b9); clear b9)
    | (go_at_call 22; (with_reducible refine (HMY.out _).mono ?_); rintro r9 w9 ⟨rfl, b9⟩; have HK := Lib.hid (HK.out.below b9); clear b9)
    | (go_at_call 24; (with_reducible refine (HND.out _).mono ?_); rintro r9 w9 ⟨rfl, b9⟩; have HK := Lib.hid (HK.out.below b9); clear b9)
    | (go_at_call 11; (with_reducible refine (HST.out _ _ _ _ HK.out.s4 (by have := HLX7.out; have := HLY7.out; omega)).mono ?_); rintro r9 w9 ⟨rfl, rfl⟩)
    | (go_at_call 11; (with_reducible refine (HSP.out _ _ _ _ HK.out.s3 HL1.out).mono ?_); rintro r9 w9 ⟨rfl, rfl⟩)
    | (go_at_call 16; (with_reducible refine (HPF.out _ _ _ _ _ _ _ HK.out.s1 HK.out.s2 HLX7.out HLY7.out).mono ?_); rintro r9 w9 ⟨v9, rfl, o9, b9⟩; have HK := Lib.hid (HK.out.below b9); obtain ⟨a9, c9, rfl, s9⟩ := o9.form; rw [HK2.out] at s9 ⊢; have HS9 := Lib.hid s9; clear b9 s9 o9)
    | (go_at_call 11; (with_reducible refine (HSF.out _ _ _ _ HS9.out HL2.out).mono ?_); rintro r9 w9 ⟨rfl, rfl⟩)
    | (go_at_call 21; (with_reducible refine (HRM.out _ _ _ _ _ HK.out.s1 HK.out.s2).mono ?_); rintro r9 w9 ⟨rfl, b9⟩; have HK := Lib.hid (HK.out.below b9); clear b9)
    | (go_at_call 23; (with_reducible refine (HRY.out _ _ _ _ _ HK.out.s1 HK.out.s2).mono ?_); rintro r9 w9 ⟨rfl, b9⟩; have HK := Lib.hid (HK.out.below b9); clear b9)
    | (go_at_call 7; (with_reducible refine (HW.out _).mono ?_); rintro r9 w9 ⟨rfl, b9⟩; have HK := Lib.hid (HK.out.below b9); clear b9))
  go_ret
  exact ⟨rfl, HK.out.bel⟩
end Go.Proofs.Ytefocgifgphgiaa
