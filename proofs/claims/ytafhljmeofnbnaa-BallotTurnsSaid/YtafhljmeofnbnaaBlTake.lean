/-
  The document's own Take of a ballot: its contract.
-/
import Derived.Test.YtafhljmeofnbnaaBlBytes
namespace Go.Proofs.Ytafhljmeofnbnaa
open Go.RowKit
set_option linter.unusedVariables false

/-- A box of the document's reader. -/
def RfB (q : Nat) (S : ByteArray) (E : Int) (w : World) : Prop := w.heap[q]? = some (.cells #[.string S, .int .i64 E] 43 (0, 0))
theorem RfB.lt {q : Nat} {S : ByteArray} {E : Int} {w : World} (h : RfB q S E w) : q < w.heap.size := (Array.getElem?_eq_some_iff.1 h).1
theorem RfB.below {q : Nat} {S : ByteArray} {E : Int} {w w' : World} (h : RfB q S E w) (hb : Below w.heap.size w w') : RfB q S E w' := (hb.block q h.lt).trans h
theorem RfB.vals {q : Nat} {S : ByteArray} {E : Int} {w : World} (h : RfB q S E w) : w.cell? ⟨q, 0, none⟩ = some (.string S) ∧ w.cell? ⟨q, 1, none⟩ = some (.int .i64 E) :=
  ⟨by rw [cell_of_row w q 0 _ _ _ h]; rfl, by rw [cell_of_row w q 1 _ _ _ h]; rfl⟩
theorem RfB.frozen {q : Nat} {S : ByteArray} {E : Int} {w : World} (h : RfB q S E w) (j : Nat) : w.frozen? ⟨q, j, none⟩ = false := frozen_of_row w q j _ _ h
theorem RfB.store {q : Nat} {S : ByteArray} {E : Int} {w : World} (h : RfB q S E w) (S2 : ByteArray) (E2 : Int) : RfB q S2 E2 ((w.setCell ⟨q, 0, none⟩ (.string S2)).setCell ⟨q, 1, none⟩ (.int .i64 E2)) := by
  have h1 := heap_setCell_same w q 0 _ _ (.string S2) h
  have h2 := heap_setCell_same _ q 1 _ _ (.int .i64 E2) h1
  simpa [RfB] using h2
theorem RfB.other {q : Nat} {S : ByteArray} {E : Int} {w : World} {p : Addr} (h : RfB q S E w) (hp : q ≠ p.block) (u : Value) : RfB q S E (w.setCell p u) := (Below.heap_setCell w p u q hp).trans h
theorem BalB.oth {q : Nat} {b : Bal} {w : World} {p : Addr} (h : BalB q b w) (hp : q ≠ p.block) (u : Value) : BalB q b (w.setCell p u) := (Below.heap_setCell w p u q hp).trans h
theorem RfB.new (w : World) (S : ByteArray) (E : Int) : RfB w.heap.size S E (w.alloc (.cells #[.string S, .int .i64 E] 43)) := heap_alloc_new w _
/-- The three boxes of Take. -/
structure TkS (q : Nat) (S : ByteArray) (E : Int) (w0 w : World) : Prop where
  rd : RfB q S E w
  bal : BalB (q + 1) (0, 0) w
  out : RfB (q + 2) ⟨#[]⟩ 0 w
  bel : Below w0.heap.size w0 w
  le : w0.heap.size ≤ q
theorem TkS.below {q : Nat} {S : ByteArray} {E : Int} {w0 w w' : World} (h : TkS q S E w0 w) (hb : Below w.heap.size w w') : TkS q S E w0 w' := ⟨h.rd.below hb, h.bal.below hb, h.out.below hb, h.bel.trans (hb.mono h.bel.size), h.le⟩
theorem TkS.store {q : Nat} {S : ByteArray} {E : Int} {w0 w : World} (h : TkS q S E w0 w) (S2 : ByteArray) (E2 : Int) : TkS q S2 E2 w0 ((w.setCell ⟨q, 0, none⟩ (.string S2)).setCell ⟨q, 1, none⟩ (.int .i64 E2)) :=
  ⟨h.rd.store S2 E2, (h.bal.oth (by simp) _).oth (by simp) _, (h.out.other (by simp) _).other (by simp) _, (h.bel.setCell (p := ⟨q, 0, none⟩) h.le _).setCell (p := ⟨q, 1, none⟩) h.le _, h.le⟩
theorem tk_new (w : World) (S : ByteArray) (E : Int) : TkS w.heap.size S E w (((w.alloc (.cells #[.string S, .int .i64 E] 43)).alloc (.cells #[.int .u64 0, .int .u8 0] 25)).alloc (.cells #[.string ⟨#[]⟩, .int .i64 0] 43)) := by
  have e1 := RfB.new w S E
  have e2 := BalB.new (w.alloc (.cells #[.string S, .int .i64 E] 43)) (0, 0)
  have e3 := RfB.new ((w.alloc (.cells #[.string S, .int .i64 E] 43)).alloc (.cells #[.int .u64 0, .int .u8 0] 25)) ⟨#[]⟩ 0
  simp only [World.size_alloc] at e2 e3
  exact ⟨(e1.below ((Below.refl _ _).alloc (Nat.le_refl _) _)).below ((Below.refl _ _).alloc (Nat.le_refl _) _), e2.below ((Below.refl _ _).alloc (Nat.le_refl _) _), e3, (((Below.refl _ w).alloc (Nat.le_refl _) _).alloc (by simp) _).alloc (by simp; omega) _, Nat.le_refl _⟩

set_option maxRecDepth 100000 in
set_option maxHeartbeats 4000000 in
theorem refTake_is (s : St) (w : World) (h : s.l.length ≤ 1000000) :
    Calls Try.prog 21 #[refV s] w fun r w' => r = .returned (.tuple #[balV (takeB s).1, refV (takeB s).2]) ∧ Below w.heap.size w w' := by
  have h1 : (s.num.2.l.length : Int) ≤ 9223372036854775807 := by have := num_len s; omega
  have C1 := fun v => refRNum_any s v (by omega)
  have C2 := fun v => refByte_any s.num.2 v h1
  have C3 := fun v => refMay_is (s.num.1, s.num.2.byte.1.toNat) v
  obtain ⟨T, hT⟩ : ∃ t, takeB s = t := ⟨_, rfl⟩
  rw [hT]
  unfold takeB at hT
  generalize s.num.2.byte.1.toNat = c at *
  generalize s.num.2.byte.2 = s2 at *
  generalize s.num.2 = s1 at *
  generalize s.num.1 = n at *
  have HT := Lib.hid hT
  unfold refV balV at *
  generalize B (if s.e = 0 then s.l else []) = S0 at *
  generalize s.e = E0 at *
  generalize B (if s1.e = 0 then s1.l else []) = S1 at *
  generalize s1.e = E1 at *
  obtain ⟨S2, hS2⟩ : ∃ x, B (if s2.e = 0 then s2.l else []) = x := ⟨_, rfl⟩
  rw [hS2] at C2
  have HS2 := Lib.hid hS2
  have HC1 := Lib.hid C1
  have HC2 := Lib.hid C2
  have HC3 := Lib.hid C3
  have K := tk_new w S0 E0
  clear C1 C2 C3 hT hS2 h1 h
  go_enter Try.func21, Try.ntmps21
  go_upto_region 1 with fail
  generalize (((w.alloc (.cells #[.string S0, .int .i64 E0] 43)).alloc (.cells #[.int .u64 0, .int .u8 0] 25)).alloc (.cells #[.string ⟨#[]⟩, .int .i64 0] 43)) = V at *
  obtain ⟨k0, k1⟩ := K.rd.vals
  have HK := Lib.hid K
  clear K
  go_upto_region 2 with (go_at_call 34; (with_reducible refine (HC1.out _).mono ?_); rintro r v1 ⟨rfl, b1⟩; have HK1 := Lib.hid (HK.out.below b1); clear b1; obtain ⟨p0, p1⟩ := HK1.out.rd.vals; have f0 := HK1.out.rd.frozen 0; have f1 := HK1.out.rd.frozen 1)
  have K := HK1.out.store S1 E1
  generalize ((v1.setCell ⟨w.heap.size, 0, none⟩ (.string S1)).setCell ⟨w.heap.size, 1, none⟩ (.int .i64 E1)) = V1 at *
  clear k0 k1 p0 p1 f0 f1 HK1 HK
  obtain ⟨k0, k1⟩ := K.rd.vals
  have HK := Lib.hid K
  clear K
  go_upto_region 3 with (go_at_call 35; (with_reducible refine (HC2.out _).mono ?_); rintro r v2 ⟨rfl, b2⟩; have HK2 := Lib.hid (HK.out.below b2); clear b2; obtain ⟨p0, p1⟩ := HK2.out.rd.vals; have f0 := HK2.out.rd.frozen 0; have f1 := HK2.out.rd.frozen 1)
  have K := HK2.out.store S2 s2.e
  generalize ((v2.setCell ⟨w.heap.size, 0, none⟩ (.string S2)).setCell ⟨w.heap.size, 1, none⟩ (.int .i64 s2.e)) = V2 at *
  clear k0 k1 p0 p1 f0 f1 HK2 HK
  obtain ⟨k0, k1⟩ := K.rd.vals
  obtain ⟨m0, m1⟩ := K.bal.vals
  have f0 := K.bal.frozen 0
  have f1 := K.bal.frozen 1
  obtain ⟨n0, n1⟩ := K.out.vals
  have g0 := K.out.frozen 0
  have g1 := K.out.frozen 1
  have HK := Lib.hid K
  clear K
  have hT := HT.out
  have hS := HS2.out
  clear HT HS2
  by_cases he : s2.e = 0
  · have e0 : (s2.e != 0) = false := by simp [he]
    rw [if_neg (by simp [he])] at hT
    rw [if_pos he] at hS
    have HS := Lib.hid hS
    have HE := Lib.hid he
    have H3 := HC3.out
    have HNB := Lib.hid (BalB.new V2 (n, c))
    have HV := Lib.hid ((Below.refl V2.heap.size V2).alloc (Nat.le_refl _) (.cells #[.int .u64 ((n : Nat) : Int), .int .u8 ((c : Nat) : Int)] 25))
    obtain ⟨x0, x1⟩ := HNB.out.vals
    clear hS he
    rcases hm : mayL (n, c) with _ | _
    · rw [hm] at hT H3
      rw [if_neg (by simp)] at hT
      subst hT
      have H4 := Lib.hid H3
      clear H3 hm
      go_wp2_with (go_at_call 11; (with_reducible refine (H4.out _).mono ?_); rintro r v3 ⟨rfl, b3⟩; have HK3 := Lib.hid (HK.out.below (HV.out.trans (b3.mono HV.out.size))); clear b3 k0 k1 m0 m1 n0 n1 f0 f1 g0 g1; obtain ⟨k0, k1⟩ := HK3.out.rd.vals; obtain ⟨m0, m1⟩ := HK3.out.bal.vals; have f0 := HK3.out.bal.frozen 0; have f1 := HK3.out.bal.frozen 1; obtain ⟨n0, n1⟩ := HK3.out.out.vals; have g0 := HK3.out.out.frozen 0; have g1 := HK3.out.out.frozen 1)
      all_goals
        refine bodyPost_ret (v := .tuple #[.agg #[.int .u64 0, .int .u8 0], .agg #[.string ⟨#[]⟩, .int .i64 4]]) (by simp [results, Try.f21, go_sem, m0, m1, n0, n1]) rfl ⟨congrArg Ending.returned (by (have hf : (s2.fail 4).e = 4 := (by simp [St.fail, HE.out])); first | (exfalso; omega) | rw [hf]), ?_⟩
        repeat (first | with_reducible exact HK3.out.bel | with_reducible refine Below.drew ?_ | with_reducible refine Below.setCell ?_ (by show w.heap.size ≤ _; simp; try omega) _)
    · rw [hm] at hT H3
      rw [if_pos rfl] at hT
      subst hT
      have H4 := Lib.hid H3
      clear H3 hm
      go_upto_region 8 with (go_at_call 11; (with_reducible refine (H4.out _).mono ?_); rintro r v3 ⟨rfl, b3⟩; have HK3 := Lib.hid (HK.out.below (HV.out.trans (b3.mono HV.out.size))); have HN3 := Lib.hid (HNB.out.below b3); clear b3 k0 k1 m0 m1 n0 n1 f0 f1 g0 g1 x0 x1; obtain ⟨k0, k1⟩ := HK3.out.rd.vals; obtain ⟨m0, m1⟩ := HK3.out.bal.vals; have f0 := HK3.out.bal.frozen 0; have f1 := HK3.out.bal.frozen 1; obtain ⟨n0, n1⟩ := HK3.out.out.vals; have g0 := HK3.out.out.frozen 0; have g1 := HK3.out.out.frozen 1; obtain ⟨x0, x1⟩ := HN3.out.vals)
      go_region
      all_goals go_wp2_with fail
      all_goals
        refine bodyPost_ret (v := .tuple #[.agg #[.int .u64 ((n : Nat) : Int), .int .u8 ((c : Nat) : Int)], .agg #[.string S2, .int .i64 0]]) (by simp [results, Try.f21, go_sem, m0, m1, n0, n1]) rfl ⟨congrArg Ending.returned (by first | rw [HS.out] | rw [if_pos HE.out, HS.out, HE.out]), ?_⟩
        repeat (first | with_reducible exact HK3.out.bel | with_reducible refine Below.drew ?_ | with_reducible refine Below.setCell ?_ (by show w.heap.size ≤ _; simp; try omega) _)
  · have e0 : (s2.e != 0) = true := by simpa using he
    rw [if_pos he] at hT
    subst hT
    rw [if_neg he] at hS
    have HS := Lib.hid hS
    have HE := Lib.hid he
    clear hS he
    go_upto_region 4 with fail
    go_region
    all_goals go_wp2_with fail
    all_goals
      refine bodyPost_ret (v := .tuple #[.agg #[.int .u64 0, .int .u8 0], .agg #[.string S2, .int .i64 s2.e]]) (by simp [results, Try.f21, go_sem, m0, m1, n0, n1]) rfl ⟨congrArg Ending.returned (by first | rw [HS.out] | rw [if_neg HE.out, HS.out]), ?_⟩
      repeat (first | with_reducible exact HK.out.bel | with_reducible refine Below.drew ?_ | with_reducible refine Below.setCell ?_ (by show w.heap.size ≤ _; simp; try omega) _)
end Go.Proofs.Ytafhljmeofnbnaa
