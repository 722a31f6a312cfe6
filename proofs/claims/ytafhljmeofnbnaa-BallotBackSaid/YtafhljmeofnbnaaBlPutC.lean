/-
  The landed ballot's Put and Take; what its calls answer, together.
-/
import Derived.Test.YtafhljmeofnbnaaBlTurnC
import Derived.Test.YtafhljmeofnbnaaBlBytes
namespace Go.Proofs.Ytafhljmeofnbnaa
open Go.RowKit
set_option linter.unusedVariables false

theorem Own.lower {w : World} {base base' g n c : Nat} {l : List UInt8} (h : Own w base g n c l) (hb : base' ≤ base) : Own w base' g n c l := by
  rcases h.2 with ⟨h1, _⟩ | ⟨g', cap, cur, h1, h2, h3⟩
  · cases h1
  · exact ⟨h.1, .inr ⟨g', cap, cur, h1, Nat.le_trans hb h2, h3⟩⟩
theorem BalB.kept {q : Nat} {b : Bal} {w w' : World} {row : Option Nat} (h : BalB q b w) (hg : w.grownBy w' row) (hne : row ≠ some q) : BalB q b w' := by
  unfold BalB; rw [hg.block q h.lt (fun e => hne e.symm)]; exact h
def BalC (q : Nat) (b : Bal) (w : World) : Prop := w.cell? ⟨q, 0, none⟩ = some (.int .u64 (b.1 : Nat)) ∧ w.cell? ⟨q, 1, none⟩ = some (.int .u8 (b.2 : Nat))

set_option maxRecDepth 100000 in
set_option maxHeartbeats 1000000 in
theorem put_is (w : World) (a : Option Addr) (n c : Nat) (l : List UInt8) (x : Bal) (h : Src w a n c l) (hn : n ≤ 1000000) (hx : okBal x) :
    Calls Try.prog 17 #[.slice a n c, balV x] w fun r w' => ∃ g n' c', r = .returned (.slice (some ⟨g, 0, none⟩) n' c') ∧ Own w' w.heap.size g n' c' (l ++ bytesL x) ∧ Below w.heap.size w w' := by
  have K1 := BalB.new w x
  have hB : Below w.heap.size w (w.alloc (.cells #[.int .u64 (x.1 : Nat), .int .u8 (x.2 : Nat)] 25)) := (Below.refl _ w).alloc (Nat.le_refl _) _
  have HSR := Lib.hid (h.below hB)
  have HN := Lib.hid (fun v (hv : Src v a n c l) => wnum_any a n c l (x.1 : Nat) v hv (by omega) (by omega) (by have := hx.1; omega))
  rw [Int.toNat_natCast] at HN
  have e3 : ((UInt8.ofNat x.2).toNat : Int) = ((x.2 : Nat) : Int) := by have := hx.2; rw [UInt8.toNat_ofNat']; omega
  have HE3 := Lib.hid e3
  have HLE := Lib.hid (show (enc x.1).length ≤ 9 from (enc_len9 (n := x.1) hx.1).2)
  have HLN := Lib.hid (show l.length = n from h.len)
  have HNN := Lib.hid hn
  have HB := Lib.hid hB
  clear hB e3 h hn hx
  go_enter Try.func17, Try.ntmps17
  unfold balV at *
  go_upto_region 1 with fail
  generalize (w.alloc (.cells #[.int .u64 (x.1 : Nat), .int .u8 (x.2 : Nat)] 25)) = V at *
  generalize hq : w.heap.size = q at *
  have HK := Lib.hid (K1.below ((Below.refl _ V).drew))
  have HS1 := Lib.hid (HSR.out.below ((Below.refl _ V).drew))
  have HBV := Lib.hid (show Below q w V.drew from HB.out.drew)
  have HVS := Lib.hid (show q ≤ V.heap.size by have := HB.out.size; omega)
  clear K1
  refine wp_region_held_drew (S := BalC q x) (by kernel_rfl) (HK.out.vals) (fun hHeld => ?_)
  refine take_run (i := 0) (v := ?_) rfl (by kernel_rfl) (by kernel_rfl) (by kernel_rfl) (fun _ _ _ h => h) (by kernel_rfl) ?_ (by assumption) ?_
  rotate_left
  · (intro w5 hSw; obtain ⟨s0, s1⟩ := hSw; go_simp); all_goals with_reducible rfl
  try simp only [Act.put, List.setIfInBounds_toArray, List.set_cons_zero, List.set_cons_succ]
  refine take_run (i := 1) (v := ?_) rfl (by kernel_rfl) (by kernel_rfl) (by kernel_rfl) (fun _ _ _ h => h) (by kernel_rfl) ?_ (by assumption) ?_
  rotate_left
  · (intro w5 hSw; obtain ⟨s0, s1⟩ := hSw; go_simp); all_goals with_reducible rfl
  try simp only [Act.put, List.setIfInBounds_toArray, List.set_cons_zero, List.set_cons_succ]
  refine take_run (i := 2) (v := ?_) rfl (by kernel_rfl) (by kernel_rfl) (by kernel_rfl) (fun _ _ _ h => h) (by kernel_rfl) ?_ (by assumption) ?_
  rotate_left
  · (intro w5 hSw; obtain ⟨s0, s1⟩ := hSw; go_simp); all_goals with_reducible rfl
  try simp only [Act.put, List.setIfInBounds_toArray, List.set_cons_zero, List.set_cons_succ]
  refine take_run (i := 4) (v := ?_) rfl (by kernel_rfl) (by kernel_rfl) (by kernel_rfl) (fun _ _ _ h => h) (by kernel_rfl) ?_ (by assumption) ?_
  rotate_left
  · (intro w5 hSw; obtain ⟨s0, s1⟩ := hSw; go_simp); all_goals with_reducible rfl
  try simp only [Act.put, List.setIfInBounds_toArray, List.set_cons_zero, List.set_cons_succ]
  refine take_run (i := 5) (v := ?_) rfl (by kernel_rfl) (by kernel_rfl) (by kernel_rfl) (fun _ _ _ h => h) (by kernel_rfl) ?_ (by assumption) ?_
  rotate_left
  · (intro w5 hSw; obtain ⟨s0, s1⟩ := hSw; go_simp); all_goals with_reducible rfl
  try simp only [Act.put, List.setIfInBounds_toArray, List.set_cons_zero, List.set_cons_succ]
  refine take_two (i := 3) (j := 6) rfl rfl (by kernel_rfl) (by kernel_rfl) (by kernel_rfl) (fun K hK => ?_) (fun K hK => ?_)
  · go_simp; refine (HN.out _ HS1.out).mono ?_; rintro r w21 ⟨g1, n1, c1, rfl, o1, bb⟩; have HK1 := Lib.hid (HK.out.below bb); have HO1 := Lib.hid o1; have HB1 := Lib.hid bb; clear bb o1
    (try go_wp2_with fail)
    clear hHeld
    refine hK.out _ _ ?_ (fun hHeld => ?_)
    · exact HK1.out.vals
    clear hK K
    try simp only [Act.put, List.setIfInBounds_toArray, List.set_cons_zero, List.set_cons_succ]
    have HNE := Lib.hid (show g1 ≠ q from by have h1 := (HO1.out.lt _ rfl).1; have h2 := HK.out.lt; intro e; rw [e] at h1; exact absurd h1 (Nat.not_le.2 h2))
    refine take_call (i := 6) rfl (by kernel_rfl) (by kernel_rfl) (fun K hK => ?_)
    go_simp; have HOX := Lib.hid (Src.of_own (own_one w21 (UInt8.ofNat x.2) _ HE3.out)); have HAL := Lib.hid ((Below.refl w21.heap.size w21).alloc (Nat.le_refl _) (.cells #[.int .u8 ((x.2 : Nat) : Int)] 5)); have HK2 := Lib.hid (HK1.out.below HAL.out)
    go_wp2_with fail
    clear hHeld
    refine hK.out _ _ ?_ (fun hHeld => ?_)
    · exact HK2.out.vals
    clear hK K
    try simp only [Act.put, List.setIfInBounds_toArray, List.set_cons_zero, List.set_cons_succ]
    have HOX2 := HOX
    have HKE := HK2
    have HO2 := Lib.hid (Own.lower (ownsRow_below HO1.out HAL.out) HVS.out)
    have HB2 := Lib.hid ((HBV.out.trans (HB1.out.mono HVS.out)).trans (HAL.out.mono (Nat.le_trans HVS.out HB1.out.size)))
    have HQ2 := Lib.hid (Nat.le_trans HVS.out (Nat.le_trans HB1.out.size HAL.out.size))
    refine take_call (i := 7) rfl (by kernel_rfl) (by kernel_rfl) (fun K hK => ?_)
    refine wp_append_src _ _ _ (by rfl) q (.slice (some ⟨g1, 0, none⟩) n1 c1) n1 (l ++ enc x.1) (by rfl) HO2.out _ _ _ [UInt8.ofNat x.2] (by rfl) HOX2.out (by have := HO1.out.len; have := HLE.out; have := HNN.out; have := HLN.out; rw [List.length_append] at *; omega) HQ2.out ?_
    intro v14 w14 o14 g14
    have ho14 := o14
    have HFIN := Lib.hid (show Below q w w14 from HB2.out.grown g14 (by have := HB2.out.size; omega) (by rintro k ⟨rfl⟩; exact (HO2.out.lt _ rfl).1))
    have HK3 := Lib.hid (BalB.kept HKE.out g14 (by intro e; cases e; exact absurd rfl HNE.out))
    (try go_wp2_with fail)
    clear hHeld
    refine hK.out _ _ ?_ (fun hHeld => ?_)
    · exact HK3.out.vals
    clear hK K
    try simp only [Act.put, List.setIfInBounds_toArray, List.set_cons_zero, List.set_cons_succ]
    refine take_run (i := 8) (v := ?_) rfl (by kernel_rfl) (by kernel_rfl) (by kernel_rfl) (fun _ _ _ h => h) (by kernel_rfl) ?_ (by assumption) ?_
    rotate_left
    · (intro w5 hSw; obtain ⟨s0, s1⟩ := hSw; go_simp); all_goals with_reducible rfl
    try simp only [Act.put, List.setIfInBounds_toArray, List.set_cons_zero, List.set_cons_succ]
    refine wpAnyH_done (by kernel_rfl) ?_ _
    go_wp2
    obtain ⟨g2, c2, rfl⟩ : ∃ g2 c2, v14 = .slice (some ⟨g2, 0, none⟩) (n1 + 1) c2 := by
      rcases ho14.2 with ⟨rfl, h0⟩ | ⟨g2, c2, cur, rfl, _⟩
      · simp at h0
      · exact ⟨g2, c2, rfl⟩
    go_ret
    rw [List.append_assoc] at ho14
    exact ⟨g2, n1 + 1, c2, rfl, by rw [hq]; exact ho14, by rw [hq]; exact HFIN.out⟩
  · go_simp; have HOX := Lib.hid (Src.of_own (own_one V.drew (UInt8.ofNat x.2) _ HE3.out)); have HAL := Lib.hid ((Below.refl V.drew.heap.size V.drew).alloc (Nat.le_refl _) (.cells #[.int .u8 ((x.2 : Nat) : Int)] 5)); have HK2 := Lib.hid (HK.out.below HAL.out)
    (try go_wp2_with fail)
    clear hHeld
    refine hK.out _ _ ?_ (fun hHeld => ?_)
    · exact HK2.out.vals
    clear hK K
    try simp only [Act.put, List.setIfInBounds_toArray, List.set_cons_zero, List.set_cons_succ]
    have HS2 := Lib.hid (HS1.out.below HAL.out)
    refine take_call (i := 3) rfl (by kernel_rfl) (by kernel_rfl) (fun K hK => ?_)
    go_simp; refine (HN.out _ HS2.out).mono ?_; rintro r w21 ⟨g1, n1, c1, rfl, o1, bb⟩; have HK1 := Lib.hid (HK2.out.below bb); have HO1 := Lib.hid o1; have HB1 := Lib.hid bb; clear bb o1
    go_wp2_with fail
    clear hHeld
    refine hK.out _ _ ?_ (fun hHeld => ?_)
    · exact HK1.out.vals
    clear hK K
    try simp only [Act.put, List.setIfInBounds_toArray, List.set_cons_zero, List.set_cons_succ]
    have HNE := Lib.hid (show g1 ≠ q from by have h1 := (HO1.out.lt _ rfl).1; have h2 := HK2.out.lt; intro e; rw [e] at h1; exact absurd h1 (Nat.not_le.2 h2))
    have HOX2 := Lib.hid (HOX.out.below HB1.out)
    have HKE := HK1
    have HO2 := Lib.hid (Own.lower HO1.out (Nat.le_trans HVS.out HAL.out.size))
    have HB2 := Lib.hid ((HBV.out.trans (HAL.out.mono HVS.out)).trans (HB1.out.mono (Nat.le_trans HVS.out HAL.out.size)))
    have HQ2 := Lib.hid (Nat.le_trans HVS.out (Nat.le_trans HAL.out.size HB1.out.size))
    refine take_call (i := 7) rfl (by kernel_rfl) (by kernel_rfl) (fun K hK => ?_)
    refine wp_append_src _ _ _ (by rfl) q (.slice (some ⟨g1, 0, none⟩) n1 c1) n1 (l ++ enc x.1) (by rfl) HO2.out _ _ _ [UInt8.ofNat x.2] (by rfl) HOX2.out (by have := HO1.out.len; have := HLE.out; have := HNN.out; have := HLN.out; rw [List.length_append] at *; omega) HQ2.out ?_
    intro v14 w14 o14 g14
    have ho14 := o14
    have HFIN := Lib.hid (show Below q w w14 from HB2.out.grown g14 (by have := HB2.out.size; omega) (by rintro k ⟨rfl⟩; exact (HO2.out.lt _ rfl).1))
    have HK3 := Lib.hid (BalB.kept HKE.out g14 (by intro e; cases e; exact absurd rfl HNE.out))
    (try go_wp2_with fail)
    clear hHeld
    refine hK.out _ _ ?_ (fun hHeld => ?_)
    · exact HK3.out.vals
    clear hK K
    try simp only [Act.put, List.setIfInBounds_toArray, List.set_cons_zero, List.set_cons_succ]
    refine take_run (i := 8) (v := ?_) rfl (by kernel_rfl) (by kernel_rfl) (by kernel_rfl) (fun _ _ _ h => h) (by kernel_rfl) ?_ (by assumption) ?_
    rotate_left
    · (intro w5 hSw; obtain ⟨s0, s1⟩ := hSw; go_simp); all_goals with_reducible rfl
    try simp only [Act.put, List.setIfInBounds_toArray, List.set_cons_zero, List.set_cons_succ]
    refine wpAnyH_done (by kernel_rfl) ?_ _
    go_wp2
    obtain ⟨g2, c2, rfl⟩ : ∃ g2 c2, v14 = .slice (some ⟨g2, 0, none⟩) (n1 + 1) c2 := by
      rcases ho14.2 with ⟨rfl, h0⟩ | ⟨g2, c2, cur, rfl, _⟩
      · simp at h0
      · exact ⟨g2, c2, rfl⟩
    go_ret
    rw [List.append_assoc] at ho14
    exact ⟨g2, n1 + 1, c2, rfl, by rw [hq]; exact ho14, by rw [hq]; exact HFIN.out⟩

/-- The reader, the result's box. -/
structure TakS (b q : Nat) (s : St) (w0 w : World) : Prop where
  rd : RS w b s
  res : BalB q (0, 0) w
  g : w0.grownBy w (some b)
  lt : b < q
  ge : w0.heap.size ≤ q
theorem TakS.step {b q : Nat} {s s' : St} {w0 w w' : World} (h : TakS b q s w0 w) (h1 : RS w' b s') (hg : w.grownBy w' (some b)) : TakS b q s' w0 w' :=
  ⟨h1, h.res.kept hg (by have := h.lt; simp; omega), grown_trans h.g hg, h.lt, h.ge⟩
theorem TakS.below {b q : Nat} {s : St} {w0 w w' : World} (h : TakS b q s w0 w) (hb : Below w.heap.size w w') : TakS b q s w0 w' :=
  ⟨Rd.below h.rd hb h.rd.lt, h.res.below hb, grown_trans h.g (grown_of_below hb), h.lt, h.ge⟩
theorem TakS.done {b q : Nat} {s : St} {w0 w : World} (h : TakS b q s w0 w) (x : Bal) : BalB q x ((w.setCell ⟨q, 0, none⟩ (.int .u64 (x.1 : Nat))).setCell ⟨q, 1, none⟩ (.int .u8 (x.2 : Nat))) ∧ RS ((w.setCell ⟨q, 0, none⟩ (.int .u64 (x.1 : Nat))).setCell ⟨q, 1, none⟩ (.int .u8 (x.2 : Nat))) b s ∧ w0.grownBy ((w.setCell ⟨q, 0, none⟩ (.int .u64 (x.1 : Nat))).setCell ⟨q, 1, none⟩ (.int .u8 (x.2 : Nat))) (some b) := by
  have hlt := h.lt
  have hge := h.ge
  have h0 : w.grownBy ((w.setCell ⟨q, 0, none⟩ (.int .u64 (x.1 : Nat))).setCell ⟨q, 1, none⟩ (.int .u8 (x.2 : Nat))) (some q) := grown_trans (grown_setCell w q 0 _) (grown_setCell _ q 1 _)
  refine ⟨h.res.store x, Rd.kept h.rd h0 (by simp; omega), ⟨h0.os.trans h.g.os, h0.tape.trans h.g.tape, h0.output.trans h.g.output, Nat.le_trans h.g.size h0.size, fun k hk hr => ?_⟩⟩
  exact (h0.block k (Nat.lt_of_lt_of_le hk h.g.size) (by simp; omega)).trans (h.g.block k hk hr)

set_option maxRecDepth 100000 in
set_option maxHeartbeats 2000000 in
theorem take_is (w : World) (b : Nat) (s : St) (h : RS w b s) (h6 : s.l.length ≤ 1000000) :
    Calls Try.prog 20 #[.pointer (some ⟨b, 0, none⟩)] w fun r w' => r = .returned (balV (takeB s).1) ∧ RS w' b (takeB s).2 ∧ w.grownBy w' (some b) := by
  have hl2 : s.num.2.l.length ≤ 9223372036854775807 := by have := num_len s; omega
  have H1 := fun v (hv : RS v b s) => num_any b s v hv (by omega)
  have H2 := fun v (hv : RS v b s.num.2) => byte_any b s.num.2 v hv hl2
  have H3 := fun v => check_is (s.num.1, s.num.2.byte.1.toNat) v
  have H4 := fun v (hv : RS v b s.num.2.byte.2) => bad_st b s.num.2.byte.2 v hv
  have H5 := fun v s' (hv : RS v b s') => err_st b s' v hv
  have K : TakS b w.heap.size s w (w.alloc (.cells #[.int .u64 0, .int .u8 0] 25)) :=
    ⟨Rd.below h ((Below.refl _ w).alloc (Nat.le_refl _) _) h.lt, BalB.new w (0, 0), grown_of_below ((Below.refl _ w).alloc (Nat.le_refl _) _), h.lt, Nat.le_refl _⟩
  obtain ⟨T, hT⟩ : ∃ t, takeB s = t := ⟨_, rfl⟩
  rw [hT]
  unfold takeB at hT
  generalize s.num.2.byte.1 = cc at *
  generalize s.num.2.byte.2 = s2 at *
  generalize s.num.2 = s1 at *
  generalize s.num.1 = n at *
  have HC := Lib.hid (show True from trivial)
  generalize hc : cc.toNat = c at *
  have HT := Lib.hid hT
  have HH1 := Lib.hid H1
  have HH2 := Lib.hid H2
  have HH5 := Lib.hid H5
  have HH4 := Lib.hid H4
  have HH3 := Lib.hid H3
  unfold balV at *
  clear H1 H2 H3 H4 H5 hT h6 hl2 h hc
  go_enter Try.func20, Try.ntmps20
  go_upto_region 1 with fail
  generalize (w.alloc (.cells #[.int .u64 0, .int .u8 0] 25)) = V at *
  generalize hq : w.heap.size = q at *
  have HK := Lib.hid K
  clear K
  go_upto_region 3 with (first
    | (go_at_call 31; (with_reducible refine (HH1.out _ HK.out.rd).mono ?_); rintro e v1 ⟨rfl, r1, g1⟩; have HK1 := Lib.hid (HK.out.step r1 g1); clear r1 g1)
    | (go_at_call 32; (with_reducible refine (HH2.out _ HK1.out.rd).mono ?_); rintro e v2 ⟨rfl, r2, g2⟩; have HK2 := Lib.hid (HK1.out.step r2 g2); clear r2 g2))
  have B4 : BalB v2.heap.size (n, c) (v2.alloc (.cells #[.int .u64 (n : Nat), .int .u8 (c : Nat)] 25)) := BalB.new v2 (n, c)
  have K3 := HK2.out.below ((Below.refl _ v2).alloc (Nat.le_refl _) (.cells #[.int .u64 (n : Nat), .int .u8 (c : Nat)] 25))
  have hq4 : b < v2.heap.size := HK2.out.rd.lt
  generalize (v2.alloc (.cells #[.int .u64 (n : Nat), .int .u8 (c : Nat)] 25)) = V3 at *
  generalize v2.heap.size = q4 at *
  have HB4 := Lib.hid B4
  have HK3 := Lib.hid K3
  have HQ4 := Lib.hid hq4
  clear HK HK1 HK2 HH1 HH2 K3 hq4
  obtain ⟨k0, k1⟩ := B4.vals
  clear B4
  have hT := HT.out
  rcases hm : mayL (n, c) with _ | _
  · have h3 := HH3.out
    rw [hm] at h3 hT
    have H3 := Lib.hid h3
    by_cases he : s2.e = 0
    · rw [if_neg (by simp [he]), if_neg (by simp)] at hT
      subst hT
      have hf : (s2.fail 4).e = 4 := by simp [St.fail, he]
      have H5 := Lib.hid (show ∀ v, RS v b (s2.fail 4) → Calls Try.prog 22 #[.pointer (some ⟨b, 0, none⟩)] v fun r w' => r = .returned (.int .i64 4) ∧ v = w' from fun v hv => by have := err_st b (s2.fail 4) v hv; rwa [hf] at this)
      clear h3 hm he hf HT
      go_wp2_with (first
        | (go_at_call 12; (with_reducible refine (H3.out _).mono ?_); rintro e v3 ⟨rfl, b3⟩; have HK4 := Lib.hid (HK3.out.below b3); have HB5 := Lib.hid (HB4.out.below b3); clear b3 k0 k1; obtain ⟨k0, k1⟩ := HB5.out.vals; obtain ⟨m0, m1⟩ := HK4.out.res.vals; have f0 := HK4.out.res.frozen 0; have f1 := HK4.out.res.frozen 1)
        | (go_at_call 33; (with_reducible refine (HH4.out _ HK4.out.rd).mono ?_); rintro e v4 ⟨rfl, r4, g4⟩; have HK5 := Lib.hid (HK4.out.step r4 g4); clear r4 g4 k0 k1 m0 m1 f0 f1; obtain ⟨m0, m1⟩ := HK5.out.res.vals; have f0 := HK5.out.res.frozen 0; have f1 := HK5.out.res.frozen 1)
        | (go_at_call 22; (with_reducible refine (H5.out _ HK5.out.rd).mono ?_); rintro e v6 ⟨rfl, rfl⟩))
      have hz := HK5.out.done (0, 0)
      obtain ⟨z0, z1⟩ := hz.1.vals
      first
        | (refine bodyPost_ret (v := .agg #[.int .u64 (((0, 0) : Bal).1 : Nat), .int .u8 (((0, 0) : Bal).2 : Nat)]) ?_ rfl ⟨rfl, hz.2.1, hz.2.2⟩; (simp [results, Try.f20, go_sem] at z0 z1 ⊢; simp [z0, z1]))
        | (refine bodyPost_ret (v := .agg #[.int .u64 (((0, 0) : Bal).1 : Nat), .int .u8 (((0, 0) : Bal).2 : Nat)]) ?_ rfl ⟨rfl, HK5.out.rd, HK5.out.g⟩; simp [results, Try.f20, go_sem, m0, m1])
    · have hf : s2.fail 4 = s2 := by simp [St.fail, he]
      rw [if_pos (by simpa using he)] at hT
      subst hT
      have hne : (s2.e != 0) = true := by simpa using he
      have H4 := HH4.out
      rw [hf] at H4
      clear HH4
      have HH4 := Lib.hid H4
      have H5 := Lib.hid (HH5.out · s2)
      clear h3 hm he hf HT H4
      go_wp2_with (first
        | (go_at_call 12; (with_reducible refine (H3.out _).mono ?_); rintro e v3 ⟨rfl, b3⟩; have HK4 := Lib.hid (HK3.out.below b3); have HB5 := Lib.hid (HB4.out.below b3); clear b3 k0 k1; obtain ⟨k0, k1⟩ := HB5.out.vals; obtain ⟨m0, m1⟩ := HK4.out.res.vals; have f0 := HK4.out.res.frozen 0; have f1 := HK4.out.res.frozen 1)
        | (go_at_call 33; (with_reducible refine (HH4.out _ HK4.out.rd).mono ?_); rintro e v4 ⟨rfl, r4, g4⟩; have HK5 := Lib.hid (HK4.out.step r4 g4); clear r4 g4 k0 k1 m0 m1 f0 f1; obtain ⟨m0, m1⟩ := HK5.out.res.vals; have f0 := HK5.out.res.frozen 0; have f1 := HK5.out.res.frozen 1)
        | (go_at_call 22; (with_reducible refine (H5.out _ HK5.out.rd).mono ?_); rintro e v6 ⟨rfl, rfl⟩))
      have hz := HK5.out.done (0, 0)
      obtain ⟨z0, z1⟩ := hz.1.vals
      first
        | (refine bodyPost_ret (v := .agg #[.int .u64 (((0, 0) : Bal).1 : Nat), .int .u8 (((0, 0) : Bal).2 : Nat)]) ?_ rfl ⟨rfl, hz.2.1, hz.2.2⟩; (simp [results, Try.f20, go_sem] at z0 z1 ⊢; simp [z0, z1]))
        | (refine bodyPost_ret (v := .agg #[.int .u64 (((0, 0) : Bal).1 : Nat), .int .u8 (((0, 0) : Bal).2 : Nat)]) ?_ rfl ⟨rfl, HK5.out.rd, HK5.out.g⟩; simp [results, Try.f20, go_sem, m0, m1])
  · have h3 := HH3.out
    rw [hm] at h3 hT
    have H3 := Lib.hid h3
    by_cases he : s2.e = 0
    · rw [if_neg (by simp [he]), if_pos rfl] at hT
      subst hT
      have H5 := Lib.hid (show ∀ v, RS v b s2 → Calls Try.prog 22 #[.pointer (some ⟨b, 0, none⟩)] v fun r w' => r = .returned (.int .i64 0) ∧ v = w' from fun v hv => by have := err_st b s2 v hv; rwa [he] at this)
      clear h3 hm he HT
      go_wp2_with (first
        | (go_at_call 12; (with_reducible refine (H3.out _).mono ?_); rintro e v3 ⟨rfl, b3⟩; have HK4 := Lib.hid (HK3.out.below b3); have HB5 := Lib.hid (HB4.out.below b3); clear b3 k0 k1; obtain ⟨k0, k1⟩ := HB5.out.vals; obtain ⟨m0, m1⟩ := HK4.out.res.vals; have f0 := HK4.out.res.frozen 0; have f1 := HK4.out.res.frozen 1)
        | (go_at_call 22; (with_reducible refine (H5.out _ HK4.out.rd).mono ?_); rintro e v6 ⟨rfl, rfl⟩))
      have hz := HK4.out.done (n, c)
      obtain ⟨z0, z1⟩ := hz.1.vals
      first
        | (refine bodyPost_ret (v := .agg #[.int .u64 (((n, c) : Bal).1 : Nat), .int .u8 (((n, c) : Bal).2 : Nat)]) ?_ rfl ⟨rfl, hz.2.1, hz.2.2⟩; (simp [results, Try.f20, go_sem] at z0 z1 ⊢; simp [z0, z1]))
        | (refine bodyPost_ret (v := .agg #[.int .u64 (((n, c) : Bal).1 : Nat), .int .u8 (((n, c) : Bal).2 : Nat)]) ?_ rfl ⟨rfl, HK4.out.rd, HK4.out.g⟩; simp [results, Try.f20, go_sem, m0, m1])
    · rw [if_pos (by simpa using he)] at hT
      subst hT
      have hne : (s2.e != 0) = true := by simpa using he
      have H5 := Lib.hid (HH5.out · s2)
      clear h3 hm he HT
      go_wp2_with (first
        | (go_at_call 12; (with_reducible refine (H3.out _).mono ?_); rintro e v3 ⟨rfl, b3⟩; have HK4 := Lib.hid (HK3.out.below b3); have HB5 := Lib.hid (HB4.out.below b3); clear b3 k0 k1; obtain ⟨k0, k1⟩ := HB5.out.vals; obtain ⟨m0, m1⟩ := HK4.out.res.vals; have f0 := HK4.out.res.frozen 0; have f1 := HK4.out.res.frozen 1)
        | (go_at_call 22; (with_reducible refine (H5.out _ HK4.out.rd).mono ?_); rintro e v6 ⟨rfl, rfl⟩))
      have hz := HK4.out.done (0, 0)
      obtain ⟨z0, z1⟩ := hz.1.vals
      first
        | (refine bodyPost_ret (v := .agg #[.int .u64 (((0, 0) : Bal).1 : Nat), .int .u8 (((0, 0) : Bal).2 : Nat)]) ?_ rfl ⟨rfl, hz.2.1, hz.2.2⟩; (simp [results, Try.f20, go_sem] at z0 z1 ⊢; simp [z0, z1]))
        | (refine bodyPost_ret (v := .agg #[.int .u64 (((0, 0) : Bal).1 : Nat), .int .u8 (((0, 0) : Bal).2 : Nat)]) ?_ rfl ⟨rfl, HK4.out.rd, HK4.out.g⟩; simp [results, Try.f20, go_sem, m0, m1])

theorem take_none (w : World) : Calls Try.prog 20 #[.pointer none] w fun r w' => r = .returned (balV (0, 0)) ∧ Below w.heap.size w w' := by
  have K := BalB.new w (0, 0)
  have hB : Below w.heap.size w (w.alloc (.cells #[.int .u64 0, .int .u8 0] 25)) := (Below.refl _ w).alloc (Nat.le_refl _) _
  have H3 := Lib.hid (show ∀ v, Calls Try.prog 12 #[.agg #[.int .u64 0, .int .u8 0]] v fun r w' => r = .returned (.int .i64 0) ∧ Below v.heap.size v w' from fun v => check_is (0, 0) v)
  go_enter Try.func20, Try.ntmps20
  unfold balV
  go_upto_region 3 with (first
    | (go_at_call 31; (with_reducible refine (num_nil _).mono ?_); rintro e v1 ⟨rfl, rfl⟩)
    | (go_at_call 32; (with_reducible refine (byte_nil _).mono ?_); rintro e v2 ⟨rfl, rfl⟩))
  have B2 := BalB.new (w.alloc (.cells #[.int .u64 0, .int .u8 0] 25)) (0, 0)
  simp only [World.size_alloc] at B2
  replace K := K.below ((Below.refl _ _).alloc (Nat.le_refl _) (.cells #[.int .u64 0, .int .u8 0] 25))
  replace hB := hB.alloc (by simp) (.cells #[.int .u64 0, .int .u8 0] 25)
  generalize hV : (w.alloc (.cells #[.int .u64 0, .int .u8 0] 25)).alloc (.cells #[.int .u64 0, .int .u8 0] 25) = V at *
  have HK := Lib.hid K
  have HB := Lib.hid hB
  obtain ⟨k0, k1⟩ := B2.vals
  clear K hB hV B2
  go_wp2_with (first
    | (go_at_call 12; (with_reducible refine (H3.out _).mono ?_); rintro e v3 ⟨rfl, b3⟩; have HK1 := Lib.hid (HK.out.below b3); have HB1 := Lib.hid (HB.out.trans (b3.mono HB.out.size)); clear b3 k0 k1; obtain ⟨m0, m1⟩ := HK1.out.vals; have f0 := HK1.out.frozen 0; have f1 := HK1.out.frozen 1)
    | (go_at_call 22; (with_reducible refine (err_nil _).mono ?_); rintro e v6 ⟨rfl, rfl⟩))
  refine bodyPost_ret (v := .agg #[.int .u64 0, .int .u8 0]) ?_ rfl ⟨rfl, ?_⟩
  · simp [results, Try.f20, go_sem, m0, m1]
  · first
    | exact HB1.out
    | exact (HB1.out.setCell (p := ⟨w.heap.size, 0, none⟩) (Nat.le_refl _) _).setCell (p := ⟨w.heap.size, 1, none⟩) (Nat.le_refl _) _

/-- What the landed ballot's calls answer. -/
theorem ballotSpec : BallotSpec where
  check := fun w b _ => check_is b w
  below := fun w a b _ _ => below_is a b w
  top := fun w a n c l h hn => top_is w a n c l h hn
  turn := fun w b r hb hr => turn_is b r w hb hr
  put := fun w a n c l x h hn hx => put_is w a n c l x h hn hx
  take := fun w b s h h6 => take_is w b s h h6
  take_nil := take_none
end Go.Proofs.Ytafhljmeofnbnaa
