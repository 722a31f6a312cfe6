/-
  The law BallotOrder over this translation, over a BallotSpec.
-/
import Derived.Test.YtafhljmeofnbnaaBlWakes
import Derived.Deep.DeepCutAuto
import Derived.Deep.CutBlock
import Derived.Deep.CutRange
import Derived.Deep.QuietTactic
import Derived.BigQuiet
import Derived.Deep.RegionWith
namespace Go.Proofs.Ytafhljmeofnbnaa
open Go.RowKit
set_option linter.unusedVariables false

theorem Bals.below {w w' : World} {a : Option Addr} {n : Nat} {l : List Bal} (h : Bals w a n l) (hb : Below w.heap.size w w') : Bals w' a n l := by
  refine ⟨h.len, h.ok, fun h0 => ?_⟩
  obtain ⟨b, off, e, hc⟩ := h.base h0
  refine ⟨b, off, e, fun j hj => ⟨?_, ?_⟩⟩
  · exact (hb.cell (p := ⟨b, off + j * 2, none⟩) (World.block_lt_of_cell? _ _ (hc j hj).1)).trans (hc j hj).1
  · exact (hb.cell (p := ⟨b, off + j * 2 + 1, none⟩) (World.block_lt_of_cell? _ _ (hc j hj).2)).trans (hc j hj).2
/-- Three boxes. -/
structure OrdS (q : Nat) (a b c : Bal) (w0 w : World) : Prop where
  b1 : BalB q a w
  b2 : BalB (q + 1) b w
  b3 : BalB (q + 2) c w
  bel : Below w0.heap.size w0 w
theorem OrdS.below {q : Nat} {a b c : Bal} {w0 w w' : World} (h : OrdS q a b c w0 w) (hb : Below w.heap.size w w') : OrdS q a b c w0 w' := ⟨h.b1.below hb, h.b2.below hb, h.b3.below hb, h.bel.trans (hb.mono h.bel.size)⟩
def OrdC (q : Nat) (a b : Bal) (w : World) : Prop := (w.cell? ⟨q, 0, none⟩ = some (.int .u64 (a.1 : Nat)) ∧ w.cell? ⟨q, 1, none⟩ = some (.int .u8 (a.2 : Nat))) ∧ w.cell? ⟨q + 1, 0, none⟩ = some (.int .u64 (b.1 : Nat)) ∧ w.cell? ⟨q + 1, 1, none⟩ = some (.int .u8 (b.2 : Nat))
theorem OrdS.c {q : Nat} {a b c : Bal} {w0 w : World} (h : OrdS q a b c w0 w) : OrdC q a b w := ⟨h.b1.vals, h.b2.vals⟩
theorem ord_new (w : World) (a b c : Bal) : OrdS w.heap.size a b c w (((w.alloc (.cells #[.int .u64 (a.1 : Nat), .int .u8 (a.2 : Nat)] 25)).alloc (.cells #[.int .u64 (b.1 : Nat), .int .u8 (b.2 : Nat)] 25)).alloc (.cells #[.int .u64 (c.1 : Nat), .int .u8 (c.2 : Nat)] 25)) := by
  have e1 := BalB.new w a
  have e2 := BalB.new (w.alloc (.cells #[.int .u64 (a.1 : Nat), .int .u8 (a.2 : Nat)] 25)) b
  have e3 := BalB.new ((w.alloc (.cells #[.int .u64 (a.1 : Nat), .int .u8 (a.2 : Nat)] 25)).alloc (.cells #[.int .u64 (b.1 : Nat), .int .u8 (b.2 : Nat)] 25)) c
  simp only [World.size_alloc] at e2 e3
  exact ⟨(e1.below ((Below.refl _ _).alloc (Nat.le_refl _) _)).below ((Below.refl _ _).alloc (Nat.le_refl _) _), e2.below ((Below.refl _ _).alloc (Nat.le_refl _) _), e3, (((Below.refl _ w).alloc (Nat.le_refl _) _).alloc (by simp) _).alloc (by simp; omega) _⟩

/-- Whether the greatest has come up among the first. -/
def thereL (l : List Bal) (j : Nat) : Bool := decide (l = [] ∨ topL l ∈ l.take j)
theorem there_zero {l : List Bal} (h : l ≠ []) : thereL l 0 = false := by simp [thereL, h]
theorem there_succ {l : List Bal} {j : Nat} (hj : j < l.length) : thereL l (j + 1) = (thereL l j || decide (l[j] = topL l)) := by
  rw [Bool.eq_iff_iff]
  simp only [thereL, Bool.or_eq_true, decide_eq_true_eq]
  rw [List.take_succ_eq_append_getElem hj, List.mem_append, List.mem_singleton]
  constructor
  · rintro (h | h | h)
    · exact .inl (.inl h)
    · exact .inl (.inr h)
    · exact .inr h.symm
  · rintro ((h | h) | h)
    · exact .inl h
    · exact .inr (.inl h)
    · exact .inr (.inr h.symm)
theorem there_end (l : List Bal) : thereL l l.length = true := by
  simp only [thereL, decide_eq_true_eq, List.take_length]
  rcases l with _ | ⟨x, l⟩
  · exact .inl rfl
  · exact .inr (top_in (by simp))
theorem ok_top {l : List Bal} (h : ∀ b ∈ l, okBal b) : okBal (topL l) := by
  rcases l with _ | ⟨x, l⟩
  · exact ⟨by decide, by decide⟩
  · exact h _ (top_in (by simp))
/-- The greatest's box, and the slice. -/
structure TopW (w0 : World) (q : Nat) (sl : Option Addr) (n : Nat) (l : List Bal) (w : World) : Prop where
  box : BalB q (topL l) w
  bals : Bals w sl n l
  bel : Below w0.heap.size w0 w
theorem TopW.below {w0 : World} {q : Nat} {sl : Option Addr} {n : Nat} {l : List Bal} {w w' : World} (h : TopW w0 q sl n l w) (hb : Below w.heap.size w w') : TopW w0 q sl n l w' := ⟨h.box.below hb, h.bals.below hb, h.bel.trans (hb.mono h.bel.size)⟩

set_option maxRecDepth 100000 in
set_option maxHeartbeats 1000000 in
theorem order_long (S : BallotSpec) (a b c : Bal) (sl : Option Addr) (n cap : Nat) (w : World) (h : 100 < (n : Int)) :
    Calls Try.prog 5 #[balV a, balV b, balV c, .slice sl n cap] w fun e w' => e = .returned (.bool true) ∧ Below w.heap.size w w' := by
  have HW := Lib.hid S.wakes
  have K := ord_new w a b c
  have HK := Lib.hid K.bel
  clear K
  go_enter Try.func5, Try.ntmps5
  unfold balV
  go_wp2_with (go_at_call 8; refine (HW.out _).mono ?_; rintro r w1 ⟨rfl, b1⟩)
  go_ret
  exact ⟨rfl, HK.out.trans (b1.mono HK.out.size)⟩

set_option maxRecDepth 100000 in
set_option maxHeartbeats 4000000 in
theorem order_some (S : BallotSpec) (a b c : Bal) (ha : okBal a) (hb : okBal b) (hc : okBal c) (sl : Option Addr) (n cap : Nat) (l : List Bal) (w : World) (hB : Bals w sl n l) (h : ¬ 100 < (n : Int)) (hnc : n ≤ cap) :
    Calls Try.prog 5 #[balV a, balV b, balV c, .slice sl n cap] w fun e w' => e = .returned (.bool true) ∧ Below w.heap.size w w' := by
  have HW := Lib.hid S.wakes
  have HAB := Lib.hid (fun v => S.below v a b ha hb)
  have HBA := Lib.hid (fun v => S.below v b a hb ha)
  have HBC := Lib.hid (fun v => S.below v b c hb hc)
  have HAC := Lib.hid (fun v => S.below v a c ha hc)
  have K := ord_new w a b c
  have HSL := Lib.hid (hB.below K.bel)
  go_enter Try.func5, Try.ntmps5
  unfold balV at *
  go_upto_region 3 with fail
  generalize ((w.alloc (.cells #[.int .u64 (a.1 : Nat), .int .u8 (a.2 : Nat)] 25)).alloc (.cells #[.int .u64 (b.1 : Nat), .int .u8 (b.2 : Nat)] 25)).alloc (.cells #[.int .u64 (c.1 : Nat), .int .u8 (c.2 : Nat)] 25) = V at *
  have HK := Lib.hid (K.below ((Below.refl _ V).drew))
  clear K
  refine wp_region_held_drew (S := OrdC w.heap.size a b) (by kernel_rfl) (HK.out.c) (fun hHeld => ?_)
  refine take_run (i := 0) (v := ?_) rfl (by kernel_rfl) (by kernel_rfl) (by kernel_rfl) (fun _ _ _ h => h) (by kernel_rfl) ?_ (by assumption) ?_
  rotate_left
  · (intro w5 hSw; obtain ⟨⟨s0, s1⟩, s2, s3⟩ := hSw; go_simp); all_goals with_reducible rfl
  try simp only [Act.put, List.setIfInBounds_toArray, List.set_cons_zero, List.set_cons_succ]
  refine take_run (i := 1) (v := ?_) rfl (by kernel_rfl) (by kernel_rfl) (by kernel_rfl) (fun _ _ _ h => h) (by kernel_rfl) ?_ (by assumption) ?_
  rotate_left
  · (intro w5 hSw; obtain ⟨⟨s0, s1⟩, s2, s3⟩ := hSw; go_simp); all_goals with_reducible rfl
  try simp only [Act.put, List.setIfInBounds_toArray, List.set_cons_zero, List.set_cons_succ]
  refine take_run (i := 3) (v := ?_) rfl (by kernel_rfl) (by kernel_rfl) (by kernel_rfl) (fun _ _ _ h => h) (by kernel_rfl) ?_ (by assumption) ?_
  rotate_left
  · (intro w5 hSw; obtain ⟨⟨s0, s1⟩, s2, s3⟩ := hSw; go_simp); all_goals with_reducible rfl
  try simp only [Act.put, List.setIfInBounds_toArray, List.set_cons_zero, List.set_cons_succ]
  refine take_run (i := 4) (v := ?_) rfl (by kernel_rfl) (by kernel_rfl) (by kernel_rfl) (fun _ _ _ h => h) (by kernel_rfl) ?_ (by assumption) ?_
  rotate_left
  · (intro w5 hSw; obtain ⟨⟨s0, s1⟩, s2, s3⟩ := hSw; go_simp); all_goals with_reducible rfl
  try simp only [Act.put, List.setIfInBounds_toArray, List.set_cons_zero, List.set_cons_succ]
  refine take_call (i := 2) rfl (by kernel_rfl) (by kernel_rfl) (fun K hK => ?_)
  go_simp; refine (HAB.out _).mono ?_; rintro r w21 ⟨rfl, bb⟩; have HK1 := Lib.hid (HK.out.below bb); have HT1 := Lib.hid bb; clear bb
  go_wp2_with fail
  clear hHeld
  refine hK.out _ _ ?_ (fun hHeld => ?_)
  · exact HK1.out.c
  clear hK K
  try simp only [Act.put, List.setIfInBounds_toArray, List.set_cons_zero, List.set_cons_succ]
  refine take_call (i := 5) rfl (by kernel_rfl) (by kernel_rfl) (fun K hK => ?_)
  go_simp; refine (HBA.out _).mono ?_; rintro r w22 ⟨rfl, bb⟩; have HK2 := Lib.hid (HK1.out.below bb); have HT2 := Lib.hid bb; clear bb
  go_wp2_with fail
  clear hHeld
  refine hK.out _ _ ?_ (fun hHeld => ?_)
  · exact HK2.out.c
  clear hK K
  try simp only [Act.put, List.setIfInBounds_toArray, List.set_cons_zero, List.set_cons_succ]
  refine take_run (i := 6) (v := ?_) rfl (by kernel_rfl) (by kernel_rfl) (by kernel_rfl) (fun _ _ _ h => h) (by kernel_rfl) ?_ (by assumption) ?_
  rotate_left
  · (intro w5 hSw; obtain ⟨⟨s0, s1⟩, s2, s3⟩ := hSw; go_simp); all_goals with_reducible rfl
  try simp only [Act.put, List.setIfInBounds_toArray, List.set_cons_zero, List.set_cons_succ]
  refine take_run (i := 7) (v := ?_) rfl (by kernel_rfl) (by kernel_rfl) (by kernel_rfl) (fun _ _ _ h => h) (by kernel_rfl) ?_ (by assumption) ?_
  rotate_left
  · (intro w5 hSw; obtain ⟨⟨s0, s1⟩, s2, s3⟩ := hSw; go_simp); all_goals with_reducible rfl
  try simp only [Act.put, List.setIfInBounds_toArray, List.set_cons_zero, List.set_cons_succ]
  refine wpAnyH_done (by kernel_rfl) ?_ _
  have HS2 := Lib.hid (((HSL.out.below ((Below.refl _ V).drew)).below HT1.out).below HT2.out)
  have HU := Lib.hid HK2.out
  clear hHeld HSL HK HK1 HT1 HT2 HK2
  go_upto_region 4 with fail
  go_cut [0, 9, 10, 51] (fun _ _ _ tv wx => tv = .bool false ∧ OrdS w.heap.size a b c w wx ∧ Bals wx sl n l)
  case first =>
    obtain ⟨⟨k0, k1⟩, k2, k3⟩ := HU.out.c
    obtain ⟨k4, k5⟩ := HU.out.b3.vals
    obtain ⟨o1, o2⟩ := below_one a b
    by_cases hab : a = b
    · subst hab
      rw [below_refl a]
      clear o1 o2
      go_wp2_with fail
      go_meet
      case rel => exact ⟨rfl, HU.out, HS2.out⟩
    · have hne : ¬ ((a.1 : Int) = (b.1 : Int) ∧ (a.2 : Int) = (b.2 : Int)) := fun hh => hab (bal_ext.2 ⟨by omega, by omega⟩)
      rcases hx : belowL a b with _ | _
      · have hy : belowL b a = true := by
          rcases hy : belowL b a with _ | _
          · exact absurd (o2.2 hab) (by simp [hx, hy])
          · rfl
        rw [hy]
        clear o1 o2 hx hy
        go_wp2_with fail
        all_goals (go_meet; (case rel => exact ⟨rfl, HU.out, HS2.out⟩))
      · have hy : belowL b a = false := by
          rcases hy : belowL b a with _ | _
          · rfl
          · exact (o1 ⟨hx, hy⟩).elim
        rw [hy]
        clear o1 o2 hy
        have H1 := HBC.out
        have H2 : ∀ (v : World) (x : Int), x = (a.1 : Int) → Calls Try.prog 13 #[.agg #[.int .u64 x, .int .u8 (a.2 : Nat)], .agg #[.int .u64 (c.1 : Nat), .int .u8 (c.2 : Nat)]] v fun r w' => r = .returned (.bool (belowL a c)) ∧ Below v.heap.size v w' := fun v x hxx => by subst hxx; exact HAC.out v
        rcases hbc : belowL b c with _ | _
        · rw [hbc] at H1
          have H3 := Lib.hid H1
          clear H1 H2 hbc hx
          go_wp2_with (go_at_call 13; (with_reducible refine (H3.out _).mono ?_); rintro r w31 ⟨rfl, b31⟩)
          all_goals (go_meet; (case rel => exact ⟨rfl, HU.out.below b31, HS2.out.below b31⟩))
        · rw [hbc] at H1
          rw [below_trans hx hbc] at H2
          have H3 := Lib.hid H1
          have H4 := Lib.hid H2
          clear H1 H2 hbc hx
          go_wp2_with (first
            | (go_at_call 13; (with_reducible refine (H3.out _).mono ?_); rintro r w31 ⟨rfl, b31⟩; have HU3 := Lib.hid (HU.out.below b31); have HS3 := Lib.hid (HS2.out.below b31); clear k0 k1 k2 k3 k4 k5; obtain ⟨⟨k0, k1⟩, k2, k3⟩ := HU3.out.c; obtain ⟨k4, k5⟩ := HU3.out.b3.vals)
            | (go_at_call 13; (with_reducible refine (H4.out _ _ (by omega)).mono ?_); rintro r w32 ⟨rfl, b32⟩))
          all_goals (go_meet; (case rel => exact ⟨rfl, HU3.out.below b32, HS3.out.below b32⟩))
  case rest =>
    obtain ⟨rfl, hu, hs⟩ := hcut
    have HS3 := Lib.hid hs
    have HT := Lib.hid (S.top wc sl n cap l HS3.out (by omega))
    have HU2 := Lib.hid hu.bel
    clear hu hs HU HS2
    go_upto_region 7 with (go_at_call 15; (with_reducible refine (HT.out).mono ?_); rintro r w5 ⟨rfl, b5⟩; unfold balV)
    have hJ : TopW w w5.heap.size sl n l (w5.alloc (.cells #[.int .u64 ((topL l).1 : Nat), .int .u8 ((topL l).2 : Nat)] 25)) := ⟨BalB.new w5 _, (HS3.out.below b5).below ((Below.refl _ _).alloc (Nat.le_refl _) _), (HU2.out.trans (b5.mono HU2.out.size)).alloc (by have := HU2.out.size; have := b5.size; omega) _⟩
    have HLN := Lib.hid HS3.out.len
    clear HS3 HT HU2 b5
    generalize w5.heap.size = q at *
    generalize (w5.alloc (.cells #[.int .u64 ((topL l).1 : Nat), .int .u8 ((topL l).2 : Nat)] 25)) = W6 at *
    have HJ := Lib.hid hJ
    clear hJ
    go_cut [12] (fun tv wx => tv = .bool (thereL l 0) ∧ wx = W6)
    case first =>
      obtain ⟨k0, k1⟩ := HJ.out.box.vals
      rcases Nat.eq_zero_or_pos n with rfl | hp
      · have hl : l = [] := List.length_eq_zero_iff.1 HLN.out
        subst hl
        have e0 : ((topL []).1 : Int) = 0 := rfl
        have e1 : ((topL []).2 : Int) = 0 := rfl
        go_wp2_with fail
        go_meet
        case rel => exact ⟨rfl, rfl⟩
      · have hn0 : ¬ (n : Int) = 0 := by omega
        have ht : thereL l 0 = false := there_zero (by intro h; subst h; have := HLN.out; simp at this; omega)
        have HTH := Lib.hid ht
        clear ht
        go_wp2_with fail
        go_meet
        case rel => exact ⟨by rw [HTH.out], rfl⟩
    case rest =>
      obtain ⟨rfl, rfl⟩ := hcut
      go_wp2_with fail
      go_loopw [12, 13] (fun tv iv wx => ∃ j : Nat, j ≤ n ∧ iv = .int .i64 j ∧ tv = .bool (thereL l j) ∧ TopW w q sl n l wx) (fun _ iv _ => n - (intOf iv).toNat)
      case atStart => exact ⟨0, by omega, rfl, rfl, HJ.out⟩
      case round =>
        obtain ⟨j, hj, rfl, rfl, hJ⟩ := hrel
        have HJ2 := Lib.hid hJ
        clear hJ HJ
        by_cases hlt : j < n
        · have hjl : j < l.length := by rw [HLN.out]; exact hlt
          have hsucc := Lib.hid (there_succ hjl)
          have hok := Lib.hid (HJ2.out.bals.ok _ (List.getElem_mem hjl))
          have hmax := Lib.hid (top_max (l := l) _ (List.getElem_mem hjl))
          have hot := Lib.hid (ok_top HJ2.out.bals.ok)
          obtain ⟨bb, off, rfl, hcc⟩ := HJ2.out.bals.base (by omega)
          obtain ⟨c0, c1⟩ := hcc j hjl
          obtain ⟨k0, k1⟩ := HJ2.out.box.vals
          clear hcc
          generalize l[j] = x at hsucc hok hmax c0 c1
          go_upto_region 11 with fail
          go_cut [12] (fun tv wx => tv = .bool (thereL l (j + 1)) ∧ TopW w q (some ⟨bb, off, none⟩) n l wx ∧ wx.cell? ⟨bb, off + j * 2, none⟩ = some (.int .u64 (x.1 : Nat)) ∧ wx.cell? ⟨bb, off + j * 2 + 1, none⟩ = some (.int .u8 (x.2 : Nat)))
          case first =>
            have C0 := Lib.hid c0
            have C1 := Lib.hid c1
            rcases ht : thereL l j with _ | _
            · by_cases he : x = topL l
              · have e0 : (x.1 : Int) = ((topL l).1 : Int) := by rw [he]
                have e1 : (x.2 : Int) = ((topL l).2 : Int) := by rw [he]
                have HH := Lib.hid (show true = thereL l (j + 1) by rw [hsucc.out, ht, he]; simp)
                clear ht he
                go_quiet (fail)
                go_wp2_with fail
                go_meet
                case rel => exact ⟨by rw [HH.out], HJ2.out.below (below_drewN (Below.refl wr.heap.size wr) _), ((below_drewN (Below.refl wr.heap.size wr) _).cell (World.block_lt_of_cell? _ _ C0.out)).trans C0.out, ((below_drewN (Below.refl wr.heap.size wr) _).cell (World.block_lt_of_cell? _ _ C1.out)).trans C1.out⟩
              · have hne : ¬ ((x.1 : Int) = ((topL l).1 : Int) ∧ (x.2 : Int) = ((topL l).2 : Int)) := fun hh => he (bal_ext.2 ⟨by omega, by omega⟩)
                have HH := Lib.hid (show false = thereL l (j + 1) by rw [hsucc.out, ht]; simp [he])
                clear ht he
                by_cases hn : (x.1 : Int) = ((topL l).1 : Int)
                · have hn2 : ¬ (x.2 : Int) = ((topL l).2 : Int) := fun hh => hne ⟨hn, hh⟩
                  clear hne
                  go_quiet (fail)
                  go_wp2_with fail
                  go_meet
                  case rel => exact ⟨by rw [HH.out], HJ2.out.below (below_drewN (Below.refl wr.heap.size wr) _), ((below_drewN (Below.refl wr.heap.size wr) _).cell (World.block_lt_of_cell? _ _ C0.out)).trans C0.out, ((below_drewN (Below.refl wr.heap.size wr) _).cell (World.block_lt_of_cell? _ _ C1.out)).trans C1.out⟩
                · clear hne
                  go_quiet (fail)
                  go_wp2_with fail
                  go_meet
                  case rel => exact ⟨by rw [HH.out], HJ2.out.below (below_drewN (Below.refl wr.heap.size wr) _), ((below_drewN (Below.refl wr.heap.size wr) _).cell (World.block_lt_of_cell? _ _ C0.out)).trans C0.out, ((below_drewN (Below.refl wr.heap.size wr) _).cell (World.block_lt_of_cell? _ _ C1.out)).trans C1.out⟩
            · have HH := Lib.hid (show true = thereL l (j + 1) by rw [hsucc.out, ht]; simp)
              clear ht
              go_quiet (fail)
              go_wp2_with fail
              go_meet
              case rel => exact ⟨by rw [HH.out], HJ2.out.below (below_drewN (Below.refl wr.heap.size wr) _), ((below_drewN (Below.refl wr.heap.size wr) _).cell (World.block_lt_of_cell? _ _ C0.out)).trans C0.out, ((below_drewN (Below.refl wr.heap.size wr) _).cell (World.block_lt_of_cell? _ _ C1.out)).trans C1.out⟩
          case rest =>
            obtain ⟨rfl, hj3, d0, d1⟩ := hcut
            clear k0 k1
            obtain ⟨k0, k1⟩ := hj3.box.vals
            have HJ3 := Lib.hid hj3
            have H1 := S.below (wc.drew) (topL l) x hot.out hok.out
            rw [hmax.out] at H1
            unfold balV at H1
            have H2 := Lib.hid H1
            clear H1 c0 c1 hj3
            go_upto_region 12 with fail
            go_cut [82] (fun bv wx => bv = .bool false ∧ TopW w q (some ⟨bb, off, none⟩) n l wx)
            case first =>
              go_region_with (go_at_call 13; (with_reducible refine (H2.out).mono ?_); rintro r w8 ⟨rfl, b8⟩)
              all_goals (go_wp2_with fail; go_meet; (case rel => exact ⟨rfl, (HJ3.out.below ((Below.refl wc.heap.size wc).drew)).below b8⟩))
            case rest =>
              obtain ⟨rfl, hj4⟩ := hcut
              have HJ4 := Lib.hid hj4
              clear hj4
              go_wp2_with fail
              go_roundw
              case rel => exact ⟨j + 1, by omega, by go_num, rfl, HJ4.out⟩
              case measure => simp [intOf]; omega
        · have hjn : j = n := by omega
          subst hjn
          have hth : thereL l j = true := by have := there_end l; rwa [HLN.out] at this
          rw [hth]
          clear hth
          go_wp2_with (go_at_call 8; refine (HW.out _).mono ?_; rintro r w9 ⟨rfl, b9⟩)
          go_ret
          exact ⟨rfl, HJ2.out.bel.trans (b9.mono HJ2.out.bel.size)⟩

end Go.Proofs.Ytafhljmeofnbnaa
