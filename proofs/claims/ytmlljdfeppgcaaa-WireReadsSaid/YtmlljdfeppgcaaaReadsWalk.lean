/-
  The walk of the law WireReads over this translation.
-/
import Derived.Test.YtmlljdfeppgcaaaAsked
import Derived.Deep.DeepCutAuto
namespace Go.Proofs.Ytmlljdfeppgcaaa
open Go.RowKit
set_option linter.unusedVariables false
attribute [local go_sem ↓] Go.wp_at_zero Go.wp_at_succ

theorem refV_form (s : St) : ∃ L : List UInt8, refV s = .agg #[.string (B L), .int .i64 s.e] ∧ L.length = s.left := by
  refine ⟨if s.e = 0 then s.l else [], rfl, ?_⟩
  unfold St.left
  split <;> rfl

theorem AsAt.below {w w' : World} {b off : Nat} {x : As} (h : AsAt w b off x) (hb : Below w.heap.size w w') : AsAt w' b off x :=
  ⟨cell_later hb h.c0, cell_later hb h.c1, cell_later hb h.c2, h.d0, h.d1, h.n0, h.n1, h.m0, h.m1⟩

theorem Rf.set0 {w : World} {b : Nat} {s : ByteArray} {e : Int} (h : Rf w b s e) (s' : ByteArray) : Rf (w.setCell ⟨b, 0, none⟩ (.string s')) b s' e := by
  have := heap_setCell_same w b 0 _ _ (.string s') h; simpa [Rf] using this
theorem Rf.set1 {w : World} {b : Nat} {s : ByteArray} {e : Int} (h : Rf w b s e) (e' : Int) : Rf (w.setCell ⟨b, 1, none⟩ (.int .i64 e')) b s e' := by
  have := heap_setCell_same w b 1 _ _ (.int .i64 e') h; simpa [Rf] using this
theorem Rf.setOther {w : World} {b p j : Nat} {s : ByteArray} {e : Int} (h : Rf w b s e) (hne : b ≠ p) (v : Value) : Rf (w.setCell ⟨p, j, none⟩ v) b s e := by
  unfold Rf; rw [heap_setCell_other w ⟨p, j, none⟩ b v hne]; exact h
theorem RS.setOther {w : World} {b p j : Nat} {s : St} (h : RS w b s) (hne : b ≠ p) (v : Value) : RS (w.setCell ⟨p, j, none⟩ v) b s := h.kept (grown_setCell w p j v) hne

theorem RS.drew {w : World} {b : Nat} {s : St} (h : RS w b s) : RS w.drew b s := h

/-- All asks. -/
def AsAll (w : World) (b off : Nat) (l : List As) : Prop := ∀ i (h : i < l.length), AsAt w b (off + i * 3) l[i]
theorem AsAll.below {w w' : World} {b off : Nat} {l : List As} (h : AsAll w b off l) (hb : Below w.heap.size w w') : AsAll w' b off l := fun i hi => (h i hi).below hb

theorem asks_take (l : List As) (s : St) (k : Nat) (h : k < l.length) : (l.take (k + 1)).foldl ask s = ask ((l.take k).foldl ask s) l[k] := by
  rw [List.take_succ_eq_append_getElem h, List.foldl_append]; rfl
theorem asks_len : ∀ (l : List As) (s : St), (l.foldl ask s).l.length ≤ s.l.length
  | [], _ => Nat.le_refl _
  | x :: l, s => Nat.le_trans (asks_len l (ask s x)) (ask_len s x)

/-- Behind a call that may write the reader's block, one of the call's own. -/
theorem Q.bel {w0 w w' : World} {b : Nat} {s : St} (h : Q w w' b s) (hb : Below w0.heap.size w0 w) (hg : w0.heap.size ≤ b) : Below w0.heap.size w0 w' := bg hb h.g hg

theorem run_err (s : ByteArray) (e : Int) (w : World) : (Instr.field 35 (.agg #[.string s, .int .i64 e]) 1).run Try.prog w = .ok (.int .i64 e) w := by kernel_rfl

set_option maxRecDepth 100000 in
set_option maxHeartbeats 4000000 in
theorem wireReads_main (t : List UInt8) (b off len cap : Nat) (l : List As) (w : World) (hl : l.length = len) (ht : (t.length : Int) ≤ 4000) (hlen : (len : Int) ≤ 60) (hc : AsAll w b off l) :
    Calls Try.prog 4 #[.string (B t), .slice (some ⟨b, off, none⟩) len cap] w fun e w' => e = .returned (.bool true) ∧ Below w.heap.size w w' := by
  subst hl
  have HC := Lib.hid hc
  clear hc
  go_enter Try.func4, Try.ntmps4
  go_wp2_with fail
  refine (of_any t _).mono ?_
  rintro r w1 ⟨rfl, a1, b1⟩
  have hlt1 := a1.lt
  have hU1 := Rf.new w1 (B t) 0
  have a2 := a1.below ((Below.refl _ w1).alloc (Nat.le_refl _) (.cells #[.string (B t), .int .i64 0] 35))
  have b2 := b1.alloc b1.size (.cells #[.string (B t), .int .i64 0] 35)
  go_wp2_with fail
  generalize hbr : w.heap.size = br at a1 a2 hlt1
  generalize hp : w1.heap.size = p at hU1 hlt1
  have hpb : p ≠ br := by omega
  have HBR := Lib.hid hbr
  clear hbr hp a1 b1
  go_loopw [7] (fun i wr => ∃ (k : Nat) (L : List UInt8), k ≤ l.length ∧ i = .int .i64 k ∧ RS wr br ((l.take k).foldl ask ⟨0, t⟩) ∧ Rf wr p (B L) ((l.take k).foldl ask ⟨0, t⟩).e ∧ refV ((l.take k).foldl ask ⟨0, t⟩) = .agg #[.string (B L), .int .i64 ((l.take k).foldl ask ⟨0, t⟩).e] ∧ L.length = ((l.take k).foldl ask ⟨0, t⟩).left ∧ Below w.heap.size w wr) (fun i _ => l.length - (intOf i).toNat)
  case atStart => exact ⟨0, t, Nat.zero_le _, rfl, a2, hU1, rfl, rfl, b2⟩
  case round =>
    clear a2 hU1 b2
    obtain ⟨k, L, hk, rfl, hr, hU, hV, hLl, hb⟩ := hrel
    have hle := asks_len (l.take k) ⟨0, t⟩
    by_cases hlt : k < l.length
    · have A := (HC.out.below hb) k hlt
      have hst := asks_take l ⟨0, t⟩ k hlt
      generalize (l.take k).foldl ask ⟨0, t⟩ = s0 at hr hU hV hLl hle hst
      generalize hx : l[k] = x at A hst
      clear hx
      obtain ⟨L1, f1, f2⟩ := refV_form (ask s0 x)
      have hA := fun w1 (h : RS w1 br s0) => asked_any br s0 x w1 h (by simp only at hle; omega) A.d0 A.d1 A.n0 A.n1 A.m0 A.m1
      rw [hV, f1] at hA
      rw [← hst] at f1 f2 hA
      generalize hs1 : (l.take (k + 1)).foldl ask ⟨0, t⟩ = s1 at f1 f2 hA
      have HA := Lib.hid hA
      have HS1 := Lib.hid hs1
      have HF1 := Lib.hid f1
      have HF2 := Lib.hid f2
      have i0 : (0 : Int) ≤ (k : Int) := by omega
      have i1 : (k : Int) < (l.length : Int) := by omega
      have hr' := hr.drew
      have hU' := hU.drew
      have hb' := hb.drew
      have c0 : wr.drew.cell? ⟨b, off + k * 3, none⟩ = some (.int .u8 x.d) := A.c0
      have c1 : wr.drew.cell? ⟨b, off + k * 3 + 1, none⟩ = some (.int .u64 x.n) := A.c1
      have c2 : wr.drew.cell? ⟨b, off + k * 3 + 2, none⟩ = some (.int .i64 x.m) := A.c2
      have u0 := hU'.c0
      have u1 := hU'.c1
      have hwlt := hr.lt
      have hM := Rf.new wr ⟨#[]⟩ 0
      have hr2 := (RS.below hr ((Below.refl _ wr).alloc (Nat.le_refl _) (.cells #[.string ⟨#[]⟩, .int .i64 0] 35))).drew
      have hU2 := (hU.alloc (.cells #[.string ⟨#[]⟩, .int .i64 0] 35)).drew
      have hM2 := hM.drew
      have hb2 := (hb.alloc hb.size (.cells #[.string ⟨#[]⟩, .int .i64 0] 35)).drew
      have hA2 := A.below ((Below.refl _ wr).alloc (Nat.le_refl _) (.cells #[.string ⟨#[]⟩, .int .i64 0] 35))
      have c3 : (wr.alloc (.cells #[.string ⟨#[]⟩, .int .i64 0] 35)).drew.cell? ⟨b, off + k * 3, none⟩ = some (.int .u8 x.d) := hA2.c0
      have c4 : (wr.alloc (.cells #[.string ⟨#[]⟩, .int .i64 0] 35)).drew.cell? ⟨b, off + k * 3 + 1, none⟩ = some (.int .u64 x.n) := hA2.c1
      have c5 : (wr.alloc (.cells #[.string ⟨#[]⟩, .int .i64 0] 35)).drew.cell? ⟨b, off + k * 3 + 2, none⟩ = some (.int .i64 x.m) := hA2.c2
      have u2 := hU2.c0
      have u3 := hU2.c1
      have hplt : p < wr.heap.size := hU.later.lt
      have hpm1 : ¬ p = wr.heap.size := by omega
      have hpm2 : ¬ wr.heap.size = p := by omega
      have hmb : wr.heap.size ≠ br := by omega
      have hwr := hb.size
      have hbw : w.heap.size ≤ br := by rw [HBR.out]; exact Nat.le_refl _
      clear hA hs1 f1 f2 hV hLl hle hst hr hU hb A hA2 hM
      go_upto_region 8 with fail
      go_cut [8, 9] (fun s8 s9 wx => ∃ g, s8 = .bool true ∧ s9 = .pointer (some ⟨g, 0, none⟩) ∧ Rf wx g (B L1) s1.e ∧ RS wx br s1 ∧ Rf wx p (B L) s0.e ∧ p ≠ g ∧ br ≠ g ∧ Below w.heap.size w wx)
      case first =>
        go_region_with (first
          | (go_at_call 15; (with_reducible refine (HA.out _ hr').mono ?_); rintro r w3 ⟨rfl, q3⟩; have hU3 := hU'.grown q3.g hpb; have B3 := q3.bel hb' hbw; have z1 := hU3.alloc; have z2 := fun o => (z1 o).c0; have z3 := fun o => (z1 o).c1; have z4 := fun o => (z1 o).fr 0; have z5 := fun o => (z1 o).fr 1; have z6 := hU3.c0; have z7 := hU3.c1; have z8 := hU3.fr 0; have z9 := hU3.fr 1)
          | (go_at_call 15; (with_reducible refine (HA.out _ hr2).mono ?_); rintro r w3 ⟨rfl, q3⟩; have hU3 := hU2.grown q3.g hpb; have hM3 := hM2.grown q3.g hmb; have B3 := q3.bel hb2 hbw; have z2 := hM3.c0; have z3 := hM3.c1; have z4 := hM3.fr 0; have z5 := hM3.fr 1; have z6 := hU3.c0; have z7 := hU3.c1; have z8 := hU3.fr 0; have z9 := hU3.fr 1))
        all_goals go_wp2_with fail
        all_goals go_meet
        all_goals first
          | exact ⟨w3.heap.size, rfl, rfl, Rf.new w3 _ _, q3.r.below ((Below.refl _ w3).alloc (Nat.le_refl _) _), hU3.alloc _, Nat.ne_of_lt hU3.later.lt, Nat.ne_of_lt q3.r.lt, B3.alloc B3.size _⟩
          | exact ⟨wr.heap.size, rfl, rfl, (hM3.set0 _).set1 _, (q3.r.setOther hmb.symm _).setOther hmb.symm _, (hU3.setOther hpm1 _).setOther hpm1 _, hpm1, hmb.symm, (B3.setCell hwr _).setCell hwr _⟩
      case rest =>
        obtain ⟨g, rfl, rfl, G1, G2, G3, G4, G5, G6⟩ := hcut
        clear hr' hU' hb' c0 c1 c2 u0 u1 hM2 hr2 hU2 hb2 c3 c4 c5 u2 u3 hpm1 hpm2 hwlt hplt hmb hwr HA
        have x0 := G1.c0
        have x1 := G1.c1
        have x2 := G3.c0
        have x3 := G3.c1
        have x4 := G3.fr 0
        have x5 := G3.fr 1
        have hne : ¬ br = p := by omega
        have hpw : w.heap.size ≤ p := by omega
        have R1 := (G2.setOther (j := 0) (p := p) hne (.string (B L1))).setOther (j := 1) (p := p) hne (.int .i64 s1.e)
        have P1 := (G3.set0 (B L1)).set1 s1.e
        have B1 := (G6.setCell (p := ⟨p, 0, none⟩) hpw (.string (B L1))).setCell (p := ⟨p, 1, none⟩) hpw (.int .i64 s1.e)
        clear G1 G2 G3 G4 G5 G6
        go_wp2_with fail
        clear x0 x1 x2 x3 x4 x5
        generalize (wc.setCell ⟨p, 0, none⟩ (.string (B L1))).setCell ⟨p, 1, none⟩ (.int .i64 s1.e) = wd at R1 P1 B1 ⊢
        have R2 := R1.drew
        have x0 := (Rf.drew P1).c0
        have x1 := (Rf.drew P1).c1
        have hlen := HF2.out
        have hle : (s1.left : Int) = (L1.length : Int) := by rw [hlen]
        have hE := fun w1 (h : RS w1 br s1) => err_st br s1 w1 h
        have hL := fun w1 (h : RS w1 br s1) => left_st br s1 w1 h
        rw [hle] at hL
        have HE := Lib.hid hE
        have HL := Lib.hid hL
        clear hE hL hle hlen
        go_region_with (first
          | (go_at_call 16; refine (HE.out _ R2).mono ?_; rintro r w3 ⟨rfl, rfl⟩)
          | (go_at_call 17; refine (HL.out _ R2).mono ?_; rintro r w3 ⟨rfl, rfl⟩))
        all_goals go_wp2_with fail
        all_goals
          go_roundw
          case rel => exact ⟨k + 1, L1, by omega, by go_num, by rw [HS1.out]; exact R2, by rw [HS1.out]; exact Rf.drew P1, by rw [HS1.out]; exact HF1.out, by rw [HS1.out]; exact HF2.out, B1.drew⟩
          case measure => simp [intOf]; omega
    · have hkk : k = l.length := by omega
      subst hkk
      have hee : ∃ S2, refV ((l.take l.length).foldl ask ⟨0, t⟩).fin = .agg #[.string S2, .int .i64 ((l.take l.length).foldl ask ⟨0, t⟩).fin.e] := ⟨_, rfl⟩
      obtain ⟨S2, hee⟩ := hee
      have hlle : ((((l.take l.length).foldl ask ⟨0, t⟩).l.length : Nat) : Int) ≤ 4000 := by simp only at hle; omega
      generalize (l.take l.length).foldl ask ⟨0, t⟩ = s0 at hr hU hV hLl hee hlle
      have hA := fun w1 (h : RS w1 br s0) => end_st br s0 w1 h
      have hR := fun w1 => refEnd_any s0 w1 (by omega)
      rw [hV, hee] at hR
      generalize s0.fin.e = e9 at hA hR
      have HA := Lib.hid hA
      have HR := Lib.hid hR
      have hr' := hr.drew
      have hU' := hU.drew
      have hB := hb.drew
      have u0 := hU'.c0
      have u1 := hU'.c1
      have hbw : w.heap.size ≤ br := by rw [HBR.out]; exact Nat.le_refl _
      clear hA hR hV hLl hee hle hr hU hb hlle
      have hfe := fun s e w => run_err s e w
      go_wp2_with fail
      go_region_with (first
        | (go_at_call 18; refine (HA.out _ hr').mono ?_; rintro r w3 ⟨rfl, r3, g3⟩; have hU3 := hU'.grown g3 hpb; have u30 := hU3.c0; have u31 := hU3.c1; have hB := bg hB g3 hbw)
        | (go_at_call 19; refine (HR.out _).mono ?_; rintro r w4 ⟨rfl, b4⟩; have hB := bb hB b4)
        | (go_at_call 9; refine (wakes_any _).mono ?_; rintro r w7 ⟨rfl, b7⟩; have hB := bb hB b7))
      all_goals go_wp2_with fail
      all_goals (go_ret; exact ⟨rfl, hB⟩)

theorem wireReads_zero (t : List UInt8) (a : Option Addr) (cap : Nat) (w : World) (ht : (t.length : Int) ≤ 4000) :
    Calls Try.prog 4 #[.string (B t), .slice a 0 cap] w fun e w' => e = .returned (.bool true) ∧ Below w.heap.size w w' := by
  have hee : ∃ S2, refV (St.fin ⟨0, t⟩) = .agg #[.string S2, .int .i64 (St.fin ⟨0, t⟩).e] := ⟨_, rfl⟩
  obtain ⟨S2, hee⟩ := hee
  have hA := fun b w1 (h : RS w1 b ⟨0, t⟩) => end_st b _ w1 h
  have hR := fun w1 => refEnd_any ⟨0, t⟩ w1 (by simp only; omega)
  rw [hee, refV_ok] at hR
  generalize (St.fin ⟨0, t⟩).e = e9 at hA hR
  have HA := Lib.hid hA
  have HR := Lib.hid hR
  clear hA hR hee
  go_enter Try.func4, Try.ntmps4
  go_wp2_with fail
  refine (of_any t _).mono ?_
  rintro r w1 ⟨rfl, a1, b1⟩
  have hlt1 := a1.lt
  have hU1 := (Rf.new w1 (B t) 0).drew
  have a2 := (a1.below ((Below.refl _ w1).alloc (Nat.le_refl _) (.cells #[.string (B t), .int .i64 0] 35))).drew
  have hB := (b1.alloc b1.size (.cells #[.string (B t), .int .i64 0] 35)).drew
  have u0 := hU1.c0
  have u1 := hU1.c1
  have hpb : w1.heap.size ≠ w.heap.size := by omega
  go_wp2_with fail
  refine wp_loop_rounds 1 ?_
  rw [rounds_succ]
  have hfe := fun s e w => run_err s e w
  go_wp2_with fail
  go_region_with (first
    | (go_at_call 18; refine (HA.out _ _ a2).mono ?_; rintro r w3 ⟨rfl, r3, g3⟩; have hU3 := hU1.grown g3 hpb; have u30 := hU3.c0; have u31 := hU3.c1; have hB := bg hB g3 (Nat.le_refl _))
    | (go_at_call 19; refine (HR.out _).mono ?_; rintro r w4 ⟨rfl, b4⟩; have hB := bb hB b4)
    | (go_at_call 9; refine (wakes_any _).mono ?_; rintro r w7 ⟨rfl, b7⟩; have hB := bb hB b7))
  all_goals go_wp2_with fail
  all_goals (go_ret; exact ⟨rfl, hB⟩)

theorem wireReads_walk {H : Type} (a0 : ByteArray) (w0 : a0.size ≤ maxLen) (base : Nat) (v1 : Value) (d1 : DataW H) (p1 : List MemPlace) (enc : TypeId × Value → H) {W : World} (w1 : Value.okWide Try.prog W .any base 30 v1)
    (h1 : DataW.Trod enc Try.prog W 0 (fun _ => true) true 30 v1 d1 p1) (_w : World := W) :
    Calls Try.prog 4 #[.string a0, v1] W fun e w' => e = .returned (.bool true) ∧ Below W.heap.size W w' := by
  obtain ⟨a, len, cap, rfl⟩ := Go.WideShapes.okWide_slice Try.underlying30 w1
  obtain ⟨hm, hh⟩ := asks_of h1
  clear h1 w1
  by_cases ht : (a0.size : Int) ≤ 4000
  · by_cases hl : (len : Int) ≤ 60
    · rw [B_data a0]
      have ht' : ((a0.data.toList.length : Nat) : Int) ≤ 4000 := by rw [← Lib.size_eq]; exact ht
      rcases hh with rfl | ⟨b, off, rfl, it, hit⟩
      · exact wireReads_zero _ a cap W ht'
      · refine wireReads_main _ b off len cap ((List.range len).map it) W (by simp) ht' hl ?_
        intro i hi
        have hi' : i < len := by simpa using hi
        simpa using hit i hi'
    · have hl' : (60 : Int) < (len : Int) := by omega
      have ht' : ¬ (4000 : Int) < (a0.size : Int) := by omega
      clear hl ht hh hm
      go_enter Try.func4, Try.ntmps4
      go_wp2_with (go_at_call 9; refine (wakes_any _).mono ?_; rintro r w8 ⟨rfl, b8⟩)
      go_ret
      exact ⟨rfl, b8⟩
  · have ht' : (4000 : Int) < (a0.size : Int) := by omega
    clear ht hh hm
    go_enter Try.func4, Try.ntmps4
    go_wp2_with (go_at_call 9; refine (wakes_any _).mono ?_; rintro r w8 ⟨rfl, b8⟩)
    go_ret
    exact ⟨rfl, b8⟩

end Go.Proofs.Ytmlljdfeppgcaaa
