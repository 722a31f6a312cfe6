/-
  The law BallotBack over this translation, over a BallotSpec.
-/
import Derived.Test.YtafhljmeofnbnaaBlRows
import Derived.Test.YtafhljmeofnbnaaBlTake
import Derived.Deep.DeepCutAuto
import Derived.Deep.CutBlock
namespace Go.Proofs.Ytafhljmeofnbnaa
open Go.RowKit
set_option linter.unusedVariables false

def bytesLs (l : List Bal) : List UInt8 := l.flatMap bytesL
theorem bytesLs_snoc (l : List Bal) (x : Bal) : bytesLs (l ++ [x]) = bytesLs l ++ bytesL x := by simp [bytesLs]
theorem bytesLs_cons (x : Bal) (l : List Bal) : bytesLs (x :: l) = bytesL x ++ bytesLs l := by simp [bytesLs]
theorem bytesL_len {x : Bal} (h : okBal x) : (bytesL x).length ≤ 10 := by have := (enc_len9 (n := x.1) h.1).2; simp [bytesL]; omega
theorem bytesLs_len {l : List Bal} (h : ∀ b ∈ l, okBal b) : (bytesLs l).length ≤ 10 * l.length := by
  induction l with
  | nil => simp [bytesLs]
  | cons x l ih =>
    have h1 := bytesL_len (h x (by simp))
    have h2 := ih (fun b hb => h b (List.mem_cons_of_mem _ hb))
    rw [bytesLs_cons, List.length_append, List.length_cons]
    omega
/-- What is put is read. -/
theorem take_put {x : Bal} (h : okBal x) (hm : mayL x = true) (t : List UInt8) : takeB ⟨0, bytesL x ++ t⟩ = (x, ⟨0, t⟩) := by
  have e1 : St.num ⟨0, bytesL x ++ t⟩ = (x.1, ⟨0, UInt8.ofNat x.2 :: t⟩) := by
    unfold bytesL
    rw [List.append_assoc]
    exact num_enc x.1 _ h.1
  have e2 : (UInt8.ofNat x.2).toNat = x.2 := by have := h.2; rw [UInt8.toNat_ofNat']; omega
  unfold takeB
  rw [e1]
  simp only [St.byte, if_true, e2, ne_eq, not_true_eq_false, if_false, hm]
def putL (l : List Bal) (i : Nat) : List Bal := (l.take i).filter mayL
theorem putL_hit {l : List Bal} {i : Nat} (hi : i < l.length) (h : mayL l[i] = true) : putL l (i + 1) = putL l i ++ [l[i]] := by
  unfold putL
  rw [List.take_succ_eq_append_getElem hi, List.filter_append]
  simp [h]
theorem putL_miss {l : List Bal} {i : Nat} (hi : i < l.length) (h : mayL l[i] = false) : putL l (i + 1) = putL l i := by
  unfold putL
  rw [List.take_succ_eq_append_getElem hi, List.filter_append]
  simp [h]
theorem putL_len (l : List Bal) (i : Nat) : (putL l i).length ≤ i := by
  unfold putL
  have := List.length_filter_le mayL (l.take i)
  have h2 : (l.take i).length ≤ i := by simp; omega
  omega
theorem putL_ok {l : List Bal} (h : ∀ b ∈ l, okBal b) (i : Nat) : ∀ b ∈ putL l i, okBal b ∧ mayL b = true := by
  intro b hb
  obtain ⟨h1, h2⟩ := List.mem_filter.1 hb
  exact ⟨h b (List.mem_of_mem_take h1), h2⟩
/-- What lies in memory behind some rounds: the bytes, and the ballots that were put. -/
structure BkS (w0 : World) (sl : Option Addr) (n : Nat) (l P : List Bal) (bv pv : Value) (w : World) : Prop where
  bytes : w.ownsRow w0.heap.size 5 1 bv (bytesLs P).length (Lib.byteCells (bytesLs P))
  put : OwnB w w0.heap.size pv P
  bals : Bals w sl n l
  bel : Below w0.heap.size w0 w
theorem BkS.below {w0 : World} {sl : Option Addr} {n : Nat} {l P : List Bal} {bv pv : Value} {w w' : World} (h : BkS w0 sl n l P bv pv w) (hb : Below w.heap.size w w') : BkS w0 sl n l P bv pv w' :=
  ⟨ownsRow_below h.bytes hb, ownsRow_below h.put hb, h.bals.below hb, h.bel.trans (hb.mono h.bel.size)⟩
/-- One more ballot. -/
theorem BkS.more {w0 : World} {sl : Option Addr} {n : Nat} {l P : List Bal} {bv pv v' : Value} {w w1 w2 : World} {g m c : Nat} {x : Bal} (h : BkS w0 sl n l P bv pv w) (h0 : Bals w0 sl n l)
    (ho : Own w1 w.heap.size g m c (bytesLs P ++ bytesL x)) (hb : Below w.heap.size w w1)
    (hp : w2.ownsRow w0.heap.size 25 2 v' (P.length + 1) (balCells P ++ [.int .u64 (x.1 : Nat), .int .u8 (x.2 : Nat)])) (hg : (w1.alloc (.cells #[.int .u64 (x.1 : Nat), .int .u8 (x.2 : Nat)] 25)).grownBy w2 pv.ownBlock) :
    BkS w0 sl n l (P ++ [x]) (.slice (some ⟨g, 0, none⟩) m c) v' w2 ∧ m = (bytesLs (P ++ [x])).length := by
  have hm : m = (bytesLs (P ++ [x])).length := by rw [bytesLs_snoc]; exact ho.len.symm
  have hal := (Below.refl w1.heap.size w1).alloc (Nat.le_refl _) (.cells #[.int .u64 (x.1 : Nat), .int .u8 (x.2 : Nat)] 25)
  have hp1 := ownsRow_below (ownsRow_below h.put hb) hal
  have hsz := h.bel.size
  have hb2 : Below w0.heap.size w0 (w1.alloc (.cells #[.int .u64 (x.1 : Nat), .int .u8 (x.2 : Nat)] 25)) := (h.bel.trans (hb.mono hsz)).trans (hal.mono (Nat.le_trans hsz hb.size))
  have hb3 : Below w0.heap.size w0 w2 := hb2.grown hg hb2.size (fun k hk => (hp1.lt k hk).1)
  refine ⟨⟨?_, ?_, h0.below hb3, hb3⟩, hm⟩
  · have ho2 : w2.ownsRow w0.heap.size 5 1 (.slice (some ⟨g, 0, none⟩) m c) m (Lib.byteCells (bytesLs P ++ bytesL x)) := (ownsRow_below (owns_low ho hsz) hal).kept hg (owns_ne (ownsRow_below ho hal) hp1 (by decide))
    rw [← bytesLs_snoc] at ho2
    rw [← hm]
    exact ho2
  · unfold OwnB
    rw [List.length_append, List.length_singleton, balCells_snoc]
    exact hp
/-- What lies in memory while they are read. -/
structure BrS (w0 : World) (rb : Nat) (s : List UInt8) (P : List Bal) (pv : Value) (w : World) : Prop where
  rd : RS w rb ⟨0, s⟩
  put : OwnB w w0.heap.size pv P
  bel : Below w0.heap.size w0 w
  le : w0.heap.size ≤ rb
theorem BrS.below {w0 : World} {rb : Nat} {s : List UInt8} {P : List Bal} {pv : Value} {w w' : World} (h : BrS w0 rb s P pv w) (hb : Below w.heap.size w w') : BrS w0 rb s P pv w' :=
  ⟨Rd.below h.rd hb h.rd.lt, ownsRow_below h.put hb, h.bel.trans (hb.mono h.bel.size), h.le⟩
theorem BrS.take {w0 : World} {rb : Nat} {s s' : List UInt8} {P : List Bal} {pv : Value} {w w' : World} (h : BrS w0 rb s P pv w) (hr : RS w' rb ⟨0, s'⟩) (hg : w.grownBy w' (some rb)) : BrS w0 rb s' P pv w' :=
  ⟨hr, h.put.rd h.rd hg, h.bel.grown hg h.bel.size (by rintro k ⟨rfl⟩; exact h.le), h.le⟩

set_option maxRecDepth 100000 in
theorem back_long (S : BallotSpec) (sl : Option Addr) (n cap : Nat) (w : World) (h : 60 < (n : Int)) :
    Calls Try.prog 7 #[.slice sl n cap] w fun e w' => e = .returned (.bool true) ∧ Below w.heap.size w w' := by
  have HW := Lib.hid S.wakes
  go_enter Try.func7, Try.ntmps7
  go_wp2_with (go_at_call 8; refine (HW.out _).mono ?_; rintro r w1 ⟨rfl, b1⟩)
  go_ret
  exact ⟨rfl, b1⟩

set_option maxRecDepth 100000 in
set_option maxHeartbeats 4000000 in
theorem back_some (S : BallotSpec) (sl : Option Addr) (n cap : Nat) (l : List Bal) (w : World) (hB : Bals w sl n l) (h : ¬ 60 < (n : Int)) (hnc : n ≤ cap) :
    Calls Try.prog 7 #[.slice sl n cap] w fun e w' => e = .returned (.bool true) ∧ Below w.heap.size w w' := by
  have HW := Lib.hid S.wakes
  have HCK := Lib.hid S.check
  have HPU := Lib.hid S.put
  have HTK := Lib.hid S.take
  have HLN := Lib.hid hB.len
  have HOK := Lib.hid hB.ok
  have HB := Lib.hid hB
  have hn : n ≤ 60 := by omega
  have HN := Lib.hid hn
  obtain ⟨ti, hi, hz, hs1, hby⟩ := info_parts info_bal
  have HTI := Lib.hid (show Try.prog.info? 25 = some ti ∧ ti.zero = some (.agg #[.int .u64 0, .int .u8 0]) ∧ ti.size = 2 ∧ ti.bytes = 16 from ⟨hi, hz, hs1, hby⟩)
  have HSTART := Lib.hid (show BkS w sl n l (putL l 0) (.slice none 0 0) (.slice none 0 0) w from ⟨World.ownsRow_nil _ _ _ _, OwnB.nil _ _, hB, Below.refl _ _⟩)
  clear hB hi hz hs1 hby hn
  go_enter Try.func7, Try.ntmps7
  go_wp2_with fail
  go_loopw [3, 4, 5] (fun bv pv iv wx => ∃ i : Nat, i ≤ n ∧ iv = .int .i64 i ∧ (∃ a3 c3, bv = .slice a3 (bytesLs (putL l i)).length c3) ∧ (∃ a4 c4, pv = .slice a4 (putL l i).length c4) ∧ BkS w sl n l (putL l i) bv pv wx) (fun _ _ iv _ => n - (intOf iv).toNat)
  case atStart => exact ⟨0, by omega, rfl, ⟨none, 0, rfl⟩, ⟨none, 0, rfl⟩, HSTART.out⟩
  case round =>
    obtain ⟨i, hi, rfl, ⟨a3, c3, rfl⟩, ⟨a4, c4, rfl⟩, hJ⟩ := hrel
    have HJ := Lib.hid hJ
    clear hJ HSTART
    by_cases hlt : i < n
    · have hil : i < l.length := by rw [HLN.out]; exact hlt
      obtain ⟨bb, off, rfl, hcc⟩ := HJ.out.bals.base (by omega)
      obtain ⟨d0, d1⟩ := hcc i hil
      clear hcc
      have HX := Lib.hid (HOK.out _ (List.getElem_mem hil))
      have HPL := Lib.hid (putL_len l i)
      have HBL := Lib.hid (bytesLs_len (fun b hb => (putL_ok HOK.out i b hb).1))
      have hhit := putL_hit hil
      have hmiss := putL_miss hil
      generalize l[i] = x at d0 d1 HX hhit hmiss
      have HC0 := Lib.hid d0
      have HC1 := Lib.hid d1
      have hck := fun v => HCK.out v x HX.out
      unfold balV at hck
      rcases hm : mayL x with _ | _
      · have HE := Lib.hid (hmiss hm)
        rw [hm] at hck
        have HK := Lib.hid hck
        clear hck hhit hmiss hm
        generalize putL l i = P at *
        generalize hbn : (bytesLs P).length = bn at *
        go_wp2_with (go_at_call 12; (with_reducible refine (HK.out _).mono ?_); rintro r w1 ⟨rfl, b1⟩)
        go_roundw
        case rel => exact ⟨i + 1, by omega, by go_num, ⟨a3, c3, by rw [HE.out, hbn]⟩, ⟨a4, c4, by rw [HE.out]⟩, by rw [HE.out]; exact HJ.out.below b1⟩
        case measure => simp [intOf]; omega
      · have HE := Lib.hid (hhit hm)
        rw [hm] at hck
        have HK := Lib.hid hck
        clear hck hhit hmiss hm
        generalize putL l i = P at *
        obtain ⟨a3', c3', e3, src⟩ := src_of_owns HJ.out.bytes
        simp only [Value.slice.injEq, true_and] at e3
        obtain ⟨rfl, rfl⟩ := e3
        have HSRC := Lib.hid src
        clear src
        generalize hbn : (bytesLs P).length = bn at *
        have HPT := Lib.hid (fun v (hv : Src v a3 bn c3 (bytesLs P)) => HPU.out v a3 bn c3 (bytesLs P) x hv (by have h1 := HBL.out; have h2 := HPL.out; omega) HX.out)
        unfold balV at HPT
        generalize hpn : P.length = pn at *
        go_wp2_with (first
          | (go_at_call 12; (with_reducible refine (HK.out _).mono ?_); rintro r w1 ⟨rfl, b1⟩; have HB1 := Lib.hid b1; clear d0 d1; have d0 := (b1.cell (World.block_lt_of_cell? _ _ HC0.out)).trans HC0.out; have d1 := (b1.cell (World.block_lt_of_cell? _ _ HC1.out)).trans HC1.out; have HD0 := Lib.hid d0; have HD1 := Lib.hid d1; clear b1)
          | (go_at_call 17; (with_reducible refine (HPT.out _ (HSRC.out.below HB1.out)).mono ?_); rintro r w2 ⟨g2, n2, c2, rfl, o2, b2⟩; have HO2 := Lib.hid o2; have HB2 := Lib.hid b2; clear d0 d1; have d0 := (b2.cell (World.block_lt_of_cell? _ _ HD0.out)).trans HD0.out; have d1 := (b2.cell (World.block_lt_of_cell? _ _ HD1.out)).trans HD1.out; have HJ2 := Lib.hid ((HJ.out.below HB1.out).below b2); clear b2 o2)
          | (at_builtin; refine wpList_append_own _ rfl _ _ 22 rfl w.heap.size 25 ti (.agg #[.int .u64 0, .int .u8 0]) 2 16 Try.underlying22 HTI.out.1 HTI.out.2.1 HTI.out.2.2.1 HTI.out.2.2.2 rfl (by decide) _ pn _ rfl (by have := HJ2.out.put; unfold OwnB at this; rw [hpn] at this; exact ownsRow_below this ((Below.refl _ _).alloc (Nat.le_refl _) _)) ⟨w2.heap.size, 0, none⟩ 1 1 [.int .u64 (x.1 : Nat), .int .u8 (x.2 : Nat)] rfl rfl (bal_cells_new _ x) (by simp [Value.oneCell']) (by have := HPL.out; unfold maxLen; omega) (by have := HPL.out; omega) (by have := HJ2.out.bel.size; simp; omega) ?_; intro v' w3 hown hgrow _))
        subst hpn
        have hm2 := (HJ.out.below HB1.out).more HB.out HO2.out HB2.out hown hgrow
        obtain ⟨hk, hl2⟩ := hm2
        obtain ⟨a5, c5, rfl⟩ := hk.put.form
        go_roundw
        case rel => exact ⟨i + 1, by omega, by go_num, ⟨_, c2, by rw [HE.out, hl2]⟩, ⟨a5, c5, by rw [HE.out]⟩, by rw [HE.out]; exact hk⟩
        case measure => simp [intOf]; omega
    · have hin : i = n := by omega
      subst hin
      have HOKP := Lib.hid (putL_ok HOK.out i)
      have HPL := Lib.hid (putL_len l i)
      have HBL := Lib.hid (bytesLs_len (fun b hb => (putL_ok HOK.out i b hb).1))
      generalize putL l i = P at *
      obtain ⟨a3', c3', e3, src⟩ := src_of_owns HJ.out.bytes
      simp only [Value.slice.injEq, true_and] at e3
      obtain ⟨rfl, rfl⟩ := e3
      have hcv := src.string
      have HJP := Lib.hid HJ.out.put
      have HJB := Lib.hid HJ.out.bel
      clear HJ src
      go_upto_region 12 with (go_at_call 19; refine (of_any (bytesLs P) _).mono ?_; rintro r w5 ⟨rfl, rs5, b5⟩)
      have hbr : BrS w wr.heap.size (bytesLs (P.drop 0)) P (.slice a4 P.length c4) w5 := ⟨rs5, ownsRow_below HJP.out b5, HJB.out.trans (b5.mono HJB.out.size), HJB.out.size⟩
      generalize wr.heap.size = rb at *
      have HBR := Lib.hid hbr
      clear rs5 b5 hbr HJP hcv
      have hpl := HPL.out
      generalize hpn : P.length = pn at *
      have HPN := Lib.hid hpn
      go_wp2_with fail
      go_loopw [7] (fun jv wx => ∃ j : Nat, j ≤ pn ∧ jv = .int .i64 j ∧ BrS w rb (bytesLs (P.drop j)) P (.slice a4 pn c4) wx) (fun jv _ => pn - (intOf jv).toNat)
      case atStart => exact ⟨0, by omega, rfl, HBR.out⟩
      case round =>
        obtain ⟨j, hj, rfl, hJ⟩ := hrel
        have HJ2 := Lib.hid hJ
        clear hJ HBR
        by_cases hjl : j < pn
        · have hjp : j < P.length := by rw [HPN.out]; exact hjl
          obtain ⟨b4, o4, rfl, hcc⟩ := ((HJ2.out.put).bals (fun b hb => (HOKP.out b hb).1)).base (by omega)
          obtain ⟨d0, d1⟩ := hcc j hjp
          have hdr : P.drop j = P[j] :: P.drop (j + 1) := List.drop_eq_getElem_cons hjp
          obtain ⟨hxo, hxm⟩ := HOKP.out _ (List.getElem_mem hjp)
          have HRD := (HJ2.out.below ((Below.refl wr.heap.size wr).drew)).rd
          have hlen : (bytesLs (P.drop j)).length ≤ 1000000 := by
            have h1 := bytesLs_len (l := P.drop j) (fun b hb => (HOKP.out b (List.mem_of_mem_drop hb)).1)
            have h2 : (P.drop j).length ≤ P.length := by simp
            have h3 := HBL.out
            omega
          have hcc' : ∀ (v : World), OwnB v w.heap.size (.slice (some ⟨b4, o4, none⟩) pn c4) P → v.cell? ⟨b4, o4 + j * 2, none⟩ = some (.int .u64 (P[j].1 : Nat)) ∧ v.cell? ⟨b4, o4 + j * 2 + 1, none⟩ = some (.int .u8 (P[j].2 : Nat)) := by
            intro v hv
            obtain ⟨b5, o5, e5, hc5⟩ := (hv.bals (fun b hb => (HOKP.out b hb).1)).base (by omega)
            simp only [Option.some.injEq, Addr.mk.injEq, and_true] at e5
            obtain ⟨rfl, rfl⟩ := e5
            exact hc5 j hjp
          have hT := fun v (hv : RS v rb ⟨0, bytesLs (P.drop j)⟩) => HTK.out v rb ⟨0, bytesLs (P.drop j)⟩ hv hlen
          rw [hdr, bytesLs_cons] at hT
          simp only [take_put hxo hxm] at hT
          generalize P[j] = x at *
          unfold balV at hT
          have HT := Lib.hid hT
          have HCC := Lib.hid hcc'
          rw [hdr, bytesLs_cons] at HRD
          have HR2 := Lib.hid HRD
          clear hcc hcc' hT HRD hlen hxo hxm hdr
          have HDR := Lib.hid (HJ2.out.below ((Below.refl wr.heap.size wr).drew))
          go_upto_region 15 with fail
          go_region_with (go_at_call 20; (with_reducible refine (HT.out _ HR2.out).mono ?_); rintro r w6 ⟨rfl, r6, g6⟩; have hb6 := Lib.hid (HDR.out.take r6 g6); obtain ⟨e0, e1⟩ := HCC.out _ hb6.out.put)
          all_goals
            go_wp2_with fail
            go_roundw
            case rel => exact ⟨j + 1, by omega, by go_num, hb6.out⟩
            case measure => simp [intOf]; omega
        · have hje : j = pn := by omega
          have hdr : bytesLs (P.drop j) = [] := by rw [hje, ← HPN.out, List.drop_length]; rfl
          have HRD := HJ2.out.rd
          rw [hdr] at HRD
          have HE := Lib.hid (fun v (hv : RS v rb ⟨0, []⟩) => end_st rb ⟨0, []⟩ v hv)
          have HR2 := Lib.hid HRD
          clear HRD hdr
          go_wp2_with (first
            | (go_at_call 25; (with_reducible refine (HE.out _ HR2.out).mono ?_); rintro r w7 ⟨rfl, r7, g7⟩)
            | (go_at_call 8; refine (HW.out _).mono ?_; rintro r w9 ⟨rfl, b9⟩))
          go_ret
          have hb7 : Below w.heap.size w w7 := HJ2.out.bel.grown g7 HJ2.out.bel.size (by rintro k ⟨rfl⟩; exact HJ2.out.le)
          exact ⟨rfl, hb7.trans (b9.mono hb7.size)⟩
end Go.Proofs.Ytafhljmeofnbnaa
