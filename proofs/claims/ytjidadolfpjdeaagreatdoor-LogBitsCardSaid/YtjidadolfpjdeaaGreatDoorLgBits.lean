/-
  The law LogBits over this translation, over a LogSpec.
-/
import Derived.Test.YtjidadolfpjdeaaGreatDoorLgBitU
namespace Go.Proofs.YtjidadolfpjdeaaGreatDoor
open Go.RowKit
set_option linter.unusedVariables false
variable {G : (Nat → Prop) → World → Addr → Nat → PD → Prop}

set_option maxRecDepth 100000 in
set_option maxHeartbeats 1000000 in
/-- None, or too many: 'wakes' alone. -/
theorem bits_long (S : LogSpec G) (a : Option Addr) (n c : Nat) (at_ : Int) {w : World} (E : Env w) (h : n < 1 ∨ 40 < (n : Int)) :
    Calls Tryz.prog 6 #[.slice a n c, .int .u32 at_] w fun e w' => e = .returned (.bool true) ∧ Below w.heap.size w w' := by
  have HW := Lib.hid (fun v (E : Env v) => S.wakes E)
  rcases h with h | h
  · obtain rfl : n = 0 := by omega
    go_enter Tryz.func6, Tryz.ntmps6
    go_wp2_with (go_at_call 13; (with_reducible refine (HW.out _ (by first | exact E | exact E.below (HI.out.kept.below (Nat.le_refl _)) | exact E.below (by first | assumption | exact Below.refl _ _) | exact E.below (bb (by assumption) (by assumption)) | exact (DkOff.env (by assumption)) | exact (Dn.env (by assumption)) | exact (Up.env S (by assumption)) | exact (DkOff.env (Hid.out (by assumption))) | exact (Dn.env (Hid.out (by assumption))) | exact (Up.env S (Hid.out (by assumption))))).mono ?_); rintro r w1 ⟨rfl, b1⟩)
    go_ret
    exact ⟨rfl, b1⟩
  · have h2 : ¬ (n : Int) < 1 := by omega
    go_enter Tryz.func6, Tryz.ntmps6
    go_wp2_with (go_at_call 13; (with_reducible refine (HW.out _ (by first | exact E | exact E.below (HI.out.kept.below (Nat.le_refl _)) | exact E.below (by first | assumption | exact Below.refl _ _) | exact E.below (bb (by assumption) (by assumption)) | exact (DkOff.env (by assumption)) | exact (Dn.env (by assumption)) | exact (Up.env S (by assumption)) | exact (DkOff.env (Hid.out (by assumption))) | exact (Dn.env (Hid.out (by assumption))) | exact (Up.env S (Hid.out (by assumption))))).mono ?_); rintro r w1 ⟨rfl, b1⟩)
    go_ret
    exact ⟨rfl, b1⟩

theorem Small.snoc' {ls : List Rec} {k : Nat} (h : Small (ls.take k)) (hk : k < ls.length) (h1 : 1 ≤ ls[k].length) (h2 : ls[k].length ≤ 200) : Small (ls.take (k + 1)) := by
  rw [List.take_succ_eq_append_getElem hk]
  intro x hx
  rcases List.mem_append.1 hx with h' | h'
  · exact h x h'
  · simp at h'; subst h'; exact ⟨h1, h2⟩

theorem DkOff.more {K K' : Nat → Prop} {w w' : World} {p : Nat} {d : PD} (h : DkOff K w p d) (hb : Below w.heap.size w w') (hK : ∀ k, K' k → K k ∨ w.heap.size ≤ k) (hs : ∀ k, K' k → k < w'.heap.size) : DkOff K' w' p d := by
  obtain ⟨F, h1, h2, h3⟩ := h
  exact ⟨F, h1.below hb, fun k hk hk' => (hK k hk').elim (h2 k hk) (fun h => by have := h1.lt hk; omega), ⟨hs, h3.env.below hb, h3.fv⟩⟩
theorem LogSpec.open_bad (S : LogSpec G) {K : Nat → Prop} {w : World} {p : Nat} {d : PD} (h : DkOff K w p d) (hs : Sane d) (ho : openL d = (d, [], 10)) :
    Calls Tryz.prog 8 #[.pointer (some ⟨p, 0, none⟩)] w fun r w' => ∃ a c, r = .returned (.tuple #[.pointer none, .slice a 0 c, .int .i64 10]) ∧ DkOff K w' p d ∧ Kept K w w' := by
  obtain ⟨F, h1, h2, h3⟩ := h
  refine (S.opens h1 h3.env h3.fv hs).mono ?_
  rw [ho]
  rintro r w' ⟨x, a, c, F', rfl, st, row, hb, hx, _⟩
  obtain rfl := hx (show (10 : Int) ≠ 0 by decide)
  exact ⟨a, c, rfl, ⟨F', st.disk, st.off h2 h3, h3.step st⟩, st.kept h2⟩
/-- The cells of a file, in a row of files. -/
theorem row_file {w : World} {b : Nat} {a : Option Addr} {c : Nat} {fs : List PF} (h : w.ownsRow b 43 3 (.slice a fs.length c) fs.length (fs.flatMap fileCells)) (h0 : 0 < fs.length) : ∃ q, a = some ⟨q, 0, none⟩ ∧ ∀ j (hj : j < fs.length),
    w.cell? ⟨q, 3 * j, none⟩ = some (.string (B fs[j].name)) ∧ w.cell? ⟨q, 3 * j + 1, none⟩ = some (.string (B fs[j].bytes)) ∧ w.cell? ⟨q, 3 * j + 2, none⟩ = some (.int .i64 fs[j].synced) := by
  rcases h.2 with ⟨_, h1⟩ | ⟨g, cap, cur, he, _⟩
  · omega
  · obtain ⟨rfl, rfl⟩ : a = some ⟨g, 0, none⟩ ∧ c = cap := by simpa using he
    refine ⟨g, rfl, fun j hj => ⟨?_, ?_, ?_⟩⟩
    · have := files_cell fs j 0 hj (by decide)
      rw [h.cellAt (3 * j) (by omega)]
      simpa [fileCells] using this
    · have := files_cell fs j 1 hj (by decide)
      rw [h.cellAt (3 * j + 1) (by omega)]
      simpa [fileCells] using this
    · have := files_cell fs j 2 hj (by decide)
      rw [h.cellAt (3 * j + 2) (by omega)]
      simpa [fileCells] using this

/-- Between two rounds of the first loop. -/
structure BtI (G : (Nat → Prop) → World → Addr → Nat → PD → Prop) (w : World) (x : Addr) (p : Nat) (ls : List Rec) (m : Nat) (W : World) : Prop where
  small : Small (ls.take m)
  st : ∃ d, Up G (fun k => k < w.heap.size) W x p d (ls.take m) 0 m (-1)
  kept : Kept (fun k => k < w.heap.size) w W

set_option maxRecDepth 100000 in
set_option maxHeartbeats 4000000 in
theorem bits_some (S : LogSpec G) (a : Option Addr) (n c : Nat) (ls : List Rec) (at_ : Int) {w : World} (E : Env w) (h : Txt w a n ls) (hnc : n ≤ c) (hn0 : 1 ≤ n) (hn : (n : Int) ≤ 40) (hs0 : 0 ≤ at_) (hs1 : at_ ≤ 4294967295) :
    Calls Tryz.prog 6 #[.slice a n c, .int .u32 at_] w fun e w' => e = .returned (.bool true) ∧ Below w.heap.size w w' := by
  have HW := Lib.hid (fun v (E : Env v) => S.wakes E)
  have HN := Lib.hid (fun v (hb : Below w.heap.size w v) => new_off (E.below hb))
  have HT := Lib.hid h
  have HL := Lib.hid h.len
  have hn1 : ¬ (n : Int) < 1 := by omega
  obtain ⟨b, off, rfl, hcell⟩ := h.base (by omega)
  have HC := Lib.hid hcell
  clear h hcell
  go_enter Tryz.func6, Tryz.ntmps6
  go_upto_region 7 with (first
    | (go_at_call 14; (with_reducible refine (HN.out _ (by first | exact Below.refl _ _ | assumption | exact (Below.refl _ _).alloc (Nat.le_refl _) _ | exact ((Below.refl _ _).alloc (Nat.le_refl _) _).alloc (by simp) _)).mono ?_); rintro r w1 ⟨p, rfl, d1, k1⟩)
    | (go_at_call 8; (with_reducible refine (S.new_up d1).mono ?_); rintro r w2 ⟨x, a2, c2, rfl, k2, u2⟩))
  have HK2 := Lib.hid ((Kept.of_below (K := fun k => k < w.heap.size) k1).trans k2 (fun _ _ h => h))
  have HU2 := Lib.hid u2
  clear u2 d1 k1 k2 HN
  go_wp2_with fail
  go_loopw [9, 10] (fun bv iv wr => ∃ m : Nat, m ≤ n ∧ iv = .int .i64 m ∧ bv = .int .i64 (8 * bsum (ls.take m) : Nat) ∧ bsum (ls.take m) ≤ 208 * m ∧ BtI G w x p ls m wr) (fun _ iv _ => n - (intOf iv).toNat)
  case atStart => exact ⟨0, Nat.zero_le _, rfl, rfl, by simp [bsum], ⟨fun y hy => by simp at hy, ⟨_, HU2.out⟩, HK2.out⟩⟩
  case round =>
    obtain ⟨m, hm, rfl, rfl, hbs, I⟩ := hrel
    have HI := Lib.hid I
    clear I
    by_cases hlt : m < n
    · have hml : m < ls.length := by rw [HL.out]; exact hlt
      have hcw := HC.out m hml
      have hbw : b < w.heap.size := World.block_lt_of_cell? w _ hcw
      have hcl := HI.out.kept.cell hcw hbw
      have hbt := bsum_take hml
      have htk : ls.take m ++ [ls[m]] = ls.take (m + 1) := (List.take_succ_eq_append_getElem hml).symm
      have hsm : 1 ≤ ls[m].length → ls[m].length ≤ 200 → Small (ls.take (m + 1)) := fun h1 h2 => HI.out.small.snoc' hml h1 h2
      have hzz : ls[m].length ≤ 200 → sizes (ls.take m) + (frameL ls[m]).length ≤ 4194304 := fun h2 => by
        have h1 := sizes_small HI.out.small
        have h3 := frame_small_length h2
        rw [List.length_take] at h1
        omega
      clear hcw
      generalize ls[m] = y at hcl hbt htk hsm hzz
      have HBT := Lib.hid hbt
      have HTK := Lib.hid htk
      have HSM := Lib.hid hsm
      have HZZ := Lib.hid hzz
      clear hbt htk hsm hzz
      by_cases hx0 : y = []
      · subst hx0
        go_wp2_with (go_at_call 13; (with_reducible refine (HW.out _ (by first | exact E | exact E.below (HI.out.kept.below (Nat.le_refl _)) | exact E.below (by first | assumption | exact Below.refl _ _) | exact E.below (bb (by assumption) (by assumption)) | exact (DkOff.env (by assumption)) | exact (Dn.env (by assumption)) | exact (Up.env S (by assumption)) | exact (DkOff.env (Hid.out (by assumption))) | exact (Dn.env (Hid.out (by assumption))) | exact (Up.env S (Hid.out (by assumption))))).mono ?_); rintro r w3 ⟨rfl, b3⟩)
        go_ret
        exact ⟨rfl, bb (HI.out.kept.below (Nat.le_refl _)) b3⟩
      · have he1 : ¬ (B y).toList = [] := by rw [ByteArray.toList_mk y]; exact hx0
        have he2 : (B y).toList.isEmpty = false := by rw [ByteArray.toList_mk y]; cases y with | nil => exact absurd rfl hx0 | cons z t => rfl
        by_cases hx1 : y.length ≤ 200
        · have hx1' : 1 ≤ y.length := by cases y with | nil => exact absurd rfl hx0 | cons z t => simp
          obtain ⟨d, u⟩ := HI.out.st
          have hadd := u.add S (r := y) hx1' (by omega) (HZZ.out hx1) (show m ≤ 900 by omega)
          rw [HTK.out] at hadd
          have HS2 := Lib.hid (HSM.out hx1' hx1)
          have hbs2 := HBT.out
          have hys : ((B y).size : Int) = (y.length : Int) := by rw [B_size]
          generalize hyl : y.length = yl at *
          have hyl200 : yl ≤ 200 := hx1
          generalize B y = Sx at *
          have HADD := Lib.hid hadd
          have HBS2 := Lib.hid hbs2
          clear hadd u hbs2 hx0 hyl HBT HTK HSM HZZ
          go_wp2_with (go_at_call 9; (with_reducible refine HADD.out.mono ?_); rintro r w3 ⟨z, rfl, k3, hz⟩; obtain ⟨rfl, d3, f3, hf3, u3⟩ := hz.resolve_right (fun h => absurd h.2.1 (by decide)); have hcl3 := k3.cell hcl hbw)
          have hff := hf3
          simp at hff
          rw [hff] at u3
          go_roundw
          case rel => exact ⟨m + 1, by omega, by go_num, by rw [HBS2.out]; go_num, by have := HBS2.out; omega, ⟨HS2.out, ⟨d3, u3⟩, HI.out.kept.trans k3 (fun _ _ h => h)⟩⟩
          case measure => simp [intOf]; omega
        · have hgt : 200 < ((B y).size : Int) := by rw [B_size]; omega
          generalize B y = Sx at hcl he1 he2 hgt
          clear hx0 hx1
          go_wp2_with (go_at_call 13; (with_reducible refine (HW.out _ (by first | exact E | exact E.below (HI.out.kept.below (Nat.le_refl _)) | exact E.below (by first | assumption | exact Below.refl _ _) | exact E.below (bb (by assumption) (by assumption)) | exact (DkOff.env (by assumption)) | exact (Dn.env (by assumption)) | exact (Up.env S (by assumption)) | exact (DkOff.env (Hid.out (by assumption))) | exact (Dn.env (Hid.out (by assumption))) | exact (Up.env S (Hid.out (by assumption))))).mono ?_); rintro r w3 ⟨rfl, b3⟩)
          go_ret
          exact ⟨rfl, bb (HI.out.kept.below (Nat.le_refl _)) b3⟩
    · obtain rfl : n = m := by omega
      have htk : ls.take n = ls := List.take_of_length_le (by rw [HL.out]; exact Nat.le_refl _)
      have hsm := HI.out.small
      obtain ⟨d, u⟩ := HI.out.st
      have hkp := HI.out.kept
      rw [htk] at hsm u hbs ⊢
      have hb0 : 0 < bsum ls := by
        have h1 := bsum_take (ls := ls) (m := 0) (by rw [HL.out]; omega)
        have h2 := bsum_take_le ls (0 + 1)
        omega
      have hsz9 : sizes ls ≤ 9000 := by have := sizes_small hsm; have := HL.out; omega
      have HSM := Lib.hid hsm
      have HU := Lib.hid u
      have HKP := Lib.hid hkp
      have HSZ := Lib.hid hsz9
      clear hsm u hkp HI htk hlt
      generalize hN8 : 8 * bsum ls = N8
      have hN80 : (0 : Int) < (N8 : Int) := by omega
      have hN81 : (N8 : Int) ≤ 100000 := by omega
      obtain ⟨kk, hkk, hkl⟩ : ∃ kk : Nat, at_.tmod (N8 : Int) = (kk : Int) ∧ kk < N8 := by
        refine ⟨at_.toNat % N8, ?_, Nat.mod_lt _ (by omega)⟩
        rw [Int.tmod_eq_emod_of_nonneg hs0]
        conv => lhs; rw [← Int.toNat_of_nonneg hs0]
        rfl
      have HN8 := Lib.hid hN8
      clear hN8 hb0 hbs
      go_upto_block 2 with (go_at_call 10; (with_reducible refine (HU.out.sync S (by have := HSZ.out; omega) (show n ≤ 900 by omega)).mono ?_); rintro r w3 ⟨rfl, k3, d3, u3⟩)
      rw [HL.out] at u3
      have HU3 := Lib.hid u3
      have HK3 := Lib.hid (HKP.out.trans k3 (fun _ _ h => h))
      have hC3 : ∀ (j : Nat) (hj : j < ls.length), w3.cell? ⟨b, off + j, none⟩ = some (.string (B ls[j])) := fun j hj => HK3.out.cell (HC.out j hj) (World.block_lt_of_cell? w _ (HC.out j hj))
      have HC3 := Lib.hid hC3
      clear hC3 u3 k3
      go_cut [11] (fun kv wx => w3 = wx ∧ ∃ (i q r : Nat) (hi : i < ls.length), q < 8 + ls[i].length ∧ r < 8 ∧ kv = .int .i64 (8 * (sizes (ls.take i) + (q + 1)) + r : Nat))
      case first =>
        go_wp2_with fail
        go_loopw [11, 12, 13] (fun kv bv iv wx => w3 = wx ∧ ∃ m kr : Nat, m ≤ n ∧ kv = .int .i64 kr ∧ bv = .int .i64 (sizes (ls.take m) : Nat) ∧ iv = .int .i64 m ∧ kr + 8 * bsum (ls.take m) < N8) (fun _ _ iv _ => n - (intOf iv).toNat)
        case atStart => exact ⟨rfl, 0, kk, Nat.zero_le _, by first | rfl | go_num, by simp [sizes], rfl, by simpa [bsum] using hkl⟩
        case round =>
          obtain ⟨rfl, m, kr, hm, rfl, rfl, rfl, hkr⟩ := hrel
          by_cases hlt : m < n
          · have hml : m < ls.length := by rw [HL.out]; exact hlt
            have hcl := HC3.out m hml
            have hbt := bsum_take hml
            have hst := sizes_take HSM.out hml
            have hs9 := sizes_take_le ls m
            have hs99 : ((sizes (ls.take m) : Nat) : Int) ≤ 9000 := by have := HSZ.out; omega
            have hy2 := (HSM.out _ (List.getElem_mem hml)).2
            have hfin : ∀ kr2 : Nat, kr2 < 8 * (8 + ls[m].length) → ∃ (i q r : Nat) (hi : i < ls.length), q < 8 + ls[i].length ∧ r < 8 ∧ (8 * (sizes (ls.take m) + 1) + kr2 : Nat) = 8 * (sizes (ls.take i) + (q + 1)) + r := fun kr2 h2 => ⟨m, kr2 / 8, kr2 % 8, hml, by omega, by omega, by omega⟩
            generalize ls[m] = y at hcl hbt hst hy2 hfin
            have hys : ((B y).size : Int) = (y.length : Int) := by rw [B_size]
            generalize hyl : y.length = yl at *
            generalize B y = Sx at *
            generalize sizes (ls.take m) = sz at *
            generalize hsz2 : sizes (ls.take (m + 1)) = sz2 at *
            generalize bsum (ls.take m) = bs at *
            generalize hbs2 : bsum (ls.take (m + 1)) = bs2 at *
            have HFIN := Lib.hid hfin
            have HST := Lib.hid hst
            have HBT := Lib.hid hbt
            have HSZ2 := Lib.hid hsz2
            have HBS2 := Lib.hid hbs2
            clear hfin hst hbt hyl hs9 hsz2 hbs2
            have hkr9 : (kr : Int) ≤ 100000 := by omega
            by_cases hgo : kr < 8 * (8 + yl)
            · go_wp2_with fail
              go_meet
              case rel =>
                obtain ⟨i, q, r, hi, g1, g2, g3⟩ := HFIN.out kr hgo
                exact ⟨rfl, i, q, r, hi, g1, g2, by rw [← g3]; go_num⟩
            · go_wp2_with fail
              go_roundw
              case rel => exact ⟨by first | rfl | trivial, m + 1, kr - 8 * (8 + yl), by omega, by go_num, by rw [HSZ2.out, HST.out]; go_num, by go_num, by rw [HBS2.out, HBT.out]; omega⟩
              case measure => simp [intOf]; omega
          · exfalso
            obtain rfl : n = m := by omega
            rw [List.take_of_length_le (by rw [HL.out]; exact Nat.le_refl _)] at hkr
            have := HN8.out
            omega
      case rest =>
        obtain ⟨rfl, i, q, r, hi, hq, hr, rfl⟩ := hcut
        have HTN := Lib.hid (fun (K : Nat → Prop) (v : World) (d : PD) (h : Dn K v p d ls n n true) => (show Calls Tryz.prog 21 #[.pointer (some ⟨p, 0, none⟩), .int .i64 (8 * (sizes (ls.take i) + (q + 1)) + r : Nat)] v _ from Dn.turn (R := ls) (M := n) (by rw [HL.out]; exact h) HSM.out (by omega) hi hq hr (by have := HSZ.out; omega)))
        generalize 8 * (sizes (ls.take i) + (q + 1)) + r = KT at HTN ⊢
        go_upto_region 30 with (first
          | (go_at_call 17; (with_reducible refine (HU3.out.crash S 0 (by decide) (by have := HSZ.out; omega) (show n ≤ 900 by omega)).mono ?_); rintro e w4 ⟨rfl, k4, d4, u4⟩)
          | (go_at_call 21; (with_reducible refine (HTN.out _ _ _ u4).mono ?_); rintro e w5 ⟨rfl, k5, d5, u5, s5, o5⟩)
          | (go_at_call 18; (with_reducible refine u5.on.mono ?_); rintro e w6 ⟨rfl, u6, k6⟩)
          | (go_at_call 22; (with_reducible refine (u6.files s5).mono ?_); rintro e w7 ⟨a7, c7, rfl, row7, b7⟩))
        have bad : openL d5.start = (d5.start, [], 10) := spoilt_of rfl o5
        have hk7 : Kept (fun k => k < w.heap.size) w w7 := (((HK3.out.trans k4 (fun _ _ h => h)).trans k5 (fun _ _ h => h)).trans k6 (fun _ _ h => h)).trans (Kept.of_below (K := fun k => k < w.heap.size) b7) (fun _ _ h => h)
        have hd7 : DkOff (andOf (fun k => k < w.heap.size) a7) w7 p d5.start := by
          refine u6.more b7 ?_ ?_
          · rintro k (h | ⟨bb', rfl, rfl⟩)
            · exact .inl h
            · exact .inr (own_blk row7 rfl).2.1
          · rintro k (h | ⟨bb', rfl, rfl⟩)
            · have := hk7.size; omega
            · exact (own_blk row7 rfl).2.2
        have hN1 : d5.start.files.length ≤ 1000 := s5.few
        generalize d5.start = d6 at *
        have HROW := Lib.hid row7
        have HSN := Lib.hid s5
        have HBAD := Lib.hid bad
        have HK7 := Lib.hid hk7
        have HD7 := Lib.hid hd7
        generalize hN : d6.files.length = N at *
        have HN := Lib.hid hN
        clear row7 s5 bad hk7 hd7 u6 o5 u5 u4 k4 k5 k6 b7 hN HTN HU3 HC3 HK3 HU HKP HN8 hkk hkl hN80 hN81
        go_wp2_with fail
        go_loopw [15] (fun iv wx => ∃ j : Nat, j ≤ 2 ∧ iv = .int .i64 j ∧ DkOff (andOf (fun k => k < w.heap.size) a7) wx p d6 ∧ Kept (andOf (fun k => k < w.heap.size) a7) w7 wx) (fun iv _ => 2 - (intOf iv).toNat)
        case atStart => exact ⟨0, by omega, rfl, HD7.out, Turned.refl _ _⟩
        case round =>
          obtain ⟨j, hj, rfl, dk, kp⟩ := hrel
          by_cases hlt : j < 2
          · have HKP := Lib.hid kp
            clear kp
            go_upto_region 37 with (first
              | (go_at_call 8; (with_reducible refine (S.open_bad dk HSN.out HBAD.out).mono ?_); rintro e w8 ⟨a8, c8, rfl, dk8, k8⟩)
              | (go_at_call 22; (with_reducible refine (dk8.files HSN.out).mono ?_); rw [HN.out]; rintro e w9 ⟨a9, c9, rfl, row9, b9⟩; have HROW9 := Lib.hid row9; clear row9))
            go_wp2_with fail
            go_loopw [20] (fun jv wx => ∃ m : Nat, m ≤ N ∧ jv = .int .i64 m ∧ Below w9.heap.size w9 wx) (fun jv _ => N - (intOf jv).toNat)
            case atStart => exact ⟨0, Nat.zero_le _, rfl, Below.refl _ _⟩
            case round =>
              obtain ⟨m, hm, rfl, bw⟩ := hrel
              by_cases hlt2 : m < N
              · have hm6 : m < d6.files.length := by rw [HN.out]; exact hlt2
                obtain ⟨q9, rfl, hc9⟩ := row_file (by rw [HN.out]; exact ownsRow_below HROW9.out bw) (by omega)
                obtain ⟨c90, c91, c92⟩ := hc9 m hm6
                have hr7 := ownsRow_below (k8.row (HKP.out.row HROW.out (fun j hj => .inr (blk_of hj))) (fun j hj => .inr (blk_of hj))) (bb b9 bw)
                obtain ⟨q7, rfl, hc7⟩ := row_file (by rw [HN.out]; exact hr7) (by omega)
                obtain ⟨c70, c71, c72⟩ := hc7 m hm6
                clear hc9 hc7 hr7
                generalize B d6.files[m].name = nm at c90 c70
                generalize B d6.files[m].bytes = bs at c91 c71
                generalize (d6.files[m].synced : Int) = sy at c92 c72
                rw [Nat.mul_comm] at c90 c91 c92 c70 c71 c72
                go_upto_region 40 with fail
                go_region
                go_wp2_with fail
                go_roundw
                case rel => exact ⟨m + 1, by omega, by go_num, bw.drew⟩
                case measure => simp [intOf]; omega
              · obtain rfl : N = m := by omega
                go_wp2_with fail
                go_roundw
                case rel => exact ⟨j + 1, by omega, by go_num, dk8.below (bb b9 bw), (HKP.out.trans k8 (fun _ _ h => h)).trans (Kept.of_below (K := andOf (fun k => k < w.heap.size) a7) (bb b9 bw)) (fun _ _ h => h)⟩
                case measure => simp [intOf]; omega
          · obtain rfl : j = 2 := by omega
            go_wp2_with (go_at_call 13; (with_reducible refine (HW.out _ (by first | exact E | exact E.below (HI.out.kept.below (Nat.le_refl _)) | exact E.below (by first | assumption | exact Below.refl _ _) | exact E.below (bb (by assumption) (by assumption)) | exact (DkOff.env (by assumption)) | exact (Dn.env (by assumption)) | exact (Up.env S (by assumption)) | exact (DkOff.env (Hid.out (by assumption))) | exact (Dn.env (Hid.out (by assumption))) | exact (Up.env S (Hid.out (by assumption))))).mono ?_); rintro e w10 ⟨rfl, b10⟩)
            go_ret
            refine ⟨rfl, ?_⟩
            have kB := (HK7.out.trans kp (fun _ _ h => .inl h)).trans (Kept.of_below (K := fun k => k < w.heap.size) b10) (fun _ _ h => h)
            exact kB.below (Nat.le_refl _)

end Go.Proofs.YtjidadolfpjdeaaGreatDoor
