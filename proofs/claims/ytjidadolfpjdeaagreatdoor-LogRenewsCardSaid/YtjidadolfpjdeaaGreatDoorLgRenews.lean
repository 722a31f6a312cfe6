/-
  The law LogRenews over this translation, over a LogSpec.
-/
import Derived.Test.YtjidadolfpjdeaaGreatDoorLgRenU
import Derived.Test.YtjidadolfpjdeaaGreatDoorRegion
namespace Go.Proofs.YtjidadolfpjdeaaGreatDoor
open Go.RowKit
set_option linter.unusedVariables false
variable {G : (Nat → Prop) → World → Addr → Nat → PD → Prop}

set_option maxRecDepth 100000 in
set_option maxHeartbeats 1000000 in
/-- Too many: 'wakes' alone. -/
theorem renews_long (S : LogSpec G) (a a' : Option Addr) (n n' c c' : Nat) (fuse keep : Int) {w : World} (E : Env w) (h : 60 < (n : Int) ∨ 60 < (n' : Int)) :
    Calls Tryz.prog 5 #[.slice a n c, .slice a' n' c', .int .i64 fuse, .int .i64 keep] w fun e w' => e = .returned (.bool true) ∧ Below w.heap.size w w' := by
  have HW := Lib.hid (fun v (E : Env v) => S.wakes E)
  by_cases h1 : 60 < (n : Int)
  · go_enter Tryz.func5, Tryz.ntmps5
    go_wp2_with (go_at_call 13; (with_reducible refine (HW.out _ (by first | exact E | exact E.below (HI.out.kept.below (Nat.le_refl _)) | exact (S.disk g10).env | exact E.below (bb (KA.out.below (Nat.le_refl _)) (bb b17 b18)) | exact E.below (by first | assumption | exact Below.refl _ _) | exact E.below (bb (by assumption) (by assumption)) | exact (DkOff.env (by assumption)) | exact (Dn.env (by assumption)) | exact (Up.env S (by assumption)) | exact (DkOff.env (Hid.out (by assumption))) | exact (Dn.env (Hid.out (by assumption))) | exact (Up.env S (Hid.out (by assumption))))).mono ?_); rintro r w1 ⟨rfl, b1⟩)
    go_ret
    exact ⟨rfl, b1⟩
  · have h2 : 60 < (n' : Int) := by omega
    clear h
    go_enter Tryz.func5, Tryz.ntmps5
    go_wp2_with (go_at_call 13; (with_reducible refine (HW.out _ (by first | exact E | exact E.below (HI.out.kept.below (Nat.le_refl _)) | exact (S.disk g10).env | exact E.below (bb (KA.out.below (Nat.le_refl _)) (bb b17 b18)) | exact E.below (by first | assumption | exact Below.refl _ _) | exact E.below (bb (by assumption) (by assumption)) | exact (DkOff.env (by assumption)) | exact (Dn.env (by assumption)) | exact (Up.env S (by assumption)) | exact (DkOff.env (Hid.out (by assumption))) | exact (Dn.env (Hid.out (by assumption))) | exact (Up.env S (Hid.out (by assumption))))).mono ?_); rintro r w1 ⟨rfl, b1⟩)
    go_ret
    exact ⟨rfl, b1⟩

theorem own_cap {w : World} {b n : Nat} {a : Option Addr} {c : Nat} {xs : List Value} {t : TypeId} {sz : Nat} (h : w.ownsRow b t sz (.slice a n c) n xs) : n ≤ c := by
  rcases h.2 with ⟨e, h0⟩ | ⟨g, cap, cur, e, _, _, hn, _⟩
  · cases e; omega
  · cases e; exact hn

theorem row_split {ls ls' : List Rec} {n j : Nat} (h : ls.length = n) : (ls ++ ls').take (n + j) = ls ++ ls'.take j := by
  subst h
  rw [List.take_append, List.take_of_length_le (by omega), Nat.add_sub_cancel_left]
theorem wp_append_txt (w : World) {o : Oper} {a : Act} {K : Act → World → Prop} {Q : Exit → Act → World → Prop} (s x : Operand)
    (ho : o.op = .call { callee := .builtin .append, args := #[s, x], argTypes := #[23, 23] })
    (base : Nat) (v : Value) (n : Nat) (xs : List (List UInt8)) (hv : a.eval s = v) (hown : w.ownsRow base 9 1 v n (strV xs))
    (sa : Option Addr) (m c : Nat) (l : List (List UInt8)) (hx : a.eval x = .slice sa m c) (hs : Txt w sa m l) (hnil : sa = none → c = 0) (hsz : n + m ≤ 1000000) (hbase : base ≤ w.heap.size)
    (h : ∀ v' w', w'.ownsRow base 9 1 v' (n + m) (strV (xs ++ l)) → w.grownBy w' v.ownBlock → K (a.put o.dst v') w') : o.wp Tryz.prog a w K Q := by
  obtain ⟨v', w', hr, h2, h3⟩ := run_append_txt w o.type base v n xs hown sa m c l hs hnil hsz hbase
  unfold Oper.wp execOp
  simp only [ho, resolve, invoke, builtin, Sem.run_bind, Sem.run_pure, Result.andThen_ok, List.map_toArray, List.map_cons, List.map_nil, hv, hx, hr]
  exact h v' w' h2 h3

/-- Between two rounds of the first loop. -/
structure RnI (G : (Nat → Prop) → World → Addr → Nat → PD → Prop) (w : World) (x : Addr) (p : Nat) (ls : List Rec) (m : Nat) (W : World) : Prop where
  ok : ∀ y ∈ ls.take m, 1 ≤ y.length ∧ y.length ≤ 300
  st : ∃ d, Up G (fun k => k < w.heap.size) W x p d (ls.take m) 0 m (-1)
  kept : Kept (fun k => k < w.heap.size) w W

set_option maxRecDepth 100000 in
set_option maxHeartbeats 4000000 in
theorem renews_some (S : LogSpec G) (a a' : Option Addr) (n n' c c' : Nat) (ls ls' : List Rec) (fuse keep : Int) {w : World} (E : Env w) (h : Txt w a n ls) (h' : Txt w a' n' ls') (hnc : n ≤ c) (hnc' : n' ≤ c') (hnil : a = none → c = 0) (hnil' : a' = none → c' = 0) (hn : (n : Int) ≤ 60) (hn' : (n' : Int) ≤ 60)
    (hf1 : fuse ≤ 9223372036854775807) (hk1 : keep ≤ 9223372036854775807) :
    Calls Tryz.prog 5 #[.slice a n c, .slice a' n' c', .int .i64 fuse, .int .i64 keep] w fun e w' => e = .returned (.bool true) ∧ Below w.heap.size w w' := by
  have HW := Lib.hid (fun v (E : Env v) => S.wakes E)
  have HN := Lib.hid (fun v (hb : Below w.heap.size w v) => new_off (E.below hb))
  have HT := Lib.hid h
  have HL := Lib.hid h.len
  have HT' := Lib.hid h'
  have HL' := Lib.hid h'.len
  have HNIL := Lib.hid hnil
  have HNIL' := Lib.hid hnil'
  clear h h' hnil hnil'
  go_enter Tryz.func5, Tryz.ntmps5
  go_upto_region 7 with (first
    | (go_at_call 14; (with_reducible refine (HN.out _ (by first | exact Below.refl _ _ | assumption | exact (Below.refl _ _).alloc (Nat.le_refl _) _ | exact ((Below.refl _ _).alloc (Nat.le_refl _) _).alloc (by simp) _)).mono ?_); rintro r w1 ⟨p, rfl, d1, k1⟩)
    | (go_at_call 8; (with_reducible refine (S.new_up d1).mono ?_); rintro r w2 ⟨x, a2, c2, rfl, k2, u2⟩))
  have HK2 := Lib.hid ((Kept.of_below (K := fun k => k < w.heap.size) k1).trans k2 (fun _ _ h => h))
  have HU2 := Lib.hid u2
  clear u2 d1 k1 k2 HN
  go_wp2_with fail
  go_loopw [13] (fun iv wr => ∃ m : Nat, m ≤ n ∧ iv = .int .i64 m ∧ RnI G w x p ls m wr) (fun iv _ => n - (intOf iv).toNat)
  case atStart => exact ⟨0, Nat.zero_le _, rfl, ⟨fun y hy => by simp at hy, ⟨_, HU2.out⟩, HK2.out⟩⟩
  case round =>
    obtain ⟨m, hm, rfl, I⟩ := hrel
    have HI := Lib.hid I
    clear I
    by_cases hlt : m < n
    · obtain ⟨b, off, rfl, hcell⟩ := HT.out.base (by omega)
      have hml : m < ls.length := by rw [HL.out]; exact hlt
      have hcw := hcell m hml
      clear hcell
      have hbw : b < w.heap.size := World.block_lt_of_cell? w _ hcw
      have hcl := HI.out.kept.cell hcw hbw
      have htk : ls.take m ++ [ls[m]] = ls.take (m + 1) := (List.take_succ_eq_append_getElem hml).symm
      have hok : 1 ≤ ls[m].length → ls[m].length ≤ 300 → ∀ y ∈ ls.take (m + 1), 1 ≤ y.length ∧ y.length ≤ 300 := fun h1 h2 y hy => by
        rw [← htk] at hy
        rcases List.mem_append.1 hy with hy | hy
        · exact HI.out.ok y hy
        · rw [List.mem_singleton.1 hy]; exact ⟨h1, h2⟩
      have hzz : ls[m].length ≤ 300 → sizes (ls.take m) + (frameL ls[m]).length ≤ 4194304 := fun h2 => by
        have h1 := sizes_le400 (ls := ls.take m) (fun y hy => (HI.out.ok y hy).2)
        have h3 := size_rec h2
        rw [List.length_take] at h1
        omega
      clear hcw
      generalize ls[m] = y at hcl htk hok hzz
      have HTK := Lib.hid htk
      have HOK := Lib.hid hok
      have HZZ := Lib.hid hzz
      clear htk hok hzz
      by_cases hx0 : y = []
      · subst hx0
        go_wp2_with (go_at_call 13; (with_reducible refine (HW.out _ (by first | exact E | exact E.below (HI.out.kept.below (Nat.le_refl _)) | exact (S.disk g10).env | exact E.below (bb (KA.out.below (Nat.le_refl _)) (bb b17 b18)) | exact E.below (by first | assumption | exact Below.refl _ _) | exact E.below (bb (by assumption) (by assumption)) | exact (DkOff.env (by assumption)) | exact (Dn.env (by assumption)) | exact (Up.env S (by assumption)) | exact (DkOff.env (Hid.out (by assumption))) | exact (Dn.env (Hid.out (by assumption))) | exact (Up.env S (Hid.out (by assumption))))).mono ?_); rintro r w3 ⟨rfl, b3⟩)
        go_ret
        exact ⟨rfl, bb (HI.out.kept.below (Nat.le_refl _)) b3⟩
      · have he1 : ¬ (B y).toList = [] := by rw [ByteArray.toList_mk y]; exact hx0
        have he2 : (B y).toList.isEmpty = false := by rw [ByteArray.toList_mk y]; cases y with | nil => exact absurd rfl hx0 | cons z t => rfl
        by_cases hx1 : y.length ≤ 300
        · have hx1' : 1 ≤ y.length := by cases y with | nil => exact absurd rfl hx0 | cons z t => simp
          obtain ⟨d, u⟩ := HI.out.st
          have hadd := u.add S (r := y) hx1' (by omega) (HZZ.out hx1) (show m ≤ 900 by omega)
          rw [HTK.out] at hadd
          have HS2 := Lib.hid (HOK.out hx1' hx1)
          have hys : ((B y).size : Int) ≤ 300 := by rw [B_size]; omega
          generalize B y = Sx at *
          have HADD := Lib.hid hadd
          clear hadd u hx0 HTK HOK HZZ hx1 hx1'
          go_wp2_with (go_at_call 9; (with_reducible refine HADD.out.mono ?_); rintro r w3 ⟨z, rfl, k3, hz⟩; obtain ⟨rfl, d3, f3, hf3, u3⟩ := hz.resolve_right (fun h => absurd h.2.1 (by decide)))
          have hff := hf3
          simp at hff
          rw [hff] at u3
          go_roundw
          case rel => exact ⟨m + 1, by omega, by go_num, ⟨HS2.out, ⟨d3, u3⟩, HI.out.kept.trans k3 (fun _ _ h => h)⟩⟩
          case measure => simp [intOf]; omega
        · have hgt : 300 < ((B y).size : Int) := by rw [B_size]; omega
          generalize B y = Sx at hcl he1 he2 hgt
          clear hx0 hx1
          go_wp2_with (go_at_call 13; (with_reducible refine (HW.out _ (by first | exact E | exact E.below (HI.out.kept.below (Nat.le_refl _)) | exact (S.disk g10).env | exact E.below (bb (KA.out.below (Nat.le_refl _)) (bb b17 b18)) | exact E.below (by first | assumption | exact Below.refl _ _) | exact E.below (bb (by assumption) (by assumption)) | exact (DkOff.env (by assumption)) | exact (Dn.env (by assumption)) | exact (Up.env S (by assumption)) | exact (DkOff.env (Hid.out (by assumption))) | exact (Dn.env (Hid.out (by assumption))) | exact (Up.env S (Hid.out (by assumption))))).mono ?_); rintro r w3 ⟨rfl, b3⟩)
          go_ret
          exact ⟨rfl, bb (HI.out.kept.below (Nat.le_refl _)) b3⟩
    · obtain rfl : n = m := by omega
      have htk : ls.take n = ls := List.take_of_length_le (by rw [HL.out]; exact Nat.le_refl _)
      have hok := HI.out.ok
      obtain ⟨d, u⟩ := HI.out.st
      have hkp := HI.out.kept
      rw [htk] at hok u
      have hz1 : sizes ls ≤ 24000 := by have := sizes_le400 (ls := ls) (fun y hy => (hok y hy).2); have := HL.out; omega
      have HZ1 := Lib.hid hz1
      have HU := Lib.hid u
      have HKP := Lib.hid hkp
      clear hok u hkp htk hlt hz1 HI
      go_wp2_with fail
      go_loopw [14] (fun iv wx => ∃ k : Nat, k ≤ n' ∧ iv = .int .i64 k ∧ (∀ j (hj : j < ls'.length), j < k → 1 ≤ ls'[j].length ∧ ls'[j].length ≤ 300) ∧ wr = wx) (fun iv _ => n' - (intOf iv).toNat)
      case atStart => exact ⟨0, Nat.zero_le _, rfl, fun j _ h => absurd h (Nat.not_lt_zero _), rfl⟩
      case round =>
        obtain ⟨k, hk, rfl, hok, rfl⟩ := hrel
        have HOK := Lib.hid hok
        clear hok
        by_cases hlt : k < n'
        · obtain ⟨b, off, rfl, hc0⟩ := HT'.out.base (by omega)
          have hkl : k < ls'.length := by rw [HL'.out]; exact hlt
          have hcw := hc0 k hkl
          clear hc0
          have hcl := HKP.out.cell hcw (World.block_lt_of_cell? w _ hcw)
          have hnx : 1 ≤ ls'[k].length → ls'[k].length ≤ 300 → ∀ j (hj : j < ls'.length), j < k + 1 → 1 ≤ ls'[j].length ∧ ls'[j].length ≤ 300 := fun h1 h2 j hj hjk => by
            by_cases hjk2 : j < k
            · exact HOK.out j hj hjk2
            · obtain rfl : j = k := by omega
              exact ⟨h1, h2⟩
          clear hcw
          generalize ls'[k] = y at hcl hnx
          have HNX := Lib.hid hnx
          clear hnx
          by_cases hx0 : y = []
          · subst hx0
            go_wp2_with (go_at_call 13; (with_reducible refine (HW.out _ (by first | exact E | exact E.below (HI.out.kept.below (Nat.le_refl _)) | exact (S.disk g10).env | exact E.below (bb (KA.out.below (Nat.le_refl _)) (bb b17 b18)) | exact E.below (by first | assumption | exact Below.refl _ _) | exact E.below (bb (by assumption) (by assumption)) | exact (DkOff.env (by assumption)) | exact (Dn.env (by assumption)) | exact (Up.env S (by assumption)) | exact (DkOff.env (Hid.out (by assumption))) | exact (Dn.env (Hid.out (by assumption))) | exact (Up.env S (Hid.out (by assumption))))).mono ?_); rintro r w3 ⟨rfl, b3⟩)
            go_ret
            exact ⟨rfl, bb (HKP.out.below (Nat.le_refl _)) b3⟩
          · have he1 : ¬ (B y).toList = [] := by rw [ByteArray.toList_mk y]; exact hx0
            have he2 : (B y).toList.isEmpty = false := by rw [ByteArray.toList_mk y]; cases y with | nil => exact absurd rfl hx0 | cons z t => rfl
            by_cases hx1 : y.length ≤ 300
            · have hS : ((B y).size : Int) ≤ 300 := by rw [B_size]; omega
              have hx1' : 1 ≤ y.length := by cases y with | nil => exact absurd rfl hx0 | cons z t => simp
              have HN2 := Lib.hid (HNX.out hx1' hx1)
              generalize B y = Sx at *
              clear hx0 hx1 hx1' HNX
              go_wp2
              go_roundw
              case rel => exact ⟨k + 1, by omega, by go_num, HN2.out, by first | rfl | trivial⟩
              case measure => simp [intOf]; omega
            · have hgt : 300 < ((B y).size : Int) := by rw [B_size]; omega
              generalize B y = Sx at hcl he1 he2 hgt
              clear hx0 hx1
              go_wp2_with (go_at_call 13; (with_reducible refine (HW.out _ (by first | exact E | exact E.below (HI.out.kept.below (Nat.le_refl _)) | exact (S.disk g10).env | exact E.below (bb (KA.out.below (Nat.le_refl _)) (bb b17 b18)) | exact E.below (by first | assumption | exact Below.refl _ _) | exact E.below (bb (by assumption) (by assumption)) | exact (DkOff.env (by assumption)) | exact (Dn.env (by assumption)) | exact (Up.env S (by assumption)) | exact (DkOff.env (Hid.out (by assumption))) | exact (Dn.env (Hid.out (by assumption))) | exact (Up.env S (Hid.out (by assumption))))).mono ?_); rintro r w3 ⟨rfl, b3⟩)
              go_ret
              exact ⟨rfl, bb (HKP.out.below (Nat.le_refl _)) b3⟩
        · obtain rfl : n' = k := by omega
          have hfit : ∀ y ∈ ls', 1 ≤ y.length ∧ y.length ≤ 300 := fun y hy => by
            obtain ⟨j, hj, rfl⟩ := List.getElem_of_mem hy
            exact HOK.out j hj (by rw [← HL'.out]; exact hj)
          have hz2 : sizes ls' ≤ 24000 := by have := sizes_le400 (ls := ls') (fun y hy => (hfit y hy).2); have := HL'.out; omega
          have HFIT := Lib.hid hfit
          have HZ2 := Lib.hid hz2
          have hkb : 0 < n' → ∀ b, a' = some b → b.block < w.heap.size := fun h0 b hb => by
            obtain ⟨b', off', e, hc0⟩ := HT'.out.base h0
            rw [hb] at e
            cases e
            exact World.block_lt_of_cell? w _ (hc0 0 (by rw [HL'.out]; exact h0))
          have HKB := Lib.hid hkb
          clear hfit hz2 hkb HOK hlt
          go_upto_region 22 with (first
            | (go_at_call 10; (with_reducible refine (HU.out.sync S (by have := HZ1.out; omega) (show n ≤ 900 by omega)).mono ?_); rintro r w3 ⟨rfl, k3, d3, u3⟩)
            | (go_at_call 15; (with_reducible refine (u3.setFuse S fuse hf1).mono ?_); rintro r w4 ⟨rfl, k4, d4, u4⟩))
          have hk4 := (HKP.out.trans k3 (fun _ _ h => h)).trans k4 (fun _ _ h => h)
          have hren := u4.renew S (c := c') (HT'.out.below (hk4.below (Nat.le_refl _))) HKB.out (by omega) HFIT.out (by have := HZ1.out; have := HZ2.out; omega) (show n ≤ 900 by omega)
          have HREN := Lib.hid hren
          have HK4 := Lib.hid hk4
          clear hren hk4 u3 u4 k3 k4
          go_upto_region 23 with (go_at_call 11; (with_reducible refine HREN.out.mono ?_); rintro r w5 ⟨z, rfl, k5, hz⟩)
          have HK5 := Lib.hid (HK4.out.trans k5 (fun _ _ h => h))
          clear k5 HREN HK4
          rcases hz with ⟨rfl, d5, o5⟩ | ⟨rfl, d5, D5⟩
          · have hm9 : n + 1 ≤ 900 := by omega
            have hz4 : sizes ls' ≤ 4194304 := by have := HZ2.out; omega
            go_wp2_with (first
              | (go_at_call 16; (with_reducible refine (o5.dead?).mono ?_); rintro r w6 ⟨rfl, rfl⟩)
              | (go_at_call 17; (with_reducible refine (o5.crash keep hk1 hz4 hm9).mono ?_); rintro r w6 ⟨rfl, k6, d6, o6, f6⟩)
              | (go_at_call 18; (with_reducible refine (o6.start f6).mono ?_); rintro r w7 ⟨rfl, k7, d7, o7, f7⟩)
              | (go_at_call 8
                 (with_reducible refine (o7.opens S f7 hz4 hm9).mono ?_)
                 rw [HL'.out]
                 rintro r w8 ⟨x8, a8, c8, d8, rfl, row8, k8, g8, s8, n8⟩
                 have t8 := own_txt row8
                 have kA := ((HK5.out.trans k6 (fun _ _ h => h)).trans k7 (fun _ _ h => h)).trans k8 (fun _ _ h => h)
                 have t0 := HT'.out.below (kA.below (Nat.le_refl _))
                 have KA := Lib.hid kA
                 clear kA row8)
              | (go_at_call 19; (with_reducible refine (same_any a8 a' n' c8 c' ls' w8 t8 t0 (by omega)).mono ?_); rintro r w9 ⟨rfl, b9⟩; have hsg := S.segments (S.below g8 b9) s8; rw [n8] at hsg)
              | (go_at_call 12; (with_reducible refine hsg.mono ?_); rintro r w10 ⟨rfl, g10, k10⟩)
              | (go_at_call 13; (with_reducible refine (HW.out _ (by first | exact E | exact E.below (HI.out.kept.below (Nat.le_refl _)) | exact (S.disk g10).env | exact E.below (bb (KA.out.below (Nat.le_refl _)) (bb b17 b18)) | exact E.below (by first | assumption | exact Below.refl _ _) | exact E.below (bb (by assumption) (by assumption)) | exact (DkOff.env (by assumption)) | exact (Dn.env (by assumption)) | exact (Up.env S (by assumption)) | exact (DkOff.env (Hid.out (by assumption))) | exact (Dn.env (Hid.out (by assumption))) | exact (Up.env S (Hid.out (by assumption))))).mono ?_); rintro r w11 ⟨rfl, b11⟩))
            go_ret
            refine ⟨rfl, ?_⟩
            have kB := ((KA.out.trans (Kept.of_below (K := fun k => k < w.heap.size) b9) (fun _ _ h => h)).trans k10 (fun _ _ h => .inl h)).trans (Kept.of_below (K := fun k => k < w.heap.size) b11) (fun _ _ h => h)
            exact kB.below (Nat.le_refl _)
          · rw [HL.out] at D5
            have hm9 : n + 1 ≤ 900 := by omega
            have hz5 : sizes (ls ++ ls') ≤ 4194304 := by rw [sizes_append]; have := HZ1.out; have := HZ2.out; omega
            have hl5 : (ls ++ ls').length = n + n' := by rw [List.length_append, HL.out, HL'.out]
            have HL5 := Lib.hid hl5
            clear hl5
            go_upto_region 33 with (first
              | (go_at_call 16; (with_reducible refine (D5.dead?).mono ?_); rintro r w6 ⟨rfl, rfl⟩)
              | (go_at_call 18; (with_reducible refine (D5.start).mono ?_); rintro r w7 ⟨rfl, k7, d7, D7⟩)
              | (go_at_call 8
                 (with_reducible refine (D7.opens S hz5 hm9).mono ?_)
                 rw [HL5.out]
                 rintro r w8 ⟨k, x8, a8, c8, d8, hk2, hk3, rfl, row8, k8, u8'⟩
                 obtain ⟨j, rfl⟩ : ∃ j, k = n + j := ⟨k - n, by omega⟩
                 rw [row_split HL.out] at row8
                 have t8 := own_txt row8
                 have kA := ((HK5.out.trans k7 (fun _ _ h => h)).trans k8 (fun _ _ h => h))
                 have t0 := HT.out.below (kA.below (Nat.le_refl _))
                 have t0' := HT'.out.below (kA.below (Nat.le_refl _))
                 have KA := Lib.hid kA
                 have hn8 := own_nil row8
                 have hc8 : n + j ≤ c8 := own_cap row8
                 clear kA row8 u8' k8))
            have hjn : j ≤ n' := by omega
            have hjc : j ≤ c' := by omega
            have hnj : (n : Int) + (j : Int) - (n : Int) = (j : Int) := by omega
            have hnj2 : ((n + j : Nat) : Int) - (n : Int) = (j : Int) := by omega
            have hmx : max (j : Int) 0 = (j : Int) := by omega
            have hj0 : (0 : Int) ≤ (j : Int) := by omega
            have hjn' : (j : Int) ≤ (n' : Int) := by omega
            have dB : Below w8.heap.size w8 w8.drew := (Below.refl _ w8).drew
            have HT0 := Lib.hid (t0.below dB)
            have HT0' := Lib.hid ((t0'.below dB).first j hjn)
            have HT8 := Lib.hid t8
            clear t0 t0' t8
            rw [hnj]
            go_cut [21] (fun bv wx => bv = .bool true ∧ Below w8.heap.size w8 wx)
            case first =>
              refine wp_region_held_drew (S := fun _ => True) (by kernel_rfl) trivial (fun hHeld => ?_)
              refine take_run (i := 0) (v := ?_) rfl (by kernel_rfl) (by kernel_rfl) (by kernel_rfl) (fun _ _ _ h => h) (by kernel_rfl) ?_ (by assumption) ?_
              rotate_left
              · (intro w hSw; (try dsimp only at hSw); go_simp); all_goals with_reducible rfl
              try simp only [Act.put, List.setIfInBounds_toArray, List.set_cons_zero, List.set_cons_succ]
              refine take_run (i := 1) (v := ?_) rfl (by kernel_rfl) (by kernel_rfl) (by kernel_rfl) (fun _ _ _ h => h) (by kernel_rfl) ?_ (by assumption) ?_
              rotate_left
              · (intro w hSw; (try dsimp only at hSw); go_simp); all_goals with_reducible rfl
              try simp only [Act.put, List.setIfInBounds_toArray, List.set_cons_zero, List.set_cons_succ]
              refine take_run (i := 2) (v := ?_) rfl (by kernel_rfl) (by kernel_rfl) (by kernel_rfl) (fun _ _ _ h => h) (by kernel_rfl) ?_ (by assumption) ?_
              rotate_left
              · (intro w hSw; (try dsimp only at hSw); go_simp); all_goals with_reducible rfl
              try simp only [Act.put, List.setIfInBounds_toArray, List.set_cons_zero, List.set_cons_succ]
              refine take_run (i := 3) (v := ?_) rfl (by kernel_rfl) (by kernel_rfl) (by kernel_rfl) (fun _ _ _ h => h) (by kernel_rfl) ?_ (by assumption) ?_
              rotate_left
              · (intro w hSw; (try dsimp only at hSw); go_simp); all_goals with_reducible rfl
              try simp only [Act.put, List.setIfInBounds_toArray, List.set_cons_zero, List.set_cons_succ]
              refine take_run (i := 4) (v := ?_) rfl (by kernel_rfl) (by kernel_rfl) (by kernel_rfl) (fun _ _ _ h => h) (by kernel_rfl) ?_ (by assumption) ?_
              rotate_left
              · (intro w hSw; (try dsimp only at hSw); go_simp); all_goals with_reducible rfl
              try simp only [Act.put, List.setIfInBounds_toArray, List.set_cons_zero, List.set_cons_succ]
              refine take_run (i := 5) (v := ?_) rfl (by kernel_rfl) (by kernel_rfl) (by kernel_rfl) (fun _ _ _ h => h) (by kernel_rfl) ?_ (by assumption) ?_
              rotate_left
              · (intro w hSw; (try dsimp only at hSw); go_simp); all_goals with_reducible rfl
              try simp only [Act.put, List.setIfInBounds_toArray, List.set_cons_zero, List.set_cons_succ]
              refine take_run (i := 6) (v := ?_) rfl (by kernel_rfl) (by kernel_rfl) (by kernel_rfl) (fun _ _ _ h => h) (by kernel_rfl) ?_ (by assumption) ?_
              rotate_left
              · (intro w hSw; (try dsimp only at hSw); go_simp); all_goals with_reducible rfl
              try simp only [Act.put, List.setIfInBounds_toArray, List.set_cons_zero, List.set_cons_succ]
              refine take_run (i := 7) (v := ?_) rfl (by kernel_rfl) (by kernel_rfl) (by kernel_rfl) (fun _ _ _ h => h) (by kernel_rfl) ?_ (by assumption) ?_
              rotate_left
              · (intro w hSw; (try dsimp only at hSw); go_simp); all_goals with_reducible rfl
              try simp only [Act.put, List.setIfInBounds_toArray, List.set_cons_zero, List.set_cons_succ]
              refine take_run (i := 8) (v := ?_) rfl (by kernel_rfl) (by kernel_rfl) (by kernel_rfl) (fun _ _ _ h => h) (by kernel_rfl) ?_ (by assumption) ?_
              rotate_left
              · (intro w hSw; (try dsimp only at hSw); go_simp); all_goals with_reducible rfl
              try simp only [Act.put, List.setIfInBounds_toArray, List.set_cons_zero, List.set_cons_succ]
              refine take_run (i := 9) (v := ?_) rfl (by kernel_rfl) (by kernel_rfl) (by kernel_rfl) (fun _ _ _ h => h) (by kernel_rfl) ?_ (by assumption) ?_
              rotate_left
              · (intro w hSw; (try dsimp only at hSw); go_simp); all_goals with_reducible rfl
              try simp only [Act.put, List.setIfInBounds_toArray, List.set_cons_zero, List.set_cons_succ]
              refine take_run (i := 10) (v := ?_) rfl (by kernel_rfl) (by kernel_rfl) (by kernel_rfl) (fun _ _ _ h => h) (by kernel_rfl) ?_ (by assumption) ?_
              rotate_left
              · (intro w hSw; (try dsimp only at hSw); go_simp); all_goals with_reducible rfl
              try simp only [Act.put, List.setIfInBounds_toArray, List.set_cons_zero, List.set_cons_succ]
              refine take_run (i := 12) (v := ?_) rfl (by kernel_rfl) (by kernel_rfl) (by kernel_rfl) (fun _ _ _ h => h) (by kernel_rfl) ?_ (by assumption) ?_
              rotate_left
              · (intro w hSw; (try dsimp only at hSw); go_simp); all_goals with_reducible rfl
              try simp only [Act.put, List.setIfInBounds_toArray, List.set_cons_zero, List.set_cons_succ]
              refine take_run (i := 13) (v := ?_) rfl (by kernel_rfl) (by kernel_rfl) (by kernel_rfl) (fun _ _ _ h => h) (by kernel_rfl) ?_ (by assumption) ?_
              rotate_left
              · (intro w hSw; (try dsimp only at hSw); go_simp); all_goals with_reducible rfl
              try simp only [Act.put, List.setIfInBounds_toArray, List.set_cons_zero, List.set_cons_succ]
              refine take_run (i := 14) (v := ?_) rfl (by kernel_rfl) (by kernel_rfl) (by kernel_rfl) (fun _ _ _ h => h) (by kernel_rfl) ?_ (by assumption) ?_
              rotate_left
              · (intro w hSw; (try dsimp only at hSw); go_simp); all_goals with_reducible rfl
              try simp only [Act.put, List.setIfInBounds_toArray, List.set_cons_zero, List.set_cons_succ]
              refine take_run (i := 15) (v := ?_) rfl (by kernel_rfl) (by kernel_rfl) (by kernel_rfl) (fun _ _ _ h => h) (by kernel_rfl) ?_ (by assumption) ?_
              rotate_left
              · (intro w hSw; (try dsimp only at hSw); go_simp); all_goals with_reducible rfl
              try simp only [Act.put, List.setIfInBounds_toArray, List.set_cons_zero, List.set_cons_succ]
              refine take_call (i := 11) rfl (by kernel_rfl) (by kernel_rfl) (fun K hK => ?_)
              refine wp_append_txt _ _ _ (by rfl) w8.heap.size (.slice none 0 0) 0 [] (by rfl) (World.ownsRow_nil _ _ _ _) a n c ls (by rfl) HT0.out HNIL.out (by omega) (Nat.le_refl _) ?_
              intro v14 w14 o14 g14
              simp only [Nat.zero_add, List.nil_append] at o14
              have b14 := dB.grown g14 (Nat.le_refl _) (by simp [Value.ownBlock])
              have b14' := (Below.refl w8.drew.heap.size w8.drew).grown g14 (Nat.le_refl _) (by simp [Value.ownBlock])
              have t14 := HT0'.out.below b14'
              (try go_wp2_with fail)
              clear hHeld
              refine hK.out _ _ ?_ (fun hHeld => ?_)
              · trivial
              clear hK K
              try simp only [Act.put, List.setIfInBounds_toArray, List.set_cons_zero, List.set_cons_succ]
              refine take_call (i := 16) rfl (by kernel_rfl) (by kernel_rfl) (fun K hK => ?_)
              refine wp_append_txt _ _ _ (by rfl) w8.heap.size v14 n ls (by rfl) o14 a' j c' (ls'.take j) (by rfl) t14 HNIL'.out (by omega) b14.size ?_
              intro v16 w16 o16 g16
              obtain ⟨a16, c16, rfl⟩ := row_val o16
              have b16 := b14.grown g16 b14.size (fun i hi => (o14.lt i hi).1)
              have t16 := own_txt o16
              have t88 := HT8.out.below b16
              (try go_wp2_with fail)
              clear hHeld
              refine hK.out _ _ ?_ (fun hHeld => ?_)
              · trivial
              clear hK K
              try simp only [Act.put, List.setIfInBounds_toArray, List.set_cons_zero, List.set_cons_succ]
              refine take_call (i := 17) rfl (by kernel_rfl) (by kernel_rfl) (fun K hK => ?_)
              go_simp
              refine (same_any a8 a16 (n + j) c8 c16 _ w16 t88 t16 (by omega)).mono ?_
              rintro r w17 ⟨rfl, b17⟩
              (try go_wp2_with fail)
              clear hHeld
              refine hK.out _ _ ?_ (fun hHeld => ?_)
              · trivial
              clear hK K
              try simp only [Act.put, List.setIfInBounds_toArray, List.set_cons_zero, List.set_cons_succ]
              refine take_run (i := 18) (v := ?_) rfl (by kernel_rfl) (by kernel_rfl) (by kernel_rfl) (fun _ _ _ h => h) (by kernel_rfl) ?_ (by assumption) ?_
              rotate_left
              · (intro w hSw; (try dsimp only at hSw); go_simp); all_goals with_reducible rfl
              try simp only [Act.put, List.setIfInBounds_toArray, List.set_cons_zero, List.set_cons_succ]
              refine take_run (i := 19) (v := ?_) rfl (by kernel_rfl) (by kernel_rfl) (by kernel_rfl) (fun _ _ _ h => h) (by kernel_rfl) ?_ (by assumption) ?_
              rotate_left
              · (intro w hSw; (try dsimp only at hSw); go_simp); all_goals with_reducible rfl
              try simp only [Act.put, List.setIfInBounds_toArray, List.set_cons_zero, List.set_cons_succ]
              refine wpAnyH_done (by kernel_rfl) ?_ _
              go_wp2_with fail
              go_meet
              case rel => exact ⟨rfl, bb b16 b17⟩
            case rest =>
              obtain ⟨rfl, b17⟩ := hcut
              have hT9 := HT8.out.below b17
              have hE9 := HT.out.below ((KA.out.trans (Kept.of_below (K := fun k => k < w.heap.size) b17) (fun _ _ h => h)).below (Nat.le_refl _))
              have hL9 := HT'.out.below ((KA.out.trans (Kept.of_below (K := fun k => k < w.heap.size) b17) (fun _ _ h => h)).below (Nat.le_refl _))
              have hSS : ∀ (u : Option Addr) (m d : Nat) (ms : List Rec), Txt wc u m ms → m ≤ 1000000 → Calls Tryz.prog 19 #[.slice u m d, .slice a' n' c'] wc fun r w' => IsB r ∧ Below wc.heap.size wc w' := fun u m d ms hm hm2 => same_bool u a' m n' d c' ms ls' wc hm hL9 hm2 (by omega)
              have hEE : ∀ (v : World) (m d : Nat), Below wc.heap.size wc v → m ≤ n + j → Calls Tryz.prog 20 #[.slice a8 m d, .slice a n c] v fun r w' => IsB r ∧ Below v.heap.size v w' := fun v m d hv hm => ends_bool a8 a m n d c _ ls v ((hT9.below hv).first m hm) (hE9.below hv) (by omega) (by omega) hnc
              have HSS := Lib.hid hSS
              have HEE := Lib.hid hEE
              have HT9 := Lib.hid hT9
              clear hSS hEE hT9 hE9 hL9
              go_upto_region 35 with fail
              go_cut [18, 22, 23] (fun _ _ bv wx => (∃ t : Bool, bv = .bool t) ∧ Below wc.heap.size wc wx)
              case first =>
                by_cases hle : n' ≤ n + j
                · obtain ⟨i, hi⟩ : ∃ i : Nat, n + j - n' = i := ⟨_, rfl⟩
                  have hi2 : (n : Int) + (j : Int) - (n' : Int) = (i : Int) := by omega
                  have hmi : max (i : Int) 0 = (i : Int) := by omega
                  have hi0 : (0 : Int) ≤ (i : Int) := by omega
                  have hin : i ≤ n + j := by omega
                  have hic : i ≤ c8 := by omega
                  have hlast := HT9.out.last i hin
                  have HLAST := Lib.hid hlast
                  clear hlast hi
                  rw [hi2]
                  go_wp2_with (first
                    | (go_at_call 19
                       first
                         | (with_reducible refine (HSS.out _ _ _ _ HLAST.out (by omega)).mono ?_)
                         | (refine (HSS.out _ _ _ [] (by rw [show n + j - i = 0 from by omega]; exact Txt.none _ _) (by omega)).mono ?_)
                       rintro r w18 ⟨⟨t, rfl⟩, b18⟩
                       cases t)
                    | (go_at_call 20; (with_reducible refine (HEE.out _ _ _ b18 hin).mono ?_); rintro r w19 ⟨⟨t2, rfl⟩, b19⟩))
                  all_goals try (go_wp2_with (go_at_call 20; (with_reducible refine (HEE.out _ _ _ b18 hin).mono ?_); rintro r w19 ⟨⟨t2, rfl⟩, b19⟩))
                  all_goals go_meet
                  all_goals first
                    | exact ⟨⟨_, rfl⟩, b18⟩
                    | exact ⟨⟨_, rfl⟩, bb b18 b19⟩
                · have hneg : ¬ (0 : Int) ≤ (n : Int) + (j : Int) - (n' : Int) := by omega
                  go_wp2_with fail
                  go_meet
                  case rel => exact ⟨⟨_, rfl⟩, Below.refl _ _⟩
              case rest =>
                obtain ⟨⟨t, rfl⟩, b18⟩ := hcut
                go_wp2_with (go_at_call 13; (with_reducible refine (HW.out _ (by first | exact E | exact E.below (HI.out.kept.below (Nat.le_refl _)) | exact (S.disk g10).env | exact E.below (bb (KA.out.below (Nat.le_refl _)) (bb b17 b18)) | exact E.below (by first | assumption | exact Below.refl _ _) | exact E.below (bb (by assumption) (by assumption)) | exact (DkOff.env (by assumption)) | exact (Dn.env (by assumption)) | exact (Up.env S (by assumption)) | exact (DkOff.env (Hid.out (by assumption))) | exact (Dn.env (Hid.out (by assumption))) | exact (Up.env S (Hid.out (by assumption))))).mono ?_); rintro r w20 ⟨rfl, b20⟩)
                go_ret
                refine ⟨rfl, ?_⟩
                have kB := KA.out.trans (Kept.of_below (K := fun k => k < w.heap.size) (bb (bb b17 b18) b20)) (fun _ _ h => h)
                exact kB.below (Nat.le_refl _)

end Go.Proofs.YtjidadolfpjdeaaGreatDoor
