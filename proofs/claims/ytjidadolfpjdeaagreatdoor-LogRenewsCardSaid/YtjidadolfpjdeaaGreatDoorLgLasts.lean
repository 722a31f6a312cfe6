/-
  The law LogLasts over this translation, over a LogSpec.
-/
import Derived.Test.YtjidadolfpjdeaaGreatDoorMk
import Derived.Test.YtjidadolfpjdeaaGreatDoorLgUse
import Derived.Deep.DeepCutAuto
import Derived.Deep.CutBlock
import Derived.Deep.CutRange
namespace Go.Proofs.YtjidadolfpjdeaaGreatDoor
open Go.RowKit
set_option linter.unusedVariables false
variable {G : (Nat → Prop) → World → Addr → Nat → PD → Prop}

theorem Kept.cell {K : Nat → Prop} {w w' : World} (h : Kept K w w') {ad : Addr} {v : Value} (hc : w.cell? ad = some v) (hK : K ad.block) : w'.cell? ad = some v :=
  (World.cell?_of_block (h.heap (World.block_lt_of_cell? w _ hc) hK)).trans hc

set_option maxRecDepth 100000 in
set_option maxHeartbeats 1000000 in
/-- Too many: 'wakes' alone. -/
theorem lasts_long (S : LogSpec G) (a : Option Addr) (n c : Nat) (sync fuse keep : Int) {w : World} (E : Env w) (h : 60 < (n : Int)) :
    Calls Tryz.prog 4 #[.slice a n c, .int .u8 sync, .int .i64 fuse, .int .i64 keep] w fun e w' => e = .returned (.bool true) ∧ Below w.heap.size w w' := by
  have HW := Lib.hid (fun v (E : Env v) => S.wakes E)
  go_enter Tryz.func4, Tryz.ntmps4
  go_wp2_with (go_at_call 13; (with_reducible refine (HW.out _ (by first | exact E | exact (Up.env S u13).below (bb b16 b17) | exact E.below (by first | assumption | exact Below.refl _ _) | exact E.below (bb (by assumption) (by assumption)) | exact (DkOff.env (by assumption)) | exact (Dn.env (by assumption)) | exact (Up.env S (by assumption)) | exact (DkOff.env (Hid.out (by assumption))) | exact (Dn.env (Hid.out (by assumption))) | exact (Up.env S (Hid.out (by assumption))))).mono ?_); rintro r w1 ⟨rfl, b1⟩)
  go_ret
  exact ⟨rfl, b1⟩

/-- Between two rounds of the second loop: m records are added. -/
structure LsI (G : (Nat → Prop) → World → Addr → Nat → PD → Prop) (w : World) (x : Addr) (p : Nat) (ls : List Rec) (sure m : Nat) (W : World) : Prop where
  st : ∃ d s f, Up G (fun k => k < w.heap.size) W x p d (ls.take m) s m f ∧ (m ≤ sure → f = -1) ∧ (sure < m → s = sure)
  kept : Kept (fun k => k < w.heap.size) w W

/-- Behind the loop. -/
structure LsE (G : (Nat → Prop) → World → Addr → Nat → PD → Prop) (w : World) (x : Addr) (p : Nat) (ls : List Rec) (sure m : Nat) (W : World) : Prop where
  le : sure ≤ m
  st : (m = ls.length ∧ LsI G w x p ls sure m W) ∨ (m < ls.length ∧ ∃ d, Dn (fun k => k < w.heap.size) W p d (ls.take (m + 1)) sure (m + 1) true)
  kept : Kept (fun k => k < w.heap.size) w W

/-- .. with the record that was under way counted. -/
def LsQ (G : (Nat → Prop) → World → Addr → Nat → PD → Prop) (w : World) (x : Addr) (p : Nat) (ls : List Rec) (sure q : Nat) (W : World) : Prop :=
  (q = ls.length ∧ LsI G w x p ls sure q W) ∨ (sure < ls.length ∧ ∃ d, Dn (fun k => k < w.heap.size) W p d (ls.take q) sure q true)
/-- .. synced, if all of them were to be. -/
def LsR (G : (Nat → Prop) → World → Addr → Nat → PD → Prop) (w : World) (x : Addr) (p : Nat) (ls : List Rec) (sure q : Nat) (up : Bool) (W : World) : Prop :=
  (up = true ∧ q = ls.length ∧ ∃ d s f, sure ≤ s ∧ Up G (fun k => k < w.heap.size) W x p d ls s q f) ∨ (up = false ∧ ∃ d, Dn (fun k => k < w.heap.size) W p d (ls.take q) sure q true)
theorem TornSt.less {d : PD} {R : List Rec} {s s' M : Nat} (h : TornSt d R s M) (hs : s' ≤ s) : TornSt d R s' M := by
  rcases h with ⟨h1, h2, rfl, h4⟩ | ⟨first, cl, la, sy, n, h1, h2, h3, h4⟩
  · obtain rfl : s' = 0 := by omega
    exact .inl ⟨h1, h2, rfl, h4⟩
  · exact .inr ⟨first, cl, la, sy, n, h1, h2, by omega, h4⟩

theorem blk_of {a : Option Addr} {k c j : Nat} (h : (Value.slice a k c).ownBlock = some j) : ∃ b, a = some b ∧ j = b.block := by
  cases a with
  | none => cases h
  | some b => exact ⟨b, rfl, by simpa [Value.ownBlock] using h.symm⟩
theorem own_nil {w : World} {b n m : Nat} {a : Option Addr} {c : Nat} {xs : List Value} {t : TypeId} {sz : Nat} (h : w.ownsRow b t sz (.slice a n c) m xs) : a = none → c = 0 := by
  intro ha
  rcases h.2 with ⟨e, _⟩ | ⟨g, cap, cur, e, _⟩
  · cases e; rfl
  · subst ha; cases e
theorem txt_more (w : World) : Txt (w.alloc (.cells #[.string ⟨#[109, 111, 114, 101]⟩] 9)) (some ⟨w.heap.size, 0, none⟩) 1 [[109, 111, 114, 101]] := by
  refine ⟨rfl, fun j hj => ⟨w.heap.size, 0, rfl, ?_⟩⟩
  obtain rfl : j = 0 := by simpa using hj
  rw [cell_of_row _ w.heap.size (0 + 0) _ _ _ (World.alloc_heap_new w _)]
  rfl
theorem more_len : (frameL [109, 111, 114, 101]).length = 13 := by kernel_rfl
theorem more_size {s : Nat} (h : s ≤ 4000000) : s + (frameL [109, 111, 114, 101]).length ≤ 4194304 := by rw [more_len]; omega

theorem size_rec {x : Rec} (h : x.length ≤ 300) : (frameL x).length ≤ 400 := by
  rw [frameL_length, enc_length]
  have := nb_le8 (show x.length < 2 ^ 64 by omega)
  omega
theorem sizes_le400 : ∀ {ls : List Rec}, (∀ x ∈ ls, x.length ≤ 300) → sizes ls ≤ 400 * ls.length
  | [], _ => by simp [sizes]
  | x :: r, h => by
    have h1 := size_rec (h x (by simp))
    have h2 := sizes_le400 (ls := r) (fun y hy => h y (by simp [hy]))
    rw [sizes, List.length_cons]
    omega

set_option maxRecDepth 100000 in
set_option maxHeartbeats 4000000 in
theorem lasts_some (S : LogSpec G) (a : Option Addr) (n c : Nat) (ls : List Rec) (sync fuse keep : Int) {w : World} (E : Env w) (h : Txt w a n ls) (hnc : n ≤ c) (hn : (n : Int) ≤ 60) (hs0 : 0 ≤ sync) (hs1 : sync ≤ 255)
    (hf1 : fuse ≤ 9223372036854775807) (hk1 : keep ≤ 9223372036854775807) :
    Calls Tryz.prog 4 #[.slice a n c, .int .u8 sync, .int .i64 fuse, .int .i64 keep] w fun e w' => e = .returned (.bool true) ∧ Below w.heap.size w w' := by
  have HW := Lib.hid (fun v (E : Env v) => S.wakes E)
  have HT := Lib.hid h
  have HL := Lib.hid h.len
  clear h
  go_enter Tryz.func4, Tryz.ntmps4
  go_wp2
  go_loopw [9] (fun iv wr => ∃ k : Nat, k ≤ n ∧ iv = .int .i64 k ∧ (∀ j (hj : j < ls.length), j < k → 1 ≤ ls[j].length ∧ ls[j].length ≤ 300) ∧ w = wr) (fun iv _ => n - (intOf iv).toNat)
  case atStart => exact ⟨0, Nat.zero_le _, rfl, fun j _ h => absurd h (Nat.not_lt_zero _), rfl⟩
  case round =>
    obtain ⟨k, hk, rfl, hok, rfl⟩ := hrel
    have HOK := Lib.hid hok
    clear hok
    by_cases hlt : k < n
    · obtain ⟨b, off, rfl, hc0⟩ := HT.out.base (by omega)
      have hkl : k < ls.length := by rw [HL.out]; exact hlt
      have hcl := hc0 k hkl
      clear hc0
      have hnx : 1 ≤ ls[k].length → ls[k].length ≤ 300 → ∀ j (hj : j < ls.length), j < k + 1 → 1 ≤ ls[j].length ∧ ls[j].length ≤ 300 := fun h1 h2 j hj hjk => by
        by_cases hjk2 : j < k
        · exact HOK.out j hj hjk2
        · obtain rfl : j = k := by omega
          exact ⟨h1, h2⟩
      generalize ls[k] = x at hcl hnx
      have HNX := Lib.hid hnx
      clear hnx
      by_cases hx0 : x = []
      · subst hx0
        go_wp2_with (go_at_call 13; (with_reducible refine (HW.out _ (by first | exact E | exact (Up.env S u13).below (bb b16 b17) | exact E.below (by first | assumption | exact Below.refl _ _) | exact E.below (bb (by assumption) (by assumption)) | exact (DkOff.env (by assumption)) | exact (Dn.env (by assumption)) | exact (Up.env S (by assumption)) | exact (DkOff.env (Hid.out (by assumption))) | exact (Dn.env (Hid.out (by assumption))) | exact (Up.env S (Hid.out (by assumption))))).mono ?_); rintro r w1 ⟨rfl, b1⟩)
        go_ret
        exact ⟨rfl, b1⟩
      · have he1 : ¬ (B x).toList = [] := by rw [ByteArray.toList_mk x]; exact hx0
        have he2 : (B x).toList.isEmpty = false := by rw [ByteArray.toList_mk x]; cases x with | nil => exact absurd rfl hx0 | cons y t => rfl
        by_cases hx1 : x.length ≤ 300
        · have hS : ((B x).size : Int) ≤ 300 := by rw [B_size]; omega
          have hx1' : 1 ≤ x.length := by cases x with | nil => exact absurd rfl hx0 | cons y t => simp
          have HN2 := Lib.hid (HNX.out hx1' hx1)
          generalize B x = Sx at *
          clear hx0 hx1 hx1' HNX
          go_wp2
          go_roundw
          case rel => exact ⟨k + 1, by omega, by go_num, HN2.out, by first | rfl | trivial⟩
          case measure => simp [intOf]; omega
        · have hgt : 300 < ((B x).size : Int) := by rw [B_size]; omega
          generalize B x = Sx at hcl he1 he2 hgt
          clear hx0 hx1
          go_wp2_with (go_at_call 13; (with_reducible refine (HW.out _ (by first | exact E | exact (Up.env S u13).below (bb b16 b17) | exact E.below (by first | assumption | exact Below.refl _ _) | exact E.below (bb (by assumption) (by assumption)) | exact (DkOff.env (by assumption)) | exact (Dn.env (by assumption)) | exact (Up.env S (by assumption)) | exact (DkOff.env (Hid.out (by assumption))) | exact (Dn.env (Hid.out (by assumption))) | exact (Up.env S (Hid.out (by assumption))))).mono ?_); rintro r w1 ⟨rfl, b1⟩)
          go_ret
          exact ⟨rfl, b1⟩
    · obtain rfl : n = k := by omega
      have hf : ∀ x ∈ ls, 1 ≤ x.length ∧ x.length ≤ 300 := fun x hx => by
        obtain ⟨j, hj, rfl⟩ := List.getElem_of_mem hx
        exact HOK.out j hj (by rw [← HL.out]; exact hj)
      have HF := Lib.hid hf
      clear hf
      obtain ⟨sure, hsure, hsle⟩ : ∃ sure : Nat, sync.tmod ((n : Int) + 1) = (sure : Int) ∧ sure ≤ n := by
        refine ⟨sync.toNat % (n + 1), ?_, by have := Nat.mod_lt sync.toNat (show 0 < n + 1 by omega); omega⟩
        rw [Int.tmod_eq_emod_of_nonneg hs0]
        conv => lhs; rw [← Int.toNat_of_nonneg hs0]
        rfl
      have HN := Lib.hid (fun v (hb : Below w.heap.size w v) => new_off (E.below hb))
      have hcc1 : (0 : Int) < (n : Int) + 1 := by omega
      clear HOK hlt
      go_upto_block 2 with (first
        | (go_at_call 14; (with_reducible refine (HN.out _ (by first | exact Below.refl _ _ | assumption | exact (Below.refl _ _).alloc (Nat.le_refl _) _ | exact ((Below.refl _ _).alloc (Nat.le_refl _) _).alloc (by simp) _)).mono ?_); rintro r w1 ⟨p, rfl, d1, k1⟩)
        | (go_at_call 8; (with_reducible refine (S.new_up d1).mono ?_); rintro r w2 ⟨x, a2, c2, rfl, k2, u2⟩))
      go_cut [15] (fun av wx => ∃ m : Nat, m ≤ n ∧ av = .int .i64 m ∧ LsE G w x p ls sure m wx)
      case first =>
        go_wp2_with fail
        go_loopw [15, 16] (fun av iv wx => ∃ m : Nat, m ≤ n ∧ av = .int .i64 m ∧ iv = .int .i64 m ∧ LsI G w x p ls sure m wx) (fun _ iv _ => n - (intOf iv).toNat)
        case atStart => exact ⟨0, Nat.zero_le _, rfl, rfl, ⟨⟨_, _, _, u2, fun _ => rfl, fun h => absurd h (Nat.not_lt_zero _)⟩, (Kept.of_below k1).trans k2 (fun _ _ h => h)⟩⟩
        case round =>
          obtain ⟨m, hm, rfl, rfl, I⟩ := hrel
          obtain ⟨⟨d, s, f, u, hfu, hsu⟩, kp⟩ := I
          have HL2 : (ls.take m).length = m := by rw [List.length_take, HL.out]; omega
          have hz : sizes (ls.take m) ≤ 4194304 := by
            have := sizes_le400 (ls := ls.take m) (fun y hy => (HF.out y (List.mem_of_mem_take hy)).2)
            omega
          by_cases hlt : m < n
          · obtain ⟨b, off, ha, hc0⟩ := HT.out.base (by omega)
            have hml : m < ls.length := by rw [HL.out]; exact hlt
            have hcw := hc0 m hml
            have hbw : b < w.heap.size := World.block_lt_of_cell? w _ hcw
            have hcl := kp.cell hcw hbw
            clear hc0 hcw
            subst ha
            have hx12 := HF.out _ (List.getElem_mem hml)
            have htk : ls.take m ++ [ls[m]] = ls.take (m + 1) := (List.take_succ_eq_append_getElem hml).symm
            have hz2 : sizes (ls.take m) + (frameL ls[m]).length ≤ 4194304 := by
              have h1 := sizes_le400 (ls := ls.take m) (fun y hy => (HF.out y (List.mem_of_mem_take hy)).2)
              have h2 := size_rec hx12.2
              omega
            generalize ls[m] = y at hcl hx12 htk hz2
            have HX := Lib.hid hx12
            have HTK := Lib.hid htk
            have HZ2 := Lib.hid hz2
            have HZ := Lib.hid hz
            have HLL := Lib.hid HL2
            have HU := Lib.hid u
            have HFU := Lib.hid hfu
            have HSU := Lib.hid hsu
            have HKP := Lib.hid kp
            have hm900 : m ≤ 900 := by omega
            clear hx12 htk hz2 hz HL2 u hfu hsu kp
            by_cases hms : m = sure
            · subst hms
              go_wp2_with (first
                | (go_at_call 10; (with_reducible refine (HU.out.sync S HZ.out hm900).mono ?_); rintro r w3 ⟨rfl, k3, d3, u3⟩)
                | (go_at_call 15; (with_reducible refine (u3.setFuse S fuse hf1).mono ?_); rintro r w4 ⟨rfl, k4, d4, u4⟩; have hcl4 := k4.cell (k3.cell hcl hbw) hbw)
                | (go_at_call 9; (with_reducible refine (u4.add S HX.out.1 (by have := HX.out.2; omega) HZ2.out hm900).mono ?_); rintro r w5 ⟨z, rfl, k5, hz⟩; rcases hz with ⟨rfl, d5, f5, hf5, u5⟩ | ⟨rfl, hf0, d5, u5⟩))
              · rw [HLL.out, HTK.out] at u5
                go_roundw
                case rel => exact ⟨m + 1, by omega, by go_num, by go_num, ⟨⟨d5, m, f5, u5, fun h => absurd h (by omega), fun _ => rfl⟩, ((HKP.out.trans k3 (fun _ _ h => h)).trans k4 (fun _ _ h => h)).trans k5 (fun _ _ h => h)⟩⟩
                case measure => simp [intOf]; omega
              · rw [HLL.out, HTK.out] at u5
                go_meet
                case rel => exact ⟨m, hm, rfl, ⟨Nat.le_refl _, .inr ⟨by rw [HL.out]; exact hlt, d5, u5⟩, ((HKP.out.trans k3 (fun _ _ h => h)).trans k4 (fun _ _ h => h)).trans k5 (fun _ _ h => h)⟩⟩
            · go_wp2_with (first
                | (go_at_call 9; (with_reducible refine (HU.out.add S HX.out.1 (by have := HX.out.2; omega) HZ2.out hm900).mono ?_); rintro r w5 ⟨z, rfl, k5, hz⟩; rcases hz with ⟨rfl, d5, f5, hf5, u5⟩ | ⟨rfl, hf0, d5, u5⟩))
              · rw [HTK.out] at u5
                go_roundw
                case rel => exact ⟨m + 1, by omega, by go_num, by go_num, ⟨⟨d5, s, f5, u5, fun h => hf5 (HFU.out (by omega)), fun h => HSU.out (by omega)⟩, HKP.out.trans k5 (fun _ _ h => h)⟩⟩
                case measure => simp [intOf]; omega
              · rw [HTK.out] at u5
                have hsm : sure < m := by
                  apply Nat.lt_of_not_le
                  intro hle
                  have := HFU.out hle
                  omega
                have hs2 := HSU.out hsm
                subst hs2
                go_meet
                case rel => exact ⟨m, hm, rfl, ⟨by omega, .inr ⟨by rw [HL.out]; exact hlt, d5, u5⟩, HKP.out.trans k5 (fun _ _ h => h)⟩⟩
          · obtain rfl : n = m := by omega
            go_wp2_with fail
            go_meet
            case rel => exact ⟨n, Nat.le_refl _, rfl, ⟨hsle, .inl ⟨HL.out.symm, ⟨⟨d, s, f, u, hfu, hsu⟩, kp⟩⟩, kp⟩⟩
      case rest =>
        obtain ⟨m, hm, rfl, EE⟩ := hcut
        have hsm := EE.le
        have HEE := Lib.hid EE
        clear EE
        go_upto_if 99 with (fail)
        go_cut [15] (fun av wx => wc = wx ∧ ∃ q : Nat, q ≤ n ∧ sure ≤ q ∧ av = .int .i64 q ∧ LsQ G w x p ls sure q wx)
        case first =>
          by_cases hmn : m < n
          · go_wp2_with fail
            go_meet
            case rel =>
              refine ⟨rfl, m + 1, by omega, by omega, by go_num, .inr ⟨by rw [HL.out]; omega, ?_⟩⟩
              rcases HEE.out.st with ⟨h, _⟩ | ⟨_, h⟩
              · rw [HL.out] at h; omega
              · exact h
          · obtain rfl : n = m := by omega
            go_wp2_with fail
            go_meet
            case rel =>
              refine ⟨rfl, n, Nat.le_refl _, hsm, rfl, .inl ⟨HL.out.symm, ?_⟩⟩
              rcases HEE.out.st with ⟨_, h⟩ | ⟨h, _⟩
              · exact h
              · rw [HL.out] at h; omega
        case rest =>
          obtain ⟨rfl, q, hq, hsq, rfl, QQ⟩ := hcut
          have HKW := Lib.hid HEE.out.kept
          have hz : sizes ls ≤ 4194304 := by
            have h1 := sizes_le400 (ls := ls) (fun y hy => (HF.out y hy).2)
            have h2 := HL.out
            omega
          have HZ := Lib.hid hz
          have HQQ := Lib.hid QQ
          have hm900 : q ≤ 900 := by omega
          clear QQ hz HEE
          go_upto_region 27 with fail
          go_cut [110] (fun bv wx => bv = .bool false ∧ Kept (fun k => k < w.heap.size) w wx ∧ ∃ up, LsR G w x p ls sure q up wx)
          case first =>
            by_cases hsn : sure = n
            · obtain rfl : q = n := by omega
              have h1 : ∃ d s f, Up G (fun k => k < w.heap.size) wc x p d ls s q f := by
                rcases HQQ.out with ⟨_, I⟩ | ⟨h, _⟩
                · obtain ⟨⟨d, s, f, u, _, _⟩, _⟩ := I
                  rw [List.take_of_length_le (by rw [HL.out]; exact Nat.le_refl _)] at u
                  exact ⟨d, s, f, u⟩
                · rw [HL.out] at h; omega
              obtain ⟨d, s, f, u⟩ := h1
              have HU := Lib.hid u
              clear u
              subst hsn
              go_wp2_with (go_at_call 10; (with_reducible refine (HU.out.sync S HZ.out hm900).mono ?_); rintro r w3 ⟨rfl, k3, d3, u3⟩)
              go_meet
              case rel => exact ⟨rfl, HKW.out.trans k3 (fun _ _ h => h), true, .inl ⟨rfl, HL.out.symm, d3, _, f, by rw [HL.out]; exact Nat.le_refl _, u3⟩⟩
            · have hst : ∃ up, LsR G w x p ls sure q up wc := by
                rcases HQQ.out with ⟨h1, I⟩ | ⟨_, h⟩
                · obtain ⟨⟨d, s, f, u, _, h2⟩, _⟩ := I
                  rw [List.take_of_length_le (by omega)] at u
                  exact ⟨true, .inl ⟨rfl, h1, d, s, f, by rw [h2 (by rw [h1, HL.out]; omega)]; exact Nat.le_refl _, u⟩⟩
                · exact ⟨false, .inr ⟨rfl, h⟩⟩
              have hIs : ¬ (sure : Int) = (n : Int) := by omega
              have hIb : ((sure : Int) == (n : Int)) = false := by simpa using hIs
              have HST := Lib.hid hst
              clear hst
              go_wp2_with fail
              go_meet
              case rel => exact ⟨rfl, HKW.out, HST.out⟩
          case rest =>
            obtain ⟨rfl, kp, up, R⟩ := hcut
            have HKP := Lib.hid kp
            have HR := Lib.hid R
            clear kp R HKW HQQ
            go_upto_region 29 with fail
            go_cut [113] (fun bv wx => bv = .bool up ∧ wx = wc)
            case first =>
              rcases HR.out with ⟨rfl, h1, d, s, f, hs, u⟩ | ⟨rfl, d, D⟩
              · have H1 := Lib.hid h1
                clear h1
                go_wp2_with (go_at_call 16; (with_reducible refine (u.isDead S).mono ?_); rintro r w3 ⟨rfl, rfl⟩)
                go_meet
                case rel => exact ⟨rfl, rfl⟩
              · go_wp2_with (go_at_call 16; (with_reducible refine (D.dead?).mono ?_); rintro r w3 ⟨rfl, rfl⟩)
                go_meet
                case rel => exact ⟨rfl, rfl⟩
            case rest =>
              obtain ⟨rfl, rfl⟩ := hcut
              go_upto_if 113 with (fail)
              go_cut [] (fun wx => Kept (fun k => k < w.heap.size) w wx ∧ ∃ d, Dn (fun k => k < w.heap.size) wx p d (ls.take q) sure q true)
              case first =>
                rcases HR.out with ⟨rfl, h1, d, s, f, hs, u⟩ | ⟨rfl, d, D⟩
                · have H1 := Lib.hid h1
                  clear h1
                  go_wp2_with (go_at_call 17; (with_reducible refine (u.crash S keep hk1 HZ.out hm900).mono ?_); rintro r w3 ⟨rfl, k3, d3, D3⟩)
                  go_meet
                  case rel => exact ⟨HKP.out.trans k3 (fun _ _ h => h), d3, by rw [List.take_of_length_le (by have := H1.out; omega)]; exact ⟨D3.disk, D3.st.less hs, D3.isDead, D3.fuse⟩⟩
                · go_wp2_with fail
                  go_meet
                  case rel => exact ⟨HKP.out, d, D⟩
              case rest =>
                obtain ⟨kp, d, D⟩ := hcut
                clear HKP HR
                have HD := Lib.hid D
                have HKP := Lib.hid kp
                clear D kp
                have hql : (ls.take q).length = q := by rw [List.length_take, HL.out]; omega
                have hqz : sizes (ls.take q) ≤ 4194304 := by have := sizes_take_le ls q; have := HZ.out; omega
                have HQL := Lib.hid hql
                have HQZ := Lib.hid hqz
                clear hql hqz
                go_upto_region 34 with (first
                  | (go_at_call 18; (with_reducible refine (HD.out.start).mono ?_); rintro r w6 ⟨rfl, k6, d6, D6⟩)
                  | (go_at_call 8; (with_reducible refine (D6.opens S HQZ.out hm900).mono ?_); rintro r w7 ⟨k, x7, a7, c7, d7, hk1, hk2, rfl, row7, k7, u7⟩; rw [HQL.out] at hk2; have hkt : (ls.take q).take k = ls.take k := (by rw [List.take_take, Nat.min_eq_left hk2]); rw [hkt] at row7 u7; have hkl : (ls.take k).length = k := (by rw [List.length_take, HL.out]; omega); have hkz : sizes (ls.take k) ≤ 4194304 := (by have := sizes_take_le ls k; have := HZ.out; omega); have HKZ := Lib.hid hkz; have HKL := Lib.hid hkl; have HROW7 := Lib.hid row7; clear hkt hkz hkl row7)
                  | (go_at_call 8; (with_reducible refine (u7.opens S HKZ.out hm900).mono ?_); rw [HKL.out]; rintro r w8 ⟨y8, a8, c8, d8, rfl, row8, k8, u8'⟩; have HROW8 := Lib.hid row8; clear row8))
                have hkq : k ≤ n := Nat.le_trans hk2 hq
                have hkc : k ≤ c := Nat.le_trans hkq hnc
                have hsk : ¬ (k : Int) < (sure : Int) := by omega
                have hqk : ¬ (k : Int) > (q : Int) := by omega
                have KA := Lib.hid (((HKP.out.trans k6 (fun _ _ h => h)).trans k7 (fun _ _ h => h)).trans k8 (fun _ _ h => .inl h))
                have hr7 := k8.row HROW7.out (fun j hj => .inr (blk_of hj))
                have t7 := own_txt hr7
                have t8 := own_txt HROW8.out
                have t0 := (HT.out.below (KA.out.below (Nat.le_refl _))).first k hkq
                have hn7 := own_nil hr7
                have hk6 : k ≤ 1000000 := by omega
                have HR7 := Lib.hid hr7
                have HN7 := Lib.hid hn7
                have HU8 := Lib.hid u8'
                clear hr7 hn7 u8' u7 k8 k7 k6 D6 HROW7
                go_cut [167] (fun bv wx => bv = .bool false ∧ Below w8.heap.size w8 wx)
                case first =>
                  go_wp2_with (first
                    | (go_at_call 19; (with_reducible refine (same_any a7 a k c7 c (ls.take k) w8 t7 t0 hk6).mono ?_); rintro r w9 ⟨rfl, b9⟩; have t7' := t7.below b9; have t8' := t8.below b9)
                    | (go_at_call 19; (with_reducible refine (same_any a8 a7 k c8 c7 (ls.take k) w9 t8' t7' hk6).mono ?_); rintro r w10 ⟨rfl, b10⟩))
                  go_meet
                  case rel => exact ⟨rfl, bb b9 b10⟩
                case rest =>
                  obtain ⟨rfl, b10⟩ := hcut
                  have HUA := Lib.hid (HU8.out.below S b10)
                  have hz4 : sizes (ls.take k) + (frameL [109, 111, 114, 101]).length ≤ 4194304 := more_size (by
                    have := sizes_le400 (ls := ls.take k) (fun y hy => (HF.out y (List.mem_of_mem_take hy)).2)
                    rw [HKL.out] at this
                    omega)
                  have hz5 : sizes (ls.take k ++ [[109, 111, 114, 101]]) ≤ 4194304 := by rw [sizes_snoc]; exact hz4
                  have HZ4 := Lib.hid hz4
                  have HZ5 := Lib.hid hz5
                  have hl5 : (ls.take k ++ [([109, 111, 114, 101] : Rec)]).length = k + 1 := by rw [List.length_append, HKL.out]; rfl
                  have HL5 := Lib.hid hl5
                  have hq901 : q + 1 ≤ 900 := by omega
                  have HT7 := Lib.hid t7
                  have HT0 := Lib.hid t0
                  clear hz4 hz5 hl5 t7 t8 t0
                  go_upto_region 36 with fail
                  go_cut [175] (fun bv wx => bv = .bool false ∧ Kept (andOf (andOf (fun k => k < w.heap.size) a7) a8) wc wx ∧ ∃ d, Up G (andOf (andOf (fun k => k < w.heap.size) a7) a8) wx y8 p d (ls.take k ++ [[109, 111, 114, 101]]) (k + 1) (q + 1) (-1))
                  case first =>
                    go_wp2_with (first
                      | (go_at_call 9; (with_reducible refine (HUA.out.add S (r := [109, 111, 114, 101]) (by decide) (by decide) HZ4.out hm900).mono ?_); rintro r w11 ⟨z, rfl, k11, hz⟩; obtain ⟨rfl, d11, f11, hf11, u11⟩ := hz.resolve_right (fun h => absurd h.2.1 (by decide)))
                      | (go_at_call 10; (with_reducible refine (u11.sync S HZ5.out hq901).mono ?_); rintro r w12 ⟨rfl, k12, d12, u12⟩))
                    go_meet
                    case rel => exact ⟨rfl, k11.trans k12 (fun _ _ h => h), d12, by have hff := hf11; simp at hff; rw [HL5.out, hff] at u12; exact u12⟩
                  case rest =>
                    obtain ⟨rfl, k12, d12, u12⟩ := hcut
                    have hr7' := k12.row (ownsRow_below HR7.out b10) (fun j hj => .inl (.inr (blk_of hj)))
                    have kA := (KA.out.trans (Kept.of_below (K := fun k => k < w.heap.size) b10) (fun _ _ h => h)).trans k12 (fun _ _ h => .inl (.inl h))
                    have HR7' := Lib.hid hr7'
                    have HKA := Lib.hid kA
                    have HU12 := Lib.hid u12
                    clear hr7' kA u12 k12
                    go_wp2_with (first
                      | (go_at_call 8
                         (with_reducible refine (HU12.out.opens S HZ5.out hq901).mono ?_)
                         rw [HL5.out]
                         rintro r w13 ⟨y13, a13, c13, d13, rfl, row13, k13, u13⟩
                         have t13 := own_txt row13
                         have hr13 := k13.row HR7'.out (fun j hj => .inl (.inr (blk_of hj)))
                         have t713 := own_txt hr13)
                      | (at_builtin
                         refine wpList_append_txt _ (by rfl) _ _ rfl w13.heap.size (.slice none 0 0) 0 [] rfl (World.ownsRow_nil _ _ _ _) a7 k c7 (ls.take k) rfl t713 HN7.out (by omega) (Nat.le_refl _) ?_
                         intro v14 w14 o14 g14
                         simp only [Nat.zero_add, List.nil_append] at o14
                         have b14 := (Below.refl w13.heap.size w13).grown g14 (Nat.le_refl _) (by simp [Value.ownBlock]))
                      | (at_builtin
                         refine wpList_append_txt _ (by rfl) _ _ rfl w13.heap.size v14 k (ls.take k) rfl (o14.alloc (.cells #[.string ⟨#[109, 111, 114, 101]⟩] 9)) (some ⟨w14.heap.size, 0, none⟩) 1 1 [[109, 111, 114, 101]] rfl (txt_more w14) (by simp) (by omega) (by have := b14.size; simp; omega) ?_
                         intro v16 w16 o16 g16
                         obtain ⟨a16, c16, rfl⟩ := row_val o16
                         have b16 := bgo (b14.alloc b14.size (.cells #[.string ⟨#[109, 111, 114, 101]⟩] 9)) g16 (fun j hj => (o14.lt j hj).1)
                         have t16 := own_txt o16
                         have t13' := t13.below b16)
                      | (go_at_call 19; (with_reducible refine (same_any a13 a16 (k + 1) c13 c16 _ w16 t13' t16 (by omega)).mono ?_); rintro r w17 ⟨rfl, b17⟩)
                      | (go_at_call 13; (with_reducible refine (HW.out _ (by first | exact E | exact (Up.env S u13).below (bb b16 b17) | exact E.below (by first | assumption | exact Below.refl _ _) | exact E.below (bb (by assumption) (by assumption)) | exact (DkOff.env (by assumption)) | exact (Dn.env (by assumption)) | exact (Up.env S (by assumption)) | exact (DkOff.env (Hid.out (by assumption))) | exact (Dn.env (Hid.out (by assumption))) | exact (Up.env S (Hid.out (by assumption))))).mono ?_); rintro r w18 ⟨rfl, b18⟩))
                    go_ret
                    refine ⟨rfl, ?_⟩
                    have kB := (HKA.out.trans k13 (fun _ _ h => .inl (.inl h))).trans (Kept.of_below (K := fun k => k < w.heap.size) (bb (bb b16 b17) b18)) (fun _ _ h => h)
                    exact kB.below (Nat.le_refl _)

end Go.Proofs.YtjidadolfpjdeaaGreatDoor
