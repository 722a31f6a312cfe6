/-
  The law BaseLasts over this translation, over a BaseSpec.
-/
import Derived.Test.YthpamdjgkmaleaaGreatDoorBsWakes
import Derived.Test.YthpamdjgkmaleaaGreatDoorDkRead
import Derived.Deep.DeepCutAuto
import Derived.Deep.CutBlock
import Derived.Deep.CutRange
namespace Go.Proofs.YthpamdjgkmaleaaGreatDoor
open Go.RowKit
set_option linter.unusedVariables false
variable {G : (Nat → Prop) → World → Addr → Nat → PD → Prop}

/-- A slice of bases that came in. -/
structure Ones (w : World) (a : Option Addr) (n : Nat) (ls : List (Nat × List UInt8)) : Prop where
  len : ls.length = n
  slots : ∀ x ∈ ls, x.1 < 2 ^ 64
  base : 0 < n → ∃ b off, a = some ⟨b, off, none⟩ ∧ ∀ j (hj : j < ls.length), w.cell? ⟨b, off + j * 2, none⟩ = some (.int .u64 (ls[j].1 : Nat)) ∧ w.cell? ⟨b, off + j * 2 + 1, none⟩ = some (.string (B ls[j].2))

/-- A box of a base. -/
def OneB (q n : Nat) (t : List UInt8) (w : World) : Prop := w.heap[q]? = some (.cells #[.int .u64 (n : Nat), .string (B t)] 37 (0, 0))
theorem OneB.same {q n : Nat} {t : List UInt8} {w w' : World} (h : OneB q n t w) (e : w'.heap[q]? = w.heap[q]?) : OneB q n t w' := e.trans h
theorem OneB.lt {q n : Nat} {t : List UInt8} {w : World} (h : OneB q n t w) : q < w.heap.size := (Array.getElem?_eq_some_iff.1 h).1
theorem OneB.below {q n : Nat} {t : List UInt8} {w w' : World} (h : OneB q n t w) (hb : Below w.heap.size w w') : OneB q n t w' := h.same (hb.block q h.lt)
theorem OneB.kept {K : Nat → Prop} {q n : Nat} {t : List UInt8} {w w' : World} (h : OneB q n t w) (k : Kept K w w') (hK : K q) : OneB q n t w' := h.same (k.heap h.lt hK)
theorem OneB.vals {q n : Nat} {t : List UInt8} {w : World} (h : OneB q n t w) : w.cell? ⟨q, 0, none⟩ = some (.int .u64 (n : Nat)) ∧ w.cell? ⟨q, 1, none⟩ = some (.string (B t)) ∧ w.frozen? ⟨q, 0, none⟩ = false ∧ w.frozen? ⟨q, 1, none⟩ = false :=
  ⟨by rw [cell_of_row w q 0 _ _ _ h]; rfl, by rw [cell_of_row w q 1 _ _ _ h]; rfl, frozen_of_row w q 0 _ _ h, frozen_of_row w q 1 _ _ h⟩
theorem OneB.store {q n : Nat} {t : List UInt8} {w : World} (h : OneB q n t w) (m : Nat) (u : List UInt8) : OneB q m u ((w.setCell ⟨q, 0, none⟩ (.int .u64 (m : Nat))).setCell ⟨q, 1, none⟩ (.string (B u))) := by
  have h1 := heap_setCell_same w q 0 _ _ (.int .u64 (m : Nat)) h
  have h2 := heap_setCell_same _ q 1 _ _ (.string (B u)) h1
  simpa [OneB] using h2

set_option maxRecDepth 100000 in
set_option maxHeartbeats 1000000 in
/-- Too many: 'wakes' alone. -/
theorem blasts_long (S : BaseSpec G) (a : Option Addr) (n c : Nat) (fuse keep : Int) {w : World} (E : Env w) (h : 20 < (n : Int)) :
    Calls Tryz.prog 4 #[.slice a n c, .int .i64 fuse, .int .i64 keep] w fun e w' => e = .returned (.bool true) ∧ Below w.heap.size w w' := by
  have HW := Lib.hid (fun v (E : Env v) => S.wakes E)
  go_enter Tryz.func4, Tryz.ntmps4
  go_wp2_with (go_at_call 10; (with_reducible refine (HW.out _ E).mono ?_); rintro r w1 ⟨rfl, b1⟩)
  go_ret
  exact ⟨rfl, b1⟩

/-- What the walk keeps: all that came in, and two boxes. -/
abbrev two (w : World) (q : Nat) : Nat → Prop := fun k => k < w.heap.size ∨ k = q ∨ k = q + 1

theorem UpB.poke {K w w' x p d n t f} (S : BaseSpec G) (h : UpB G K w x p d n t f) (hs : w'.heap.size = w.heap.size) (hk : ∀ k, k < w.heap.size → ¬ K k ∨ Vr k → w'.heap[k]? = w.heap[k]?) : UpB G K w' x p d n t f := by
  obtain ⟨F, _, _, h3⟩ := S.disk h.store
  exact ⟨S.kept h.store (by omega) hk (fun k hk => .inl hk) (fun k hk => by rw [hs]; exact h3 k hk), h.st, h.f0, h.f1⟩
theorem DnB.poke {K w w' p d n t b} (h : DnB K w p d n t b) (hs : w'.heap.size = w.heap.size) (hk : ∀ k, k < w.heap.size → ¬ K k ∨ Vr k → w'.heap[k]? = w.heap[k]?) : DnB K w' p d n t b := by
  obtain ⟨⟨F, h1, h2, h3⟩, h4⟩ := h
  exact ⟨⟨F, h1.kept (by omega) (fun k hkF => hk k (h1.lt hkF) (.inl (h2 k hkF))), h2, ⟨fun k hk => by rw [hs]; exact h3 k hk, h3.env.same (fun k hv => hk k (h3.env.lt hv) (.inr hv)), h3.fv⟩⟩, h4⟩

/-- Between two rounds of the first loop. -/
def LbI (G : (Nat → Prop) → World → Addr → Nat → PD → Prop) (w : World) (x : Addr) (p q : Nat) (W : World) : Prop :=
  (∃ d n t f, UpB G (two w q) W x p d n t f ∧ OneB q n t W) ∧ OneB (q + 1) 0 [] W ∧ Kept (fun k => k < w.heap.size) w W
/-- Behind it. -/
def LbE (G : (Nat → Prop) → World → Addr → Nat → PD → Prop) (w : World) (x : Addr) (p q : Nat) (W : World) : Prop :=
  LbI G w x p q W ∨ ((∃ d n t m u, DnB (two w q) W p d n t true ∧ OneB q n t W ∧ 0 < m ∧ OneB (q + 1) m u W) ∧ Kept (fun k => k < w.heap.size) w W)

theorem poke_kept {w W : World} {q a b : Nat} {v u : Value} (hq : w.heap.size ≤ q) : Kept (fun k => k < w.heap.size) W ((W.setCell ⟨q, a, none⟩ v).setCell ⟨q, b, none⟩ u) :=
  ((Turned.refl _ W).setCell (ad := ⟨q, a, none⟩) (show ¬ q < w.heap.size by omega) v).setCell (ad := ⟨q, b, none⟩) (show ¬ q < w.heap.size by omega) u
/-- Between two rounds of the second loop. -/
def LbD (w : World) (p q n : Nat) (t : List UInt8) (W : World) : Prop :=
  (∃ d, DnB (two w q) W p d n t false) ∧ OneB q n t W ∧ Kept (fun k => k < w.heap.size) w W
/-- What a Save leaves. -/
def SaveEnd (G : (Nat → Prop) → World → Addr → Nat → PD → Prop) (K : Nat → Prop) (w0 : World) (x : Addr) (p : Nat) (d : PD) (n : Nat) (t : List UInt8) (f : Int) (m : Nat) (u : List UInt8) (z : Int) (w' : World) : Prop :=
  Kept K w0 w' ∧ ((z = 2 ∧ m ≤ n ∧ UpB G K w' x p d n t f) ∨ (z = 0 ∧ n < m ∧ ∃ d' f', (f = -1 → f' = -1) ∧ UpB G K w' x p d' m u f') ∨ (z = 9 ∧ n < m ∧ 0 ≤ f ∧ ∃ d', DnB K w' p d' n t true))

theorem poke_far {w W : World} {q a b : Nat} {v u : Value} (E : Env w) (hq : w.heap.size ≤ q) {K : Nat → Prop} (hK : K q) : ∀ k, k < W.heap.size → ¬ K k ∨ Vr k → ((W.setCell ⟨q, a, none⟩ v).setCell ⟨q, b, none⟩ u).heap[k]? = W.heap[k]? := by
  intro k _ hk
  have hne : k ≠ q := by
    rintro rfl
    rcases hk with h | h
    · exact h hK
    · have := E.lt h; omega
  exact (heap_setCell_other _ _ k _ hne).trans (heap_setCell_other _ _ k _ hne)

set_option maxRecDepth 100000 in
set_option maxHeartbeats 4000000 in
theorem blasts_some (S : BaseSpec G) (a : Option Addr) (n c : Nat) (ls : List (Nat × List UInt8)) (fuse keep : Int) {w : World} (E : Env w) (h : Ones w a n ls) (hn : (n : Int) ≤ 20) (hnc : n ≤ c)
    (hf1 : fuse ≤ 9223372036854775807) (hk1 : keep ≤ 9223372036854775807) :
    Calls Tryz.prog 4 #[.slice a n c, .int .i64 fuse, .int .i64 keep] w fun e w' => e = .returned (.bool true) ∧ Below w.heap.size w w' := by
  have HW := Lib.hid (fun v (E : Env v) => S.wakes E)
  have HN := Lib.hid (fun v (hb : Below w.heap.size w v) => new_off (E.below hb))
  have HO := Lib.hid h
  have HL := Lib.hid h.len
  clear h
  go_enter Tryz.func4, Tryz.ntmps4
  go_upto_region 9 with (first
    | (go_at_call 11; (with_reducible refine (HN.out _ (Below.refl _ _)).mono ?_); rintro r w1 ⟨p, rfl, d1, k1⟩)
    | (go_at_call 7; (with_reducible refine (S.new_up d1).mono ?_); rintro r w2 ⟨x, rfl, k2, u2⟩)
    | (go_at_call 12; (with_reducible refine (u2.setFuse S fuse hf1).mono ?_); rintro r w3 ⟨rfl, k3, d3, u3⟩))
  have hk3 : Kept (fun k => k < w.heap.size) w w3 := ((Kept.of_below (K := fun k => k < w.heap.size) k1).trans k2 (fun _ _ h => h)).trans k3 (fun _ _ h => h)
  have hq3 : w.heap.size ≤ w3.heap.size := hk3.size
  have hI : LbI G w x p w3.heap.size ((w3.alloc (.cells #[.int .u64 0, .string ⟨#[]⟩] 37)).alloc (.cells #[.int .u64 0, .string ⟨#[]⟩] 37)) := by
    have hb : Below w3.heap.size w3 ((w3.alloc (.cells #[.int .u64 0, .string ⟨#[]⟩] 37)).alloc (.cells #[.int .u64 0, .string ⟨#[]⟩] 37)) := ((Below.refl _ _).alloc (Nat.le_refl _) _).alloc (by simp) _
    refine ⟨⟨d3, 0, [], _, u3.more S hb ?_ ?_, ?_⟩, ?_, hk3.trans (Kept.of_below (K := fun k => k < w.heap.size) hb) (fun _ _ h => h)⟩
    · rintro k (h | rfl | rfl)
      · exact .inl h
      · exact .inr (Nat.le_refl _)
      · exact .inr (by omega)
    · rintro k (h | rfl | rfl)
      · simp; omega
      · simp; omega
      · simp
    · exact OneB.below (show OneB w3.heap.size 0 [] (w3.alloc (.cells #[.int .u64 0, .string ⟨#[]⟩] 37)) from World.alloc_heap_new w3 _) ((Below.refl _ _).alloc (Nat.le_refl _) _)
    · have := World.alloc_heap_new (w3.alloc (.cells #[.int .u64 0, .string ⟨#[]⟩] 37)) (.cells #[.int .u64 0, .string ⟨#[]⟩] 37)
      simpa [OneB] using this
  have HI := Lib.hid hI
  clear hI hk3 k1 k2 k3 u2 u3 d1
  generalize (w3.alloc (.cells #[.int .u64 0, .string ⟨#[]⟩] 37)).alloc (.cells #[.int .u64 0, .string ⟨#[]⟩] 37) = w4 at HI ⊢
  generalize w3.heap.size = q at hq3 HI ⊢
  go_upto_block 0 with (fail)
  go_cut [12, 13] (fun iv ev wx => LbE G w x p q wx)
  case first =>
    go_wp2_with fail
    go_loopw [12, 13] (fun iv ev wx => ∃ m : Nat, m ≤ n ∧ iv = .int .i64 m ∧ LbI G w x p q wx) (fun iv _ _ => n - (intOf iv).toNat)
    case atStart => exact ⟨0, Nat.zero_le _, rfl, HI.out⟩
    case round =>
      obtain ⟨m, hm, rfl, I⟩ := hrel
      by_cases hlt : m < n
      · obtain ⟨⟨d, sl, tx, f, u, o1⟩, o2, kp⟩ := I
        obtain ⟨b, off, rfl, hc0⟩ := HO.out.base (by omega)
        have hml : m < ls.length := by rw [HL.out]; exact hlt
        obtain ⟨y0, y1⟩ := hc0 m hml
        have hbw : b < w.heap.size := World.block_lt_of_cell? w _ y0
        have z0 := kp.cell y0 hbw
        have z1 := kp.cell y1 hbw
        have hyl := HO.out.slots _ (List.getElem_mem hml)
        clear hc0
        generalize ls[m].1 = ys at y0 z0 hyl
        generalize ls[m].2 = yt at y1 z1
        obtain ⟨v0, v1, v2, v3⟩ := o1.vals
        have hT : ((B yt).size : Int) = (yt.length : Int) := by rw [B_size]
        by_cases hx : yt.length ≤ 300
        · have hsv := (u.below S ((Below.refl wr.heap.size wr).drew)).save S (m := ys) (u := yt) hyl hx
          have HSV := Lib.hid hsv
          have HU := Lib.hid u
          have HO1 := Lib.hid o1
          have HO2 := Lib.hid o2
          have HKP := Lib.hid kp
          clear hsv u o1 o2 kp HI
          have hsv2 : Calls Tryz.prog 9 #[.pointer (some x), .int .u64 (ys : Nat), .string (B yt)] wr.drew fun e w' => ∃ z, e = .returned (.int .i64 z) ∧ SaveEnd G (two w q) wr.drew x p d sl tx f ys yt z w' := HSV.out
          have HSV2 := Lib.hid hsv2
          clear hsv2 HSV
          generalize hYY : B yt = Y at *
          have HYY := Lib.hid hYY
          clear hYY
          go_upto_region 14 with (fail)
          go_cut [13] (fun ev wx => ∃ z, ev = .int .i64 z ∧ SaveEnd G (two w q) wr.drew x p d sl tx f ys yt z wx)
          case first =>
            go_region_with (go_at_call 9; (with_reducible refine HSV2.out.mono ?_); rintro r w5 ⟨z, rfl, hz⟩)
            all_goals (go_wp2_with fail; go_meet; (case rel => exact ⟨z, rfl, hz⟩))
          case rest =>
            obtain ⟨z, rfl, kz, hz⟩ := hcut
            have y0' := kz.cell (show wr.drew.cell? _ = _ from z0) (.inl hbw)
            have y1' := kz.cell (show wr.drew.cell? _ = _ from z1) (.inl hbw)
            have o1' : OneB q sl tx wc := (HO1.out.same (w' := wr.drew) rfl).kept kz (.inr (.inl rfl))
            have o2' : OneB (q + 1) 0 [] wc := (HO2.out.same (w' := wr.drew) rfl).kept kz (.inr (.inr rfl))
            have kp' : Kept (fun k => k < w.heap.size) w wc := (HKP.out.trans (Kept.of_below (K := fun k => k < w.heap.size) ((Below.refl wr.heap.size wr).drew)) (fun _ _ h => h)).trans kz (fun _ _ h => .inl h)
            obtain ⟨p0, p1, p2, p3⟩ := o1'.vals
            obtain ⟨n0, n1, n2, n3⟩ := o2'.vals
            have HO1' := Lib.hid o1'
            have HO2' := Lib.hid o2'
            have HKP' := Lib.hid kp'
            clear z0 z1 v0 v1 v2 v3 y0 y1 o1' o2' kp' kz HSV2 HU HO1 HO2 HKP hx hT
            rcases hz with ⟨rfl, g1, g2⟩ | ⟨rfl, g1, d', f', g2, g3⟩ | ⟨rfl, g1, g2, d', g3⟩
            · have hle : (ys : Int) ≤ (sl : Int) := by omega
              have G2 := Lib.hid g2
              clear g2
              go_upto_region 15 with fail
              go_region
              go_wp2_with fail
              go_roundw
              case rel => exact ⟨m + 1, by omega, by go_num, ⟨d, sl, tx, f, G2.out.below S ((Below.refl wc.heap.size wc).drew), HO1'.out.same rfl⟩, HO2'.out.same rfl, HKP'.out.trans (Kept.of_below (K := fun k => k < w.heap.size) ((Below.refl wc.heap.size wc).drew)) (fun _ _ h => h)⟩
              case measure => simp [intOf]; omega
            · have hle : ¬ (ys : Int) ≤ (sl : Int) := by omega
              have G3 := Lib.hid g3
              clear g3
              go_upto_region 15 with fail
              go_region
              go_wp2_with fail
              go_roundw
              case rel =>
                have hs := HO1'.out.store ys yt
                rw [HYY.out] at hs
                refine ⟨m + 1, by omega, by go_num, ⟨d', ys, yt, f', ((G3.out.poke S (by simp) (poke_far E hq3 (.inr (.inl rfl)))).below S ((Below.refl _ _).drew)), hs.same rfl⟩, HO2'.out.same ((heap_setCell_other _ _ _ _ (by simp)).trans (heap_setCell_other _ _ _ _ (by simp))), ?_⟩
                exact (HKP'.out.trans (poke_kept hq3) (fun _ _ h => h)).trans (Kept.of_below (K := fun k => k < w.heap.size) ((Below.refl _ _).drew)) (fun _ _ h => h)
              case measure => simp [intOf]; omega
            · have hle : ¬ (ys : Int) ≤ (sl : Int) := by omega
              have G3 := Lib.hid g3
              clear g3
              go_upto_region 15 with fail
              go_region
              go_wp2_with fail
              go_meet
              case rel =>
                have hs := HO2'.out.store ys yt
                rw [HYY.out] at hs
                refine .inr ⟨⟨d', sl, tx, ys, yt, ?_, HO1'.out.same ((heap_setCell_other _ _ _ _ (by simp)).trans (heap_setCell_other _ _ _ _ (by simp))), by omega, hs.same rfl⟩, ?_⟩
                · exact (G3.out.poke (by simp) (poke_far E (by omega) (.inr (.inr rfl)))).below ((Below.refl _ _).drew)
                · exact (HKP'.out.trans (poke_kept (by omega)) (fun _ _ h => h)).trans (Kept.of_below (K := fun k => k < w.heap.size) ((Below.refl _ _).drew)) (fun _ _ h => h)
        · have hgt : 300 < ((B yt).size : Int) := by omega
          have hen := u.env S
          generalize B yt = Y at *
          go_wp2_with (go_at_call 10; (with_reducible refine (HW.out _ hen).mono ?_); rintro r w5 ⟨rfl, b5⟩)
          go_ret
          exact ⟨rfl, bb (kp.below (Nat.le_refl _)) b5⟩
      · obtain rfl : n = m := by omega
        have HII := Lib.hid I
        clear I
        go_wp2_with fail
        go_meet
        case rel => exact .inl HII.out
  case rest =>
    have EE := hcut
    clear hcut
    rcases EE with ⟨⟨d, n', t', f, u, o1⟩, o2, kp⟩ | ⟨⟨d, n', t', m, u', dn, o1, hm, o2⟩, kp⟩
    · obtain ⟨n0, n1, n2, n3⟩ := o2.vals
      have HU := Lib.hid u
      have HO1 := Lib.hid o1
      have HKP := Lib.hid kp
      clear u o1 kp o2
      go_upto_region 21 with fail
      go_cut [95] (fun bv wx => bv = .bool false ∧ (∃ d f, UpB G (two w q) wx x p d n' t' f) ∧ OneB q n' t' wx ∧ Kept (fun k => k < w.heap.size) w wx)
      case first =>
        go_region_with (go_at_call 13; (with_reducible refine ((HU.out.below S ((Below.refl _ _).drew)).isDead S).mono ?_); rintro r w5 ⟨rfl, rfl⟩)
        all_goals (go_wp2_with fail; go_meet; (case rel => exact ⟨rfl, ⟨d, f, HU.out.below S ((Below.refl _ _).drew)⟩, HO1.out.same rfl, HKP.out.trans (Kept.of_below (K := fun k => k < w.heap.size) ((Below.refl _ _).drew)) (fun _ _ h => h)⟩))
      case rest =>
        obtain ⟨rfl, ⟨d, f, u⟩, o1, kp⟩ := hcut
        have HU := Lib.hid u
        have HO1 := Lib.hid o1
        have HKP := Lib.hid kp
        clear u o1 kp
        go_upto_region 26 with (first
          | (go_at_call 13; (with_reducible refine (HU.out.isDead S).mono ?_); rintro r w5 ⟨rfl, rfl⟩)
          | (go_at_call 14; (with_reducible refine (HU.out.crash S keep hk1).mono ?_); rintro r w6 ⟨rfl, k6, d6, u6, _⟩)
          | (go_at_call 15; (with_reducible refine u6.start.mono ?_); rintro r w7 ⟨rfl, k7, d7, u7⟩))
        have HD := Lib.hid (show LbD w p q n' t' w7 from ⟨⟨d7, u7⟩, (HO1.out.kept k6 (.inr (.inl rfl))).kept k7 (.inr (.inl rfl)), (HKP.out.trans k6 (fun _ _ h => .inl h)).trans k7 (fun _ _ h => .inl h)⟩)
        clear k6 k7 u6 u7 HU HO1 HKP
        go_wp2_with fail
        go_loopw [14] (fun iv wx => ∃ j : Nat, j ≤ 2 ∧ iv = .int .i64 j ∧ LbD w p q n' t' wx) (fun iv _ => 2 - (intOf iv).toNat)
        case atStart => exact ⟨0, by omega, rfl, HD.out⟩
        case round =>
          obtain ⟨j, hj, rfl, ⟨d8, D8⟩, o8, kp8⟩ := hrel
          by_cases hlt : j < 2
          · have HO8 := Lib.hid o8
            have HKP8 := Lib.hid kp8
            have D8' := Lib.hid D8
            clear o8 kp8 D8
            have hF : ∀ K (v : World) x d, UpB G K v x p d n' t' (-1) → Calls Tryz.prog 16 #[.pointer (some ⟨p, 0, none⟩)] v fun r w' => ∃ a c, r = .returned (.slice a (bfiles n' t').length c) ∧ Below v.heap.size v w' ∧ UpB G K w' x p d n' t' (-1) := fun K v x d h => (h.files S).mono fun r w' hr => by
              obtain ⟨a, c, h1, _, h3, h4⟩ := hr
              exact ⟨a, c, h1, h3, h4.weak S (fun k hk => .inl hk)⟩
            by_cases hz : n' = 0
            · have hlen : (bfiles n' t').length = 0 := by unfold bfiles; rw [if_pos hz]; rfl
              rw [hlen] at hF
              have hpos : decide (0 < n') = false := by simp [hz]
              have hposI : ¬ (0 : Int) < (n' : Int) := by omega
              have HFF := Lib.hid hF
              clear hF
              go_wp2_with (first
                | (go_at_call 7; (with_reducible refine (D8'.out.opens S).mono ?_); rintro r w9 ⟨x9, d9, rfl, k9, u9⟩; have U9 := Lib.hid u9; clear u9)
                | (go_at_call 8; (with_reducible refine (U9.out.base S).mono ?_); rw [hpos]; rintro r w10 ⟨rfl, k10, u10⟩
                   have o10 := (HO8.out.kept k9 (.inr (.inl rfl))).kept k10 (.inr (.inl rfl))
                   have va0 : ∀ o, (w10.alloc o).cell? ⟨q, 0, none⟩ = some (.int .u64 (n' : Nat)) := fun o => (o10.below ((Below.refl _ w10).alloc (Nat.le_refl _) o)).vals.1
                   have va1 : ∀ o, (w10.alloc o).cell? ⟨q, 1, none⟩ = some (.string (B t')) := fun o => (o10.below ((Below.refl _ w10).alloc (Nat.le_refl _) o)).vals.2.1
                   have HO10 := Lib.hid o10
                   have U10 := Lib.hid u10
                   have HK10 := Lib.hid ((HKP8.out.trans k9 (fun _ _ h => .inl h)).trans k10 (fun _ _ h => .inl h))
                   clear o10 u10 k9 k10)
                | (go_at_call 16; (with_reducible refine (HFF.out _ _ _ _ (U10.out.below S ((Below.refl _ _).alloc (Nat.le_refl _) _))).mono ?_)
                   have HO11 := Lib.hid (HO10.out.below ((Below.refl _ w10).alloc (Nat.le_refl _) (.cells #[.int .u64 0, .string (B t')] 37)))
                   have HK11 := Lib.hid (HK10.out.trans (Kept.of_below (K := fun k => k < w.heap.size) ((Below.refl _ w10).alloc (Nat.le_refl _) (.cells #[.int .u64 0, .string (B t')] 37))) (fun _ _ h => h))
                   rintro r w12 ⟨a12, c12, rfl, b12, u12⟩))
              go_roundw
              case rel => exact ⟨j + 1, by omega, by go_num, ⟨_, (u12.dn S)⟩, HO11.out.below b12, (HK11.out.trans (Kept.of_below (K := fun k => k < w.heap.size) b12) (fun _ _ h => h))⟩
              case measure => simp [intOf]; omega
            · have hlen : (bfiles n' t').length = 1 := by unfold bfiles; rw [if_neg hz]; rfl
              rw [hlen] at hF
              have hpos : decide (0 < n') = true := by simp; omega
              have hposI : (0 : Int) < (n' : Int) := by omega
              have HFF := Lib.hid hF
              clear hF
              go_wp2_with (first
                | (go_at_call 7; (with_reducible refine (D8'.out.opens S).mono ?_); rintro r w9 ⟨x9, d9, rfl, k9, u9⟩; have U9 := Lib.hid u9; clear u9)
                | (go_at_call 8; (with_reducible refine (U9.out.base S).mono ?_); rw [hpos]; rintro r w10 ⟨rfl, k10, u10⟩
                   have o10 := (HO8.out.kept k9 (.inr (.inl rfl))).kept k10 (.inr (.inl rfl))
                   have va0 : ∀ o, (w10.alloc o).cell? ⟨q, 0, none⟩ = some (.int .u64 (n' : Nat)) := fun o => (o10.below ((Below.refl _ w10).alloc (Nat.le_refl _) o)).vals.1
                   have va1 : ∀ o, (w10.alloc o).cell? ⟨q, 1, none⟩ = some (.string (B t')) := fun o => (o10.below ((Below.refl _ w10).alloc (Nat.le_refl _) o)).vals.2.1
                   have HO10 := Lib.hid o10
                   have U10 := Lib.hid u10
                   have HK10 := Lib.hid ((HKP8.out.trans k9 (fun _ _ h => .inl h)).trans k10 (fun _ _ h => .inl h))
                   clear o10 u10 k9 k10)
                | (go_at_call 16; (with_reducible refine (HFF.out _ _ _ _ (U10.out.below S ((Below.refl _ _).alloc (Nat.le_refl _) _))).mono ?_)
                   have HO11 := Lib.hid (HO10.out.below ((Below.refl _ w10).alloc (Nat.le_refl _) (.cells #[.int .u64 (n' : Nat), .string (B t')] 37)))
                   have HK11 := Lib.hid (HK10.out.trans (Kept.of_below (K := fun k => k < w.heap.size) ((Below.refl _ w10).alloc (Nat.le_refl _) (.cells #[.int .u64 (n' : Nat), .string (B t')] 37))) (fun _ _ h => h))
                   rintro r w12 ⟨a12, c12, rfl, b12, u12⟩))
              go_roundw
              case rel => exact ⟨j + 1, by omega, by go_num, ⟨_, (u12.dn S)⟩, HO11.out.below b12, (HK11.out.trans (Kept.of_below (K := fun k => k < w.heap.size) b12) (fun _ _ h => h))⟩
              case measure => simp [intOf]; omega
          · obtain rfl : j = 2 := by omega
            have hen := D8.env
            have HKP8 := Lib.hid kp8
            clear D8 o8 kp8
            go_wp2_with (go_at_call 10; (with_reducible refine (HW.out _ hen).mono ?_); rintro r w9 ⟨rfl, b9⟩)
            go_ret
            exact ⟨rfl, bb (HKP8.out.below (Nat.le_refl _)) b9⟩
    · obtain ⟨n0, n1, n2, n3⟩ := o2.vals
      have hm2 : (0 : Int) < (m : Int) := by omega
      have HU := Lib.hid dn
      have HO1 := Lib.hid o1
      have HKP := Lib.hid kp
      clear dn o1 kp o2
      go_upto_region 21 with fail
      go_cut [95] (fun bv wx => bv = .bool false ∧ (∃ d, DnB (two w q) wx p d n' t' true) ∧ OneB q n' t' wx ∧ Kept (fun k => k < w.heap.size) w wx)
      case first =>
        go_region_with (go_at_call 13; (with_reducible refine ((HU.out.below ((Below.refl _ _).drew)).dead?).mono ?_); rintro r w5 ⟨rfl, rfl⟩)
        all_goals (go_wp2_with fail; go_meet; (case rel => exact ⟨rfl, ⟨d, HU.out.below ((Below.refl _ _).drew)⟩, HO1.out.same rfl, HKP.out.trans (Kept.of_below (K := fun k => k < w.heap.size) ((Below.refl _ _).drew)) (fun _ _ h => h)⟩))
      case rest =>
        obtain ⟨rfl, ⟨d, u⟩, o1, kp⟩ := hcut
        have HU := Lib.hid u
        have HO1 := Lib.hid o1
        have HKP := Lib.hid kp
        clear u o1 kp
        go_upto_region 26 with (first
          | (go_at_call 13; (with_reducible refine (HU.out.dead?).mono ?_); rintro r w5 ⟨rfl, rfl⟩)
          | (go_at_call 15; (with_reducible refine HU.out.start.mono ?_); rintro r w7 ⟨rfl, k7, d7, u7⟩))
        have HD := Lib.hid (show LbD w p q n' t' w7 from ⟨⟨d7, u7⟩, HO1.out.kept k7 (.inr (.inl rfl)), HKP.out.trans k7 (fun _ _ h => .inl h)⟩)
        clear k7 u7 HU HO1 HKP
        go_wp2_with fail
        go_loopw [14] (fun iv wx => ∃ j : Nat, j ≤ 2 ∧ iv = .int .i64 j ∧ LbD w p q n' t' wx) (fun iv _ => 2 - (intOf iv).toNat)
        case atStart => exact ⟨0, by omega, rfl, HD.out⟩
        case round =>
          obtain ⟨j, hj, rfl, ⟨d8, D8⟩, o8, kp8⟩ := hrel
          by_cases hlt : j < 2
          · have HO8 := Lib.hid o8
            have HKP8 := Lib.hid kp8
            have D8' := Lib.hid D8
            clear o8 kp8 D8
            have hF : ∀ K (v : World) x d, UpB G K v x p d n' t' (-1) → Calls Tryz.prog 16 #[.pointer (some ⟨p, 0, none⟩)] v fun r w' => ∃ a c, r = .returned (.slice a (bfiles n' t').length c) ∧ Below v.heap.size v w' ∧ UpB G K w' x p d n' t' (-1) := fun K v x d h => (h.files S).mono fun r w' hr => by
              obtain ⟨a, c, h1, _, h3, h4⟩ := hr
              exact ⟨a, c, h1, h3, h4.weak S (fun k hk => .inl hk)⟩
            by_cases hz : n' = 0
            · have hlen : (bfiles n' t').length = 0 := by unfold bfiles; rw [if_pos hz]; rfl
              rw [hlen] at hF
              have hpos : decide (0 < n') = false := by simp [hz]
              have hposI : ¬ (0 : Int) < (n' : Int) := by omega
              have HFF := Lib.hid hF
              clear hF
              go_wp2_with (first
                | (go_at_call 7; (with_reducible refine (D8'.out.opens S).mono ?_); rintro r w9 ⟨x9, d9, rfl, k9, u9⟩; have U9 := Lib.hid u9; clear u9)
                | (go_at_call 8; (with_reducible refine (U9.out.base S).mono ?_); rw [hpos]; rintro r w10 ⟨rfl, k10, u10⟩
                   have o10 := (HO8.out.kept k9 (.inr (.inl rfl))).kept k10 (.inr (.inl rfl))
                   have va0 : ∀ o, (w10.alloc o).cell? ⟨q, 0, none⟩ = some (.int .u64 (n' : Nat)) := fun o => (o10.below ((Below.refl _ w10).alloc (Nat.le_refl _) o)).vals.1
                   have va1 : ∀ o, (w10.alloc o).cell? ⟨q, 1, none⟩ = some (.string (B t')) := fun o => (o10.below ((Below.refl _ w10).alloc (Nat.le_refl _) o)).vals.2.1
                   have HO10 := Lib.hid o10
                   have U10 := Lib.hid u10
                   have HK10 := Lib.hid ((HKP8.out.trans k9 (fun _ _ h => .inl h)).trans k10 (fun _ _ h => .inl h))
                   clear o10 u10 k9 k10)
                | (go_at_call 16; (with_reducible refine (HFF.out _ _ _ _ (U10.out.below S ((Below.refl _ _).alloc (Nat.le_refl _) _))).mono ?_)
                   have HO11 := Lib.hid (HO10.out.below ((Below.refl _ w10).alloc (Nat.le_refl _) (.cells #[.int .u64 0, .string (B t')] 37)))
                   have HK11 := Lib.hid (HK10.out.trans (Kept.of_below (K := fun k => k < w.heap.size) ((Below.refl _ w10).alloc (Nat.le_refl _) (.cells #[.int .u64 0, .string (B t')] 37))) (fun _ _ h => h))
                   rintro r w12 ⟨a12, c12, rfl, b12, u12⟩))
              go_roundw
              case rel => exact ⟨j + 1, by omega, by go_num, ⟨_, (u12.dn S)⟩, HO11.out.below b12, (HK11.out.trans (Kept.of_below (K := fun k => k < w.heap.size) b12) (fun _ _ h => h))⟩
              case measure => simp [intOf]; omega
            · have hlen : (bfiles n' t').length = 1 := by unfold bfiles; rw [if_neg hz]; rfl
              rw [hlen] at hF
              have hpos : decide (0 < n') = true := by simp; omega
              have hposI : (0 : Int) < (n' : Int) := by omega
              have HFF := Lib.hid hF
              clear hF
              go_wp2_with (first
                | (go_at_call 7; (with_reducible refine (D8'.out.opens S).mono ?_); rintro r w9 ⟨x9, d9, rfl, k9, u9⟩; have U9 := Lib.hid u9; clear u9)
                | (go_at_call 8; (with_reducible refine (U9.out.base S).mono ?_); rw [hpos]; rintro r w10 ⟨rfl, k10, u10⟩
                   have o10 := (HO8.out.kept k9 (.inr (.inl rfl))).kept k10 (.inr (.inl rfl))
                   have va0 : ∀ o, (w10.alloc o).cell? ⟨q, 0, none⟩ = some (.int .u64 (n' : Nat)) := fun o => (o10.below ((Below.refl _ w10).alloc (Nat.le_refl _) o)).vals.1
                   have va1 : ∀ o, (w10.alloc o).cell? ⟨q, 1, none⟩ = some (.string (B t')) := fun o => (o10.below ((Below.refl _ w10).alloc (Nat.le_refl _) o)).vals.2.1
                   have HO10 := Lib.hid o10
                   have U10 := Lib.hid u10
                   have HK10 := Lib.hid ((HKP8.out.trans k9 (fun _ _ h => .inl h)).trans k10 (fun _ _ h => .inl h))
                   clear o10 u10 k9 k10)
                | (go_at_call 16; (with_reducible refine (HFF.out _ _ _ _ (U10.out.below S ((Below.refl _ _).alloc (Nat.le_refl _) _))).mono ?_)
                   have HO11 := Lib.hid (HO10.out.below ((Below.refl _ w10).alloc (Nat.le_refl _) (.cells #[.int .u64 (n' : Nat), .string (B t')] 37)))
                   have HK11 := Lib.hid (HK10.out.trans (Kept.of_below (K := fun k => k < w.heap.size) ((Below.refl _ w10).alloc (Nat.le_refl _) (.cells #[.int .u64 (n' : Nat), .string (B t')] 37))) (fun _ _ h => h))
                   rintro r w12 ⟨a12, c12, rfl, b12, u12⟩))
              go_roundw
              case rel => exact ⟨j + 1, by omega, by go_num, ⟨_, (u12.dn S)⟩, HO11.out.below b12, (HK11.out.trans (Kept.of_below (K := fun k => k < w.heap.size) b12) (fun _ _ h => h))⟩
              case measure => simp [intOf]; omega
          · obtain rfl : j = 2 := by omega
            have hen := D8.env
            have HKP8 := Lib.hid kp8
            clear D8 o8 kp8
            go_wp2_with (go_at_call 10; (with_reducible refine (HW.out _ hen).mono ?_); rintro r w9 ⟨rfl, b9⟩)
            go_ret
            exact ⟨rfl, bb (HKP8.out.below (Nat.le_refl _)) b9⟩

end Go.Proofs.YthpamdjgkmaleaaGreatDoor
