/-
  The walk of the law WireBack over this translation.
-/
import Derived.Test.YtmlljdfeppgcaaaWakes
import Derived.Test.YtmlljdfeppgcaaaRefNum
import Derived.Test.YtmlljdfeppgcaaaPureC
import Derived.Test.YtmlljdfeppgcaaaItems
import Derived.Deep.RegionHeld3
import Derived.Test.YtmlljdfeppgcaaaRegion
import Derived.Deep.DeepCutAuto
import Derived.Deep.DrawnRows
namespace Go.Proofs.Ytmlljdfeppgcaaa
open Go.RowKit Go.ChangeShapes Go.WideShapes Go.ChangeAt
set_option linter.unusedVariables false
attribute [local go_sem ↓] Go.wp_at_zero Go.wp_at_succ

structure PiAt (w : World) (b off : Nat) (x : Pi) : Prop where
  c0 : w.cell? ⟨b, off, none⟩ = some (.bool x.t)
  c1 : w.cell? ⟨b, off + 1, none⟩ = some (.int .u64 x.n)
  c2 : w.cell? ⟨b, off + 2, none⟩ = some (.string (B x.s))
  n1 : (x.n : Int) ≤ 18446744073709551615
  s1 : x.s.length ≤ maxLen

theorem PiAt.below {w w' : World} {b off : Nat} {x : Pi} (h : PiAt w b off x) (hb : Below w.heap.size w w') : PiAt w' b off x :=
  ⟨cell_later hb h.c0, cell_later hb h.c1, cell_later hb h.c2, h.n1, h.s1⟩

theorem PiAt.grown {w w' : World} {b off g : Nat} {x : Pi} (h : PiAt w b off x) (hg : w.grownBy w' (some g)) (hne : b ≠ g) : PiAt w' b off x :=
  ⟨hg.cell h.c0 (by simpa using hne), hg.cell h.c1 (by simpa using hne), hg.cell h.c2 (by simpa using hne), h.n1, h.s1⟩
theorem PiAt.drew {w : World} {b off : Nat} {x : Pi} (h : PiAt w b off x) : PiAt w.drew b off x := ⟨h.c0, h.c1, h.c2, h.n1, h.s1⟩
theorem PiAt.lt {w : World} {b off : Nat} {x : Pi} (h : PiAt w b off x) : b < w.heap.size := World.block_lt_of_cell? w _ h.c0
theorem RS.drew {w : World} {b : Nat} {s : St} (h : RS w b s) : RS w.drew b s := h

/-- All of them. -/
def PiAll (w : World) (b off : Nat) (l : List Pi) : Prop := ∀ i (h : i < l.length), PiAt w b (off + i * 3) l[i]

theorem PiAll.below {w w' : World} {b off : Nat} {l : List Pi} (h : PiAll w b off l) (hb : Below w.heap.size w w') : PiAll w' b off l :=
  fun i hi => (h i hi).below hb

theorem oks {w : World} {b off : Nat} {l : List Pi} (hc : PiAll w b off l) (k : Nat) (hall : ∀ j (h : j < l.length), j < k → l[j].s.length ≤ 100) : ∀ x ∈ l.take k, x.ok := by
  intro x hx
  obtain ⟨j, hj, rfl⟩ := List.getElem_of_mem hx
  simp only [List.length_take] at hj
  rw [List.getElem_take]
  have h1 := (hc j (by omega)).n1
  exact ⟨by omega, hall j (by omega) (by omega)⟩

theorem Own.le {w : World} {base g n c : Nat} {l : List UInt8} (h : Own w base g n c l) : n ≤ c := by
  rcases h.2 with ⟨h1, _⟩ | ⟨g', c', cur, h1, _, _, h2, _⟩
  · cases h1
  · cases h1; exact h2
theorem Src.short {w : World} {a : Option Addr} {n c : Nat} {l : List UInt8} (h : Src w a (n + 1) c l) : Src w a n c l.dropLast := by
  refine ⟨by rw [List.length_dropLast, h.len]; omega, fun h1 => absurd (h.nul h1).1 (by omega), fun ad ha j u hu => h.cell ad ha j u ?_⟩
  simp only [Lib.byteCells, List.getElem?_map, List.dropLast_eq_take, List.getElem?_take] at hu ⊢
  split at hu
  · exact hu
  · simp at hu
theorem Own.src {w : World} {base g n c : Nat} {l : List UInt8} (h : Own w base g n c l) : Src w (some ⟨g, 0, none⟩) n c l := Src.of_own h

set_option maxRecDepth 100000 in
set_option maxHeartbeats 20000000 in
theorem wireBack_main (b off len cap : Nat) (l : List Pi) (c : UInt8) (w : World) (hl : l.length = len) (h0 : 0 < len) (hlen : (len : Int) ≤ 60) (hc : PiAll w b off l) :
    Calls Try.prog 5 #[.slice (some ⟨b, off, none⟩) len cap, .int .u8 c.toNat] w fun e w' => e = .returned (.bool true) ∧ Below w.heap.size w w' := by
  subst hl
  have HC := Lib.hid hc
  clear hc
  go_enter Try.func5, Try.ntmps5
  go_wp2_with fail
  go_loopw [5, 6] (fun bv i wr => ∃ (k : Nat) (sa : Option Addr) (sn sc : Nat), k ≤ l.length ∧ i = .int .i64 k ∧ bv = .slice sa sn sc ∧ Src wr sa sn sc (encA (l.take k)) ∧ sn ≤ sc ∧ (∀ j (h : j < l.length), j < k → l[j].s.length ≤ 100) ∧ Below w.heap.size w wr) (fun _ i _ => l.length - (intOf i).toNat)
  case atStart => exact ⟨0, none, 0, 0, Nat.zero_le _, rfl, rfl, Src.nil w, Nat.le_refl _, fun j _ h => absurd h (by omega), Below.refl _ _⟩
  case round =>
    obtain ⟨k, sa, sn, sc, hk, rfl, rfl, hs, hsc, hall, hb⟩ := hrel
    have HALL := Lib.hid hall
    clear hall
    by_cases hlt : k < l.length
    · obtain ⟨c0, c1, c2, n1, s1⟩ := (HC.out.below hb) k hlt
      have het := encA_take l k hlt
      have hsn : sn ≤ 109 * 60 := by
        have h1 := (encA_len (l.take k) (oks HC.out k HALL.out)).2
        rw [hs.len, List.length_take] at h1
        omega
      have hnext : l[k].s.length ≤ 100 → ∀ j (h : j < l.length), j < k + 1 → l[j].s.length ≤ 100 := by
        intro h1 j h hj
        by_cases he : j = k
        · subst he; exact h1
        · exact HALL.out j h (by omega)
      generalize hx : l[k] = x at c0 c1 c2 n1 s1 het hnext
      have HX := Lib.hid hx
      have HET := Lib.hid het
      have HNX := Lib.hid hnext
      unfold maxLen at s1
      clear hx het hnext
      by_cases hbig : (100 : Int) < (x.s.length : Int)
      · go_wp2_with (go_at_call 9; refine (wakes_any _).mono ?_; rintro r w4 ⟨rfl, b4⟩)
        go_ret
        exact ⟨rfl, bb hb b4⟩
      · by_cases ht : x.t = true
        · have hei : encI x = encS x.s := by unfold encI; rw [if_pos ht]
          have HEI := Lib.hid hei
          clear hei
          go_wp2_with (go_at_call 12; refine (wstr_any sa sn sc _ x.s _ hs (by omega) (by omega)).mono ?_; rintro r w4 ⟨g4, n4, c4, rfl, o4, b4⟩)
          go_roundw
          case rel => exact ⟨k + 1, _, _, _, by omega, by go_num, rfl, by rw [HET.out, HEI.out]; exact o4.src, Own.le o4, HNX.out (by omega), bb hb b4⟩
          case measure => simp [intOf]; omega
        · have htf : x.t = false := by simpa using ht
          have hei : encI x = enc x.n := by unfold encI; rw [if_neg ht]
          have HEI := Lib.hid hei
          clear hei ht
          go_wp2_with (go_at_call 10; refine (wnum_any sa sn sc _ (x.n : Int) _ hs (by omega) (by omega) n1).mono ?_; rintro r w4 ⟨g4, n4, c4, rfl, o4, b4⟩)
          rw [Int.toNat_natCast] at o4
          go_roundw
          case rel => exact ⟨k + 1, _, _, _, by omega, by go_num, rfl, by rw [HET.out, HEI.out]; exact o4.src, Own.le o4, HNX.out (by omega), bb hb b4⟩
          case measure => simp [intOf]; omega
    · obtain rfl : k = l.length := by omega
      have hok := oks HC.out l.length HALL.out
      rw [List.take_length] at hok hs
      have hel := encA_len l hok
      have hsl := hs.len
      generalize hbl : encA l = bl at hs hel hsl
      have HBL := Lib.hid hbl
      have HOK := Lib.hid hok
      have hcv := hs.string
      have hap := B_append bl [c]
      have hle1 : ¬ 9223372036854775807 < bl.length + 1 := by omega
      have hge : ¬ sn < l.length := by omega
      clear hbl hok hsl
      go_wp2_with fail
      refine (of_any bl _).mono ?_
      rintro r w1 ⟨rfl, a1, b1⟩
      have hb1 := bb hb b1
      have hs1 := hs.below b1
      have hcv1 := hs1.string
      have hcc := (Src.of_own (own_one w1 c (c.toNat : Int) rfl)).string
      have hs2 := hs1.below ((Below.refl _ w1).alloc (Nat.le_refl _) (.cells #[.int .u8 (c.toNat : Int)] 5))
      have hb2 := hb1.alloc hb1.size (.cells #[.int .u8 (c.toNat : Int)] 5)
      have a2 := a1.below ((Below.refl _ w1).alloc (Nat.le_refl _) (.cells #[.int .u8 (c.toNat : Int)] 5))
      clear hcv
      go_wp2_with fail
      have hB3 : Below wr.heap.size wr (w1.alloc (.cells #[.int .u8 (c.toNat : Int)] 5)) := b1.alloc b1.size _
      refine (of_any (bl ++ [c]) _).mono ?_
      rintro r w3 ⟨rfl, m3, b3⟩
      have a3 := a2.below b3
      obtain ⟨W0, hW0, hs0, hb0, hB0⟩ : ∃ W0 : World, W0.heap.size = wr.heap.size ∧ Src W0 sa sn sc bl ∧ Below w.heap.size w W0 ∧ Below W0.heap.size W0 w3 := ⟨wr, rfl, hs, hb, bb hB3 b3⟩
      have hlt3 := a2.lt
      have hwg := hb.size
      generalize wr.heap.size = g1 at a3 a2 a1 hlt3 hwg hW0
      have hg12 : g1 < (w1.alloc (.cells #[.int .u8 (c.toNat : Int)] 5)).heap.size := hlt3
      generalize (w1.alloc (.cells #[.int .u8 (c.toNat : Int)] 5)).heap.size = g2 at m3 hg12
      clear hap hle1 a1 a2 hs1 hs2 hb1 hb2 hcv1 hcc b1 b3 hs hB3 hb
      go_wp2_with fail
      go_loopw [9] (fun i wr => ∃ k : Nat, k ≤ l.length ∧ i = .int .i64 k ∧ RS wr g1 ⟨0, encA (l.drop k)⟩ ∧ RS wr g2 ⟨0, encA (l.drop k) ++ [c]⟩ ∧ Below W0.heap.size W0 wr) (fun i _ => l.length - (intOf i).toNat)
      case atStart => exact ⟨0, Nat.zero_le _, rfl, by rw [List.drop_zero, HBL.out]; exact a3, by rw [List.drop_zero, HBL.out]; exact m3, hB0⟩
      case round =>
        clear a3 m3 hB0
        obtain ⟨k, hk, rfl, ra, rm, hB⟩ := hrel
        have hb := bb hb0 hB
        by_cases hlt : k < l.length
        · have P := (HC.out.below hb) k hlt
          have hbg := HC.out k hlt |>.lt
          have hed := encA_drop l k hlt
          have hokx := HOK.out l[k] (List.getElem_mem hlt)
          have hlen1 : (encA (l.drop k)).length ≤ 10000 := by
            have := (encA_len (l.drop k) (fun x hx => HOK.out x (List.mem_of_mem_drop hx))).2
            rw [List.length_drop] at this; omega
          generalize l[k] = x at P hed hokx
          generalize hs0' : encA (l.drop k) = s0 at ra rm hed hlen1
          generalize hs1 : encA (l.drop (k + 1)) = s1 at hed
          have HS1 := Lib.hid hs1
          clear hs0' hs1
          obtain ⟨hx1, hx2⟩ := hokx
          have i0 : (0 : Int) ≤ (k : Int) := by omega
          have i1 : (k : Int) < (l.length : Int) := by omega
          have n1 : b ≠ g1 := by omega
          have n2 : b ≠ g2 := by omega
          have n3 : g1 ≠ g2 := by omega
          by_cases ht : x.t = true
          · have hei : encI x = encS x.s := by unfold encI; rw [if_pos ht]
            rw [hei] at hed
            have hA := fun w1 (h : RS w1 g1 ⟨0, s0⟩) => str_any g1 ⟨0, s0⟩ 100 w1 h (by simp only; omega) (by decide) (by decide)
            have hM := fun w1 (h : RS w1 g2 ⟨0, s0 ++ [c]⟩) => str_any g2 ⟨0, s0 ++ [c]⟩ 100 w1 h (by simp only [List.length_append, List.length_cons, List.length_nil]; omega) (by decide) (by decide)
            rw [hed, str_enc x.s s1 hx2] at hA
            rw [hed, List.append_assoc, str_enc x.s (s1 ++ [c]) hx2] at hM
            rw [hed] at ra
            rw [hed, List.append_assoc] at rm
            have HA := Lib.hid hA
            have HM := Lib.hid hM
            have P' := P.drew
            have hc0 := P'.c0
            rw [ht] at hc0
            have ra' := ra.drew
            have rm' := rm.drew
            clear hA hM hed hei ra rm P hlen1 hx1
            have hB' := hB.drew
            clear hB hb
            have hc1 := P'.c1
            have hc2 := P'.c2
            go_upto_region 19 with fail
            go_cut [122] (fun t wx => t = .bool false ∧ RS wx g1 ⟨0, s1⟩ ∧ RS wx g2 ⟨0, s1 ++ [c]⟩ ∧ Below W0.heap.size W0 wx)
            case first =>
              refine wp_region_held_drew (S := fun w' => w'.cell? ⟨b, off + k * 3, none⟩ = some (.bool true) ∧ w'.cell? ⟨b, off + k * 3 + 1, none⟩ = some (.int .u64 x.n) ∧ w'.cell? ⟨b, off + k * 3 + 2, none⟩ = some (.string (B x.s))) (by kernel_rfl) ?_ (fun hHeld => ?_)
              · exact ⟨hc0, hc1, hc2⟩
              refine take_run (i := 0) (v := ?_) rfl (by kernel_rfl) (by kernel_rfl) (by kernel_rfl) (fun _ _ _ h => h) (by kernel_rfl) ?_ (by assumption) ?_
              rotate_left
              · (intro w hSw; (try dsimp only at hSw); go_simp); all_goals with_reducible rfl
              try simp only [Act.put, List.setIfInBounds_toArray, List.set_cons_zero, List.set_cons_succ]
              refine take_run (i := 1) (v := ?_) rfl (by kernel_rfl) (by kernel_rfl) (by kernel_rfl) (fun _ _ _ h => h) (by kernel_rfl) ?_ (by assumption) ?_
              rotate_left
              · (intro w hSw; (try dsimp only at hSw); go_simp); all_goals with_reducible rfl
              try simp only [Act.put, List.setIfInBounds_toArray, List.set_cons_zero, List.set_cons_succ]
              refine take_run (i := 2) (v := ?_) rfl (by kernel_rfl) (by kernel_rfl) (by kernel_rfl) (fun _ _ _ h => h) (by kernel_rfl) ?_ (by assumption) ?_
              rotate_left
              · (intro w hSw; (try dsimp only at hSw); go_simp); all_goals with_reducible rfl
              try simp only [Act.put, List.setIfInBounds_toArray, List.set_cons_zero, List.set_cons_succ]
              refine take_run (i := 3) (v := ?_) rfl (by kernel_rfl) (by kernel_rfl) (by kernel_rfl) (fun _ _ _ h => h) (by kernel_rfl) ?_ (by assumption) ?_
              rotate_left
              · (intro w hSw; (try dsimp only at hSw); go_simp); all_goals with_reducible rfl
              try simp only [Act.put, List.setIfInBounds_toArray, List.set_cons_zero, List.set_cons_succ]
              refine take_run (i := 4) (v := ?_) rfl (by kernel_rfl) (by kernel_rfl) (by kernel_rfl) (fun _ _ _ h => h) (by kernel_rfl) ?_ (by assumption) ?_
              rotate_left
              · (intro w hSw; (try dsimp only at hSw); go_simp); all_goals with_reducible rfl
              try simp only [Act.put, List.setIfInBounds_toArray, List.set_cons_zero, List.set_cons_succ]
              refine take_run (i := 5) (v := ?_) rfl (by kernel_rfl) (by kernel_rfl) (by kernel_rfl) (fun _ _ _ h => h) (by kernel_rfl) ?_ (by assumption) ?_
              rotate_left
              · (intro w hSw; (try dsimp only at hSw); go_simp); all_goals with_reducible rfl
              try simp only [Act.put, List.setIfInBounds_toArray, List.set_cons_zero, List.set_cons_succ]
              refine take_run (i := 6) (v := ?_) rfl (by kernel_rfl) (by kernel_rfl) (by kernel_rfl) (fun _ _ _ h => h) (by kernel_rfl) ?_ (by assumption) ?_
              rotate_left
              · (intro w hSw; (try dsimp only at hSw); go_simp); all_goals with_reducible rfl
              try simp only [Act.put, List.setIfInBounds_toArray, List.set_cons_zero, List.set_cons_succ]
              refine take_run (i := 8) (v := ?_) rfl (by kernel_rfl) (by kernel_rfl) (by kernel_rfl) (fun _ _ _ h => h) (by kernel_rfl) ?_ (by assumption) ?_
              rotate_left
              · (intro w hSw; (try dsimp only at hSw); go_simp); all_goals with_reducible rfl
              try simp only [Act.put, List.setIfInBounds_toArray, List.set_cons_zero, List.set_cons_succ]
              refine take_run (i := 9) (v := ?_) rfl (by kernel_rfl) (by kernel_rfl) (by kernel_rfl) (fun _ _ _ h => h) (by kernel_rfl) ?_ (by assumption) ?_
              rotate_left
              · (intro w hSw; (try dsimp only at hSw); go_simp); all_goals with_reducible rfl
              try simp only [Act.put, List.setIfInBounds_toArray, List.set_cons_zero, List.set_cons_succ]
              refine take_run (i := 10) (v := ?_) rfl (by kernel_rfl) (by kernel_rfl) (by kernel_rfl) (fun _ _ _ h => h) (by kernel_rfl) ?_ (by assumption) ?_
              rotate_left
              · (intro w hSw; (try dsimp only at hSw); go_simp); all_goals with_reducible rfl
              try simp only [Act.put, List.setIfInBounds_toArray, List.set_cons_zero, List.set_cons_succ]
              refine take_run (i := 11) (v := ?_) rfl (by kernel_rfl) (by kernel_rfl) (by kernel_rfl) (fun _ _ _ h => h) (by kernel_rfl) ?_ (by assumption) ?_
              rotate_left
              · (intro w hSw; (try dsimp only at hSw); go_simp); all_goals with_reducible rfl
              try simp only [Act.put, List.setIfInBounds_toArray, List.set_cons_zero, List.set_cons_succ]
              refine take_run (i := 12) (v := ?_) rfl (by kernel_rfl) (by kernel_rfl) (by kernel_rfl) (fun _ _ _ h => h) (by kernel_rfl) ?_ (by assumption) ?_
              rotate_left
              · (intro w hSw; (try dsimp only at hSw); go_simp); all_goals with_reducible rfl
              try simp only [Act.put, List.setIfInBounds_toArray, List.set_cons_zero, List.set_cons_succ]
              refine take_call (i := 7) rfl (by kernel_rfl) (by kernel_rfl) (fun K hK => ?_)
              go_simp; refine (HA.out _ ra').mono ?_; rintro r w5 ⟨rfl, a5, q5⟩; have P5 := P'.grown q5 n1; have hd5 := P5.c0; rw [ht] at hd5; have m5 := rm'.kept q5 n3.symm
              go_wp2_with fail
              clear hHeld
              refine hK.out _ _ ?_ (fun hHeld => ?_)
              · exact ⟨hd5, P5.c1, P5.c2⟩
              clear hK K
              try simp only [Act.put, List.setIfInBounds_toArray, List.set_cons_zero, List.set_cons_succ]
              refine take_run (i := 13) (v := ?_) rfl (by kernel_rfl) (by kernel_rfl) (by kernel_rfl) (fun _ _ _ h => h) (by kernel_rfl) ?_ (by assumption) ?_
              rotate_left
              · (intro w hSw; (try dsimp only at hSw); go_simp); all_goals with_reducible rfl
              try simp only [Act.put, List.setIfInBounds_toArray, List.set_cons_zero, List.set_cons_succ]
              refine take_run (i := 14) (v := ?_) rfl (by kernel_rfl) (by kernel_rfl) (by kernel_rfl) (fun _ _ _ h => h) (by kernel_rfl) ?_ (by assumption) ?_
              rotate_left
              · (intro w hSw; (try dsimp only at hSw); go_simp); all_goals with_reducible rfl
              try simp only [Act.put, List.setIfInBounds_toArray, List.set_cons_zero, List.set_cons_succ]
              refine take_run (i := 15) (v := ?_) rfl (by kernel_rfl) (by kernel_rfl) (by kernel_rfl) (fun _ _ _ h => h) (by kernel_rfl) ?_ (by assumption) ?_
              rotate_left
              · (intro w hSw; (try dsimp only at hSw); go_simp); all_goals with_reducible rfl
              try simp only [Act.put, List.setIfInBounds_toArray, List.set_cons_zero, List.set_cons_succ]
              refine take_run (i := 17) (v := ?_) rfl (by kernel_rfl) (by kernel_rfl) (by kernel_rfl) (fun _ _ _ h => h) (by kernel_rfl) ?_ (by assumption) ?_
              rotate_left
              · (intro w hSw; (try dsimp only at hSw); go_simp); all_goals with_reducible rfl
              try simp only [Act.put, List.setIfInBounds_toArray, List.set_cons_zero, List.set_cons_succ]
              refine take_run (i := 18) (v := ?_) rfl (by kernel_rfl) (by kernel_rfl) (by kernel_rfl) (fun _ _ _ h => h) (by kernel_rfl) ?_ (by assumption) ?_
              rotate_left
              · (intro w hSw; (try dsimp only at hSw); go_simp); all_goals with_reducible rfl
              try simp only [Act.put, List.setIfInBounds_toArray, List.set_cons_zero, List.set_cons_succ]
              refine take_run (i := 19) (v := ?_) rfl (by kernel_rfl) (by kernel_rfl) (by kernel_rfl) (fun _ _ _ h => h) (by kernel_rfl) ?_ (by assumption) ?_
              rotate_left
              · (intro w hSw; (try dsimp only at hSw); go_simp); all_goals with_reducible rfl
              try simp only [Act.put, List.setIfInBounds_toArray, List.set_cons_zero, List.set_cons_succ]
              refine take_run (i := 20) (v := ?_) rfl (by kernel_rfl) (by kernel_rfl) (by kernel_rfl) (fun _ _ _ h => h) (by kernel_rfl) ?_ (by assumption) ?_
              rotate_left
              · (intro w hSw; (try dsimp only at hSw); go_simp); all_goals with_reducible rfl
              try simp only [Act.put, List.setIfInBounds_toArray, List.set_cons_zero, List.set_cons_succ]
              refine take_run (i := 21) (v := ?_) rfl (by kernel_rfl) (by kernel_rfl) (by kernel_rfl) (fun _ _ _ h => h) (by kernel_rfl) ?_ (by assumption) ?_
              rotate_left
              · (intro w hSw; (try dsimp only at hSw); go_simp); all_goals with_reducible rfl
              try simp only [Act.put, List.setIfInBounds_toArray, List.set_cons_zero, List.set_cons_succ]
              refine take_call (i := 16) rfl (by kernel_rfl) (by kernel_rfl) (fun K hK => ?_)
              go_simp; refine (HM.out _ m5).mono ?_; rintro r w6 ⟨rfl, m6, q6⟩; have P6 := P5.grown q6 n2; have hd6 := P6.c0; rw [ht] at hd6; have a6 := a5.kept q6 n3
              go_wp2_with fail
              clear hHeld
              refine hK.out _ _ ?_ (fun hHeld => ?_)
              · exact ⟨hd6, P6.c1, P6.c2⟩
              clear hK K
              try simp only [Act.put, List.setIfInBounds_toArray, List.set_cons_zero, List.set_cons_succ]
              refine take_run (i := 22) (v := ?_) rfl (by kernel_rfl) (by kernel_rfl) (by kernel_rfl) (fun _ _ _ h => h) (by kernel_rfl) ?_ (by assumption) ?_
              rotate_left
              · (intro w hSw; (try dsimp only at hSw); go_simp); all_goals with_reducible rfl
              try simp only [Act.put, List.setIfInBounds_toArray, List.set_cons_zero, List.set_cons_succ]
              refine take_run (i := 23) (v := ?_) rfl (by kernel_rfl) (by kernel_rfl) (by kernel_rfl) (fun _ _ _ h => h) (by kernel_rfl) ?_ (by assumption) ?_
              rotate_left
              · (intro w hSw; (try dsimp only at hSw); go_simp); all_goals with_reducible rfl
              try simp only [Act.put, List.setIfInBounds_toArray, List.set_cons_zero, List.set_cons_succ]
              refine take_run (i := 24) (v := ?_) rfl (by kernel_rfl) (by kernel_rfl) (by kernel_rfl) (fun _ _ _ h => h) (by kernel_rfl) ?_ (by assumption) ?_
              rotate_left
              · (intro w hSw; (try dsimp only at hSw); go_simp); all_goals with_reducible rfl
              try simp only [Act.put, List.setIfInBounds_toArray, List.set_cons_zero, List.set_cons_succ]
              refine take_run (i := 25) (v := ?_) rfl (by kernel_rfl) (by kernel_rfl) (by kernel_rfl) (fun _ _ _ h => h) (by kernel_rfl) ?_ (by assumption) ?_
              rotate_left
              · (intro w hSw; (try dsimp only at hSw); go_simp); all_goals with_reducible rfl
              try simp only [Act.put, List.setIfInBounds_toArray, List.set_cons_zero, List.set_cons_succ]
              refine take_run (i := 26) (v := ?_) rfl (by kernel_rfl) (by kernel_rfl) (by kernel_rfl) (fun _ _ _ h => h) (by kernel_rfl) ?_ (by assumption) ?_
              rotate_left
              · (intro w hSw; (try dsimp only at hSw); go_simp); all_goals with_reducible rfl
              try simp only [Act.put, List.setIfInBounds_toArray, List.set_cons_zero, List.set_cons_succ]
              refine take_run (i := 27) (v := ?_) rfl (by kernel_rfl) (by kernel_rfl) (by kernel_rfl) (fun _ _ _ h => h) (by kernel_rfl) ?_ (by assumption) ?_
              rotate_left
              · (intro w hSw; (try dsimp only at hSw); go_simp); all_goals with_reducible rfl
              try simp only [Act.put, List.setIfInBounds_toArray, List.set_cons_zero, List.set_cons_succ]
              refine take_run (i := 28) (v := ?_) rfl (by kernel_rfl) (by kernel_rfl) (by kernel_rfl) (fun _ _ _ h => h) (by kernel_rfl) ?_ (by assumption) ?_
              rotate_left
              · (intro w hSw; (try dsimp only at hSw); go_simp); all_goals with_reducible rfl
              try simp only [Act.put, List.setIfInBounds_toArray, List.set_cons_zero, List.set_cons_succ]
              refine take_run (i := 29) (v := ?_) rfl (by kernel_rfl) (by kernel_rfl) (by kernel_rfl) (fun _ _ _ h => h) (by kernel_rfl) ?_ (by assumption) ?_
              rotate_left
              · (intro w hSw; (try dsimp only at hSw); go_simp); all_goals with_reducible rfl
              try simp only [Act.put, List.setIfInBounds_toArray, List.set_cons_zero, List.set_cons_succ]
              refine take_run (i := 30) (v := ?_) rfl (by kernel_rfl) (by kernel_rfl) (by kernel_rfl) (fun _ _ _ h => h) (by kernel_rfl) ?_ (by assumption) ?_
              rotate_left
              · (intro w hSw; (try dsimp only at hSw); go_simp); all_goals with_reducible rfl
              try simp only [Act.put, List.setIfInBounds_toArray, List.set_cons_zero, List.set_cons_succ]
              refine take_run (i := 31) (v := ?_) rfl (by kernel_rfl) (by kernel_rfl) (by kernel_rfl) (fun _ _ _ h => h) (by kernel_rfl) ?_ (by assumption) ?_
              rotate_left
              · (intro w hSw; (try dsimp only at hSw); go_simp); all_goals with_reducible rfl
              try simp only [Act.put, List.setIfInBounds_toArray, List.set_cons_zero, List.set_cons_succ]
              refine take_run (i := 32) (v := ?_) rfl (by kernel_rfl) (by kernel_rfl) (by kernel_rfl) (fun _ _ _ h => h) (by kernel_rfl) ?_ (by assumption) ?_
              rotate_left
              · (intro w hSw; (try dsimp only at hSw); go_simp); all_goals with_reducible rfl
              try simp only [Act.put, List.setIfInBounds_toArray, List.set_cons_zero, List.set_cons_succ]
              refine take_skip (i := 33) rfl (by kernel_rfl) (by kernel_rfl) (by kernel_rfl) (fun _ _ _ h => h) (by kernel_rfl) (by assumption) ?_
              try simp only [Act.put, List.setIfInBounds_toArray, List.set_cons_zero, List.set_cons_succ]
              refine take_skip (i := 34) rfl (by kernel_rfl) (by kernel_rfl) (by kernel_rfl) (fun _ _ _ h => h) (by kernel_rfl) (by assumption) ?_
              try simp only [Act.put, List.setIfInBounds_toArray, List.set_cons_zero, List.set_cons_succ]
              refine take_skip (i := 35) rfl (by kernel_rfl) (by kernel_rfl) (by kernel_rfl) (fun _ _ _ h => h) (by kernel_rfl) (by assumption) ?_
              try simp only [Act.put, List.setIfInBounds_toArray, List.set_cons_zero, List.set_cons_succ]
              refine take_skip (i := 36) rfl (by kernel_rfl) (by kernel_rfl) (by kernel_rfl) (fun _ _ _ h => h) (by kernel_rfl) (by assumption) ?_
              try simp only [Act.put, List.setIfInBounds_toArray, List.set_cons_zero, List.set_cons_succ]
              refine take_skip (i := 37) rfl (by kernel_rfl) (by kernel_rfl) (by kernel_rfl) (fun _ _ _ h => h) (by kernel_rfl) (by assumption) ?_
              try simp only [Act.put, List.setIfInBounds_toArray, List.set_cons_zero, List.set_cons_succ]
              refine take_skip (i := 38) rfl (by kernel_rfl) (by kernel_rfl) (by kernel_rfl) (fun _ _ _ h => h) (by kernel_rfl) (by assumption) ?_
              try simp only [Act.put, List.setIfInBounds_toArray, List.set_cons_zero, List.set_cons_succ]
              refine take_skip (i := 39) rfl (by kernel_rfl) (by kernel_rfl) (by kernel_rfl) (fun _ _ _ h => h) (by kernel_rfl) (by assumption) ?_
              try simp only [Act.put, List.setIfInBounds_toArray, List.set_cons_zero, List.set_cons_succ]
              refine take_skip (i := 40) rfl (by kernel_rfl) (by kernel_rfl) (by kernel_rfl) (fun _ _ _ h => h) (by kernel_rfl) (by assumption) ?_
              try simp only [Act.put, List.setIfInBounds_toArray, List.set_cons_zero, List.set_cons_succ]
              refine take_skip (i := 41) rfl (by kernel_rfl) (by kernel_rfl) (by kernel_rfl) (fun _ _ _ h => h) (by kernel_rfl) (by assumption) ?_
              try simp only [Act.put, List.setIfInBounds_toArray, List.set_cons_zero, List.set_cons_succ]
              refine take_skip (i := 42) rfl (by kernel_rfl) (by kernel_rfl) (by kernel_rfl) (fun _ _ _ h => h) (by kernel_rfl) (by assumption) ?_
              try simp only [Act.put, List.setIfInBounds_toArray, List.set_cons_zero, List.set_cons_succ]
              refine take_skip (i := 43) rfl (by kernel_rfl) (by kernel_rfl) (by kernel_rfl) (fun _ _ _ h => h) (by kernel_rfl) (by assumption) ?_
              try simp only [Act.put, List.setIfInBounds_toArray, List.set_cons_zero, List.set_cons_succ]
              refine take_skip (i := 44) rfl (by kernel_rfl) (by kernel_rfl) (by kernel_rfl) (fun _ _ _ h => h) (by kernel_rfl) (by assumption) ?_
              try simp only [Act.put, List.setIfInBounds_toArray, List.set_cons_zero, List.set_cons_succ]
              refine take_skip (i := 45) rfl (by kernel_rfl) (by kernel_rfl) (by kernel_rfl) (fun _ _ _ h => h) (by kernel_rfl) (by assumption) ?_
              try simp only [Act.put, List.setIfInBounds_toArray, List.set_cons_zero, List.set_cons_succ]
              refine take_skip (i := 46) rfl (by kernel_rfl) (by kernel_rfl) (by kernel_rfl) (fun _ _ _ h => h) (by kernel_rfl) (by assumption) ?_
              try simp only [Act.put, List.setIfInBounds_toArray, List.set_cons_zero, List.set_cons_succ]
              refine take_skip (i := 47) rfl (by kernel_rfl) (by kernel_rfl) (by kernel_rfl) (fun _ _ _ h => h) (by kernel_rfl) (by assumption) ?_
              try simp only [Act.put, List.setIfInBounds_toArray, List.set_cons_zero, List.set_cons_succ]
              refine take_skip (i := 48) rfl (by kernel_rfl) (by kernel_rfl) (by kernel_rfl) (fun _ _ _ h => h) (by kernel_rfl) (by assumption) ?_
              try simp only [Act.put, List.setIfInBounds_toArray, List.set_cons_zero, List.set_cons_succ]
              refine take_skip (i := 49) rfl (by kernel_rfl) (by kernel_rfl) (by kernel_rfl) (fun _ _ _ h => h) (by kernel_rfl) (by assumption) ?_
              try simp only [Act.put, List.setIfInBounds_toArray, List.set_cons_zero, List.set_cons_succ]
              refine take_skip (i := 50) rfl (by kernel_rfl) (by kernel_rfl) (by kernel_rfl) (fun _ _ _ h => h) (by kernel_rfl) (by assumption) ?_
              try simp only [Act.put, List.setIfInBounds_toArray, List.set_cons_zero, List.set_cons_succ]
              refine take_run (i := 51) (v := ?_) rfl (by kernel_rfl) (by kernel_rfl) (by kernel_rfl) (fun _ _ _ h => h) (by kernel_rfl) ?_ (by assumption) ?_
              rotate_left
              · (intro w hSw; (try dsimp only at hSw); go_simp); all_goals with_reducible rfl
              try simp only [Act.put, List.setIfInBounds_toArray, List.set_cons_zero, List.set_cons_succ]
              refine take_run (i := 52) (v := ?_) rfl (by kernel_rfl) (by kernel_rfl) (by kernel_rfl) (fun _ _ _ h => h) (by kernel_rfl) ?_ (by assumption) ?_
              rotate_left
              · (intro w hSw; (try dsimp only at hSw); go_simp); all_goals with_reducible rfl
              try simp only [Act.put, List.setIfInBounds_toArray, List.set_cons_zero, List.set_cons_succ]
              refine wpAnyH_done (by kernel_rfl) ?_ _
              go_wp2_with fail
              go_meet
              case rel => exact ⟨rfl, a6, m6, bg (bg hB' q5 (by omega)) q6 (by omega)⟩
            case rest =>
              obtain ⟨rfl, R1, R2, R3⟩ := hcut
              clear hc0 hc1 hc2 P' ra' rm' hB'
              go_wp2_with fail
              go_roundw
              case rel => exact ⟨k + 1, by omega, by go_num, by rw [HS1.out]; exact R1, by rw [HS1.out]; exact R2, R3⟩
              case measure => simp [intOf]; omega
          · have hei : encI x = enc x.n := by unfold encI; rw [if_neg ht]
            have ht' : x.t = false := by simpa using ht
            rw [hei] at hed
            have hA := fun w1 (h : RS w1 g1 ⟨0, s0⟩) => num_any g1 ⟨0, s0⟩ w1 h (by simp only; omega)
            have hM := fun w1 (h : RS w1 g2 ⟨0, s0 ++ [c]⟩) => num_any g2 ⟨0, s0 ++ [c]⟩ w1 h (by simp only [List.length_append, List.length_cons, List.length_nil]; omega)
            rw [hed, num_enc x.n s1 hx1] at hA
            rw [hed, List.append_assoc, num_enc x.n (s1 ++ [c]) hx1] at hM
            rw [hed] at ra
            rw [hed, List.append_assoc] at rm
            have HA := Lib.hid hA
            have HM := Lib.hid hM
            have P' := P.drew
            have hc0 := P'.c0
            rw [ht'] at hc0
            have ra' := ra.drew
            have rm' := rm.drew
            clear hA hM hed hei ra rm P hlen1 hx1
            have hB' := hB.drew
            clear hB hb
            have hc1 := P'.c1
            have hc2 := P'.c2
            go_upto_region 19 with fail
            go_cut [122] (fun t wx => t = .bool false ∧ RS wx g1 ⟨0, s1⟩ ∧ RS wx g2 ⟨0, s1 ++ [c]⟩ ∧ Below W0.heap.size W0 wx)
            case first =>
              refine wp_region_held_drew (S := fun w' => w'.cell? ⟨b, off + k * 3, none⟩ = some (.bool false) ∧ w'.cell? ⟨b, off + k * 3 + 1, none⟩ = some (.int .u64 x.n) ∧ w'.cell? ⟨b, off + k * 3 + 2, none⟩ = some (.string (B x.s))) (by kernel_rfl) ?_ (fun hHeld => ?_)
              · exact ⟨hc0, hc1, hc2⟩
              refine take_run (i := 0) (v := ?_) rfl (by kernel_rfl) (by kernel_rfl) (by kernel_rfl) (fun _ _ _ h => h) (by kernel_rfl) ?_ (by assumption) ?_
              rotate_left
              · (intro w hSw; (try dsimp only at hSw); go_simp); all_goals with_reducible rfl
              try simp only [Act.put, List.setIfInBounds_toArray, List.set_cons_zero, List.set_cons_succ]
              refine take_run (i := 1) (v := ?_) rfl (by kernel_rfl) (by kernel_rfl) (by kernel_rfl) (fun _ _ _ h => h) (by kernel_rfl) ?_ (by assumption) ?_
              rotate_left
              · (intro w hSw; (try dsimp only at hSw); go_simp); all_goals with_reducible rfl
              try simp only [Act.put, List.setIfInBounds_toArray, List.set_cons_zero, List.set_cons_succ]
              refine take_run (i := 2) (v := ?_) rfl (by kernel_rfl) (by kernel_rfl) (by kernel_rfl) (fun _ _ _ h => h) (by kernel_rfl) ?_ (by assumption) ?_
              rotate_left
              · (intro w hSw; (try dsimp only at hSw); go_simp); all_goals with_reducible rfl
              try simp only [Act.put, List.setIfInBounds_toArray, List.set_cons_zero, List.set_cons_succ]
              refine take_run (i := 3) (v := ?_) rfl (by kernel_rfl) (by kernel_rfl) (by kernel_rfl) (fun _ _ _ h => h) (by kernel_rfl) ?_ (by assumption) ?_
              rotate_left
              · (intro w hSw; (try dsimp only at hSw); go_simp); all_goals with_reducible rfl
              try simp only [Act.put, List.setIfInBounds_toArray, List.set_cons_zero, List.set_cons_succ]
              refine take_run (i := 4) (v := ?_) rfl (by kernel_rfl) (by kernel_rfl) (by kernel_rfl) (fun _ _ _ h => h) (by kernel_rfl) ?_ (by assumption) ?_
              rotate_left
              · (intro w hSw; (try dsimp only at hSw); go_simp); all_goals with_reducible rfl
              try simp only [Act.put, List.setIfInBounds_toArray, List.set_cons_zero, List.set_cons_succ]
              refine take_run (i := 5) (v := ?_) rfl (by kernel_rfl) (by kernel_rfl) (by kernel_rfl) (fun _ _ _ h => h) (by kernel_rfl) ?_ (by assumption) ?_
              rotate_left
              · (intro w hSw; (try dsimp only at hSw); go_simp); all_goals with_reducible rfl
              try simp only [Act.put, List.setIfInBounds_toArray, List.set_cons_zero, List.set_cons_succ]
              refine take_skip (i := 6) rfl (by kernel_rfl) (by kernel_rfl) (by kernel_rfl) (fun _ _ _ h => h) (by kernel_rfl) (by assumption) ?_
              try simp only [Act.put, List.setIfInBounds_toArray, List.set_cons_zero, List.set_cons_succ]
              refine take_skip (i := 7) rfl (by kernel_rfl) (by kernel_rfl) (by kernel_rfl) (fun _ _ _ h => h) (by kernel_rfl) (by assumption) ?_
              try simp only [Act.put, List.setIfInBounds_toArray, List.set_cons_zero, List.set_cons_succ]
              refine take_skip (i := 8) rfl (by kernel_rfl) (by kernel_rfl) (by kernel_rfl) (fun _ _ _ h => h) (by kernel_rfl) (by assumption) ?_
              try simp only [Act.put, List.setIfInBounds_toArray, List.set_cons_zero, List.set_cons_succ]
              refine take_skip (i := 9) rfl (by kernel_rfl) (by kernel_rfl) (by kernel_rfl) (fun _ _ _ h => h) (by kernel_rfl) (by assumption) ?_
              try simp only [Act.put, List.setIfInBounds_toArray, List.set_cons_zero, List.set_cons_succ]
              refine take_skip (i := 10) rfl (by kernel_rfl) (by kernel_rfl) (by kernel_rfl) (fun _ _ _ h => h) (by kernel_rfl) (by assumption) ?_
              try simp only [Act.put, List.setIfInBounds_toArray, List.set_cons_zero, List.set_cons_succ]
              refine take_skip (i := 11) rfl (by kernel_rfl) (by kernel_rfl) (by kernel_rfl) (fun _ _ _ h => h) (by kernel_rfl) (by assumption) ?_
              try simp only [Act.put, List.setIfInBounds_toArray, List.set_cons_zero, List.set_cons_succ]
              refine take_skip (i := 12) rfl (by kernel_rfl) (by kernel_rfl) (by kernel_rfl) (fun _ _ _ h => h) (by kernel_rfl) (by assumption) ?_
              try simp only [Act.put, List.setIfInBounds_toArray, List.set_cons_zero, List.set_cons_succ]
              refine take_skip (i := 13) rfl (by kernel_rfl) (by kernel_rfl) (by kernel_rfl) (fun _ _ _ h => h) (by kernel_rfl) (by assumption) ?_
              try simp only [Act.put, List.setIfInBounds_toArray, List.set_cons_zero, List.set_cons_succ]
              refine take_skip (i := 14) rfl (by kernel_rfl) (by kernel_rfl) (by kernel_rfl) (fun _ _ _ h => h) (by kernel_rfl) (by assumption) ?_
              try simp only [Act.put, List.setIfInBounds_toArray, List.set_cons_zero, List.set_cons_succ]
              refine take_skip (i := 15) rfl (by kernel_rfl) (by kernel_rfl) (by kernel_rfl) (fun _ _ _ h => h) (by kernel_rfl) (by assumption) ?_
              try simp only [Act.put, List.setIfInBounds_toArray, List.set_cons_zero, List.set_cons_succ]
              refine take_skip (i := 16) rfl (by kernel_rfl) (by kernel_rfl) (by kernel_rfl) (fun _ _ _ h => h) (by kernel_rfl) (by assumption) ?_
              try simp only [Act.put, List.setIfInBounds_toArray, List.set_cons_zero, List.set_cons_succ]
              refine take_skip (i := 17) rfl (by kernel_rfl) (by kernel_rfl) (by kernel_rfl) (fun _ _ _ h => h) (by kernel_rfl) (by assumption) ?_
              try simp only [Act.put, List.setIfInBounds_toArray, List.set_cons_zero, List.set_cons_succ]
              refine take_skip (i := 18) rfl (by kernel_rfl) (by kernel_rfl) (by kernel_rfl) (fun _ _ _ h => h) (by kernel_rfl) (by assumption) ?_
              try simp only [Act.put, List.setIfInBounds_toArray, List.set_cons_zero, List.set_cons_succ]
              refine take_skip (i := 19) rfl (by kernel_rfl) (by kernel_rfl) (by kernel_rfl) (fun _ _ _ h => h) (by kernel_rfl) (by assumption) ?_
              try simp only [Act.put, List.setIfInBounds_toArray, List.set_cons_zero, List.set_cons_succ]
              refine take_skip (i := 20) rfl (by kernel_rfl) (by kernel_rfl) (by kernel_rfl) (fun _ _ _ h => h) (by kernel_rfl) (by assumption) ?_
              try simp only [Act.put, List.setIfInBounds_toArray, List.set_cons_zero, List.set_cons_succ]
              refine take_skip (i := 21) rfl (by kernel_rfl) (by kernel_rfl) (by kernel_rfl) (fun _ _ _ h => h) (by kernel_rfl) (by assumption) ?_
              try simp only [Act.put, List.setIfInBounds_toArray, List.set_cons_zero, List.set_cons_succ]
              refine take_skip (i := 22) rfl (by kernel_rfl) (by kernel_rfl) (by kernel_rfl) (fun _ _ _ h => h) (by kernel_rfl) (by assumption) ?_
              try simp only [Act.put, List.setIfInBounds_toArray, List.set_cons_zero, List.set_cons_succ]
              refine take_skip (i := 23) rfl (by kernel_rfl) (by kernel_rfl) (by kernel_rfl) (fun _ _ _ h => h) (by kernel_rfl) (by assumption) ?_
              try simp only [Act.put, List.setIfInBounds_toArray, List.set_cons_zero, List.set_cons_succ]
              refine take_run (i := 24) (v := ?_) rfl (by kernel_rfl) (by kernel_rfl) (by kernel_rfl) (fun _ _ _ h => h) (by kernel_rfl) ?_ (by assumption) ?_
              rotate_left
              · (intro w hSw; (try dsimp only at hSw); go_simp); all_goals with_reducible rfl
              try simp only [Act.put, List.setIfInBounds_toArray, List.set_cons_zero, List.set_cons_succ]
              refine take_run (i := 25) (v := ?_) rfl (by kernel_rfl) (by kernel_rfl) (by kernel_rfl) (fun _ _ _ h => h) (by kernel_rfl) ?_ (by assumption) ?_
              rotate_left
              · (intro w hSw; (try dsimp only at hSw); go_simp); all_goals with_reducible rfl
              try simp only [Act.put, List.setIfInBounds_toArray, List.set_cons_zero, List.set_cons_succ]
              refine take_run (i := 26) (v := ?_) rfl (by kernel_rfl) (by kernel_rfl) (by kernel_rfl) (fun _ _ _ h => h) (by kernel_rfl) ?_ (by assumption) ?_
              rotate_left
              · (intro w hSw; (try dsimp only at hSw); go_simp); all_goals with_reducible rfl
              try simp only [Act.put, List.setIfInBounds_toArray, List.set_cons_zero, List.set_cons_succ]
              refine take_run (i := 27) (v := ?_) rfl (by kernel_rfl) (by kernel_rfl) (by kernel_rfl) (fun _ _ _ h => h) (by kernel_rfl) ?_ (by assumption) ?_
              rotate_left
              · (intro w hSw; (try dsimp only at hSw); go_simp); all_goals with_reducible rfl
              try simp only [Act.put, List.setIfInBounds_toArray, List.set_cons_zero, List.set_cons_succ]
              refine take_run (i := 28) (v := ?_) rfl (by kernel_rfl) (by kernel_rfl) (by kernel_rfl) (fun _ _ _ h => h) (by kernel_rfl) ?_ (by assumption) ?_
              rotate_left
              · (intro w hSw; (try dsimp only at hSw); go_simp); all_goals with_reducible rfl
              try simp only [Act.put, List.setIfInBounds_toArray, List.set_cons_zero, List.set_cons_succ]
              refine take_run (i := 29) (v := ?_) rfl (by kernel_rfl) (by kernel_rfl) (by kernel_rfl) (fun _ _ _ h => h) (by kernel_rfl) ?_ (by assumption) ?_
              rotate_left
              · (intro w hSw; (try dsimp only at hSw); go_simp); all_goals with_reducible rfl
              try simp only [Act.put, List.setIfInBounds_toArray, List.set_cons_zero, List.set_cons_succ]
              refine take_run (i := 30) (v := ?_) rfl (by kernel_rfl) (by kernel_rfl) (by kernel_rfl) (fun _ _ _ h => h) (by kernel_rfl) ?_ (by assumption) ?_
              rotate_left
              · (intro w hSw; (try dsimp only at hSw); go_simp); all_goals with_reducible rfl
              try simp only [Act.put, List.setIfInBounds_toArray, List.set_cons_zero, List.set_cons_succ]
              refine take_run (i := 31) (v := ?_) rfl (by kernel_rfl) (by kernel_rfl) (by kernel_rfl) (fun _ _ _ h => h) (by kernel_rfl) ?_ (by assumption) ?_
              rotate_left
              · (intro w hSw; (try dsimp only at hSw); go_simp); all_goals with_reducible rfl
              try simp only [Act.put, List.setIfInBounds_toArray, List.set_cons_zero, List.set_cons_succ]
              refine take_run (i := 32) (v := ?_) rfl (by kernel_rfl) (by kernel_rfl) (by kernel_rfl) (fun _ _ _ h => h) (by kernel_rfl) ?_ (by assumption) ?_
              rotate_left
              · (intro w hSw; (try dsimp only at hSw); go_simp); all_goals with_reducible rfl
              try simp only [Act.put, List.setIfInBounds_toArray, List.set_cons_zero, List.set_cons_succ]
              refine take_run (i := 33) (v := ?_) rfl (by kernel_rfl) (by kernel_rfl) (by kernel_rfl) (fun _ _ _ h => h) (by kernel_rfl) ?_ (by assumption) ?_
              rotate_left
              · (intro w hSw; (try dsimp only at hSw); go_simp); all_goals with_reducible rfl
              try simp only [Act.put, List.setIfInBounds_toArray, List.set_cons_zero, List.set_cons_succ]
              refine take_run (i := 35) (v := ?_) rfl (by kernel_rfl) (by kernel_rfl) (by kernel_rfl) (fun _ _ _ h => h) (by kernel_rfl) ?_ (by assumption) ?_
              rotate_left
              · (intro w hSw; (try dsimp only at hSw); go_simp); all_goals with_reducible rfl
              try simp only [Act.put, List.setIfInBounds_toArray, List.set_cons_zero, List.set_cons_succ]
              refine take_run (i := 36) (v := ?_) rfl (by kernel_rfl) (by kernel_rfl) (by kernel_rfl) (fun _ _ _ h => h) (by kernel_rfl) ?_ (by assumption) ?_
              rotate_left
              · (intro w hSw; (try dsimp only at hSw); go_simp); all_goals with_reducible rfl
              try simp only [Act.put, List.setIfInBounds_toArray, List.set_cons_zero, List.set_cons_succ]
              refine take_run (i := 37) (v := ?_) rfl (by kernel_rfl) (by kernel_rfl) (by kernel_rfl) (fun _ _ _ h => h) (by kernel_rfl) ?_ (by assumption) ?_
              rotate_left
              · (intro w hSw; (try dsimp only at hSw); go_simp); all_goals with_reducible rfl
              try simp only [Act.put, List.setIfInBounds_toArray, List.set_cons_zero, List.set_cons_succ]
              refine take_run (i := 38) (v := ?_) rfl (by kernel_rfl) (by kernel_rfl) (by kernel_rfl) (fun _ _ _ h => h) (by kernel_rfl) ?_ (by assumption) ?_
              rotate_left
              · (intro w hSw; (try dsimp only at hSw); go_simp); all_goals with_reducible rfl
              try simp only [Act.put, List.setIfInBounds_toArray, List.set_cons_zero, List.set_cons_succ]
              refine take_run (i := 39) (v := ?_) rfl (by kernel_rfl) (by kernel_rfl) (by kernel_rfl) (fun _ _ _ h => h) (by kernel_rfl) ?_ (by assumption) ?_
              rotate_left
              · (intro w hSw; (try dsimp only at hSw); go_simp); all_goals with_reducible rfl
              try simp only [Act.put, List.setIfInBounds_toArray, List.set_cons_zero, List.set_cons_succ]
              refine take_call (i := 34) rfl (by kernel_rfl) (by kernel_rfl) (fun K hK => ?_)
              go_simp; refine (HA.out _ ra').mono ?_; rintro r w5 ⟨rfl, a5, q5⟩; have P5 := P'.grown q5 n1; have hd5 := P5.c0; rw [ht'] at hd5; have m5 := rm'.kept q5 n3.symm
              go_wp2_with fail
              clear hHeld
              refine hK.out _ _ ?_ (fun hHeld => ?_)
              · exact ⟨hd5, P5.c1, P5.c2⟩
              clear hK K
              try simp only [Act.put, List.setIfInBounds_toArray, List.set_cons_zero, List.set_cons_succ]
              refine take_run (i := 40) (v := ?_) rfl (by kernel_rfl) (by kernel_rfl) (by kernel_rfl) (fun _ _ _ h => h) (by kernel_rfl) ?_ (by assumption) ?_
              rotate_left
              · (intro w hSw; (try dsimp only at hSw); go_simp); all_goals with_reducible rfl
              try simp only [Act.put, List.setIfInBounds_toArray, List.set_cons_zero, List.set_cons_succ]
              refine take_run (i := 41) (v := ?_) rfl (by kernel_rfl) (by kernel_rfl) (by kernel_rfl) (fun _ _ _ h => h) (by kernel_rfl) ?_ (by assumption) ?_
              rotate_left
              · (intro w hSw; (try dsimp only at hSw); go_simp); all_goals with_reducible rfl
              try simp only [Act.put, List.setIfInBounds_toArray, List.set_cons_zero, List.set_cons_succ]
              refine take_run (i := 42) (v := ?_) rfl (by kernel_rfl) (by kernel_rfl) (by kernel_rfl) (fun _ _ _ h => h) (by kernel_rfl) ?_ (by assumption) ?_
              rotate_left
              · (intro w hSw; (try dsimp only at hSw); go_simp); all_goals with_reducible rfl
              try simp only [Act.put, List.setIfInBounds_toArray, List.set_cons_zero, List.set_cons_succ]
              refine take_run (i := 44) (v := ?_) rfl (by kernel_rfl) (by kernel_rfl) (by kernel_rfl) (fun _ _ _ h => h) (by kernel_rfl) ?_ (by assumption) ?_
              rotate_left
              · (intro w hSw; (try dsimp only at hSw); go_simp); all_goals with_reducible rfl
              try simp only [Act.put, List.setIfInBounds_toArray, List.set_cons_zero, List.set_cons_succ]
              refine take_run (i := 45) (v := ?_) rfl (by kernel_rfl) (by kernel_rfl) (by kernel_rfl) (fun _ _ _ h => h) (by kernel_rfl) ?_ (by assumption) ?_
              rotate_left
              · (intro w hSw; (try dsimp only at hSw); go_simp); all_goals with_reducible rfl
              try simp only [Act.put, List.setIfInBounds_toArray, List.set_cons_zero, List.set_cons_succ]
              refine take_run (i := 46) (v := ?_) rfl (by kernel_rfl) (by kernel_rfl) (by kernel_rfl) (fun _ _ _ h => h) (by kernel_rfl) ?_ (by assumption) ?_
              rotate_left
              · (intro w hSw; (try dsimp only at hSw); go_simp); all_goals with_reducible rfl
              try simp only [Act.put, List.setIfInBounds_toArray, List.set_cons_zero, List.set_cons_succ]
              refine take_run (i := 47) (v := ?_) rfl (by kernel_rfl) (by kernel_rfl) (by kernel_rfl) (fun _ _ _ h => h) (by kernel_rfl) ?_ (by assumption) ?_
              rotate_left
              · (intro w hSw; (try dsimp only at hSw); go_simp); all_goals with_reducible rfl
              try simp only [Act.put, List.setIfInBounds_toArray, List.set_cons_zero, List.set_cons_succ]
              refine take_run (i := 48) (v := ?_) rfl (by kernel_rfl) (by kernel_rfl) (by kernel_rfl) (fun _ _ _ h => h) (by kernel_rfl) ?_ (by assumption) ?_
              rotate_left
              · (intro w hSw; (try dsimp only at hSw); go_simp); all_goals with_reducible rfl
              try simp only [Act.put, List.setIfInBounds_toArray, List.set_cons_zero, List.set_cons_succ]
              refine take_call (i := 43) rfl (by kernel_rfl) (by kernel_rfl) (fun K hK => ?_)
              go_simp; refine (HM.out _ m5).mono ?_; rintro r w6 ⟨rfl, m6, q6⟩; have P6 := P5.grown q6 n2; have hd6 := P6.c0; rw [ht'] at hd6; have a6 := a5.kept q6 n3
              go_wp2_with fail
              clear hHeld
              refine hK.out _ _ ?_ (fun hHeld => ?_)
              · exact ⟨hd6, P6.c1, P6.c2⟩
              clear hK K
              try simp only [Act.put, List.setIfInBounds_toArray, List.set_cons_zero, List.set_cons_succ]
              refine take_run (i := 49) (v := ?_) rfl (by kernel_rfl) (by kernel_rfl) (by kernel_rfl) (fun _ _ _ h => h) (by kernel_rfl) ?_ (by assumption) ?_
              rotate_left
              · (intro w hSw; (try dsimp only at hSw); go_simp); all_goals with_reducible rfl
              try simp only [Act.put, List.setIfInBounds_toArray, List.set_cons_zero, List.set_cons_succ]
              refine take_run (i := 50) (v := ?_) rfl (by kernel_rfl) (by kernel_rfl) (by kernel_rfl) (fun _ _ _ h => h) (by kernel_rfl) ?_ (by assumption) ?_
              rotate_left
              · (intro w hSw; (try dsimp only at hSw); go_simp); all_goals with_reducible rfl
              try simp only [Act.put, List.setIfInBounds_toArray, List.set_cons_zero, List.set_cons_succ]
              refine take_run (i := 51) (v := ?_) rfl (by kernel_rfl) (by kernel_rfl) (by kernel_rfl) (fun _ _ _ h => h) (by kernel_rfl) ?_ (by assumption) ?_
              rotate_left
              · (intro w hSw; (try dsimp only at hSw); go_simp); all_goals with_reducible rfl
              try simp only [Act.put, List.setIfInBounds_toArray, List.set_cons_zero, List.set_cons_succ]
              refine take_run (i := 52) (v := ?_) rfl (by kernel_rfl) (by kernel_rfl) (by kernel_rfl) (fun _ _ _ h => h) (by kernel_rfl) ?_ (by assumption) ?_
              rotate_left
              · (intro w hSw; (try dsimp only at hSw); go_simp); all_goals with_reducible rfl
              try simp only [Act.put, List.setIfInBounds_toArray, List.set_cons_zero, List.set_cons_succ]
              refine wpAnyH_done (by kernel_rfl) ?_ _
              go_wp2_with fail
              go_meet
              case rel => exact ⟨rfl, a6, m6, bg (bg hB' q5 (by omega)) q6 (by omega)⟩
            case rest =>
              obtain ⟨rfl, R1, R2, R3⟩ := hcut
              clear hc0 hc1 hc2 P' ra' rm' hB'
              go_wp2_with fail
              go_roundw
              case rel => exact ⟨k + 1, by omega, by go_num, by rw [HS1.out]; exact R1, by rw [HS1.out]; exact R2, R3⟩
              case measure => simp [intOf]; omega
        · obtain rfl : k = l.length := by omega
          rw [List.drop_length] at ra rm
          have ra : RS wr g1 ⟨0, []⟩ := ra
          have rm : RS wr g2 ⟨0, [c]⟩ := rm
          have hfin : St.fin ⟨0, [c]⟩ = ⟨4, [c]⟩ := rfl
          have hL1 : ∀ w1, RS w1 g1 ⟨0, []⟩ → Calls Try.prog 17 #[.pointer (some ⟨g1, 0, none⟩)] w1 fun r w' => r = .returned (.int .i64 0) ∧ w1 = w' := fun w1 h => left_st g1 _ w1 h
          have hE1 : ∀ w1, RS w1 g1 ⟨0, []⟩ → Calls Try.prog 18 #[.pointer (some ⟨g1, 0, none⟩)] w1 fun r w' => r = .returned (.int .i64 0) ∧ RS w' g1 ⟨0, []⟩ ∧ w1.grownBy w' (some g1) := fun w1 h => by
            have := end_st g1 _ w1 h; rw [wk_fin] at this; exact this
          have hR2 : ∀ w1, RS w1 g2 ⟨0, [c]⟩ → Calls Try.prog 16 #[.pointer (some ⟨g2, 0, none⟩)] w1 fun r w' => r = .returned (.int .i64 0) ∧ w1 = w' := fun w1 h => err_st g2 _ w1 h
          have hL2 : ∀ w1, RS w1 g2 ⟨0, [c]⟩ → Calls Try.prog 17 #[.pointer (some ⟨g2, 0, none⟩)] w1 fun r w' => r = .returned (.int .i64 1) ∧ w1 = w' := fun w1 h => left_st g2 _ w1 h
          have hE2 : ∀ w1, RS w1 g2 ⟨0, [c]⟩ → Calls Try.prog 18 #[.pointer (some ⟨g2, 0, none⟩)] w1 fun r w' => r = .returned (.int .i64 4) ∧ RS w' g2 ⟨4, [c]⟩ ∧ w1.grownBy w' (some g2) := fun w1 h => by
            have := end_st g2 _ w1 h; rw [hfin] at this; exact this
          have HL1 := Lib.hid hL1
          have HE1 := Lib.hid hE1
          have HR2 := Lib.hid hR2
          have HL2 := Lib.hid hL2
          have HE2 := Lib.hid hE2
          clear hL1 hE1 hR2 hL2 hE2 hfin hb
          have h0' : ¬ (l.length : Int) = 0 := by omega
          obtain ⟨m, hm⟩ : ∃ m, sn = m + 1 := ⟨sn - 1, by omega⟩
          have hsm : Src W0 sa m sc bl.dropLast := by subst hm; exact hs0.short
          have hm2 : (m : Int) ≤ 9223372036854775807 := by have := hs0.len; omega
          have hm0 : (0 : Int) ≤ (m : Int) := by omega
          have hm1 : (m : Int) ≤ (sc : Int) := by omega
          go_wp2_with (first
            | (go_at_call 17; (with_reducible refine (HL1.out _ ra).mono ?_); rintro r w4 ⟨rfl, rfl⟩)
            | (go_at_call 18; (with_reducible refine (HE1.out _ ra).mono ?_); rintro r w5 ⟨rfl, a5, q5⟩; have m5 := rm.kept q5 (Nat.ne_of_gt hg12); have hB5 := bg hB q5 (by omega))
            | (go_at_call 16; (with_reducible refine (HR2.out _ m5).mono ?_); rintro r w4 ⟨rfl, rfl⟩)
            | (go_at_call 17; (with_reducible refine (HL2.out _ m5).mono ?_); rintro r w4 ⟨rfl, rfl⟩)
            | (go_at_call 18; (with_reducible refine (HE2.out _ m5).mono ?_); rintro r w6 ⟨rfl, m6, q6⟩; have hB6 := bg hB5 q6 (by omega); have hcv6 := (hsm.below hB6).string))
          refine (of_any bl.dropLast _).mono ?_
          rintro r w7 ⟨rfl, a7, b7⟩
          have hB7 := bb hB6 b7
          have hb7 := bb hb0 hB7
          have hg3 : w.heap.size ≤ w6.heap.size := (bb hb0 hB6).size
          generalize w6.heap.size = g3 at a7 hg3
          clear ra rm a5 m5 q5 hB5 m6 q6 hB6 hcv6 hsm hm0 hm1 hm2 hB hB7 b7
          go_wp2_with fail
          go_loopw [11] (fun i wr => ∃ k : Nat, k ≤ l.length ∧ i = .int .i64 k ∧ RS wr g3 ((l.take k).foldl stepI ⟨0, bl.dropLast⟩) ∧ Below w.heap.size w wr) (fun i _ => l.length - (intOf i).toNat)
          case atStart => exact ⟨0, Nat.zero_le _, rfl, a7, hb7⟩
          case round =>
            clear a7 hb7
            obtain ⟨k, hk, rfl, ra, hb⟩ := hrel
            by_cases hlt : k < l.length
            · obtain ⟨c0, c1, c2, n1, s1⟩ := (HC.out.below hb) k hlt
              have hst := foldl_take l ⟨0, bl.dropLast⟩ k hlt
              have hfl := foldl_len (l.take k) ⟨0, bl.dropLast⟩
              simp only [List.length_dropLast] at hfl
              generalize l[k] = x at c0 c1 c2 n1 s1 hst
              generalize (l.take k).foldl stepI ⟨0, bl.dropLast⟩ = s0 at ra hst hfl
              have HST := Lib.hid hst
              clear hst
              have hfl2 : (s0.l.length : Int) ≤ 281474976710656 := by omega
              by_cases ht : x.t = true
              · have hei : stepI s0 x = (s0.str 100).2 := by unfold stepI; rw [if_pos ht]
                have HEI := Lib.hid hei
                clear hei
                go_wp2_with (go_at_call 20; refine (str_any g3 s0 100 _ ra (by omega) (by decide) (by decide)).mono ?_; rintro r w4 ⟨rfl, a4, q4⟩)
                go_roundw
                case rel => exact ⟨k + 1, by omega, by go_num, by rw [HST.out, HEI.out]; exact a4, bg hb q4 hg3⟩
                case measure => simp [intOf]; omega
              · have htf : x.t = false := by simpa using ht
                have hei : stepI s0 x = s0.num.2 := by unfold stepI; rw [if_neg ht]
                have HEI := Lib.hid hei
                clear hei ht
                go_wp2_with (go_at_call 21; refine (num_any g3 s0 _ ra (by omega)).mono ?_; rintro r w4 ⟨rfl, a4, q4⟩)
                go_roundw
                case rel => exact ⟨k + 1, by omega, by go_num, by rw [HST.out, HEI.out]; exact a4, bg hb q4 hg3⟩
                case measure => simp [intOf]; omega
            · obtain rfl : k = l.length := by omega
              rw [List.take_length] at ra
              have hce := cut_ends l (by intro h; subst h; simp at h0) HOK.out
              rw [HBL.out] at hce
              generalize l.foldl stepI ⟨0, bl.dropLast⟩ = s9 at ra hce
              obtain ⟨e9, l9⟩ := s9
              obtain rfl : e9 = 3 := hce
              have hR3 : ∀ w1, RS w1 g3 ⟨3, l9⟩ → Calls Try.prog 16 #[.pointer (some ⟨g3, 0, none⟩)] w1 fun r w' => r = .returned (.int .i64 3) ∧ w1 = w' := fun w1 h => err_st g3 _ w1 h
              have hL3 : ∀ w1, RS w1 g3 ⟨3, l9⟩ → Calls Try.prog 17 #[.pointer (some ⟨g3, 0, none⟩)] w1 fun r w' => r = .returned (.int .i64 0) ∧ w1 = w' := fun w1 h => left_st g3 _ w1 h
              have HR3 := Lib.hid hR3
              have HL3 := Lib.hid hL3
              clear hR3 hL3
              go_wp2_with (first
                | (go_at_call 16; (with_reducible refine (HR3.out _ ra).mono ?_); rintro r w4 ⟨rfl, rfl⟩)
                | (go_at_call 17; (with_reducible refine (HL3.out _ ra).mono ?_); rintro r w4 ⟨rfl, rfl⟩)
                | (go_at_call 9; refine (wakes_any _).mono ?_; rintro r w8 ⟨rfl, b8⟩))
              go_ret
              exact ⟨rfl, bb hb b8⟩

end Go.Proofs.Ytmlljdfeppgcaaa
