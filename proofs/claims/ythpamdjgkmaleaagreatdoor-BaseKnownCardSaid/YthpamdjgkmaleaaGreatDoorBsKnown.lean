/-
  The law BaseKnown over this translation, over a BaseSpec: its disks by computing, and the walk.
-/
import Derived.Test.YthpamdjgkmaleaaGreatDoorBsWakes
import Derived.Test.YthpamdjgkmaleaaGreatDoorDkRead
import Derived.Test.YthpamdjgkmaleaaGreatDoorMj
namespace Go.Proofs.YthpamdjgkmaleaaGreatDoor
open Go.RowKit
set_option linter.unusedVariables false
set_option maxRecDepth 1000000
variable {G : (Nat → Prop) → World → Addr → Nat → PD → Prop}

def sevenB : List UInt8 := [115, 101, 118, 101, 110]
def junkB : List UInt8 := [106, 117, 110, 107]
def nmF (a b : UInt8) : List UInt8 := [98, 48, 48, 48, 48, 48, 48, 48, 48, 48, 48, 48, 48, 48, 48, a, b]
def nmC : List UInt8 := [99, 48, 48, 48, 48, 48, 48, 48, 48, 48, 48, 48, 48, 48, 48, 48, 49]
def jf (nm : List UInt8) : PF := ⟨nm, junkB, 0⟩
def s7 : PF := bfile 7 sevenB
def bd1 : PD := ⟨[s7], 4194304 - 16, -1, false⟩
def bd2 : PD := ⟨[s7, jf (nmF 49 102)], 4194304 - 20, -1, false⟩
def bd3 : PD := ⟨[jf (nmF 48 48), s7, jf (nmF 49 102)], 4194304 - 24, -1, false⟩
def bd4 : PD := ⟨[jf (nmF 48 48), s7, jf (nmF 48 70), jf (nmF 49 102)], 4194304 - 28, -1, false⟩
def bd5 : PD := ⟨[jf (nmF 48 48), s7, jf (nmF 48 70), jf (nmF 49 102), jf nmC], 4194304 - 32, -1, false⟩
def bd6 : PD := ⟨[jf (nmF 48 48), s7, jf (nmF 48 70), jf nmC], 4194304 - 28, -1, false⟩
def bd7 (s : Nat) : PD := ⟨[jf (nmF 48 48), s7, ⟨nmF 48 57, frameL (insideB 7 sevenB), s⟩, jf (nmF 48 70), jf nmC], 4194304 - 44, -1, false⟩
theorem bk_1 : saveB PD.new 7 sevenB = (bd1, 0) := by kernel_rfl
theorem bk_2 : bd1.append (nmF 49 102) junkB = (bd2, 0) := by kernel_rfl
theorem bk_3 : bd2.append (nmF 48 48) junkB = (bd3, 0) := by kernel_rfl
theorem bk_4 : bd3.append (nmF 48 70) junkB = (bd4, 0) := by kernel_rfl
theorem bk_5 : bd4.append nmC junkB = (bd5, 0) := by kernel_rfl
theorem bk_6 : openB bd5 = (bd6, 0) := by kernel_rfl
theorem bk_6b : baseL bd6.files = (7, sevenB) := by kernel_rfl
theorem bk_7 : bd6.append (nmF 48 57) (frameL (insideB 7 sevenB)) = (bd7 0, 0) := by kernel_rfl
theorem bk_8 : (bd7 0).sync (nmF 48 57) = (bd7 16, 0) := by kernel_rfl
theorem bk_9 : openB (bd7 16) = (bd7 16, 10) := by kernel_rfl
theorem bk_o5 : oneB bd5 := of_decide_eq_true (p := (bd5.files.filter isGood).length ≤ 1) (by kernel_rfl)
theorem bk_o7 : oneB (bd7 16) := of_decide_eq_true (p := ((bd7 16).files.filter isGood).length ≤ 1) (by kernel_rfl)
theorem bk_f : bd1.find (nmF 48 55) = some s7 := by kernel_rfl
theorem bs1 : Sane bd1 := sane_of (by kernel_rfl)
theorem bs2 : Sane bd2 := sane_of (by kernel_rfl)
theorem bs3 : Sane bd3 := sane_of (by kernel_rfl)
theorem bs4 : Sane bd4 := sane_of (by kernel_rfl)
theorem bs5 : Sane bd5 := sane_of (by kernel_rfl)
theorem bs6 : Sane bd6 := sane_of (by kernel_rfl)
theorem bs70 : Sane (bd7 0) := sane_of (by kernel_rfl)
theorem bs71 : Sane (bd7 16) := sane_of (by kernel_rfl)
theorem bk_len : (frameL (insideB 7 sevenB)).length = 16 := by kernel_rfl

theorem DkOff.syn {K : Nat → Prop} {w : World} {p : Nat} {d d' : PD} {nm : List UInt8} (h : DkOff K w p d) (h1 : nm.length ≤ 100) (ha : d.sync nm = (d', 0)) :
    Calls Tryz.prog 20 #[.pointer (some ⟨p, 0, none⟩), .string (B nm)] w fun r w' => r = .returned (.int .i64 0) ∧ DkOff K w' p d' ∧ Kept K w w' := by
  refine h.calls fun F hF => ?_
  have := sync_any hF nm (by unfold maxLen; omega)
  rw [ha] at this
  exact this
theorem save_long {d : PD} {n m : Nat} {t u : List UInt8} {f : Int} (h : BUp d n t f) (hnm : n < m) (hl : 65536 < (insideB m u).length) : saveB d m u = (d, 6) := by
  unfold saveB
  rw [h.base, if_neg (by simp only; omega), if_pos hl]
theorem far_len {u : List UInt8} (h : u.length = 65532) : 65536 < (insideB 18446744073709551615 u).length := by
  rw [inside_length, h, show (enc 18446744073709551615).length = 9 from by kernel_rfl, show (enc 65532).length = 3 from by kernel_rfl]
  decide
theorem far_src (w : World) : ∃ (L : List UInt8) (w1 : World), L.length = 65525 ∧ (Instr.makeSlice 50 (.int .i64 65525) (.int .i64 65525)).run Tryz.prog w = .ok (.slice (some ⟨w.heap.size, 0, none⟩) 65525 65525) w1 ∧ Src w1 (some ⟨w.heap.size, 0, none⟩) 65525 65525 L ∧ Below w.heap.size w w1 := by
  obtain ⟨L, hL⟩ : ∃ L : List UInt8, L = List.replicate 65525 0 := ⟨_, rfl⟩
  obtain ⟨ti, hi, hz, hs1, hby⟩ := info_parts info_u8
  obtain ⟨w1, hmk, hown, hg⟩ := run_make_full (P := Tryz.prog) w w.heap.size 50 5 ti (.int .u8 0) 1 Tryz.underlying50 hi hz hs1 .i64 .i64 65525 (by rw [hby]; omega) (by unfold maxLen; omega) (Nat.le_refl _)
  have hz8 : (madeCells (Value.int .u8 0).cells (65525 * 1)).toList = Lib.byteCells L := by
    show (madeCells #[Value.int .u8 0] (65525 * 1)).toList = _
    rw [toList_madeCells_one, hL, Lib.byteCells, List.map_replicate]
    rfl
  rw [hz8] at hown
  exact ⟨L, w1, by rw [hL, List.length_replicate], hmk, Src.of_own (base := w.heap.size) hown, (Below.refl _ _).grown hg (Nat.le_refl _) (by simp)⟩

set_option maxRecDepth 100000 in
set_option maxHeartbeats 4000000 in
theorem baseKnown_go (S : BaseSpec G) {w : World} (E : Env w) : Calls Tryz.prog 6 #[] w fun e w' => e = .returned (.bool true) ∧ Below w.heap.size w w' := by
  have HW := Lib.hid (fun v (E : Env v) => S.wakes E)
  have HN := Lib.hid (fun v (hb : Below w.heap.size w v) => new_off (E.below hb))
  have hA1 : ∀ K (v : World) x p, UpB G K v x p PD.new 0 [] (-1) → Calls Tryz.prog 9 #[.pointer (some x), .int .u64 7, .string ⟨#[115, 101, 118, 101, 110]⟩] v fun e w' => e = .returned (.int .i64 0) ∧ DkOff K w' p bd1 ∧ Kept K v w' := fun K v x p h => by
    have := S.saves (m := 7) (u := sevenB) h.store h.st h.f0 h.f1 (by decide) (.inl (by decide))
    rw [bk_1] at this
    exact this.mono fun e w' h => ⟨h.1, h.2.2.1, h.2.2.2⟩
  have hR : ∀ K (v : World) p, DkOff K v p bd1 → Calls Tryz.prog 18 #[.pointer (some ⟨p, 0, none⟩), .string ⟨#[98, 48, 48, 48, 48, 48, 48, 48, 48, 48, 48, 48, 48, 48, 48, 48, 55]⟩] v fun r w' => r = .returned (.tuple #[fileV s7, .int .i64 0]) ∧ DkOff K w' p bd1 ∧ Below v.heap.size v w' := fun K v p h => by
    obtain ⟨F, h1, h2, h3⟩ := id h
    exact (readf_any h1 (nmF 48 55) (by decide) rfl bk_f).mono fun r w' hr => ⟨hr.1, h.below hr.2, hr.2⟩
  have hR2 : ∀ K (v : World) p, DkOff K v p bd1 → Calls Tryz.prog 18 #[.pointer (some ⟨p, 0, none⟩), .string ⟨#[98, 48, 48, 48, 48, 48, 48, 48, 48, 48, 48, 48, 48, 48, 48, 48, 55]⟩] v fun r w' => r = .returned (.tuple #[.agg #[.string (B (bname 7)), .string (B (frameL (insideB 7 sevenB))), .int .i64 ((frameL (insideB 7 sevenB)).length : Nat)], .int .i64 0]) ∧ DkOff K w' p bd1 ∧ Below v.heap.size v w' := hR
  clear hR
  obtain ⟨NM, hNM⟩ : ∃ NM, B (bname 7) = NM := ⟨_, rfl⟩
  obtain ⟨Z, hZ⟩ : ∃ Z, B (frameL (insideB 7 sevenB)) = Z := ⟨_, rfl⟩
  rw [hNM, hZ, bk_len] at hR2
  have HZ := Lib.hid hZ
  have HA1 := Lib.hid hA1
  have HR := Lib.hid hR2
  clear hA1 hR2 hNM hZ
  have hP2 : ∀ K (v : World) p, DkOff K v p bd1 → Calls Tryz.prog 19 #[.pointer (some ⟨p, 0, none⟩), .string ⟨#[98, 48, 48, 48, 48, 48, 48, 48, 48, 48, 48, 48, 48, 48, 48, 49, 102]⟩, .string ⟨#[106, 117, 110, 107]⟩] v fun r w' => r = .returned (.int .i64 0) ∧ DkOff K w' p bd2 ∧ Kept K v w' := fun K v p h => h.app (nm := [98, 48, 48, 48, 48, 48, 48, 48, 48, 48, 48, 48, 48, 48, 48, 49, 102]) (s := junkB) bs1 (by decide) (by decide) bk_2
  have hP3 : ∀ K (v : World) p, DkOff K v p bd2 → Calls Tryz.prog 19 #[.pointer (some ⟨p, 0, none⟩), .string ⟨#[98, 48, 48, 48, 48, 48, 48, 48, 48, 48, 48, 48, 48, 48, 48, 48, 48]⟩, .string ⟨#[106, 117, 110, 107]⟩] v fun r w' => r = .returned (.int .i64 0) ∧ DkOff K w' p bd3 ∧ Kept K v w' := fun K v p h => h.app (nm := [98, 48, 48, 48, 48, 48, 48, 48, 48, 48, 48, 48, 48, 48, 48, 48, 48]) (s := junkB) bs2 (by decide) (by decide) bk_3
  have hP4 : ∀ K (v : World) p, DkOff K v p bd3 → Calls Tryz.prog 19 #[.pointer (some ⟨p, 0, none⟩), .string ⟨#[98, 48, 48, 48, 48, 48, 48, 48, 48, 48, 48, 48, 48, 48, 48, 48, 70]⟩, .string ⟨#[106, 117, 110, 107]⟩] v fun r w' => r = .returned (.int .i64 0) ∧ DkOff K w' p bd4 ∧ Kept K v w' := fun K v p h => h.app (nm := [98, 48, 48, 48, 48, 48, 48, 48, 48, 48, 48, 48, 48, 48, 48, 48, 70]) (s := junkB) bs3 (by decide) (by decide) bk_4
  have hP5 : ∀ K (v : World) p, DkOff K v p bd4 → Calls Tryz.prog 19 #[.pointer (some ⟨p, 0, none⟩), .string ⟨#[99, 48, 48, 48, 48, 48, 48, 48, 48, 48, 48, 48, 48, 48, 48, 48, 49]⟩, .string ⟨#[106, 117, 110, 107]⟩] v fun r w' => r = .returned (.int .i64 0) ∧ DkOff K w' p bd5 ∧ Kept K v w' := fun K v p h => h.app (nm := [99, 48, 48, 48, 48, 48, 48, 48, 48, 48, 48, 48, 48, 48, 48, 48, 49]) (s := junkB) bs4 (by decide) (by decide) bk_5
  have hB6 : ∀ K (v : World) x p, G K v x p bd6 → Calls Tryz.prog 8 #[.pointer (some x)] v fun r w' => r = .returned (.tuple #[.int .u64 7, .string ⟨#[115, 101, 118, 101, 110]⟩, .bool true]) ∧ DkOff K w' p bd6 ∧ Kept K v w' := fun K v x p h => by
    have := S.bases h
    rw [bk_6b] at this
    exact this.mono fun r w' hr => ⟨hr.1, S.disk hr.2.1, hr.2.2⟩
  have hF6 : ∀ K (v : World) p, DkOff K v p bd6 → Calls Tryz.prog 16 #[.pointer (some ⟨p, 0, none⟩)] v fun r w' => ∃ a c, r = .returned (.slice a 4 c) ∧ Below v.heap.size v w' ∧ DkOff K w' p bd6 := fun K v p h => (h.files bs6).mono fun r w' hr => by
    obtain ⟨a, c, h1, _, h3⟩ := hr
    exact ⟨a, c, h1, h3, h.below h3⟩
  have hP7 : ∀ K (v : World) p, DkOff K v p bd6 → Calls Tryz.prog 19 #[.pointer (some ⟨p, 0, none⟩), .string ⟨#[98, 48, 48, 48, 48, 48, 48, 48, 48, 48, 48, 48, 48, 48, 48, 48, 57]⟩, .string Z] v fun r w' => r = .returned (.int .i64 0) ∧ DkOff K w' p (bd7 0) ∧ Kept K v w' := fun K v p h => by
    have := h.app (nm := nmF 48 57) (s := frameL (insideB 7 sevenB)) bs6 (by decide) (by rw [bk_len]; decide) bk_7
    rw [HZ.out] at this
    exact this
  have hP8 : ∀ K (v : World) p, DkOff K v p (bd7 0) → Calls Tryz.prog 20 #[.pointer (some ⟨p, 0, none⟩), .string ⟨#[98, 48, 48, 48, 48, 48, 48, 48, 48, 48, 48, 48, 48, 48, 48, 48, 57]⟩] v fun r w' => r = .returned (.int .i64 0) ∧ DkOff K w' p (bd7 16) ∧ Kept K v w' := fun K v p h => h.syn (nm := nmF 48 57) (by decide) bk_8
  have hS2 : ∀ K (v : World) x p d, UpB G K v x p d 0 [] (-1) → Calls Tryz.prog 9 #[.pointer (some x), .int .u64 18446744073709551615, .string ⟨#[102, 97, 114]⟩] v fun e w' => e = .returned (.int .i64 0) ∧ Kept K v w' ∧ ∃ d', UpB G K w' x p d' 18446744073709551615 [102, 97, 114] (-1) := fun K v x p d h => h.save_ok S (m := 18446744073709551615) (u := [102, 97, 114]) (by decide) (by decide) (by decide)
  have hS3 : ∀ K (v : World) x p d, UpB G K v x p d 18446744073709551615 [102, 97, 114] (-1) → Calls Tryz.prog 9 #[.pointer (some x), .int .u64 18446744073709551615, .string ⟨#[102, 97, 114]⟩] v fun e w' => e = .returned (.int .i64 2) ∧ Kept K v w' ∧ UpB G K w' x p d 18446744073709551615 [102, 97, 114] (-1) := fun K v x p d h => h.save_arg S (m := 18446744073709551615) (u := [102, 97, 114]) (by decide) (by decide) (by decide)
  have hS4 : ∀ K (v : World) x p d, UpB G K v x p d 18446744073709551615 [102, 97, 114] (-1) → Calls Tryz.prog 9 #[.pointer (some x), .int .u64 0, .string ⟨#[]⟩] v fun e w' => e = .returned (.int .i64 2) ∧ Kept K v w' ∧ UpB G K w' x p d 18446744073709551615 [102, 97, 114] (-1) := fun K v x p d h => h.save_arg S (m := 0) (u := []) (by decide) (by decide) (by decide)
  have HP2 := Lib.hid hP2
  have HP3 := Lib.hid hP3
  have HP4 := Lib.hid hP4
  have HP5 := Lib.hid hP5
  have HB6 := Lib.hid hB6
  have HF6 := Lib.hid hF6
  have HP7 := Lib.hid hP7
  have HP8 := Lib.hid hP8
  have HS2 := Lib.hid hS2
  have HS3 := Lib.hid hS3
  have HS4 := Lib.hid hS4
  clear hP2 hP3 hP4 hP5 hB6 hF6 hP7 hP8 hS2 hS3 hS4
  go_enter Tryz.func6, Tryz.ntmps6
  go_upto_region 6 with (first
    | (go_at_call 11; (with_reducible refine (HN.out _ (Below.refl _ _)).mono ?_); rintro r w1 ⟨p, rfl, d1, k1⟩)
    | (go_at_call 7; (with_reducible refine (S.new_up d1).mono ?_); rintro r w2 ⟨x, rfl, k2, u2⟩)
    | (go_at_call 9; (with_reducible refine (HA1.out _ _ _ _ u2).mono ?_); rintro r w3 ⟨rfl, d3, k3⟩)
    | (go_at_call 18; (with_reducible refine (HR.out _ _ _ d3).mono ?_); rintro r w4 ⟨rfl, d4, b4⟩))
  have d5 : DkOff (fun k => k < w.heap.size ∨ k = w4.heap.size) (w4.alloc (.cells #[.string NM, .string Z, .int .i64 16] 44)) p bd1 := d4.more ((Below.refl _ _).alloc (Nat.le_refl _) _) (by rintro k (h | rfl); exact .inl h; exact .inr (Nat.le_refl _)) (by
    rintro k (h | rfl)
    · have := k1.size; have := k2.size; have := k3.size; have := b4.size; simp; omega
    · simp)
  have c4 : (w4.alloc (.cells #[.string NM, .string Z, .int .i64 16] 44)).cell? ⟨w4.heap.size, 1, none⟩ = some (.string Z) := by
    rw [cell_of_row _ w4.heap.size 1 _ _ _ (World.alloc_heap_new w4 _)]; rfl
  have hk5 : Kept (fun k => k < w.heap.size) w (w4.alloc (.cells #[.string NM, .string Z, .int .i64 16] 44)) := (((Kept.of_below (K := fun k => k < w.heap.size) k1).trans k2 (fun _ _ h => h)).trans k3 (fun _ _ h => h)).trans (Kept.of_below (K := fun k => k < w.heap.size) (bb b4 ((Below.refl _ _).alloc (Nat.le_refl _) _))) (fun _ _ h => h)
  have hlt4 : w4.heap.size < (w4.alloc (.cells #[.string NM, .string Z, .int .i64 16] 44)).heap.size := by simp
  generalize w4.alloc (.cells #[.string NM, .string Z, .int .i64 16] 44) = w5 at *
  have HK5 := Lib.hid hk5
  clear hk5 d4 k1 k2 k3 b4 d3 u2 d1
  go_upto_region 13 with (first
    | (go_at_call 19; (with_reducible refine (HP2.out _ _ _ d5).mono ?_); rintro r w6 ⟨rfl, d6, k6⟩)
    | (go_at_call 19; (with_reducible refine (HP3.out _ _ _ d6).mono ?_); rintro r w7 ⟨rfl, d7, k7⟩)
    | (go_at_call 19; (with_reducible refine (HP4.out _ _ _ d7).mono ?_); rintro r w8 ⟨rfl, d8, k8⟩)
    | (go_at_call 19; (with_reducible refine (HP5.out _ _ _ d8).mono ?_); rintro r w9 ⟨rfl, d9, k9⟩)
    | (go_at_call 7; (with_reducible refine (S.open_ok d9 bs5 bk_o5 bk_6).mono ?_); rintro r w10 ⟨x10, rfl, g10, k10⟩)
    | (go_at_call 8; (with_reducible refine (HB6.out _ _ _ _ g10).mono ?_); rintro r w11 ⟨rfl, d11, k11⟩)
    | (go_at_call 16; (with_reducible refine (HF6.out _ _ _ d11).mono ?_); rintro r w12 ⟨a12, c12, rfl, b12, d12⟩))
  have K12 : Kept (fun k => k < w.heap.size ∨ k = w4.heap.size) w5 w12 := (((((k6.trans k7 (fun _ _ h => h)).trans k8 (fun _ _ h => h)).trans k9 (fun _ _ h => h)).trans k10 (fun _ _ h => h)).trans k11 (fun _ _ h => h)).trans (Kept.of_below (K := fun k => k < w.heap.size ∨ k = w4.heap.size) b12) (fun _ _ h => h)
  have c12 : w12.cell? ⟨w4.heap.size, 1, none⟩ = some (.string Z) := K12.cell c4 (.inr rfl)
  have HK12 := Lib.hid (HK5.out.trans K12 (fun _ _ h => .inl h))
  clear K12 k6 k7 k8 k9 k10 k11 b12 c4 d5 d6 d7 d8 d9 g10 d11
  go_upto_region 16 with (first
    | (go_at_call 19; (with_reducible refine (HP7.out _ _ _ d12).mono ?_); rintro r w13 ⟨rfl, d13, k13⟩)
    | (go_at_call 20; (with_reducible refine (HP8.out _ _ _ d13).mono ?_); rintro r w14 ⟨rfl, d14, k14⟩)
    | (go_at_call 7; (with_reducible refine (S.open_bad d14 bs71 bk_o7 bk_9).mono ?_); rintro r w15 ⟨rfl, d15, k15⟩))
  have hB15 : Below w.heap.size w w15 := (((HK12.out.trans k13 (fun _ _ h => .inl h)).trans k14 (fun _ _ h => .inl h)).trans k15 (fun _ _ h => .inl h)).below (Nat.le_refl _)
  clear d12 d13 d14 d15 k13 k14 k15 c12
  have HB15 := Lib.hid hB15
  clear hB15
  go_upto_region 18 with (first
    | (go_at_call 11; (with_reducible refine (HN.out _ HB15.out).mono ?_); rintro r w16 ⟨p2, rfl, d16, k16⟩; have D16 := Lib.hid (d16.weak (K' := fun k => k < w.heap.size) (fun k hk => Nat.lt_of_lt_of_le hk HB15.out.size)))
    | (go_at_call 7; (with_reducible refine (S.new_up D16.out).mono ?_); rintro r w17 ⟨y, rfl, k17, u17⟩))
  obtain ⟨L, w18, hLl, hmk, hsrc, b18⟩ := far_src w17
  have hcv := hsrc.string
  obtain ⟨Y0, hY0⟩ : ∃ Y0, B L = Y0 := ⟨_, rfl⟩
  obtain ⟨Y, hY⟩ : ∃ Y, B (L ++ [120, 120, 120, 120, 120, 120, 120]) = Y := ⟨_, rfl⟩
  have hap : Y0 ++ ⟨#[120, 120, 120, 120, 120, 120, 120]⟩ = Y := by rw [← hY0, ← hY]; exact B_append _ _
  have hsz : Y0.size = 65525 := by rw [← hY0, B_size, hLl]
  rw [hY0] at hcv
  have hS1 : ∀ K (v : World) x p d, UpB G K v x p d 0 [] (-1) → Calls Tryz.prog 9 #[.pointer (some x), .int .u64 18446744073709551615, .string Y] v fun e w' => e = .returned (.int .i64 6) ∧ Kept K v w' ∧ UpB G K w' x p d 0 [] (-1) := fun K v x p d h => by
    have hl : (L ++ [120, 120, 120, 120, 120, 120, 120]).length = 65532 := by rw [List.length_append, hLl]; rfl
    have := S.saves (m := 18446744073709551615) (u := L ++ [120, 120, 120, 120, 120, 120, 120]) h.store h.st h.f0 h.f1 (by decide) (.inr ⟨by rw [hl]; decide, far_len hl⟩)
    rw [save_long h.st (by decide) (far_len hl), hY] at this
    exact this.mono fun e w' he => ⟨he.1, he.2.2.2, he.2.1 h.st.alive, h.st, h.f0, h.f1⟩
  have HS1 := Lib.hid hS1
  have HU := Lib.hid (u17.below S b18)
  have HK := Lib.hid ((((Kept.of_below (K := fun k => k < w.heap.size) (HB15.out.trans (k16.mono HB15.out.size)))).trans k17 (fun _ _ h => h)).trans (Kept.of_below (K := fun k => k < w.heap.size) b18) (fun _ _ h => h))
  clear hS1 hsrc hY0 hY u17 d16 hLl k16 k17
  go_wp2_with (first
    | (go_at_call 9; ((with_reducible refine (HS1.out _ _ _ _ _ HU.out).mono ?_); rintro r w19 ⟨rfl, k19, u19⟩))
    | (go_at_call 9; (with_reducible refine (HS2.out _ _ _ _ _ u19).mono ?_); rintro r w20 ⟨rfl, k20, d20, u20⟩)
    | (go_at_call 9; (with_reducible refine (HS3.out _ _ _ _ _ u20).mono ?_); rintro r w21 ⟨rfl, k21, u21⟩)
    | (go_at_call 9; ((with_reducible refine (HS4.out _ _ _ _ _ u21).mono ?_); rintro r w22 ⟨rfl, k22, u22⟩))
    | (go_at_call 10; ((with_reducible refine (HW.out _ (u22.env S)).mono ?_); rintro r w23 ⟨rfl, b23⟩)))
  go_ret
  refine ⟨rfl, ?_⟩
  have t := ((((HK.out.trans k19 (fun _ _ h => h)).trans k20 (fun _ _ h => h)).trans k21 (fun _ _ h => h)).trans k22 (fun _ _ h => h)).trans (Kept.of_below (K := fun k => k < w.heap.size) b23) (fun _ _ h => h)
  exact t.below (Nat.le_refl _)

end Go.Proofs.YthpamdjgkmaleaaGreatDoor
