/-
  Layer 5's 'wakes' over this translation, and its law LogNil: they answer true; of what was there nothing has turned.
-/
import Derived.Test.YtjidadolfpjdeaaGreatDoorMl
import Derived.Test.YtjidadolfpjdeaaGreatDoorMb
import Derived.Test.YtjidadolfpjdeaaGreatDoorRowLib
namespace Go.Proofs.YtjidadolfpjdeaaGreatDoor
open Go.RowKit
set_option linter.unusedVariables false

/-! ### the disks that it meets -/
def wd1 : PD := { files := [⟨nameL 1, frameL [97], 0⟩], room := 4194304 - 10, fuse := -1, dead := false }
def wd2 : PD := { files := [⟨nameL 1, frameL [97], 10⟩], room := 4194304 - 10, fuse := -1, dead := false }
def wd3 : PD := { files := [⟨nameL 1, frameL [97] ++ [5, 120], 10⟩], room := 4194304 - 12, fuse := -1, dead := false }
def wd4 : PD := { files := [⟨nameL 2, frameL [98], 10⟩], room := 4194304 - 10, fuse := -1, dead := false }
theorem wk_open : openL PD.new = (PD.new, [], 0) := by kernel_rfl
theorem wk_add : addL PD.new [97] = (wd1, 0) := by kernel_rfl
theorem wk_add0 : addL wd1 [] = (wd1, 6) := by kernel_rfl
theorem wk_sync : syncL wd1 = (wd2, 0) := by kernel_rfl
theorem wk_app : wd2.append [115, 48, 48, 48, 48, 48, 48, 48, 49] [5, 120] = (wd3, 0) := by kernel_rfl
theorem wk_open2 : openL wd3 = (wd2, [[97]], 0) := by kernel_rfl
theorem wk_renew : renewL wd2 [[98]] = (wd4, 0) := by kernel_rfl
theorem wk_segs : (segsL wd4.files).length = 1 := by kernel_rfl
theorem wk_name : nameL 2 = [115, 48, 48, 48, 48, 48, 48, 48, 50] := by kernel_rfl
theorem wk_frl (x : UInt8) (h : (frameL [x]).length = 10) (n : Nat) (s : Nat) (hs : s ≤ 10) : Sane ⟨[⟨nameL n, frameL [x], s⟩], 4194304 - 10, -1, false⟩ :=
  ⟨by simp, by intro f hf; rw [List.mem_singleton.1 hf]; simp [nameL, digs_length], by intro f hf; rw [List.mem_singleton.1 hf]; simpa [h] using hs, by simp, by simp, by simp, by simp [totF, h]⟩
theorem sane_new : Sane PD.new := ⟨by simp [PD.new], by simp [PD.new], by simp [PD.new], by simp [PD.new], by simp [PD.new], by simp [PD.new], by simp [PD.new, totF]⟩
theorem sane1 : Sane wd1 := wk_frl 97 (by kernel_rfl) 1 0 (by omega)
theorem sane2 : Sane wd2 := wk_frl 97 (by kernel_rfl) 1 10 (by omega)
theorem sane4 : Sane wd4 := wk_frl 98 (by kernel_rfl) 2 10 (by omega)
theorem wk_len3 : (frameL [97] ++ [5, 120]).length = 12 := by kernel_rfl
theorem sane3 : Sane wd3 :=
  ⟨by simp [wd3], by intro f hf; rw [List.mem_singleton.1 hf]; simp [nameL, digs_length], by intro f hf; rw [List.mem_singleton.1 hf]; show 10 ≤ (frameL [97] ++ [5, 120]).length; rw [wk_len3]; decide, by simp [wd3], by simp [wd3], by simp [wd3], by
    show (4194304 - 12 : Int) + ((frameL [97] ++ [5, 120]).length + 0 : Nat) ≤ 4194304
    rw [wk_len3]; decide⟩

variable {G : (Nat → Prop) → World → Addr → Nat → PD → Prop}

/-- A new disk, off what was there. -/
theorem new_off {w : World} (E : Env w) : Calls Tryz.prog 14 #[] w fun r w' => ∃ p, r = .returned (.pointer (some ⟨p, 0, none⟩)) ∧ DkOff (fun k => k < w.heap.size) w' p PD.new ∧ Below w.heap.size w w' := by
  refine (new_disk w).mono ?_
  rintro r w' ⟨p, F, rfl, h1, h2, h3⟩
  exact ⟨p, rfl, ⟨F, h1, fun k hk h => by have := h2 k hk; omega, ⟨fun k hk => Nat.lt_of_lt_of_le hk h3.size, E.below h3, fun k hk hv => by have := h2 k hk; have := E.lt hv; omega⟩⟩, h3⟩

/-- A log opened, whose records do not count. -/
theorem LogSpec.open_off (S : LogSpec G) {K : Nat → Prop} {w : World} {p : Nat} {d d' : PD} {rs : List Rec} (h : DkOff K w p d) (hs : Sane d) (ho : openL d = (d', rs, 0)) :
    Calls Tryz.prog 8 #[.pointer (some ⟨p, 0, none⟩)] w fun r w' => ∃ x a c, r = .returned (.tuple #[.pointer (some x), .slice a rs.length c, .int .i64 0]) ∧
      w'.ownsRow w.heap.size 9 1 (.slice a rs.length c) rs.length (strV rs) ∧ G (fun k => K k ∨ ∃ b, a = some b ∧ k = b.block) w' x p d' ∧ Kept K w w' := by
  obtain ⟨F, h1, h2, h3⟩ := h
  refine (S.opens h1 h3.env h3.fv hs).mono ?_
  rw [ho]
  rintro r w' ⟨x, a, c, F', rfl, st, row, hb, _, hg⟩
  obtain ⟨y, rfl, hy⟩ := hg rfl
  refine ⟨y, a, c, rfl, row, ?_, st.kept h2⟩
  refine hy _ ?_ ?_ ?_
  · rintro k hk (h | ⟨b, rfl, rfl⟩)
    · exact st.off h2 h3 k hk h
    · exact hb b rfl hk
  · rintro k (h | h)
    · exact .inl (h3 k h)
    · exact .inr h
  · rintro k (h | ⟨b, rfl, rfl⟩)
    · exact Nat.lt_of_lt_of_le (h3 k h) st.turn.size
    · exact (row.lt b.block (by
        rcases row.2 with ⟨e, _⟩ | ⟨g, cap, cur, e, _⟩
        · cases e
        · cases e; rfl)).2

theorem LogSpec.weak (S : LogSpec G) {K K' : Nat → Prop} {w : World} {x : Addr} {p : Nat} {d : PD} (h : G K w x p d) (hK : ∀ k, K' k → K k) : G K' w x p d := by
  obtain ⟨F, _, _, h3⟩ := S.disk h
  exact S.kept h (Nat.le_refl _) (fun _ _ _ => rfl) (fun k hk => .inl (hK k hk)) (fun k hk => h3 k (hK k hk))

theorem own_txt {w : World} {b n : Nat} {a : Option Addr} {c : Nat} {ls : List (List UInt8)} (h : w.ownsRow b 9 1 (.slice a n c) n (strV ls)) : Txt w a n ls := Txt.of_own h
theorem own_blk {w : World} {b n m : Nat} {a : Option Addr} {c : Nat} {xs : List Value} {t : TypeId} {sz : Nat} (h : w.ownsRow b t sz (.slice a n c) m xs) {e : Addr} (he : a = some e) : (Value.slice a n c).ownBlock = some e.block ∧ b ≤ e.block ∧ e.block < w.heap.size := by
  rcases h.2 with ⟨e', _⟩ | ⟨g, cap, cur, e', h1, _⟩
  · subst he; cases e'
  · subst he
    cases e'
    exact ⟨rfl, h1, (h.lt g rfl).2⟩

/-- The cells of a file alone. -/
theorem file_one {w : World} {b : Nat} {a : Option Addr} {c : Nat} {f : PF} (h : w.ownsRow b 43 3 (.slice a 1 c) 1 (fileCells f)) : ∃ q, a = some ⟨q, 0, none⟩ ∧ ∀ j u, (fileCells f)[j]? = some u → w.cell? ⟨q, j, none⟩ = some u := by
  rcases h.2 with ⟨_, h0⟩ | ⟨g, cap, cur, he, _⟩
  · cases h0
  · obtain ⟨rfl, rfl⟩ : a = some ⟨g, 0, none⟩ ∧ c = cap := by simpa using he
    refine ⟨g, rfl, fun j u hu => ?_⟩
    have hj : j < 1 * 3 := (List.getElem?_eq_some_iff.1 hu).1
    rw [h.cellAt j hj]
    exact hu

/-- A text alone, behind what was there. -/
theorem txt_one (w : World) (x : UInt8) : Txt (w.alloc (.cells #[.string ⟨#[x]⟩] 9)) (some ⟨w.heap.size, 0, none⟩) 1 [[x]] := by
  refine ⟨rfl, fun j hj => ⟨w.heap.size, 0, rfl, ?_⟩⟩
  obtain rfl : j = 0 := by simpa using hj
  rw [cell_of_row _ w.heap.size (0 + 0) _ _ _ (World.alloc_heap_new w _)]
  rfl

set_option maxRecDepth 100000 in
set_option maxHeartbeats 4000000 in
theorem LogSpec.wakes (S : LogSpec G) {w : World} (E : Env w) : Calls Tryz.prog 13 #[] w fun r w' => r = .returned (.bool true) ∧ Below w.heap.size w w' := by
  have hN := fun v (hb : Below w.heap.size w v) => new_off (E.below hb)
  have hO1 := fun K (v : World) (p : Nat) (h : DkOff K v p PD.new) => S.open_off h sane_new wk_open
  have hA1 : ∀ K (v : World) x p, G K v x p PD.new → Calls Tryz.prog 9 #[.pointer (some x), .string ⟨#[97]⟩] v fun e w' => e = .returned (.int .i64 0) ∧ G K w' x p wd1 ∧ Kept K v w' := fun K v x p h => by
    have := S.adds (r := [97]) h sane_new rfl (by decide)
    rw [wk_add] at this
    exact this.mono fun e w' h => ⟨h.1, h.2.1 rfl, h.2.2.2⟩
  have hA2 : ∀ K (v : World) x p, G K v x p wd1 → Calls Tryz.prog 9 #[.pointer (some x), .string ⟨#[]⟩] v fun e w' => e = .returned (.int .i64 6) ∧ G K w' x p wd1 ∧ Kept K v w' := fun K v x p h => by
    have := S.adds (r := []) h sane1 rfl (by decide)
    rw [wk_add0] at this
    exact this.mono fun e w' h => ⟨h.1, h.2.1 rfl, h.2.2.2⟩
  have hS1 : ∀ K (v : World) x p, G K v x p wd1 → Calls Tryz.prog 10 #[.pointer (some x)] v fun e w' => e = .returned (.int .i64 0) ∧ G K w' x p wd2 ∧ Kept K v w' := fun K v x p h => by
    have := S.syncs h sane1 rfl
    rw [wk_sync] at this
    exact this
  have hP : ∀ F (v : World) p, DiskOf v p wd2 F → Calls Tryz.prog 23 #[.pointer (some ⟨p, 0, none⟩), .string ⟨#[115, 48, 48, 48, 48, 48, 48, 48, 49]⟩, .string ⟨#[5, 120]⟩] v fun e w' => ∃ F', e = .returned (.int .i64 0) ∧ Step v p F wd3 F' w' := fun F v p h => by
    have := append_any h [115, 48, 48, 48, 48, 48, 48, 48, 49] [5, 120] (by decide) (by have := sane2.room1; have := sane2.room0; simp; omega) sane2.room0 (by decide) sane2.fuse0 sane2.fuse1
    rw [wk_app] at this
    refine this.mono ?_
    rintro e w' ⟨h1, h2⟩
    obtain ⟨F', hs⟩ := h2.step
    exact ⟨F', h1, hs⟩
  have hO2 : ∀ F (v : World) p, DiskOf v p wd3 F → Env v → (∀ k, F k → ¬ Vr k) → Calls Tryz.prog 8 #[.pointer (some ⟨p, 0, none⟩)] v fun r w' => ∃ x a c F', r = .returned (.tuple #[.pointer (some x), .slice a 1 c, .int .i64 0]) ∧ Step v p F wd2 F' w' ∧ w'.ownsRow v.heap.size 9 1 (.slice a 1 c) 1 (strV [[97]]) ∧ (∀ b, a = some b → ¬ F' b.block) := fun F v p h hE hV => by
    have := S.opens h hE hV sane3
    rw [wk_open2] at this
    refine this.mono ?_
    rintro r w' ⟨x, a, c, F', rfl, h1, h2, h3, _, h4⟩
    obtain ⟨y, rfl, _⟩ := h4 rfl
    exact ⟨y, a, c, F', rfl, h1, h2, h3⟩
  have hR : ∀ K (v : World) x p a c, G K v x p wd2 → Txt v a 1 [[98]] → (∀ b, a = some b → K b.block) → Calls Tryz.prog 11 #[.pointer (some x), .slice a 1 c] v fun e w' => e = .returned (.int .i64 0) ∧ G K w' x p wd4 ∧ Kept K v w' := fun K v x p a c h ht hb => by
    have := S.renews (c := c) h sane2 rfl ht (fun _ => hb) (by decide) (by decide)
    rw [wk_renew] at this
    exact this.mono fun e w' h => ⟨h.1, h.2.1 rfl, h.2.2.2⟩
  have hF : ∀ K (v : World) x p, G K v x p wd4 → Calls Tryz.prog 22 #[.pointer (some ⟨p, 0, none⟩)] v fun r w' => ∃ a c, r = .returned (.slice a 1 c) ∧ w'.ownsRow v.heap.size 43 3 (.slice a 1 c) 1 (fileCells ⟨nameL 2, frameL [98], 10⟩) ∧ Below v.heap.size v w' ∧ G K w' x p wd4 := fun K v x p h => by
    obtain ⟨F, h1, _, _⟩ := S.disk h
    refine (files_any h1 (by have := sane4.few; omega) (fun f hf => by have := sane4.names f hf; omega)).mono ?_
    rintro r w' ⟨u, rfl, ho, hb⟩
    obtain ⟨a, c, rfl⟩ := row_val ho
    exact ⟨a, c, rfl, ho, hb, S.below h hb⟩
  have hG : ∀ K (v : World) x p, G K v x p wd4 → Calls Tryz.prog 12 #[.pointer (some x)] v fun e w' => e = .returned (.int .i64 1) ∧ Kept K v w' := fun K v x p h => by
    have := S.segments h sane4
    rw [wk_segs] at this
    exact this.mono fun e w' h => ⟨h.1, h.2.2⟩
  have HN := Lib.hid hN
  have HO1 := Lib.hid hO1
  have HA1 := Lib.hid hA1
  have HA2 := Lib.hid hA2
  have HS1 := Lib.hid hS1
  have HP := Lib.hid hP
  have HO2 := Lib.hid hO2
  have HR := Lib.hid hR
  have HF := Lib.hid hF
  have HG := Lib.hid hG
  clear hN hO1 hA1 hA2 hS1 hP hO2 hR hF hG
  go_enter Tryz.func13, Tryz.ntmps13
  go_wp2_with (first
    | (go_at_call 14; (with_reducible refine (HN.out _ (by first | exact Below.refl _ _ | assumption | exact (Below.refl _ _).alloc (Nat.le_refl _) _ | exact ((Below.refl _ _).alloc (Nat.le_refl _) _).alloc (by simp) _)).mono ?_); rintro r w1 ⟨p, rfl, d1, k1⟩)
    | (go_at_call 8; (with_reducible refine (HO1.out _ _ _ d1).mono ?_); rintro r w2 ⟨x, a2, c2, rfl, row2, g2', k2⟩; have g2 := S.weak g2' (K' := fun k => k < w.heap.size) (fun k hk => .inl hk))
    | (go_at_call 9; (with_reducible refine (HA1.out _ _ _ _ g2).mono ?_); rintro r w3 ⟨rfl, g3, k3⟩)
    | (go_at_call 9; (with_reducible refine (HA2.out _ _ _ _ g3).mono ?_); rintro r w4 ⟨rfl, g4, k4⟩)
    | (go_at_call 10; (with_reducible refine (HS1.out _ _ _ _ g4).mono ?_); rintro r w5 ⟨rfl, g5, k5⟩; obtain ⟨F5, dk5, off5, ok5, mv5⟩ := S.moved g5; have lt5 : ∀ k, k < w.heap.size → k < w5.heap.size := by obtain ⟨_, _, _, h⟩ := S.disk g5; exact h.lt)
    | (go_at_call 23; (with_reducible refine (HP.out _ _ _ dk5).mono ?_); rintro r w6 ⟨F6, rfl, st6⟩)
    | (go_at_call 8; (with_reducible refine (HO2.out _ _ _ st6.disk (ok5.step st6).env (ok5.step st6).fv).mono ?_); rintro r w7 ⟨x7, a7, c7, F7, rfl, st7, row7, off7⟩; have ct7 := (Txt.of_own row7).cell 0 (by decide); obtain ⟨b7, o7, rfl, ce7⟩ := ct7)
    | (have gt6 : w5.heap.size ≤ w6.heap.size := st6.turn.size
       have gt7 : w6.heap.size ≤ w7.heap.size := st7.turn.size
       have ob7 := own_blk row7 rfl
       have g7 : G (fun k => k < w.heap.size ∨ k = b7 ∨ k = w7.heap.size) (w7.alloc (.cells #[.string ⟨#[98]⟩] 9)) x p wd2 := by
         have hst : Step w5 p F5 wd2 F7 w7 := st6.trans st7
         refine mv5 _ _ _ _ (hst.below ((Below.refl _ _).alloc (Nat.le_refl _) _)) rfl ?_ ?_
         · rintro k (h | rfl | rfl)
           · exact .inl h
           · right; have := ob7.2.1; simp only at this; omega
           · right; omega
         · rintro k (h | rfl | rfl)
           · exact ⟨fun h2 => hst.off off5 lt5 k h2 h, by have := lt5 k h; simp; omega⟩
           · exact ⟨off7 _ rfl, by have := ob7.2.2; simp only at this; simp; omega⟩
           · exact ⟨hst.disk.nil_free (Nat.le_refl _), by simp⟩
       go_at_call 11
       (with_reducible refine (HR.out _ _ _ _ _ _ g7 (txt_one w7 98) (fun b hb => ?_)).mono ?_)
       · cases hb; exact .inr (.inr rfl)
       rintro r w8 ⟨rfl, g8, k8⟩)
    | (go_at_call 22
       (with_reducible refine (HF.out _ _ _ _ g8).mono ?_)
       rintro r w9 ⟨a9, c9, rfl, row9, b9, g9⟩
       go_loud (
         have s8 : w7.heap.size < w8.heap.size := by have := k8.size; simp at this; omega
         have lt7 : b7 < w7.heap.size := ob7.2.2
         have e7 : w9.heap[b7]? = w7.heap[b7]? := by
           have h1 := b9.block b7 (by omega)
           have h2 := k8.heap (k := b7) (by simp; omega) (.inr (.inl rfl))
           have h3 := ((Below.refl _ w7).alloc (Nat.le_refl _) (.cells #[.string ⟨#[98]⟩] 9)).block b7 lt7
           exact h1.trans (h2.trans h3)
         have cc7 : w9.cell? ⟨b7, o7, none⟩ = some (.string ⟨#[97]⟩) := (World.cell?_of_block (a := ⟨b7, o7, none⟩) e7).trans ce7
         obtain ⟨q9, hq9, hc9⟩ := file_one row9
         subst hq9
         have f0 : w9.cell? ⟨q9, 0, none⟩ = some (.string ⟨#[115, 48, 48, 48, 48, 48, 48, 48, 50]⟩) := (hc9 0 _ rfl).trans (by rw [wk_name])
         have f2 : w9.cell? ⟨q9, 2, none⟩ = some (.int .i64 10) := hc9 2 _ rfl
         clear ce7 hc9))
    | (go_at_call 12; (with_reducible refine (HG.out _ _ _ _ g9).mono ?_); rintro r w10 ⟨rfl, k10⟩))
  go_ret
  refine ⟨rfl, ?_⟩
  have t : Kept (fun k => k < w.heap.size) w w10 := by
    have t1 : Kept (fun k => k < w.heap.size) w w1 := Kept.of_below k1
    have s1 := t1.size; have s2 := k2.size; have s3 := k3.size; have s4 := k4.size; have s5 := k5.size
    have t5 := ((((t1.trans k2 (fun _ _ h => h)).trans k3 (fun _ _ h => h)).trans k4 (fun _ _ h => h)).trans k5 (fun _ _ h => h))
    have t7 : Kept (fun k => k < w.heap.size) w5 w7 := (st6.trans st7).kept off5
    have t8 : Kept (fun k => k < w.heap.size) w7 (w7.alloc (.cells #[.string ⟨#[98]⟩] 9)) := Kept.of_below ((Below.refl _ _).alloc (Nat.le_refl _) _)
    exact ((((t5.trans t7 (fun _ _ h => h)).trans t8 (fun _ _ h => h)).trans k8 (fun _ _ h => .inl h)).trans (Kept.of_below (K := fun k => k < w.heap.size) b9) (fun _ _ h => h)).trans k10 (fun _ _ h => .inl h)
  exact t.below (Nat.le_refl _)

end Go.Proofs.YtjidadolfpjdeaaGreatDoor
