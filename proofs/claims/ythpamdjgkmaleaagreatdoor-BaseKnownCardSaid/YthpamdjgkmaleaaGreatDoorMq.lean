/-
A store as it lies in memory: its own block, beside the blocks of its disk; what a call on it leaves. Base; a file that is not there.
Package base over this translation: clear, write, Save on a disk of the base's file alone.
-/
import Derived.Test.YthpamdjgkmaleaaGreatDoorBsSlot
import Derived.Test.YthpamdjgkmaleaaGreatDoorDkRead
import Derived.Test.YthpamdjgkmaleaaGreatDoorRegion
namespace Go.Proofs.YthpamdjgkmaleaaGreatDoor
open Go.RowKit
set_option linter.unusedVariables false

/-- At block xb a store on the disk d at block p. -/
structure BaseM (w : World) (xb p : Nat) (d : PD) (F : Nat → Prop) (n : Nat) (t : List UInt8) : Prop where
  cell : w.heap[xb]? = some (.cells #[.pointer (some ⟨p, 0, none⟩), .int .u64 n, .string (B t)] 55 (0, 0))
  disk : DiskOf w p d F
  nf : ¬ F xb
  env : Env w
  fv : ∀ k, F k → ¬ Vr k
  xv : ¬ Vr xb

variable {w w' w'' : World} {xb p n : Nat} {t : List UInt8} {d d' d'' : PD} {F : Nat → Prop}

theorem BaseM.lt (h : BaseM w xb p d F n t) : xb < w.heap.size := (Array.getElem?_eq_some_iff.1 h.cell).1
theorem BaseM.c0 (h : BaseM w xb p d F n t) : w.cell? ⟨xb, 0, none⟩ = some (.pointer (some ⟨p, 0, none⟩)) := by rw [cell_of_row w xb 0 _ _ _ h.cell]; rfl
theorem BaseM.c1 (h : BaseM w xb p d F n t) : w.cell? ⟨xb, 1, none⟩ = some (.int .u64 n) := by rw [cell_of_row w xb 1 _ _ _ h.cell]; rfl
theorem BaseM.c2 (h : BaseM w xb p d F n t) : w.cell? ⟨xb, 2, none⟩ = some (.string (B t)) := by rw [cell_of_row w xb 2 _ _ _ h.cell]; rfl
theorem BaseM.frozen (h : BaseM w xb p d F n t) (j : Nat) : w.frozen? ⟨xb, j, none⟩ = false := frozen_of_row w xb j _ _ h.cell
theorem BaseM.below (h : BaseM w xb p d F n t) (hb : Below w.heap.size w w') : BaseM w' xb p d F n t :=
  ⟨(hb.block xb h.lt).trans h.cell, h.disk.below hb, h.nf, h.env.below hb, h.fv, h.xv⟩
theorem BaseM.drew (h : BaseM w xb p d F n t) : BaseM w.drew xb p d F n t := h.below ((Below.refl _ w).drew)

/-- What a call on a store leaves. -/
def BaseOut (w : World) (xb p : Nat) (F : Nat → Prop) (d' : PD) (n' : Nat) (t' : List UInt8) (w' : World) : Prop :=
  ∃ F', BaseM w' xb p d' F' n' t' ∧ (∀ k, F' k → F k ∨ w.heap.size ≤ k) ∧ Turned (fun k => F k ∨ k = xb) w w'
theorem BaseM.of_below (h : BaseM w xb p d F n t) (hb : Below w.heap.size w w') : BaseOut w xb p F d n t w' := ⟨F, h.below hb, fun _ hk => .inl hk, Turned.of_below hb⟩
/-- A call on the disk alone. -/
theorem BaseM.moves (h : BaseM w xb p d F n t) (hm : Moves w p F d' w') : BaseOut w xb p F d' n t w' := by
  obtain ⟨F', h1, h2, h3⟩ := hm
  have hx := h.lt
  refine ⟨F', ⟨(h3.block xb hx h.nf).trans h.cell, h1, fun hf => ?_, h.env.same (fun k hk => h3.block k (h.env.lt hk) (fun hf => h.fv k hf hk)), fun k hk hv => ?_, h.xv⟩, h2, ⟨h3.os, h3.tape, h3.output, h3.size, fun k hk hn => h3.block k hk (fun hf => hn (.inl hf))⟩⟩
  · rcases h2 xb hf with h' | h'
    · exact h.nf h'
    · omega
  · rcases h2 k hk with h' | h'
    · exact h.fv k h' hv
    · have := h.env.lt hv; omega
theorem BaseOut.trans {w1 : World} {n2 : Nat} {t2 : List UInt8} {d2 : PD} {F1 : Nat → Prop} (h1 : ∀ k, F1 k → F k ∨ w.heap.size ≤ k) (ht : Turned (fun k => F k ∨ k = xb) w w1)
    (h : BaseOut w1 xb p F1 d2 n2 t2 w') : BaseOut w xb p F d2 n2 t2 w' := by
  obtain ⟨F2, g1, g2, g3⟩ := h
  refine ⟨F2, g1, fun k hk => ?_, ht.trans g3 (fun k hk => ?_)⟩
  · rcases g2 k hk with h' | h'
    · exact h1 k h'
    · exact .inr (Nat.le_trans ht.size h')
  · rcases hk with h' | rfl
    · exact (h1 k h').imp .inl id
    · exact .inl (.inr rfl)
theorem BaseOut.before {w1 : World} (h : BaseM w xb p d F n t) (hb : Below w.heap.size w w1) {n' : Nat} {t' : List UInt8} (ho : BaseOut w1 xb p F d' n' t' w') : BaseOut w xb p F d' n' t' w' :=
  BaseOut.trans (fun _ hk => .inl hk) (Turned.of_below hb) ho
theorem BaseM.cells (h : BaseM w xb p d F n t) {n1 : Nat} {t1 : List UInt8} (hc : w'.heap[xb]? = some (.cells #[.pointer (some ⟨p, 0, none⟩), .int .u64 n1, .string (B t1)] 55 (0, 0))) (hs : w'.heap.size = w.heap.size) (hk : ∀ k, k ≠ xb → w'.heap[k]? = w.heap[k]?) (ho : w'.os = w.os) (ht : w'.tape = w.tape) (hu : w'.output = w.output) :
    BaseOut w xb p F d n1 t1 w' :=
  ⟨F, ⟨hc, h.disk.kept (Nat.le_of_eq hs.symm) (fun k hf => hk k (fun e => h.nf (e ▸ hf))), h.nf, h.env.same (fun k hv => hk k (fun e => h.xv (e ▸ hv))), h.fv, h.xv⟩, fun _ hf => .inl hf, ⟨ho, ht, hu, Nat.le_of_eq hs.symm, fun k hl hn => hk k (fun e => hn (.inr e))⟩⟩
theorem BaseM.set (h : BaseM w xb p d F n t) (m : Nat) (u : List UInt8) : BaseOut w xb p F d m u ((w.setCell ⟨xb, 1, none⟩ (.int .u64 m)).setCell ⟨xb, 2, none⟩ (.string (B u))) := by
  have h1 := heap_setCell_same w xb 1 _ _ (.int .u64 m) h.cell
  have h2 := heap_setCell_same _ xb 2 _ _ (.string (B u)) h1
  refine h.cells (by simpa using h2) (by simp [World.setCell]) (fun k hk => ?_) rfl rfl rfl
  rw [heap_setCell_other _ _ k _ hk, heap_setCell_other _ _ k _ hk]

/-! ### Base -/
set_option maxRecDepth 100000 in
set_option maxHeartbeats 1000000 in
theorem base_is (h : BaseM w xb p d F n t) (h0 : n = 0 → t = []) : Calls Tryz.prog 8 #[.pointer (some ⟨xb, 0, none⟩)] w fun r w' =>
    r = .returned (.tuple #[.int .u64 n, .string (B t), .bool (decide (0 < n))]) ∧ Below w.heap.size w w' := by
  have c1 := h.c1
  have c2 := h.c2
  by_cases hn : n = 0
  · have ht := h0 hn
    subst hn
    subst ht
    clear h0
    go_enter Tryz.func8, Tryz.ntmps8
    go_wp2
    go_ret3
    exact ⟨rfl, Below.refl _ _⟩
  · have hn' : ((n : Int) == 0) = false := by simpa using hn
    have hp : decide (0 < n) = true := by simpa using Nat.pos_of_ne_zero hn
    rw [hp]
    clear h0
    go_enter Tryz.func8, Tryz.ntmps8
    go_wp2
    go_region
    all_goals go_wp2
    all_goals (go_ret3; exact ⟨rfl, (Below.refl _ w).drew⟩)

set_option maxRecDepth 100000 in
set_option maxHeartbeats 1000000 in
theorem base_nil_is (w : World) : Calls Tryz.prog 8 #[.pointer none] w fun r w' => r = .returned (.tuple #[.int .u64 0, .string ⟨#[]⟩, .bool false]) ∧ Below w.heap.size w w' := by
  go_enter Tryz.func8, Tryz.ntmps8
  go_wp2
  go_ret3
  exact ⟨rfl, Below.refl _ _⟩

/-! ### Read of a file that is not there -/
set_option maxRecDepth 100000 in
set_option maxHeartbeats 4000000 in
theorem readf_none (h : DiskOf w p d F) (nm : List UInt8) (hl : nm.length ≤ 1000000) (hd : d.dead = false) (hf : d.find nm = none) :
    Calls Tryz.prog 18 #[.pointer (some ⟨p, 0, none⟩), .string (B nm)] w fun r w' => r = .returned (.tuple #[fileV noFile, .int .i64 11]) ∧ Below w.heap.size w w' := by
  obtain ⟨W0, hW0⟩ : ∃ W0, ((w.alloc (.cells #[.string (B nm)] 9)).alloc (.cells #[.string ⟨#[]⟩, .string ⟨#[]⟩, .int .i64 0] 44)).alloc (.cells #[.string ⟨#[]⟩, .string ⟨#[]⟩, .int .i64 0] 44) = W0 := ⟨_, rfl⟩
  have hb0 : Below w.heap.size w W0 := by rw [← hW0]; exact ((((Below.refl _ w).alloc (Nat.le_refl _) _).alloc (by simp) _).alloc (by simp; omega) _)
  have b1 : Boxed W0 w.heap.size 9 (.string (B nm)) := by rw [← hW0]; exact ((Boxed.new w _ _).alloc _).alloc _
  have k1 := b1.cell
  have b2 : FileB (w.heap.size + 1) noFile W0 := by
    rw [← hW0]
    have := FileB.below (n := w.heap.size + 1) (f := noFile) (w := (w.alloc (.cells #[.string (B nm)] 9)).alloc (.cells #[.string ⟨#[]⟩, .string ⟨#[]⟩, .int .i64 0] 44)) (by have := heap_alloc_new (w.alloc (.cells #[.string (B nm)] 9)) (.cells #[.string ⟨#[]⟩, .string ⟨#[]⟩, .int .i64 0] 44); simpa [FileB, noFile] using this) ((Below.refl _ _).alloc (Nat.le_refl _) (.cells #[.string ⟨#[]⟩, .string ⟨#[]⟩, .int .i64 0] 44))
    exact this
  have b3 : FileB (w.heap.size + 1 + 1) noFile W0 := by
    rw [← hW0]
    have := heap_alloc_new ((w.alloc (.cells #[.string (B nm)] 9)).alloc (.cells #[.string ⟨#[]⟩, .string ⟨#[]⟩, .int .i64 0] 44)) (.cells #[.string ⟨#[]⟩, .string ⟨#[]⟩, .int .i64 0] 44)
    simpa [FileB, noFile] using this
  have hd0 := h.below hb0
  have hw := within_none (fa := 35) (caps := #[.pointer (some ⟨w.heap.size, 0, none⟩), .pointer (some ⟨w.heap.size + 1 + 1, 0, none⟩)]) hd0 nm (by unfold maxLen; omega) hd hf
  have HW := Lib.hid hw
  have HB0 := Lib.hid hb0
  have HB2 := Lib.hid b2
  have HB3 := Lib.hid b3
  clear hw hd0 b2 b3
  go_enter Tryz.func18, Tryz.ntmps18
  go_wp2_with (go_at_call 34; (try rw [hW0]); refine HW.out.mono ?_; rintro r w1 ⟨rfl, hb1⟩; obtain ⟨g0, g1, g2, z0, z1, z2⟩ := (HB2.out.below hb1).cells; obtain ⟨q0, q1, q2⟩ := (HB3.out.below hb1).vals; have K2 := Lib.hid (HB2.out.below hb1))
  have k5 := K2.out.store noFile
  obtain ⟨v0, v1, v2⟩ := k5.vals
  refine bodyPost_ret (v := .tuple #[fileV noFile, .int .i64 11]) (by unfold fileV; simp [results, Tryz.f18, go_sem, v0, v1, v2]) rfl ⟨rfl, ?_⟩
  exact ((((HB0.out).trans (hb1.mono HB0.out.size)).setCell (by show w.heap.size ≤ w.heap.size + 1; omega) _).setCell (by show w.heap.size ≤ w.heap.size + 1; omega) _).setCell (by show w.heap.size ≤ w.heap.size + 1; omega) _

end Go.Proofs.YthpamdjgkmaleaaGreatDoor

namespace Go.Proofs.YthpamdjgkmaleaaGreatDoor
open Go.RowKit
set_option linter.unusedVariables false

variable {w w' : World} {xb p n : Nat} {t : List UInt8} {d : PD} {F : Nat → Prop}

/-- What the two steps of writing a new base's file leave. -/
theorem save_two {m : Nat} {u : List UInt8} {f : Int} (h : BUp d n t f) (hnm : n < m) (hm : m < 2 ^ 64) (hu : u.length ≤ 300) :
    (∃ d1, d.append (bname m) (frameL (insideB m u)) = (d1, 9)) ∨
    (∃ d1 d2, d.append (bname m) (frameL (insideB m u)) = (d1, 0) ∧ d1.sync (bname m) = (d2, 0) ∧ 0 ≤ d2.room ∧ d2.room + totF d2.files ≤ 4194304) := by
  have hfr := frame_le hm hu
  obtain ⟨ht1, ht2⟩ := bfiles_tot h.slot h.text
  have hoth := bfiles_other (t := t) hnm hm
  have hr0 : ((frameL (insideB m u)).length : Int) ≤ d.room := by rw [h.room, h.files]; omega
  have hlim : d.find (bname m) = none → d.files.length < 1000 := fun _ => by rw [h.files]; omega
  have hfind : d.find (bname m) = none := by unfold PD.find; rw [h.files]; exact find_none hoth
  have hwith : (d.withFile (bname m)).files = bfiles n t ++ [⟨bname m, [], 0⟩] := by
    unfold PD.withFile
    rw [hfind]
    simp only [Option.isSome_none]
    rw [if_neg (by simp), h.files]
    exact ins_end _ _ (bfiles_less hnm hm)
  have hset : ∀ s : List UInt8, setF (bname m) (fun g => g.more s) (d.withFile (bname m)).files = bfiles n t ++ [⟨bname m, s, 0⟩] := fun s => by
    rw [hwith]
    have := set_end (l := bfiles n t) (x := ⟨bname m, [], 0⟩) (fun g => g.more s) hoth
    simp only at this
    rw [this]
    rfl
  by_cases hf : 0 ≤ f ∧ f < (frameL (insideB m u)).length
  · have happ := app_torn (d := d) (nm := bname m) (s := frameL (insideB m u)) h.alive (bname_nil m) (by rw [bname_length]; omega) hr0 hlim (f := f.toNat) (by rw [h.fuse]; omega) (by omega)
    exact .inl ⟨_, happ⟩
  · have happ := app_ok (d := d) (nm := bname m) (s := frameL (insideB m u)) h.alive (bname_nil m) (by rw [bname_length]; omega) hr0 hlim (by rw [h.fuse]; exact hf)
    rw [hset, h.fuse] at happ
    refine .inr ⟨_, { files := bfiles n t ++ [⟨bname m, frameL (insideB m u), (frameL (insideB m u)).length⟩], room := d.room - ↑(frameL (insideB m u)).length, fuse := if 0 ≤ f then f - ↑(frameL (insideB m u)).length else f, dead := false }, happ, ?_⟩
    have hf1 := find_end (l := bfiles n t) (x := ⟨bname m, frameL (insideB m u), 0⟩) hoth
    have hs1 := set_end (l := bfiles n t) (x := ⟨bname m, frameL (insideB m u), 0⟩) (fun g => { g with synced := g.bytes.length }) hoth
    simp only at hf1 hs1
    refine ⟨by unfold PD.sync PD.within PD.find; simp only; rw [if_neg (by simp), hf1]; simp only; rw [hs1], ?_, ?_⟩
    · simp only; omega
    · simp only
      rw [totF_append, h.room, h.files]
      simp [totF]
      omega
theorem save_find {m : Nat} {f : Int} (h : BUp d n t f) (hnm : n < m) (hm : m < 2 ^ 64) : d.find (bname m) = none := by unfold PD.find; rw [h.files]; exact find_none (bfiles_other (t := t) hnm hm)

set_option maxRecDepth 100000 in
set_option maxHeartbeats 1000000 in
theorem clear_is (h : BaseM w xb p d F n t) (nm : List UInt8) (hl : nm.length ≤ 1000000) (hd : d.dead = false) (hf : d.find nm = none) (k : Int) :
    Calls Tryz.prog 45 #[.pointer (some ⟨xb, 0, none⟩), .string (B nm), .int .i64 k] w fun r w' => r = .returned (.int .i64 0) ∧ Below w.heap.size w w' := by
  have c0 := h.c0
  have hr := readf_none h.disk nm hl hd hf
  have HR := Lib.hid hr
  clear hr
  go_enter Tryz.func45, Tryz.ntmps45
  go_wp2_with (go_at_call 18; refine HR.out.mono ?_; rintro r w1 ⟨rfl, b1⟩; unfold fileV noFile)
  go_ret
  exact ⟨rfl, b1.alloc b1.size _⟩

set_option maxRecDepth 100000 in
set_option maxHeartbeats 1000000 in
theorem write_bad (h : BaseM w xb p d F n t) (nm b : List UInt8) (hl : nm.length ≤ 24) (hd : d.dead = false) (hf : d.find nm = none) (hs : Sane d) (hb : b.length ≤ 100000) {d1 : PD} (ha : d.append nm b = (d1, 9)) :
    Calls Tryz.prog 24 #[.pointer (some ⟨xb, 0, none⟩), .string (B nm), .string (B b)] w fun r w' => r = .returned (.int .i64 9) ∧ BaseOut w xb p F d1 n t w' := by
  have c0 := h.c0
  have hr0 := hs.room0
  have hr1 := hs.room1
  have hc := clear_is h nm (by omega) hd hf (b.length : Int)
  have hap := fun w1 (h1 : DiskOf w1 p d F) => append_any h1 nm b (by omega) (by omega) hr0 (by omega) hs.fuse0 hs.fuse1
  rw [ha] at hap
  have HC := Lib.hid hc
  have HA := Lib.hid hap
  have HM := Lib.hid h
  clear hc hap
  go_enter Tryz.func24, Tryz.ntmps24
  go_wp2_with (first
    | (go_at_call 45; refine HC.out.mono ?_; rintro r w1 ⟨rfl, b1⟩; have M1 := HM.out.below b1; have c1 := M1.c0)
    | (go_at_call 19; refine (HA.out _ M1.disk).mono ?_; rintro r w2 ⟨rfl, m2⟩; have O2 := Lib.hid (M1.moves m2); clear m2))
  go_ret
  exact ⟨rfl, BaseOut.before HM.out b1 O2.out⟩

set_option maxRecDepth 100000 in
set_option maxHeartbeats 1000000 in
theorem write_ok (h : BaseM w xb p d F n t) (nm b : List UInt8) (hl : nm.length ≤ 24) (hd : d.dead = false) (hf : d.find nm = none) (hs : Sane d) (hb : b.length ≤ 100000) {d1 d2 : PD} (ha : d.append nm b = (d1, 0)) (hy : d1.sync nm = (d2, 0)) :
    Calls Tryz.prog 24 #[.pointer (some ⟨xb, 0, none⟩), .string (B nm), .string (B b)] w fun r w' => r = .returned (.int .i64 0) ∧ BaseOut w xb p F d2 n t w' := by
  have c0 := h.c0
  have hr0 := hs.room0
  have hr1 := hs.room1
  have hc := clear_is h nm (by omega) hd hf (b.length : Int)
  have hap := fun w1 (h1 : DiskOf w1 p d F) => append_any h1 nm b (by omega) (by omega) hr0 (by omega) hs.fuse0 hs.fuse1
  rw [ha] at hap
  have hsy := fun w1 F1 (h1 : DiskOf w1 p d1 F1) => sync_any h1 nm (by unfold maxLen; omega)
  rw [hy] at hsy
  have HC := Lib.hid hc
  have HA := Lib.hid hap
  have HS := Lib.hid hsy
  have HM := Lib.hid h
  clear hc hap hsy
  go_enter Tryz.func24, Tryz.ntmps24
  go_wp2_with (first
    | (go_at_call 45; refine HC.out.mono ?_; rintro r w1 ⟨rfl, b1⟩; have M1 := HM.out.below b1; have c1 := M1.c0)
    | (go_at_call 19; refine (HA.out _ M1.disk).mono ?_; rintro r w2 ⟨rfl, m2⟩; have O2 := M1.moves m2; obtain ⟨F2, M2, g2, t2⟩ := id O2; have HO2 := Lib.hid O2; clear m2 O2; have c2 := M2.c0)
    | (go_at_call 20; refine (HS.out _ _ M2.disk).mono ?_; rintro r w3 ⟨rfl, m3⟩; have O3 := Lib.hid (M2.moves m3); clear m3))
  go_ret
  exact ⟨rfl, BaseOut.before HM.out b1 (BaseOut.trans g2 t2 O3.out)⟩

/-! ### Save -/
set_option maxRecDepth 100000 in
set_option maxHeartbeats 1000000 in
theorem save_low (h : BaseM w xb p d F n t) {m : Nat} (hm : m ≤ n) (u : List UInt8) : Calls Tryz.prog 9 #[.pointer (some ⟨xb, 0, none⟩), .int .u64 m, .string (B u)] w fun r w' => r = .returned (.int .i64 2) ∧ Below w.heap.size w w' := by
  have c1 := h.c1
  have hm' : (m : Int) ≤ (n : Int) := by omega
  go_enter Tryz.func9, Tryz.ntmps9
  go_wp2
  go_ret
  exact ⟨rfl, Below.refl _ _⟩
set_option maxRecDepth 100000 in
set_option maxHeartbeats 1000000 in
theorem save_great (h : BaseM w xb p d F n t) {m : Nat} (hm : n < m) (hm2 : m < 2 ^ 64) {u : List UInt8} (hu : u.length ≤ 100000) (hl : 65536 < (insideB m u).length) :
    Calls Tryz.prog 9 #[.pointer (some ⟨xb, 0, none⟩), .int .u64 m, .string (B u)] w fun r w' => r = .returned (.int .i64 6) ∧ Below w.heap.size w w' := by
  have c1 := h.c1
  have hm' : ¬ (m : Int) ≤ (n : Int) := by omega
  have hf := fun w1 => framed_is m hm2 u hu w1
  simp only [if_pos hl] at hf
  have HF := Lib.hid hf
  clear hf
  go_enter Tryz.func9, Tryz.ntmps9
  go_wp2_with (go_at_call 23; refine (HF.out _).mono ?_; rintro r w1 ⟨rfl, b1⟩)
  go_ret
  exact ⟨rfl, b1⟩
set_option maxRecDepth 100000 in
set_option maxHeartbeats 1000000 in
theorem save_nil_is (w : World) (m : Int) (u : ByteArray) : Calls Tryz.prog 9 #[.pointer none, .int .u64 m, .string u] w fun e w' => e = .returned (.int .i64 1) ∧ Below w.heap.size w w' := by
  go_enter Tryz.func9, Tryz.ntmps9
  go_wp2
  go_ret
  exact ⟨rfl, Below.refl _ _⟩
/-- What Save does, the new file being written. -/
structure SaveK (w : World) (xb p : Nat) (d : PD) (F : Nat → Prop) (n : Nat) (t : List UInt8) (m : Nat) (u : List UInt8) (e : Int) (d2 : PD) (NM X : ByteArray) : Prop where
  mem : BaseM w xb p d F n t
  fr : ∀ w1, Calls Tryz.prog 23 #[.int .u64 m, .string (B u)] w1 fun r w' => r = .returned (.tuple #[.string X, .int .i64 0]) ∧ Below w1.heap.size w1 w'
  nm : ∀ w1, Env w1 → Calls Tryz.prog 25 #[.int .u64 m] w1 fun r w' => r = .returned (.string NM) ∧ Below w1.heap.size w1 w'
  wr : ∀ w1, BaseM w1 xb p d F n t → Calls Tryz.prog 24 #[.pointer (some ⟨xb, 0, none⟩), .string NM, .string X] w1 fun r w' => r = .returned (.int .i64 e) ∧ BaseOut w1 xb p F d2 n t w'
  cl : ∀ w1, Calls Tryz.prog 26 #[.string (B u)] w1 fun r w' => r = .returned (.string (B u)) ∧ Below w1.heap.size w1 w'

set_option maxRecDepth 100000 in
set_option maxHeartbeats 1000000 in
theorem save_torn {m : Nat} {u : List UInt8} {d2 : PD} {NM X : ByteArray} (h : SaveK w xb p d F n t m u 9 d2 NM X) (hm : n < m) :
    Calls Tryz.prog 9 #[.pointer (some ⟨xb, 0, none⟩), .int .u64 m, .string (B u)] w fun r w' => r = .returned (.int .i64 9) ∧ BaseOut w xb p F d2 n t w' := by
  have c1 := h.mem.c1
  have hm' : ¬ (m : Int) ≤ (n : Int) := by omega
  have HK := Lib.hid h
  clear h hm
  go_enter Tryz.func9, Tryz.ntmps9
  go_wp2_with (first
    | (go_at_call 23; refine (HK.out.fr _).mono ?_; rintro r w1 ⟨rfl, b1⟩; have M1 := HK.out.mem.below b1)
    | (go_at_call 25; refine (HK.out.nm _ M1.env).mono ?_; rintro r w2 ⟨rfl, b2⟩; have M2 := M1.below b2)
    | (go_at_call 24; refine (HK.out.wr _ M2).mono ?_; rintro r w3 ⟨rfl, o3⟩; have O3 := Lib.hid o3; clear o3))
  go_ret
  exact ⟨rfl, BaseOut.before HK.out.mem (bthen b1 b2) O3.out⟩

set_option maxRecDepth 100000 in
set_option maxHeartbeats 1000000 in
theorem save_first {m : Nat} {u : List UInt8} {d2 : PD} {NM X : ByteArray} (h : SaveK w xb p d F 0 t m u 0 d2 NM X) (hm : 0 < m) :
    Calls Tryz.prog 9 #[.pointer (some ⟨xb, 0, none⟩), .int .u64 m, .string (B u)] w fun r w' => r = .returned (.int .i64 0) ∧ BaseOut w xb p F d2 m u w' := by
  have c1 := h.mem.c1
  have hm' : ¬ (m : Int) ≤ 0 := by omega
  have HK := Lib.hid h
  clear h hm
  go_enter Tryz.func9, Tryz.ntmps9
  go_wp2_with (first
    | (go_at_call 23; refine (HK.out.fr _).mono ?_; rintro r w1 ⟨rfl, b1⟩; have M1 := HK.out.mem.below b1)
    | (go_at_call 25; refine (HK.out.nm _ M1.env).mono ?_; rintro r w2 ⟨rfl, b2⟩; have M2 := M1.below b2)
    | (go_at_call 24; refine (HK.out.wr _ M2).mono ?_; rintro r w3 ⟨rfl, o3⟩; obtain ⟨F3, M3, g3, t3⟩ := o3; have k1 := M3.c1)
    | (go_at_call 26; refine (HK.out.cl _).mono ?_; rintro r w4 ⟨rfl, b4⟩; have M4 := M3.below b4; have j1 := M4.c1; have j2 := M4.c2; have z1 := M4.frozen 1; have z2 := M4.frozen 2; have O5 := Lib.hid (M4.set m u)))
  go_ret
  exact ⟨rfl, BaseOut.before HK.out.mem (bthen b1 b2) (BaseOut.trans g3 t3 (BaseOut.before M3 b4 O5.out))⟩

set_option maxRecDepth 100000 in
set_option maxHeartbeats 1000000 in
theorem save_next {m : Nat} {u : List UInt8} {d2 d3 : PD} {NM X NE : ByteArray} {e3 : Int} (h : SaveK w xb p d F n t m u 0 d2 NM X) (hm : n < m) (h0 : n ≠ 0)
    (hne : ∀ w1, Env w1 → Calls Tryz.prog 25 #[.int .u64 n] w1 fun r w' => r = .returned (.string NE) ∧ Below w1.heap.size w1 w')
    (hrm : ∀ w1 F1, DiskOf w1 p d2 F1 → Calls Tryz.prog 22 #[.pointer (some ⟨p, 0, none⟩), .string NE] w1 fun r w' => r = .returned (.int .i64 e3) ∧ Moves w1 p F1 d3 w') :
    Calls Tryz.prog 9 #[.pointer (some ⟨xb, 0, none⟩), .int .u64 m, .string (B u)] w fun r w' => r = .returned (.int .i64 e3) ∧ BaseOut w xb p F d3 m u w' := by
  have c1 := h.mem.c1
  have hm' : ¬ (m : Int) ≤ (n : Int) := by omega
  have h0' : ((n : Int) == 0) = false := by simpa using h0
  have HK := Lib.hid h
  have HNE := Lib.hid hne
  have HRM := Lib.hid hrm
  clear h hm hne hrm h0
  go_enter Tryz.func9, Tryz.ntmps9
  go_upto_region 15 with (first
    | (go_at_call 23; refine (HK.out.fr _).mono ?_; rintro r w1 ⟨rfl, b1⟩; have M1 := HK.out.mem.below b1)
    | (go_at_call 25; refine (HK.out.nm _ M1.env).mono ?_; rintro r w2 ⟨rfl, b2⟩; have M2 := M1.below b2)
    | (go_at_call 24; refine (HK.out.wr _ M2).mono ?_; rintro r w3 ⟨rfl, o3⟩; obtain ⟨F3, M3, g3, t3⟩ := o3; have k1 := M3.c1)
    | (go_at_call 26; refine (HK.out.cl _).mono ?_; rintro r w4 ⟨rfl, b4⟩; have M4 := M3.below b4; have j1 := M4.c1; have j2 := M4.c2; have z1 := M4.frozen 1; have z2 := M4.frozen 2; have O5 := M4.set m u))
  obtain ⟨F5, M5, g5, t5⟩ := O5
  generalize (w4.setCell ⟨xb, 1, none⟩ (.int .u64 m)).setCell ⟨xb, 2, none⟩ (.string (B u)) = W5 at *
  have HH := Lib.hid (show BaseOut w xb p F d3 m u W5 → True from fun _ => trivial)
  have a0 := M5.c0
  have HM5 := Lib.hid M5
  have HT := Lib.hid (show ∀ W, BaseOut W5 xb p F5 d3 m u W → BaseOut w xb p F d3 m u W from fun W o => BaseOut.before HK.out.mem (bthen b1 b2) (BaseOut.trans g3 t3 (BaseOut.before M3 b4 (BaseOut.trans g5 t5 o))))
  clear M5 g5 t5 M4 M3 g3 t3 j1 j2 z1 z2 k1 b4 M1 M2 b1 b2 HH
  go_region_with (first
    | (go_at_call 25; refine (HNE.out _ HM5.out.drew.env).mono ?_; rintro r w6 ⟨rfl, b6⟩; have M6 := HM5.out.drew.below b6; have a6 := M6.c0)
    | (go_at_call 22; refine (HRM.out _ _ M6.disk).mono ?_; rintro r w7 ⟨rfl, m7⟩; have O7 := Lib.hid (M6.moves m7); clear m7))
  all_goals go_wp2
  all_goals (go_ret; exact ⟨rfl, HT.out _ (BaseOut.before HM5.out (((Below.refl _ W5).drew).trans b6) O7.out)⟩)

theorem save_is {f : Int} (h : BaseM w xb p d F n t) (hb : BUp d n t f) (f0 : -1 ≤ f) (f1 : f ≤ 9223372036854775807) {m : Nat} (hm : n < m) (hm2 : m < 2 ^ 64) {u : List UInt8} (hu : u.length ≤ 300) :
    Calls Tryz.prog 9 #[.pointer (some ⟨xb, 0, none⟩), .int .u64 m, .string (B u)] w fun r w' => r = .returned (.int .i64 (saveB d m u).2) ∧
      ∃ n' t', BaseOut w xb p F (saveB d m u).1 n' t' w' ∧ ((saveB d m u).1.dead = false → baseL (saveB d m u).1.files = (n', t')) := by
  have hin := (inside_small hm2 hu).2
  have hfl := (frame_le hm2 hu).2
  have hs := hb.sane f0 f1
  have hfind := save_find hb hm hm2
  have hnl : (bname m).length ≤ 24 := by rw [bname_length]; omega
  have hfr : ∀ w1, Calls Tryz.prog 23 #[.int .u64 m, .string (B u)] w1 fun r w' => r = .returned (.tuple #[.string (B (frameL (insideB m u))), .int .i64 0]) ∧ Below w1.heap.size w1 w' := fun w1 => by
    have := framed_is m hm2 u (by omega) w1
    simp only [if_neg (show ¬ 65536 < (insideB m u).length by omega)] at this
    exact this
  have hsave : saveB d m u = thenD (d.append (bname m) (frameL (insideB m u))) fun d1 => thenD (d1.sync (bname m)) fun d2 => if n = 0 then (d2, 0) else d2.remove (bname n) := by
    unfold saveB
    rw [hb.base, if_neg (by simp only; omega), if_neg (by omega)]
  obtain ⟨a1, a2⟩ := save_st hb hm hm2 hu
  have hend : (saveB d m u).1.dead = false → (saveB d m u).2 = 0 ∧ baseL (saveB d m u).1.files = (m, u) := by
    intro hd
    by_cases hc : 0 ≤ f ∧ f < (frameL (insideB m u)).length
    · obtain ⟨d', b1, b2⟩ := a2 f.toNat (by omega) (by omega)
      rw [b1] at hd
      simp only at hd
      rw [b2.isDead] at hd
      cases hd
    · obtain ⟨d', b1, b2⟩ := a1 hc
      rw [b1]
      exact ⟨rfl, b2.base⟩
  rcases save_two hb hm hm2 hu with ⟨d1, ha⟩ | ⟨d1, d2, ha, hy, hr0, hr1⟩
  · have hsv : saveB d m u = (d1, 9) := by rw [hsave, ha]; rfl
    have K : SaveK w xb p d F n t m u 9 d1 (B (bname m)) (B (frameL (insideB m u))) :=
      ⟨h, hfr, fun w1 E => name_is m hm2 w1 E, fun w1 M1 => write_bad M1 (bname m) (frameL (insideB m u)) hnl hb.alive hfind hs (by omega) ha, fun w1 => clone_any (B u) w1 (by rw [B_size]; omega)⟩
    refine (save_torn K hm).mono ?_
    rintro r w' ⟨rfl, o⟩
    rw [hsv] at hend ⊢
    refine ⟨rfl, n, t, o, fun hd => ?_⟩
    have := (hend hd).1
    cases this
  · have K : SaveK w xb p d F n t m u 0 d2 (B (bname m)) (B (frameL (insideB m u))) :=
      ⟨h, hfr, fun w1 E => name_is m hm2 w1 E, fun w1 M1 => write_ok M1 (bname m) (frameL (insideB m u)) hnl hb.alive hfind hs (by omega) ha hy, fun w1 => clone_any (B u) w1 (by rw [B_size]; omega)⟩
    by_cases h0 : n = 0
    · subst h0
      have hsv : saveB d m u = (d2, 0) := by rw [hsave, ha]; unfold thenD; rw [if_neg (by simp)]; simp only; rw [hy, if_neg (by simp)]; simp
      refine (save_first K hm).mono ?_
      rintro r w' ⟨rfl, o⟩
      rw [hsv] at hend ⊢
      exact ⟨rfl, m, u, o, fun hd => (hend hd).2⟩
    · have hsv : saveB d m u = d2.remove (bname n) := by rw [hsave, ha]; unfold thenD; rw [if_neg (by simp)]; simp only; rw [hy, if_neg (by simp), if_neg h0]
      refine (save_next (NE := B (bname n)) (e3 := (d2.remove (bname n)).2) (d3 := (d2.remove (bname n)).1) K hm h0 (fun w1 E => name_is n hb.slot w1 E) (fun w1 F1 hd => remove_any hd (bname n) (by rw [bname_length]; unfold maxLen; omega) hr0 (by omega))).mono ?_
      rintro r w' ⟨rfl, o⟩
      rw [hsv] at hend ⊢
      exact ⟨rfl, m, u, o, fun hd => (hend hd).2⟩

end Go.Proofs.YthpamdjgkmaleaaGreatDoor
