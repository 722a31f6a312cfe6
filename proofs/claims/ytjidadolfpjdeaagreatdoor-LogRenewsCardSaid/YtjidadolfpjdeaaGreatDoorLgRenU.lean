/-
  Renew as the law LogRenews meets it, and a log of one segment behind it.
-/
import Derived.Test.YtjidadolfpjdeaaGreatDoorLgSame
namespace Go.Proofs.YtjidadolfpjdeaaGreatDoor
open Go.RowKit
set_option linter.unusedVariables false
variable {G : (Nat → Prop) → World → Addr → Nat → PD → Prop}

/-! ### plain -/
theorem crL_whole : ∀ (l : List PF) (k : Nat), (∀ f ∈ l, f.synced = f.bytes.length) → crL k l = l
  | [], k, _ => rfl
  | f :: r, k, h => by
    have h1 := h f (by simp)
    have h2 : stayF k f = 0 := by unfold stayF; omega
    rw [crL, h2, crL_whole r _ (fun g hg => h g (by simp [hg]))]
    congr 1
    unfold cutF
    rw [List.take_of_length_le (by omega)]
theorem crash_whole {d : PD} (hd : d.dead = false) (h : ∀ f ∈ d.files, f.synced = f.bytes.length) (ht : totF d.files ≤ 9223372036854775807) (keep : Int) : d.crash keep = ({ d with fuse := -1, dead := true }, 0) := by
  unfold PD.crash
  rw [if_neg (by simp [hd]), crash_keep d.files keep (fun f hf => Nat.le_of_eq (h f hf)) ht, crL_whole _ _ h]
  simp
theorem LogSt.synced {d : PD} {R : List Rec} {M : Nat} (h : LogSt d R R.length M) : ∀ f ∈ d.files, f.synced = f.bytes.length := by
  rcases h with ⟨e1, _⟩ | ⟨first, cl, la, sy, t, rfl, e3, e4⟩
  · rw [e1]; intro f hf; cases hf
  · rw [List.length_append] at e3
    have hsy : la.take sy = la := List.take_of_length_le (by omega)
    rw [t.files]
    intro f hf
    rcases List.mem_append.1 hf with hf | hf
    · obtain ⟨k, s, _, _, _, rfl⟩ := segFiles_mem _ _ _ hf
      simp [rowL_length]
    · rw [List.mem_singleton.1 hf]
      simp only
      rw [hsy, List.length_take, rowL_length, Nat.min_self]
theorem segsL_len : ∀ l : List PF, (segsL l).length = ((l.map PF.name).filter fun nm => decide (0 < numberL nm)).length
  | [] => rfl
  | f :: r => by
    have ih := segsL_len r
    unfold segsL at ih ⊢
    rw [List.filterMap_cons, List.map_cons, List.filter_cons]
    by_cases h : 0 < numberL f.name
    · simp only [if_pos h, List.length_cons, decide_eq_true h, if_true, ih]
    · simp only [if_neg h, decide_eq_false h, ih]
      simp
theorem setF_named (nm : List UInt8) (g : PF → PF) (hg : ∀ f, (g f).name = f.name) (l : List PF) : (setF nm g l).map PF.name = l.map PF.name := by
  unfold setF
  rw [List.map_map]
  refine List.map_congr_left fun f _ => ?_
  simp only [Function.comp]
  split
  · exact hg f
  · rfl
theorem cut_names (d : PD) (nm : List UInt8) (n : Int) : (d.cut nm n).1.files.map PF.name = d.files.map PF.name := by
  unfold PD.cut PD.within
  split
  · rfl
  · split
    · rfl
    · rename_i f _
      show (if n < (f.synced : Int) ∨ (f.bytes.length : Int) < n then (d, (2 : Int)) else _).1.files.map PF.name = _
      split
      · rfl
      · exact setF_named nm (fun f => { f with bytes := f.bytes.take n.toNat }) (fun f => rfl) _
theorem sync_named (d : PD) (nm : List UInt8) : (d.sync nm).1.files.map PF.name = d.files.map PF.name := by
  unfold PD.sync PD.within
  split
  · rfl
  · split
    · rfl
    · exact setF_named nm (fun f => { f with synced := f.bytes.length }) (fun f => rfl) d.files
theorem open_names (d : PD) : (openL d).1.files.map PF.name = d.files.map PF.name := by
  unfold openL
  split
  · rfl
  · split
    · rfl
    · split
      · rfl
      · exact (sync_named _ _).trans (cut_names _ _ _)

theorem shape_sane' {d d' : PD} (h : Sane d) (hf : d'.files = d.files) (hr : d'.room = d.room) (h0 : -1 ≤ d'.fuse) (h1 : d'.fuse ≤ 9223372036854775807) : Sane d' :=
  ⟨by rw [hf]; exact h.few, by rw [hf]; exact h.names, by rw [hf]; exact h.synced, h0, h1, by rw [hr]; exact h.room0, by rw [hr, hf]; exact h.room1⟩

/-! ### a disk with one segment -/
structure One (K : Nat → Prop) (w : World) (p : Nat) (d : PD) (rs : List Rec) (M : Nat) (dead : Bool) : Prop where
  disk : DkOff K w p d
  st : LogSt d rs rs.length M
  isDead : d.dead = dead
  one : (segsL d.files).length = 1

theorem One.dead? {K w p d rs M b} (h : One K w p d rs M b) : Calls Tryz.prog 16 #[.pointer (some ⟨p, 0, none⟩)] w fun r w' => r = .returned (.bool b) ∧ w = w' := by
  obtain ⟨F, h1, _, _⟩ := h.disk
  have := dead_any h1
  rw [h.isDead] at this
  exact this
theorem One.crash {K w p d rs M} (h : One K w p d rs M false) (keep : Int) (hk : keep ≤ 9223372036854775807) (hsz : sizes rs ≤ 4194304) (hM : M ≤ 900) :
    Calls Tryz.prog 17 #[.pointer (some ⟨p, 0, none⟩), .int .i64 keep] w fun r w' => r = .returned (.int .i64 0) ∧ Kept K w w' ∧ ∃ d', One K w' p d' rs M true ∧ d'.fuse = -1 := by
  have hs : Sane { d with fuse := -1 } := sane_st (h.st.torn.same rfl rfl) hM hsz (by simp) (by simp)
  have r0 := hs.room0
  have r1 := hs.room1
  have hw := crash_whole h.isDead h.st.synced (by simp only at r0 r1; omega) keep
  refine (h.disk.calls (d' := { d with fuse := -1, dead := true }) (v := .int .i64 0) fun F hF => ?_).mono ?_
  · have := crash_any hF keep hk (by have := hs.few; simp only at this; omega) (fun f hf => by have := hs.names f hf; omega) hs.synced r0 (by simp only at r0 r1; omega)
    rw [hw] at this
    exact this
  · rintro r w' ⟨rfl, g1, g2⟩
    exact ⟨rfl, g2, _, ⟨g1, h.st.same rfl rfl, rfl, h.one⟩, rfl⟩
theorem One.start {K w p d rs M b} (h : One K w p d rs M b) (hf : d.fuse = -1) : Calls Tryz.prog 18 #[.pointer (some ⟨p, 0, none⟩)] w fun r w' => r = .returned (.int .i64 0) ∧ Kept K w w' ∧ ∃ d', One K w' p d' rs M false ∧ d'.fuse = -1 := by
  refine (h.disk.calls (d' := d.start) (v := .int .i64 0) fun F hF => start_any hF).mono ?_
  rintro r w' ⟨rfl, g1, g2⟩
  exact ⟨rfl, g2, d.start, ⟨g1, h.st.same rfl rfl, rfl, h.one⟩, hf⟩
theorem One.opens {K w p d rs M} (S : LogSpec G) (h : One K w p d rs M false) (hf : d.fuse = -1) (hsz : sizes rs ≤ 4194304) (hM : M ≤ 900) :
    Calls Tryz.prog 8 #[.pointer (some ⟨p, 0, none⟩)] w fun r w' => ∃ x a c d', r = .returned (.tuple #[.pointer (some x), .slice a rs.length c, .int .i64 0]) ∧
      w'.ownsRow w.heap.size 9 1 (.slice a rs.length c) rs.length (strV rs) ∧ Kept K w w' ∧ G (andOf K a) w' x p d' ∧ Sane d' ∧ (segsL d'.files).length = 1 := by
  obtain ⟨d', k, b1, b2, b3, b4, b5, b6, b7⟩ := open_st h.st.torn h.isDead
  obtain rfl := b7 h.st
  rw [List.take_length] at b1 b2
  have hs := sane_st h.st.torn hM hsz (by rw [hf]; decide) (by rw [hf]; decide)
  have hone : (segsL d'.files).length = 1 := by
    have hn := open_names d
    rw [b1] at hn
    have h1 := h.one
    rw [segsL_len] at h1 ⊢
    simp only at hn
    rw [hn]; exact h1
  refine (S.open_off h.disk hs b1).mono ?_
  rintro r w' ⟨y, a, c, rfl, row, g, kp⟩
  exact ⟨y, a, c, d', rfl, row, kp, g, sane_st b2.torn hM hsz (by rw [b6, hf]; decide) (by rw [b6, hf]; decide), hone⟩

theorem Up.renew {K w x p d R s M f} (S : LogSpec G) (h : Up G K w x p d R s M f) {a : Option Addr} {n c : Nat} {rs : List Rec} (ht : Txt w a n rs) (hK : 0 < n → ∀ b, a = some b → K b.block) (hn : n ≤ 1000) (hrs : ∀ r ∈ rs, 1 ≤ r.length ∧ r.length ≤ 300)
    (hsz : sizes R + sizes rs ≤ 4194304) (hM : M ≤ 900) :
    Calls Tryz.prog 11 #[.pointer (some x), .slice a n c] w fun e w' => ∃ z, e = .returned (.int .i64 z) ∧ Kept K w w' ∧
      ((z = 0 ∧ ∃ d', One K w' p d' rs (M + 1) false) ∨ (z = 9 ∧ ∃ d', Dn K w' p d' (R ++ rs) R.length (M + 1) true)) := by
  obtain ⟨a1, a2⟩ := renew_st h.st h.alive (rs := rs) (fun r hr => ⟨(hrs r hr).1, by have := (hrs r hr).2; omega⟩) hsz hM
  have f0 := h.f0
  have hf := h.fuse
  refine (S.renews (c := c) h.log (h.sane hM (by omega)) h.alive ht hK hn (fun r hr => by have := (hrs r hr).2; omega)).mono ?_
  rintro e w' ⟨rfl, g1, g2, g3⟩
  by_cases hc : 0 ≤ d.fuse ∧ d.fuse < (rowL rs).length
  · obtain ⟨d', b1, b2, b3, b4⟩ := a2 d.fuse.toNat (by omega) (by omega)
    rw [b1] at g2 ⊢
    exact ⟨9, rfl, g3, .inr ⟨rfl, d', g2, b2, b3, b4⟩⟩
  · obtain ⟨d', b1, b2, b3, b4⟩ := a1 hc
    rw [b1] at g2 ⊢
    exact ⟨0, rfl, g3, .inl ⟨rfl, d', g2, b2, b3, b4⟩⟩

end Go.Proofs.YtjidadolfpjdeaaGreatDoor
