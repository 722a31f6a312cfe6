/-
  A log's disk in its states, as the laws' walks go through them: up (a log that is whole), down (behind an end of the power).
-/
import Derived.Test.YtjidadolfpjdeaaGreatDoorLgWakes
import Derived.Test.YtjidadolfpjdeaaGreatDoorMa
namespace Go.Proofs.YtjidadolfpjdeaaGreatDoor
open Go.RowKit
set_option linter.unusedVariables false
variable {G : (Nat → Prop) → World → Addr → Nat → PD → Prop}

theorem sane_st {d : PD} {R : List Rec} {s M : Nat} (h : TornSt d R s M) (hM : M ≤ 900) (hsz : sizes R ≤ 4194304) (h0 : -1 ≤ d.fuse) (h1 : d.fuse ≤ 9223372036854775807) : Sane d := by
  rcases h with ⟨e1, rfl, rfl, e4⟩ | ⟨first, cl, la, sy, n, t, rfl, e3, e4⟩
  · exact ⟨by rw [e1]; simp, by rw [e1]; simp, by rw [e1]; simp, h0, h1, by rw [e4]; decide, by rw [e4, e1]; simp [totF]⟩
  · obtain ⟨o1, o2, o3, o4⟩ := t.files_ok
    rw [sizes_append] at hsz
    have := t.le
    have := t.room
    have := t.f0
    exact ⟨by rw [o3]; omega, o2, o1, h0, h1, by rw [t.room]; omega, by rw [t.room, o4]; omega⟩

/-- A log that is whole. -/
structure Up (G : (Nat → Prop) → World → Addr → Nat → PD → Prop) (K : Nat → Prop) (w : World) (x : Addr) (p : Nat) (d : PD) (R : List Rec) (s M : Nat) (f : Int) : Prop where
  log : G K w x p d
  st : LogSt d R s M
  alive : d.dead = false
  fuse : d.fuse = f
  f0 : -1 ≤ f
  f1 : f ≤ 9223372036854775807
/-- A disk whose power has gone, or has come back. -/
structure Dn (K : Nat → Prop) (w : World) (p : Nat) (d : PD) (R : List Rec) (s M : Nat) (dead : Bool) : Prop where
  disk : DkOff K w p d
  st : TornSt d R s M
  isDead : d.dead = dead
  fuse : d.fuse = -1

theorem DkOff.env {K w p d} (h : DkOff K w p d) : Env w := by
  obtain ⟨_, _, _, h⟩ := h
  exact h.env
theorem Dn.env {K w p d R s M b} (h : Dn K w p d R s M b) : Env w := h.disk.env
theorem Up.env {K w x p d R s M f} (S : LogSpec G) (h : Up G K w x p d R s M f) : Env w := (S.disk h.log).env
theorem Up.sane {K w x p d R s M f} (h : Up G K w x p d R s M f) (hM : M ≤ 900) (hsz : sizes R ≤ 4194304) : Sane d :=
  sane_st h.st.torn hM hsz (by rw [h.fuse]; exact h.f0) (by rw [h.fuse]; exact h.f1)
theorem Dn.sane {K w p d R s M b} (h : Dn K w p d R s M b) (hM : M ≤ 900) (hsz : sizes R ≤ 4194304) : Sane d :=
  sane_st h.st hM hsz (by rw [h.fuse]; decide) (by rw [h.fuse]; decide)
theorem Up.below {K w w' x p d R s M f} (S : LogSpec G) (h : Up G K w x p d R s M f) (hb : Below w.heap.size w w') : Up G K w' x p d R s M f :=
  ⟨S.below h.log hb, h.st, h.alive, h.fuse, h.f0, h.f1⟩
theorem Up.dn {K w x p d R s M} (S : LogSpec G) (h : Up G K w x p d R s M (-1)) : Dn K w p d R s M false := ⟨S.disk h.log, h.st.torn, h.alive, h.fuse⟩
theorem Dn.below {K w w' p d R s M b} (h : Dn K w p d R s M b) (hb : Below w.heap.size w w') : Dn K w' p d R s M b := ⟨h.disk.below hb, h.st, h.isDead, h.fuse⟩

theorem Up.add {K w x p d R s M f} (S : LogSpec G) (h : Up G K w x p d R s M f) {r : Rec} (h1 : 1 ≤ r.length) (h2 : r.length ≤ 1000) (hsz : sizes R + (frameL r).length ≤ 4194304) (hM : M ≤ 900) :
    Calls Tryz.prog 9 #[.pointer (some x), .string (B r)] w fun e w' => ∃ z, e = .returned (.int .i64 z) ∧ Kept K w w' ∧
      ((z = 0 ∧ ∃ d' f', (f = -1 → f' = -1) ∧ Up G K w' x p d' (R ++ [r]) s (M + 1) f') ∨ (z = 9 ∧ 0 ≤ f ∧ ∃ d', Dn K w' p d' (R ++ [r]) s (M + 1) true)) := by
  have hs := h.sane hM (by omega)
  obtain ⟨a1, a2⟩ := add_st h.st h.alive h1 (by omega) hsz hM
  have f0 := h.f0
  have f1 := h.f1
  have hf := h.fuse
  refine (S.adds (r := r) h.log hs h.alive (by omega)).mono ?_
  rintro e w' ⟨rfl, g1, g2, g3⟩
  by_cases hc : 0 ≤ d.fuse ∧ d.fuse < (frameL r).length
  · obtain ⟨d', b1, b2, b3, b4⟩ := a2 d.fuse.toNat (by omega) (by omega)
    rw [b1] at g2 ⊢
    exact ⟨9, rfl, g3, .inr ⟨rfl, by omega, d', g2, b2, b3, b4⟩⟩
  · obtain ⟨d', b1, b2, b3, b4⟩ := a1 hc
    rw [b1] at g1 ⊢
    refine ⟨0, rfl, g3, .inl ⟨rfl, d', d'.fuse, ?_, ⟨g1 b3, b2, b3, rfl, ?_, ?_⟩⟩⟩
    · intro hm; rw [b4, if_neg (by omega)]; omega
    · rw [b4]; split <;> omega
    · rw [b4]; split <;> omega

theorem Up.sync {K w x p d R s M f} (S : LogSpec G) (h : Up G K w x p d R s M f) (hsz : sizes R ≤ 4194304) (hM : M ≤ 900) :
    Calls Tryz.prog 10 #[.pointer (some x)] w fun e w' => e = .returned (.int .i64 0) ∧ Kept K w w' ∧ ∃ d', Up G K w' x p d' R R.length M f := by
  obtain ⟨d', b1, b2, b3, b4⟩ := sync_st h.st h.alive
  refine (S.syncs h.log (h.sane hM hsz) h.alive).mono ?_
  rw [b1]
  rintro e w' ⟨rfl, g1, g2⟩
  exact ⟨rfl, g2, d', g1, b2, b3, b4.trans h.fuse, h.f0, h.f1⟩

theorem Up.setFuse {K w x p d R s M f} (S : LogSpec G) (h : Up G K w x p d R s M f) (n : Int) (hn : n ≤ 9223372036854775807) :
    Calls Tryz.prog 15 #[.pointer (some ⟨p, 0, none⟩), .int .i64 n] w fun e w' => e = .returned (.int .i64 0) ∧ Kept K w w' ∧ ∃ d', Up G K w' x p d' R s M (max n (-1)) := by
  obtain ⟨F, h1, h2, _, h3⟩ := S.moved h.log
  obtain ⟨_, _, _, h4⟩ := S.disk h.log
  have hd := h.alive
  have hs : d.setFuse n = ({ d with fuse := max n (-1) }, 0) := by unfold PD.setFuse; rw [if_neg (by simp [hd])]
  refine (fuse_any h1 n).mono ?_
  rw [hs]
  rintro r w' ⟨rfl, hm⟩
  obtain ⟨F', st⟩ := hm.step
  refine ⟨rfl, st.kept h2, { d with fuse := max n (-1) }, ⟨?_, h.st.same rfl rfl, hd, rfl, by omega, by omega⟩⟩
  exact h3 K _ _ _ st rfl (fun k hk => .inl hk) (fun k hk => ⟨fun hf => st.off h2 h4 k hf hk, Nat.lt_of_lt_of_le (h4 k hk) st.turn.size⟩)

theorem Up.isDead {K w x p d R s M f} (S : LogSpec G) (h : Up G K w x p d R s M f) : Calls Tryz.prog 16 #[.pointer (some ⟨p, 0, none⟩)] w fun r w' => r = .returned (.bool false) ∧ w = w' := by
  obtain ⟨F, h1, _, _⟩ := S.disk h.log
  have := dead_any h1
  rw [h.alive] at this
  exact this
theorem Dn.dead? {K w p d R s M b} (h : Dn K w p d R s M b) : Calls Tryz.prog 16 #[.pointer (some ⟨p, 0, none⟩)] w fun r w' => r = .returned (.bool b) ∧ w = w' := by
  obtain ⟨F, h1, _, _⟩ := h.disk
  have := dead_any h1
  rw [h.isDead] at this
  exact this
theorem Up.crash {K w x p d R s M f} (S : LogSpec G) (h : Up G K w x p d R s M f) (keep : Int) (hk : keep ≤ 9223372036854775807) (hsz : sizes R ≤ 4194304) (hM : M ≤ 900) :
    Calls Tryz.prog 17 #[.pointer (some ⟨p, 0, none⟩), .int .i64 keep] w fun r w' => r = .returned (.int .i64 0) ∧ Kept K w w' ∧ ∃ d', Dn K w' p d' R s M true := by
  obtain ⟨d', b1, b2, b3, b4⟩ := crash_st h.st.torn h.alive hsz keep
  have hs := h.sane hM hsz
  have r1 := hs.room1
  refine ((S.disk h.log).calls (d' := d') (v := .int .i64 0) fun F hF => ?_).mono ?_
  · have := crash_any hF keep hk (by have := hs.few; omega) (fun f hf => by have := hs.names f hf; omega) hs.synced hs.room0 (by omega)
    rw [b1] at this
    exact this
  · rintro r w' ⟨rfl, g1, g2⟩
    exact ⟨rfl, g2, d', g1, b2, b3, b4⟩
theorem Dn.start {K w p d R s M b} (h : Dn K w p d R s M b) : Calls Tryz.prog 18 #[.pointer (some ⟨p, 0, none⟩)] w fun r w' => r = .returned (.int .i64 0) ∧ Kept K w w' ∧ ∃ d', Dn K w' p d' R s M false := by
  refine (h.disk.calls (d' := d.start) (v := .int .i64 0) fun F hF => start_any hF).mono ?_
  rintro r w' ⟨rfl, g1, g2⟩
  exact ⟨rfl, g2, d.start, g1, h.st.same rfl rfl, rfl, h.fuse⟩

/-- K, and the block of a slice. -/
abbrev andOf (K : Nat → Prop) (a : Option Addr) : Nat → Prop := fun k => K k ∨ ∃ b, a = some b ∧ k = b.block

theorem Dn.opens {K w p d R s M} (S : LogSpec G) (h : Dn K w p d R s M false) (hsz : sizes R ≤ 4194304) (hM : M ≤ 900) :
    Calls Tryz.prog 8 #[.pointer (some ⟨p, 0, none⟩)] w fun r w' => ∃ k x a c d', s ≤ k ∧ k ≤ R.length ∧ r = .returned (.tuple #[.pointer (some x), .slice a k c, .int .i64 0]) ∧
      w'.ownsRow w.heap.size 9 1 (.slice a k c) k (strV (R.take k)) ∧ Kept K w w' ∧ Up G (andOf K a) w' x p d' (R.take k) k M (-1) := by
  obtain ⟨d', k, b1, b2, b3, b4, b5, b6, _⟩ := open_st h.st h.isDead
  have hl : (R.take k).length = k := by rw [List.length_take]; omega
  refine (S.open_off h.disk (h.sane hM hsz) b1).mono ?_
  rw [hl]
  rintro r w' ⟨x, a, c, rfl, row, g, kp⟩
  exact ⟨k, x, a, c, d', b3, b4, rfl, row, kp, g, b2, b5, b6.trans h.fuse, by decide, by decide⟩
/-- A log that is whole, opened anew. -/
theorem Up.opens {K w x p d R s M f} (S : LogSpec G) (h : Up G K w x p d R s M f) (hsz : sizes R ≤ 4194304) (hM : M ≤ 900) :
    Calls Tryz.prog 8 #[.pointer (some ⟨p, 0, none⟩)] w fun r w' => ∃ y a c d', r = .returned (.tuple #[.pointer (some y), .slice a R.length c, .int .i64 0]) ∧
      w'.ownsRow w.heap.size 9 1 (.slice a R.length c) R.length (strV R) ∧ Kept K w w' ∧ Up G (andOf K a) w' y p d' R R.length M f := by
  obtain ⟨d', k, b1, b2, b3, b4, b5, b6, b7⟩ := open_st h.st.torn h.alive
  obtain rfl := b7 h.st
  rw [List.take_length] at b1 b2
  refine (S.open_off (S.disk h.log) (h.sane hM hsz) b1).mono ?_
  rintro r w' ⟨y, a, c, rfl, row, g, kp⟩
  exact ⟨y, a, c, d', rfl, row, kp, g, b2, b5, b6.trans h.fuse, h.f0, h.f1⟩

/-- A log on a new disk. -/
theorem LogSpec.new_up (S : LogSpec G) {w w' : World} {p : Nat} (h : DkOff (fun k => k < w.heap.size) w' p PD.new) :
    Calls Tryz.prog 8 #[.pointer (some ⟨p, 0, none⟩)] w' fun r w2 => ∃ x a c, r = .returned (.tuple #[.pointer (some x), .slice a 0 c, .int .i64 0]) ∧ Kept (fun k => k < w.heap.size) w' w2 ∧ Up G (fun k => k < w.heap.size) w2 x p PD.new [] 0 0 (-1) := by
  refine (S.open_off h sane_new wk_open).mono ?_
  rintro r w2 ⟨x, a, c, rfl, row, g, kp⟩
  exact ⟨x, a, c, rfl, kp, S.weak g (fun k hk => .inl hk), .inl ⟨rfl, rfl, rfl, rfl⟩, rfl, rfl, by decide, by decide⟩

end Go.Proofs.YtjidadolfpjdeaaGreatDoor
