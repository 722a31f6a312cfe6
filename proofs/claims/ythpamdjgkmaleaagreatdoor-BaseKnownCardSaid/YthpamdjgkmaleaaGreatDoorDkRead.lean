/-
  Package disk's Read over this translation: a file.
-/
import Derived.Test.YthpamdjgkmaleaaGreatDoorDkFile
import Derived.Test.YthpamdjgkmaleaaGreatDoorMb
import Derived.Test.YthpamdjgkmaleaaGreatDoorMc
namespace Go.Proofs.YthpamdjgkmaleaaGreatDoor
open Go.RowKit
set_option linter.unusedVariables false

/-- A box of a file. -/
def FileB (n : Nat) (f : PF) (w : World) : Prop := w.heap[n]? = some (.cells #[.string (B f.name), .string (B f.bytes), .int .i64 f.synced] 44 (0, 0))
def noFile : PF := ⟨[], [], 0⟩
theorem FileB.below {n : Nat} {f : PF} {w w' : World} (h : FileB n f w) (hb : Below w.heap.size w w') : FileB n f w' := (hb.block n (Array.getElem?_eq_some_iff.1 h).1).trans h

theorem FileB.cells {n : Nat} {w : World} (h : FileB n noFile w) : w.cell? ⟨n, 0, none⟩ = some (.string ⟨#[]⟩) ∧ w.cell? ⟨n, 1, none⟩ = some (.string ⟨#[]⟩) ∧ w.cell? ⟨n, 2, none⟩ = some (.int .i64 0) ∧ w.frozen? ⟨n, 0, none⟩ = false ∧ w.frozen? ⟨n, 1, none⟩ = false ∧ w.frozen? ⟨n, 2, none⟩ = false :=
  ⟨by rw [cell_of_row w n 0 _ _ _ h]; rfl, by rw [cell_of_row w n 1 _ _ _ h]; rfl, by rw [cell_of_row w n 2 _ _ _ h]; rfl, frozen_of_row w n 0 _ _ h, frozen_of_row w n 1 _ _ h, frozen_of_row w n 2 _ _ h⟩

theorem FileB.vals {n : Nat} {f : PF} {w : World} (h : FileB n f w) : w.cell? ⟨n, 0, none⟩ = some (.string (B f.name)) ∧ w.cell? ⟨n, 1, none⟩ = some (.string (B f.bytes)) ∧ w.cell? ⟨n, 2, none⟩ = some (.int .i64 f.synced) :=
  ⟨by rw [cell_of_row w n 0 _ _ _ h]; rfl, by rw [cell_of_row w n 1 _ _ _ h]; rfl, by rw [cell_of_row w n 2 _ _ _ h]; rfl⟩
theorem FileB.store {n : Nat} {w : World} (h : FileB n noFile w) (f : PF) : FileB n f (((w.setCell ⟨n, 0, none⟩ (.string (B f.name))).setCell ⟨n, 1, none⟩ (.string (B f.bytes))).setCell ⟨n, 2, none⟩ (.int .i64 f.synced)) := by
  have h1 := heap_setCell_same w n 0 _ _ (.string (B f.name)) h
  have h2 := heap_setCell_same _ n 1 _ _ (.string (B f.bytes)) h1
  have h3 := heap_setCell_same _ n 2 _ _ (.int .i64 f.synced) h2
  simpa [FileB] using h3
theorem _root_.Go.RowKit.Below.fileB {n m : Nat} {f : PF} {w w' : World} (hb : Below m w w') (h : FileB n f w) (hn : n < m) : FileB n f w' := (hb.block n hn).trans h

set_option maxRecDepth 100000 in
set_option maxHeartbeats 4000000 in
theorem readf_any {w : World} {p : Nat} {d : PD} {F : Nat → Prop} (h : DiskOf w p d F) (nm : List UInt8) (hl : nm.length ≤ 1000000) (hd : d.dead = false) {f : PF} (hf : d.find nm = some f) :
    Calls Tryz.prog 18 #[.pointer (some ⟨p, 0, none⟩), .string (B nm)] w fun r w' => r = .returned (.tuple #[fileV f, .int .i64 0]) ∧ Below w.heap.size w w' := by
  obtain ⟨W0, hW0⟩ : ∃ W0, ((w.alloc (.cells #[.string (B nm)] 9)).alloc (.cells #[.string ⟨#[]⟩, .string ⟨#[]⟩, .int .i64 0] 44)).alloc (.cells #[.string ⟨#[]⟩, .string ⟨#[]⟩, .int .i64 0] 44) = W0 := ⟨_, rfl⟩
  have hb0 : Below w.heap.size w W0 := by rw [← hW0]; exact ((((Below.refl _ w).alloc (Nat.le_refl _) _).alloc (by simp) _).alloc (by simp; omega) _)
  have b1 : Boxed W0 w.heap.size 9 (.string (B nm)) := by rw [← hW0]; exact ((Boxed.new w _ _).alloc _).alloc _
  have b2 : FileB (w.heap.size + 1) noFile W0 := by
    rw [← hW0]
    have := FileB.below (n := w.heap.size + 1) (f := noFile) (w := (w.alloc (.cells #[.string (B nm)] 9)).alloc (.cells #[.string ⟨#[]⟩, .string ⟨#[]⟩, .int .i64 0] 44)) (by have := heap_alloc_new (w.alloc (.cells #[.string (B nm)] 9)) (.cells #[.string ⟨#[]⟩, .string ⟨#[]⟩, .int .i64 0] 44); simpa [FileB, noFile] using this) ((Below.refl _ _).alloc (Nat.le_refl _) (.cells #[.string ⟨#[]⟩, .string ⟨#[]⟩, .int .i64 0] 44))
    exact this
  have b3 : FileB (w.heap.size + 1 + 1) noFile W0 := by
    rw [← hW0]
    have := heap_alloc_new ((w.alloc (.cells #[.string (B nm)] 9)).alloc (.cells #[.string ⟨#[]⟩, .string ⟨#[]⟩, .int .i64 0] 44)) (.cells #[.string ⟨#[]⟩, .string ⟨#[]⟩, .int .i64 0] 44)
    simpa [FileB, noFile] using this
  have s0 : W0.heap.size = w.heap.size + 3 := by rw [← hW0]; simp
  have hd0 := h.below hb0
  obtain ⟨h1, mb, G, h2, h3, h4⟩ := id hd0
  have hx : (entOf G nm).map Ent.pf = some f := by rw [← find_ent, h3]; exact hf
  cases hen : entOf G nm with
  | none => rw [hen] at hx; cases hx
  | some e =>
    rw [hen] at hx
    obtain rfl : e.pf = f := by simpa using hx
    obtain ⟨m1, m2⟩ := entOf_mem hen
    have hw := within_some (fa := 35) (caps := #[.pointer (some ⟨w.heap.size, 0, none⟩), .pointer (some ⟨w.heap.size + 1 + 1, 0, none⟩)]) (R := fun x w1 w' => x = 0 ∧ FileB (w.heap.size + 1 + 1) e.pf w' ∧ Below (w.heap.size + 1 + 1) w1 w') hd0 nm (by unfold maxLen; omega) hd (enters_of Tryz.func35 (by kernel_rfl) rfl) h2 m1 m2 (by
      intro w1 hb1
      have hat : e.at w1 := (h2.ents e m1).kept (hb1.block _ (Array.getElem?_eq_some_iff.1 (h2.ents e m1).1).1) (fun k hk => hb1.block k (h2.lt (.inr (.inr ⟨e, m1, .inr hk⟩))))
      have b1' : Boxed w1 w.heap.size 9 (.string (B nm)) := (hb1.block _ (by rw [s0]; omega)).trans b1
      have k1 := b1'.cell
      have hsz1 : w.heap.size + 1 + 1 ≤ w1.heap.size := by have := hb1.size; omega
      have k3 := b3.below hb1
      have hcl := clone_any (B nm) w1 (by rw [B_size]; omega)
      have hfl : ∀ w2, Below w1.heap.size w1 w2 → Calls Tryz.prog 33 #[.pointer (some ⟨e.blk, 0, none⟩), .string (B nm)] w2 fun r w' => r = .returned (fileV e.pf) ∧ Below w2.heap.size w2 w' := by
        intro w2 hb2
        have hat2 : e.at w2 := hat.kept (hb2.block _ (Array.getElem?_eq_some_iff.1 hat.1).1) (fun k hk => hb2.block k (by obtain ⟨cur, hc⟩ := hat.row hk; exact (Array.getElem?_eq_some_iff.1 hc).1))
        have := file_any hat2
        rw [m2] at this
        exact this
      have HCL := Lib.hid hcl
      have HFL := Lib.hid hfl
      have HK3 := Lib.hid k3
      clear hcl hfl
      simp only [List.append_toArray, List.cons_append, List.nil_append]
      go_enter Tryz.func35, Tryz.ntmps35
      go_wp2_with (first
        | (go_at_call 26; refine HCL.out.mono ?_; rintro r w2 ⟨rfl, bb2⟩)
        | (go_at_call 33; refine (HFL.out _ bb2).mono ?_; rintro r w3 ⟨rfl, bb3⟩; have k4 := (HK3.out.below bb2).below bb3; obtain ⟨g0, g1, g2, z0, z1, z2⟩ := k4.cells; have K4 := Lib.hid k4; clear k4; unfold fileV))
      go_ret
      exact ⟨0, rfl, rfl, by have := K4.out.store e.pf; rw [m2] at this; exact this, ((((bb2.trans (bb3.mono bb2.size)).mono hsz1).setCell (Nat.le_refl _) _).setCell (Nat.le_refl _) _).setCell (Nat.le_refl _) _⟩)
    have HW := Lib.hid hw
    have HB0 := Lib.hid hb0
    have HB2 := Lib.hid b2
    have k1 := b1.cell
    clear hw h2 h3 h4 hd0 b1 b2 b3
    go_enter Tryz.func18, Tryz.ntmps18
    go_wp2_with (go_at_call 34; (try rw [hW0]); refine HW.out.mono ?_; rintro r w' ⟨x, w1, rfl, hb1, rfl, hfb, hbb⟩; have k2 := hbb.fileB (HB2.out.below hb1) (by omega); obtain ⟨g0, g1, g2, z0, z1, z2⟩ := k2.cells; obtain ⟨q0, q1, q2⟩ := hfb.vals)
    have k5 := k2.store e.pf
    rw [m2] at k5
    obtain ⟨v0, v1, v2⟩ := k5.vals
    rw [m2] at v0
    refine bodyPost_ret (v := .tuple #[fileV e.pf, .int .i64 0]) (by unfold fileV; rw [m2]; simp [results, Tryz.f18, go_sem, v0, v1, v2]) rfl ⟨rfl, ?_⟩
    exact (((((HB0.out).trans (hb1.mono HB0.out.size)).trans (hbb.mono (by have := hb1.size; omega))).setCell (by show w.heap.size ≤ w.heap.size + 1; omega) _).setCell (by show w.heap.size ≤ w.heap.size + 1; omega) _).setCell (by show w.heap.size ≤ w.heap.size + 1; omega) _

end Go.Proofs.YthpamdjgkmaleaaGreatDoor
