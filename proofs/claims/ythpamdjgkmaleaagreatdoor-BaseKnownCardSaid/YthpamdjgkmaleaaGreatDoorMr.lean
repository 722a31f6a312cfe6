/-
Package base over this translation: files, and the function that it answers: what it tells, one by one.
Package base's read, its memory between two rounds: its results' boxes, the store, the young files' names.
-/
import Derived.Test.YthpamdjgkmaleaaGreatDoorBsSlot
import Derived.Test.YthpamdjgkmaleaaGreatDoorSeqB
import Derived.Test.YthpamdjgkmaleaaGreatDoorDkFile
import Derived.Test.YthpamdjgkmaleaaGreatDoorMn
import Derived.Shelf.Abstract
import Derived.Shelf.RegionOpen
import Derived.WalkKit
import Derived.OwnWalkIn
import Derived.TacticsInMore
import Derived.LoopNIn
import Derived.LoopIn
import Derived.RangeFuncBox
import Derived.Maps.AppendAt
namespace Go.Proofs.YthpamdjgkmaleaaGreatDoor
open Go.RowKit Go.Shelf
set_option linter.unusedVariables false

attribute [local go_sem] Oper.semAt_some

/-- The base files of a disk, with their slots. -/
def tellF (f : PF) : Option (Nat × PF) := if bnum f.name = 0 then none else some (bnum f.name, f)
def tellB (l : List PF) : List (Nat × PF) := l.filterMap tellF
/-- What is handed to yield. -/
def encT (x : Nat × PF) : Array Value := #[.int .u64 x.1, .agg #[.string (B x.2.name), .string (B x.2.bytes), .int .i64 x.2.synced]]
/-- A round leaves rows of files as they were, and the library's variables. -/
def KpF (V W W' : World) : Prop := W.heap.size ≤ W'.heap.size ∧ (∀ (k : Nat) (c : Array Value) (x : Nat × Nat), W.heap[k]? = some (Obj.cells c 44 x) → W'.heap[k]? = W.heap[k]?) ∧ ∀ k : Nat, Vr k → W'.heap[k]? = W.heap[k]?
theorem KpF.row {V W W' : World} (h : KpF V W W') {b n : Nat} {v : Value} {xs : List Value} (hr : W.ownsRow b 44 3 v n xs) : W'.ownsRow b 44 3 v n xs := by
  refine ownsRow_same hr (fun k hk => ?_)
  rcases hr.2 with ⟨rfl, _⟩ | ⟨g, cap, cur, rfl, _, hg, _⟩
  · simp [Value.ownBlock] at hk
  · obtain rfl : g = k := by simpa [Value.ownBlock] using hk
    exact h.2.1 _ _ _ hg

theorem tell_snoc (l : List PF) (k : Nat) (h : k < l.length) : tellB (l.take (k + 1)) = tellB (l.take k) ++ (if bnum l[k].name = 0 then [] else [(bnum l[k].name, l[k])]) := by
  rw [List.take_succ_eq_append_getElem h]
  unfold tellB
  rw [List.filterMap_append]
  congr 1
  unfold tellF
  by_cases h0 : bnum l[k].name = 0
  · simp [h0]
  · simp [h0]
theorem tell_take (l : List PF) (k : Nat) : tellB (l.take k) <+: tellB l := by
  have := List.take_prefix k l
  exact List.IsPrefix.filterMap tellF this

/-- files: the disk is boxed; the function value has the box. -/
theorem files_fn (p : Nat) (w : World) : Calls Tryz.prog 39 #[.pointer (some ⟨p, 0, none⟩)] w fun r w' => r = .returned (.func (.func 53) #[] #[.pointer (some ⟨w.heap.size, 0, none⟩)]) ∧ w.alloc (.cells #[.pointer (some ⟨p, 0, none⟩)] 33) = w' := by
  go_enter Tryz.func39, Tryz.ntmps39
  go_wp2
  go_ret
  exact ⟨rfl, rfl⟩

set_option maxRecDepth 100000 in
set_option maxHeartbeats 4000000 in
theorem files_tell {d : PD} {p b : Nat} {F : Nat → Prop} (w0 : World) (hdk : DiskOf w0 p d F) (E : Env w0) (hs : Sane d) (hb : Boxed w0 b 33 (.pointer (some ⟨p, 0, none⟩))) :
    Tells Tryz.prog 53 #[.pointer (some ⟨b, 0, none⟩)] encT KpF (tellB d.files) w0 := by
  intro lp J Jx V hV hlV hJ hJx hY h0
  have hbV : Boxed V b 33 (.pointer (some ⟨p, 0, none⟩)) := (hV.block b hb.lt).trans hb
  have hcb := hbV.cell
  have hEV := E.below hV
  have hfiles := files_any (hdk.below hV) (by have := hs.few; omega) (fun f hf => by have := hs.names f hf; omega)
  have hnames : ∀ k (h : k < d.files.length), d.files[k].name.length ≤ 24 := fun k h => hs.names _ (List.getElem_mem h)
  have hfew := hs.few
  generalize d.files = l at *
  have HF := Lib.hid hfiles
  have HN := Lib.hid hnames
  have HE := Lib.hid hEV
  have HJ0 := Lib.hid h0
  clear hfiles hnames hEV h0
  refine (callsIn_wide (n := 9)).1 ?_
  refine callsIn_of_wp Tryz.func53 rfl trivial ?_ rfl
  simp only [Tryz.ntmps53, List.size_toArray, List.length_cons, List.length_nil, Nat.reduceAdd, Nat.reduceSub, Array.replicate_succ, Array.replicate_zero, List.push_toArray, List.append_toArray, List.nil_append, List.cons_append]
  gi_wp2_with (refine ⟨trivial, ?_⟩; gi_at_call 16; refine (callsIn_wide.2 HF.out).mono ?_; rintro r w1 ⟨v, rfl, row, b1⟩; obtain ⟨a, c, rfl⟩ := owns_shape3 row)
  have hE1 := HE.out.below b1
  have hJ1 : J [] w1 := hJ [] V w1 none HJ0.out (grown_of_below b1) (by simp)
  gi_loopw [9] (fun iv wr => ∃ k : Nat, k ≤ l.length ∧ iv = .int .i64 k ∧ J (tellB (l.take k)) wr ∧ wr.ownsRow V.heap.size 44 3 (.slice a l.length c) l.length (l.flatMap fileCells) ∧ Env wr) (fun iv _ => l.length - (intOf iv).toNat)
  case atStart => exact ⟨0, Nat.zero_le _, rfl, hJ1, row, hE1⟩
  case round =>
    obtain ⟨k, hk, rfl, hj, hrow, hEr⟩ := hrel
    by_cases hlt : k < l.length
    · obtain ⟨q, rfl, hc⟩ := row_file hrow (by omega)
      obtain ⟨q0, q1, q2⟩ := hc k hlt
      rw [Nat.mul_comm 3 k] at q0 q1 q2
      have hsn := tell_snoc l k hlt
      have hpx := tell_take l (k + 1)
      have hnl := HN.out k hlt
      generalize l[k] = f at *
      have HROW := Lib.hid hrow
      have HLT := Lib.hid hlt
      clear hrow hc
      have hso := fun w1 (E1 : Env w1) => slotOf_is f.name (by omega) w1 E1
      have HSO := Lib.hid hso
      have HE3 := Lib.hid hEr
      have HJ3 := Lib.hid hj
      clear hso hEr hj
      have hba : Below wr.heap.size wr (wr.alloc (.cells #[.string (B f.name), .string (B f.bytes), .int .i64 f.synced] 44)) := (Below.refl _ wr).alloc (Nat.le_refl _) _
      have hbox := fileB_new wr f
      have HBOX := Lib.hid hbox
      clear hbox
      by_cases h0 : bnum f.name = 0
      · rw [if_pos h0, List.append_nil] at hsn
        rw [h0] at HSO
        gi_wp2_with (refine ⟨trivial, ?_⟩; gi_at_call 54; refine (callsIn_wide.2 (HSO.out _ (HE3.out.below hba))).mono ?_; rintro r w2 ⟨rfl, b2⟩; have b3 := bthen hba b2)
        refine ⟨fun _ _ => trivial, ?_⟩
        gi_wp2
        go_roundw
        case rel => exact ⟨k + 1, (by have := HLT.out; omega), by go_num, by rw [hsn]; exact hJ _ wr w2 none HJ3.out (grown_of_below b3) (by simp), ownsRow_same HROW.out (fun j hj => b3.block j (HROW.out.lt j hj).2), HE3.out.below b3⟩
        case measure => have := HLT.out; simp [intOf]; omega
      · rw [if_neg h0] at hsn
        have h0' : ((bnum f.name : Int) != 0) = true := by simpa using h0
        rw [hsn] at hpx
        have hq : ∀ w2, Below wr.heap.size wr w2 → J (tellB (l.take k)) w2 := fun w2 b2 => hJ _ wr w2 none HJ3.out (grown_of_below b2) (by simp)
        gi_wp2_with (refine ⟨trivial, ?_⟩; gi_at_call 54; refine (callsIn_wide.2 (HSO.out _ (HE3.out.below hba))).mono ?_; rintro r w2 ⟨rfl, b2⟩; have b3 := bthen hba b2; obtain ⟨v0, v1, v2⟩ := (HBOX.out.below b2).vals; obtain ⟨fn, tmps, assign, body, hy, hR⟩ := hY _ _ w2 (hq _ b3) hpx; dsimp only [encT] at hy)
        refine (hR _).mono ?_
        rintro e2 w4 ⟨hk, ⟨rfl, hj2⟩ | ⟨rfl, hjx2⟩⟩
        · have hrow4 := hk.row (ownsRow_same HROW.out (fun j hj => b3.block j (HROW.out.lt j hj).2))
          have hE4 := (HE3.out.below b3).same hk.2.2
          have HR4 := Lib.hid hrow4
          have HE4 := Lib.hid hE4
          have HJ4 := Lib.hid hj2
          have HSN := Lib.hid hsn
          clear hrow4 hE4 hj2 hsn hpx
          gi_wp2
          go_roundw
          case rel => exact ⟨k + 1, (by have := HLT.out; omega), by go_num, by rw [HSN.out]; exact HJ4.out, HR4.out, HE4.out⟩
          case measure => have := HLT.out; simp [intOf]; omega
        · have HX4 := Lib.hid hjx2
          have HPX := Lib.hid hpx
          clear hjx2 hpx
          gi_wp2
          refine bodyPost_ret (results_none rfl _ _ _) rfl ?_
          exact ⟨⟨_, rfl⟩, .inr ⟨_, HPX.out, HX4.out⟩⟩
    · obtain rfl : k = l.length := by omega
      gi_wp2
      go_end0
      refine ⟨⟨_, rfl⟩, .inl ?_⟩
      rw [List.take_length] at hj
      exact hj

end Go.Proofs.YthpamdjgkmaleaaGreatDoor

namespace Go.Proofs.YthpamdjgkmaleaaGreatDoor
open Go.RowKit Go.Shelf
set_option linter.unusedVariables false

/-- Texts as values. -/
def strU (ls : List (List UInt8)) : List Value := ls.map fun l => .string (B l)
theorem strU_snoc (ls : List (List UInt8)) (l : List UInt8) : strU (ls ++ [l]) = strU ls ++ [.string (B l)] := by simp [strU]
theorem strU_length (ls : List (List UInt8)) : (strU ls).length = ls.length := by simp [strU]
theorem info_strU : (Tryz.prog.info? 9).map (fun i => (i.zero, i.size, i.bytes)) = some (some (.string ⟨#[]⟩), 1, 16) := by kernel_rfl
theorem ownsRow_lowU {W : World} {b b' : Nat} {e : TypeId} {size : Nat} {v : Value} {k : Nat} {xs : List Value} (h : W.ownsRow b e size v k xs) (hb : b' ≤ b) : W.ownsRow b' e size v k xs := by
  refine ⟨h.1, ?_⟩
  rcases h.2 with h' | ⟨g, cap, cur, he, hg, rest⟩
  · exact .inl h'
  · exact .inr ⟨g, cap, cur, he, Nat.le_trans hb hg, rest⟩

structure RdM (w : World) (p n : Nat) (t : List UInt8) (U : List (List UInt8)) (W : World) : Prop where
  r0 : Boxed W w.heap.size 23 (.pointer none)
  r1 : Boxed W (w.heap.size + 1) 51 (.slice none 0 0)
  r2 : Boxed W (w.heap.size + 2) 4 (.bool false)
  st : W.heap[w.heap.size + 3]? = some (.cells #[.pointer (some ⟨p, 0, none⟩), .int .u64 n, .string (B t)] 55 (0, 0))
  sv : Boxed W (w.heap.size + 4) 23 (.pointer (some ⟨w.heap.size + 3, 0, none⟩))
  un : ∃ v, Boxed W (w.heap.size + 5) 51 v ∧ W.ownsRow (w.heap.size + 8) 9 1 v U.length (strU U) ∧ True
  el : Boxed W (w.heap.size + 6) 51 (.slice none 0 0)
  bel : Below w.heap.size w W
  big : w.heap.size + 8 ≤ W.heap.size

theorem cells_own {k : Nat} {c : Array Value} {T : TypeId} {x : Nat × Nat} {X Y : World} {row : Option Nat} (h : X.heap[k]? = some (.cells c T x)) (hg : X.grownBy Y row) (hr : ∀ r, row = some r → ∃ o : Obj, X.heap[r]? = some o ∧ o.isCells = false) : Y.heap[k]? = some (.cells c T x) := by
  refine (hg.block k (Array.getElem?_eq_some_iff.1 h).1 (fun e => ?_)).trans h
  obtain ⟨o, ho, hc⟩ := hr k e.symm
  rw [h] at ho; cases ho; cases hc
theorem rdM_own {β : Type} (w : World) (p : Nat) (n : β → Nat) (t : β → List UInt8) (U : β → List (List UInt8)) (B : Nat) (hB : w.heap.size ≤ B) : OwnFrom B (fun s W => RdM w p (n s) (t s) (U s) W) := by
  rintro s X Y row ⟨h0, h1, h2, h3, h4, h5, h6, h7, h8⟩ hg hr
  have hr' : ∀ r, row = some r → ∃ o : Obj, X.heap[r]? = some o ∧ o.isCells = false := fun r e => (hr r e).2
  exact ⟨boxed_own _ _ (fun (_ : Unit) => _) () X Y row h0 hg hr', boxed_own _ _ (fun (_ : Unit) => _) () X Y row h1 hg hr', boxed_own _ _ (fun (_ : Unit) => _) () X Y row h2 hg hr', cells_own h3 hg hr', boxed_own _ _ (fun (_ : Unit) => _) () X Y row h4 hg hr',
    holdsRow_own (w.heap.size + 8) (w.heap.size + 5) 51 9 1 (fun (_ : Unit) => (U s).length) (fun _ => strU (U s)) (fun _ _ => True) () X Y row h5 hg hr', boxed_own _ _ (fun (_ : Unit) => _) () X Y row h6 hg hr',
    ownFrom_below (Nat.le_refl _) hB () X Y row h7 hg hr, Nat.le_trans h8 hg.size⟩

variable {w W W' : World} {p n : Nat} {t : List UInt8} {U : List (List UInt8)}

theorem RdM.below (h : RdM w p n t U W) (hb : Below W.heap.size W W') : RdM w p n t U W' :=
  rdM_own w p (fun (_ : Unit) => n) (fun _ => t) (fun _ => U) w.heap.size (Nat.le_refl _) () W W' none h (grown_of_below hb) (by simp)

theorem RdM.c1 (h : RdM w p n t U W) : W.cell? ⟨w.heap.size + 3, 1, none⟩ = some (.int .u64 n) := by rw [cell_of_row W _ 1 _ _ _ h.st]; rfl
theorem RdM.c2 (h : RdM w p n t U W) : W.cell? ⟨w.heap.size + 3, 2, none⟩ = some (.string (B t)) := by rw [cell_of_row W _ 2 _ _ _ h.st]; rfl
theorem RdM.fz (h : RdM w p n t U W) (j : Nat) : W.frozen? ⟨w.heap.size + 3, j, none⟩ = false := frozen_of_row W _ j _ _ h.st
/-- What a round leaves of what is not its own. -/
def Rnd (W W' : World) : Prop := KeepsOthers W W' ∧ KpF W W W'
theorem Rnd.trans {a b c : World} (h : Rnd a b) (k : Rnd b c) : Rnd a c := by
  refine ⟨h.1.trans k.1, Nat.le_trans h.2.1 k.2.1, fun j cs x hj => ?_, fun j hj => (k.2.2.2 j hj).trans (h.2.2.2 j hj)⟩
  have h1 := h.2.2.1 j cs x hj
  exact (k.2.2.1 j cs x (h1.trans hj)).trans h1
theorem Rnd.grown {row : Option Nat} (E : Env w) (hg : W.grownBy W' row) (hr : ∀ r, row = some r → w.heap.size ≤ r ∧ ∃ c T x, W.heap[r]? = some (.cells c T x) ∧ T ≠ 44) (hb : w.heap.size ≤ W.heap.size) : Rnd W W' := by
  refine ⟨KeepsOthers.of_grownBy hg fun j o ej hj => ?_, hg.size, fun j cs x hj => hg.block j (Array.getElem?_eq_some_iff.1 hj).1 (fun e => ?_), fun j hj => hg.block j (Nat.lt_of_lt_of_le (E.lt hj) hb) (fun e => ?_)⟩
  · obtain ⟨_, c, T, x, h1, _⟩ := hr j ej
    rw [h1] at hj; cases hj; rfl
  · obtain ⟨_, c, T, y, h1, h2⟩ := hr j e.symm
    rw [h1] at hj; cases hj; exact h2 rfl
  · have h1 := (hr j e.symm).1
    have h2 := E.lt hj
    omega
theorem Rnd.below (E : Env w) (hb : Below W.heap.size W W') (hs : w.heap.size ≤ W.heap.size) : Rnd W W' := Rnd.grown (row := none) E (grown_of_below hb) (by simp) hs

/-- One more young file. -/
theorem RdM.add (E : Env w) (h : RdM w p n t U W) {nm : List UInt8} {tmp : Obj} {v : Value} (hv : Boxed W (w.heap.size + 5) 51 v) (hrow : W.ownsRow (w.heap.size + 8) 9 1 v U.length (strU U)) {w1 : World} {v' : Value}
    (hown : w1.ownsRow (w.heap.size + 8) 9 1 v' (U.length + 1) (strU U ++ [.string (B nm)])) (hgrow : (W.alloc tmp).grownBy w1 v.ownBlock) :
    w1.cell? ⟨w.heap.size + 5, 0, none⟩ = some v ∧ w1.frozen? ⟨w.heap.size + 5, 0, none⟩ = false ∧ RdM w p n t (U ++ [nm]) (w1.setCell ⟨w.heap.size + 5, 0, none⟩ v') ∧ Rnd W (w1.setCell ⟨w.heap.size + 5, 0, none⟩ v') := by
  have hal := hrow.alloc tmp
  have kb : ∀ B' t' u, Boxed W B' t' u → t' ≠ 9 → B' ≠ w.heap.size + 5 → Boxed (w1.setCell ⟨w.heap.size + 5, 0, none⟩ v') B' t' u :=
    fun B' t' u hb ht hne => ((hb.alloc tmp).kept hgrow ((hb.alloc tmp).not_row ht hal)).other hne _
  have hv1 : Boxed w1 (w.heap.size + 5) 51 v := (hv.alloc tmp).kept hgrow ((hv.alloc tmp).not_row (by decide) hal)
  have hne3 : some (w.heap.size + 3) ≠ v.ownBlock := fun e => by have := (hrow.lt _ e.symm).1; omega
  have hst : (w1.setCell ⟨w.heap.size + 5, 0, none⟩ v').heap[w.heap.size + 3]? = some (.cells #[.pointer (some ⟨p, 0, none⟩), .int .u64 n, .string (B t)] 55 (0, 0)) := by
    rw [Below.heap_setCell _ _ _ _ (by show w.heap.size + 3 ≠ w.heap.size + 5; omega)]
    have h1 := h.st
    have hlt := (Array.getElem?_eq_some_iff.1 h1).1
    rw [hgrow.block _ (by simp; omega) hne3]
    exact (Below.heap_alloc W _ _ hlt).trans h1
  have hrk : Rnd W w1 := (Rnd.below E ((Below.refl _ W).alloc (Nat.le_refl _) tmp) h.bel.size).trans (Rnd.grown E hgrow (fun r e => by
    rcases hal.2 with ⟨rfl, _⟩ | ⟨g, cap, cur, rfl, hb, hg, _⟩
    · simp [Value.ownBlock] at e
    · obtain rfl : g = r := by simpa [Value.ownBlock] using e
      exact ⟨by omega, _, _, _, hg, by decide⟩) (by have := h.bel.size; simp; omega))
  refine ⟨hv1.cell, hv1.frozen, ⟨kb _ _ _ h.r0 (by decide) (by omega), kb _ _ _ h.r1 (by decide) (by omega), kb _ _ _ h.r2 (by decide) (by omega), hst, kb _ _ _ h.sv (by decide) (by omega), ⟨v', hv1.set v', ?_, trivial⟩, kb _ _ _ h.el (by decide) (by omega), ?_, ?_⟩, hrk.trans (Rnd.grown E (grownBy_setCell' w1 (w.heap.size + 5) v') (fun r e => by cases e; exact ⟨by omega, _, _, _, hv1, by decide⟩) (Nat.le_trans h.bel.size hrk.2.1))⟩
  · have := hown.kept (grownBy_setCell' w1 (w.heap.size + 5) v') (.inr (hv1.not_row (by decide) hown).symm)
    rw [strU_snoc, List.length_append]
    exact this
  · refine ((((h.bel).alloc h.bel.size tmp).grown hgrow (by have := h.bel.size; simp; omega) (fun k e => ?_))).setCell (by show w.heap.size ≤ w.heap.size + 5; omega) _
    have := (hrow.lt _ e).1
    omega
  · have h1 := hrk.2.1
    have h2 := (KeepsOthers.setCell w1 ⟨w.heap.size + 5, 0, none⟩ v').size
    have h3 := h.big
    omega

/-- The store's slot and text. -/
theorem RdM.set (E : Env w) (h : RdM w p n t U W) (m : Nat) (u : List UInt8) :
    RdM w p m u U ((W.setCell ⟨w.heap.size + 3, 1, none⟩ (.int .u64 m)).setCell ⟨w.heap.size + 3, 2, none⟩ (.string (B u))) ∧ Rnd W ((W.setCell ⟨w.heap.size + 3, 1, none⟩ (.int .u64 m)).setCell ⟨w.heap.size + 3, 2, none⟩ (.string (B u))) := by
  have g1 := grown_setCell W (w.heap.size + 3) 1 (.int .u64 m)
  have g2 := grown_setCell (W.setCell ⟨w.heap.size + 3, 1, none⟩ (.int .u64 m)) (w.heap.size + 3) 2 (.string (B u))
  have g := grown_trans g1 g2
  have h1 := heap_setCell_same W (w.heap.size + 3) 1 _ _ (.int .u64 m) h.st
  have h2 := heap_setCell_same _ (w.heap.size + 3) 2 _ _ (.string (B u)) h1
  have kb : ∀ B' t' v, Boxed W B' t' v → B' ≠ w.heap.size + 3 → Boxed ((W.setCell ⟨w.heap.size + 3, 1, none⟩ (.int .u64 m)).setCell ⟨w.heap.size + 3, 2, none⟩ (.string (B u))) B' t' v := fun B' t' v hb hne => hb.kept g (fun e => hne (by cases e; rfl))
  obtain ⟨v, v1, v2, _⟩ := h.un
  have hnr : v.ownBlock ≠ some (w.heap.size + 3) := fun e => by have := (v2.lt _ e).1; omega
  exact ⟨⟨kb _ _ _ h.r0 (by omega), kb _ _ _ h.r1 (by omega), kb _ _ _ h.r2 (by omega), by simpa using h2, kb _ _ _ h.sv (by omega), ⟨v, kb _ _ _ v1 (by omega), v2.kept g (.inr hnr), trivial⟩, kb _ _ _ h.el (by omega),
    (h.bel.setCell (by show w.heap.size ≤ w.heap.size + 3; omega) _).setCell (by show w.heap.size ≤ w.heap.size + 3; omega) _, Nat.le_trans h.big g.size⟩,
    Rnd.grown E g (fun r e => by cases e; exact ⟨by omega, _, _, _, h.st, by decide⟩) h.bel.size⟩

/-- A file's box is not turned by what is grown. -/
theorem fileB_own (f : PF) (Bx B : Nat) : OwnFrom B (fun (_ : Unit) W => FileB Bx f W) := by
  rintro _ X Y row h hg hr
  exact cells_own h hg (fun r e => (hr r e).2)

end Go.Proofs.YthpamdjgkmaleaaGreatDoor
