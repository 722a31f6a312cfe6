/-
A disk as it lies in memory: its own block, the map of its files, each file's content and the row of its bytes; what turns it and what leaves it be.
The map of a disk's files: looked up in, written, deleted from; a disk with one file more, or one fewer.
Package disk over this translation: New, Start, Dead, Fuse; what needs power, and what needs a file besides.
Package disk over this translation: what needs a file: within.
Package disk over this translation: shorten; Sync, Cut, Remove.
Package disk over this translation: Sync, Cut, Remove, by what the plain disk answers and is then.
-/
import Derived.Test.YthpamdjgkmaleaaGreatDoorMa
import Derived.Test.YthpamdjgkmaleaaGreatDoorNum
import Derived.Maps.OwnSet
import Derived.Maps.OwnOps
import Derived.StringKeys
import Derived.Lib.AppendStr
import Derived.Lib.AppendIntMem
import Derived.Lib.UnsafeStr
import Derived.RangeFuncBox
import Derived.RangeFuncNested
import Derived.Shelf.Abstract
import Derived.BigQuiet
import Derived.BigRegion
namespace Go.Proofs.YthpamdjgkmaleaaGreatDoor
open Go.RowKit Go.Maps
set_option linter.unusedVariables false

theorem inj_of_nodup {α β : Type} {f : α → β} {a b : α} : ∀ {l : List α}, (l.map f).Nodup → a ∈ l → b ∈ l → f a = f b → a = b
  | [], _, ha, _, _ => by cases ha
  | x :: l, h, ha, hb, he => by
    rw [List.map_cons, List.nodup_cons] at h
    rcases List.mem_cons.1 ha with rfl | ha'
    · rcases List.mem_cons.1 hb with rfl | hb'
      · rfl
      · exact absurd (he ▸ List.mem_map_of_mem hb') h.1
    · rcases List.mem_cons.1 hb with rfl | hb'
      · exact absurd (he ▸ List.mem_map_of_mem ha') h.1
      · exact inj_of_nodup h.2 ha' hb' he
theorem pairwise_any {α : Type} {R : α → α → Prop} (hs : ∀ a b, R a b → R b a) {a b : α} : ∀ {l : List α}, l.Pairwise R → a ∈ l → b ∈ l → a ≠ b → R a b
  | [], _, ha, _, _ => by cases ha
  | x :: l, h, ha, hb, hne => by
    rw [List.pairwise_cons] at h
    rcases List.mem_cons.1 ha with rfl | ha'
    · rcases List.mem_cons.1 hb with rfl | hb'
      · exact absurd rfl hne
      · exact h.1 b hb'
    · rcases List.mem_cons.1 hb with rfl | hb'
      · exact hs _ _ (h.1 a ha')
      · exact pairwise_any hs h.2 ha' hb' hne

/-- A file as it lies: the block of its content, the slice of its bytes. -/
structure Ent where
  pf : PF
  blk : Nat
  v : Value

/-- How a pointer to a content reads: as its block's number. -/
def ptrR : Value → Option (DataW Unit × List MemPlace)
  | .pointer none => some (.nil, [])
  | .pointer (some ⟨b, 0, none⟩) => some (.lit (.int .i64 b), [])
  | _ => none

def Ent.at (w : World) (e : Ent) : Prop :=
  w.heap[e.blk]? = some (.cells #[e.v, .int .i64 e.pf.synced] 69 (0, 0)) ∧ w.ownsRow 0 5 1 e.v e.pf.bytes.length (Lib.byteCells e.pf.bytes)

/-- Names and blocks. -/
def Ent.key (e : Ent) : List UInt8 × Nat := (e.pf.name, e.blk)
def blkOf (G : List Ent) (nm : List UInt8) : Option Nat := ((G.map Ent.key).find? fun x => x.1 = nm).map (·.2)
def litOf : Option Nat → DataW Unit
  | none => .nil
  | some b => .lit (.int .i64 b)
def ptrOf : Option Nat → Value
  | none => .pointer none
  | some b => .pointer (some ⟨b, 0, none⟩)

/-- A map of files. -/
def FilesAt (w : World) (mb : Nat) (G : List Ent) : Prop :=
  ∃ D : DataW Unit, w.ownsMap Tryz.prog 9 ptrR mb G.length D ∧ Maps.size D = G.length ∧ ∀ nm, D.atKey (.string nm) .nil = litOf (blkOf G nm) ∧ Maps.has D (.string nm) = (blkOf G nm).isSome

/-- At block p there is a disk. -/
structure DiskAt (w : World) (p mb : Nat) (G : List Ent) (room fuse : Int) (dead : Bool) : Prop where
  cell : w.heap[p]? = some (.cells #[.map (some mb), .int .i64 room, .int .i64 fuse, .bool dead] 62 (0, 0))
  map : FilesAt w mb G
  ents : ∀ e ∈ G, e.at w
  apart : G.Pairwise fun a b => a.blk ≠ b.blk ∧ (a.v.ownBlock = none ∨ a.v.ownBlock ≠ b.v.ownBlock)
  names : sortedN (G.map fun e => e.pf.name)

/-- The blocks of a disk. -/
def Foot (p mb : Nat) (G : List Ent) (k : Nat) : Prop := k = p ∨ k = mb ∨ ∃ e ∈ G, k = e.blk ∨ e.v.ownBlock = some k

/-! ### worlds that turn within F alone -/
structure Turned (F : Nat → Prop) (w w' : World) : Prop where
  os : w'.os = w.os
  tape : w'.tape = w.tape
  output : w'.output = w.output
  size : w.heap.size ≤ w'.heap.size
  block : ∀ k, k < w.heap.size → ¬ F k → w'.heap[k]? = w.heap[k]?

theorem Turned.refl (F : Nat → Prop) (w : World) : Turned F w w := ⟨rfl, rfl, rfl, Nat.le_refl _, fun _ _ _ => rfl⟩
theorem Turned.trans {F F' : Nat → Prop} {a b c : World} (h : Turned F a b) (k : Turned F' b c) (hF : ∀ i, F' i → F i ∨ a.heap.size ≤ i) : Turned F a c :=
  ⟨k.os.trans h.os, k.tape.trans h.tape, k.output.trans h.output, Nat.le_trans h.size k.size, fun i hi hn =>
    (k.block i (Nat.lt_of_lt_of_le hi h.size) (fun h' => by rcases hF i h' with h' | h'; exact hn h'; omega)).trans (h.block i hi hn)⟩
theorem Turned.of_below {F : Nat → Prop} {a b : World} (h : Below a.heap.size a b) : Turned F a b := ⟨h.os, h.tape, h.output, h.size, fun i hi _ => h.block i hi⟩
theorem Turned.of_grown {F : Nat → Prop} {a b : World} {row : Option Nat} (h : a.grownBy b row) (hr : ∀ k, row = some k → F k) : Turned F a b :=
  ⟨h.os, h.tape, h.output, h.size, fun i hi hn => h.block i hi (fun e => hn (hr i e.symm))⟩
theorem Turned.below {F : Nat → Prop} {a b : World} (h : Turned F a b) {n : Nat} (hn : n ≤ a.heap.size) (hF : ∀ k, F k → n ≤ k) : Below n a b :=
  ⟨h.os, h.tape, h.output, h.size, fun i hi => h.block i (by omega) (fun h' => by have := hF i h'; omega)⟩
theorem Turned.drew {F : Nat → Prop} {a b : World} (h : Turned F a b) : Turned F a b.drew := ⟨h.os, h.tape, h.output, h.size, h.block⟩
theorem Turned.alloc {F : Nat → Prop} {a b : World} (h : Turned F a b) (o : Obj) : Turned F a (b.alloc o) :=
  h.trans (Turned.of_below (F := F) ((Below.refl _ _).alloc (Nat.le_refl _) o)) (fun _ h' => .inl h')
theorem Turned.setCell {F : Nat → Prop} {a b : World} (h : Turned F a b) {ad : Addr} (hF : F ad.block) (u : Value) : Turned F a (b.setCell ad u) :=
  ⟨h.os, h.tape, h.output, by rw [show (b.setCell ad u).heap.size = b.heap.size from by simp [World.setCell]]; exact h.size, fun i hi hn =>
    (heap_setCell_other b ad i u (fun e => hn (e ▸ hF))).trans (h.block i hi hn)⟩

/-! ### rows and contents -/
theorem ownsRow_same {w w' : World} {base : Nat} {e : TypeId} {size : Nat} {v : Value} {n : Nat} {xs : List Value} (h : w.ownsRow base e size v n xs) (hk : ∀ k, v.ownBlock = some k → w'.heap[k]? = w.heap[k]?) : w'.ownsRow base e size v n xs := by
  refine ⟨h.1, ?_⟩
  rcases h.2 with h' | ⟨g, cap, cur, rfl, hb, hg, rest⟩
  · exact .inl h'
  · exact .inr ⟨g, cap, cur, rfl, hb, (hk g rfl).trans hg, rest⟩

theorem Ent.at.kept {w w' : World} {e : Ent} (h : e.at w) (hb : w'.heap[e.blk]? = w.heap[e.blk]?) (hr : ∀ k, e.v.ownBlock = some k → w'.heap[k]? = w.heap[k]?) : e.at w' :=
  ⟨hb.trans h.1, ownsRow_same h.2 hr⟩

theorem Ent.at.row {w : World} {e : Ent} (h : e.at w) {k : Nat} (hk : e.v.ownBlock = some k) : ∃ cur, w.heap[k]? = some (.cells cur 5 (0, 0)) := by
  rcases h.2.2 with ⟨hv, _⟩ | ⟨g, cap, cur, hv, _, hg, _⟩
  · rw [hv] at hk; simp [Value.ownBlock] at hk
  · rw [hv] at hk
    obtain rfl : g = k := by simpa [Value.ownBlock] using hk
    exact ⟨cur, hg⟩

variable {w w' : World} {p mb : Nat} {G : List Ent} {room fuse : Int} {dead : Bool}

theorem FilesAt.kept (h : FilesAt w mb G) (hk : w'.heap[mb]? = w.heap[mb]?) : FilesAt w' mb G := by
  obtain ⟨D, ⟨es, clock, hb, h1⟩, h2⟩ := h
  exact ⟨D, ⟨es, clock, hk.trans hb, h1⟩, h2⟩

theorem FilesAt.isMap (h : FilesAt w mb G) : ∃ es clock, w.heap[mb]? = some (.map es clock) := by
  obtain ⟨D, ⟨es, clock, hb, h1⟩, h2⟩ := h
  exact ⟨es, clock, hb⟩

theorem DiskAt.kept (h : DiskAt w p mb G room fuse dead) (hk : ∀ k, Foot p mb G k → w'.heap[k]? = w.heap[k]?) : DiskAt w' p mb G room fuse dead :=
  ⟨(hk p (.inl rfl)).trans h.cell, h.map.kept (hk mb (.inr (.inl rfl))), fun e he => (h.ents e he).kept (hk _ (.inr (.inr ⟨e, he, .inl rfl⟩))) (fun k hr => hk k (.inr (.inr ⟨e, he, .inr hr⟩))), h.apart, h.names⟩

theorem DiskAt.lt (h : DiskAt w p mb G room fuse dead) {k : Nat} (hk : Foot p mb G k) : k < w.heap.size := by
  rcases hk with rfl | rfl | ⟨e, he, rfl | hk⟩
  · exact (Array.getElem?_eq_some_iff.1 h.cell).1
  · obtain ⟨es, clock, hb⟩ := h.map.isMap
    exact (Array.getElem?_eq_some_iff.1 hb).1
  · exact (Array.getElem?_eq_some_iff.1 (h.ents e he).1).1
  · obtain ⟨cur, hc⟩ := (h.ents e he).row hk
    exact (Array.getElem?_eq_some_iff.1 hc).1

theorem DiskAt.ne_map (h : DiskAt w p mb G room fuse dead) : p ≠ mb := by
  rintro rfl
  obtain ⟨es, clock, hb⟩ := h.map.isMap
  rw [h.cell] at hb
  cases hb
theorem DiskAt.ne_blk (h : DiskAt w p mb G room fuse dead) {e : Ent} (he : e ∈ G) : p ≠ e.blk ∧ mb ≠ e.blk := by
  have h1 := (h.ents e he).1
  constructor
  · intro e'
    rw [← e', h.cell] at h1
    simp at h1
  · intro e'
    obtain ⟨es, clock, hb⟩ := h.map.isMap
    rw [← e', hb] at h1
    cases h1
theorem DiskAt.ne_row (h : DiskAt w p mb G room fuse dead) {e : Ent} (he : e ∈ G) {k : Nat} (hk : e.v.ownBlock = some k) : p ≠ k ∧ mb ≠ k ∧ ∀ e' ∈ G, e'.blk ≠ k := by
  obtain ⟨cur, hc⟩ := (h.ents e he).row hk
  refine ⟨?_, ?_, ?_⟩
  · rintro rfl
    rw [h.cell] at hc
    simp at hc
  · rintro rfl
    obtain ⟨es, clock, hb⟩ := h.map.isMap
    rw [hb] at hc
    cases hc
  · rintro e' he' rfl
    have h1 := (h.ents e' he').1
    rw [hc] at h1
    simp at h1

theorem DiskAt.same_name (h : DiskAt w p mb G room fuse dead) {a b : Ent} (ha : a ∈ G) (hb : b ∈ G) (hn : a.pf.name = b.pf.name) : a = b := by
  have hnd : (G.map fun e => e.pf.name).Nodup := sortedN_nodup h.names
  exact inj_of_nodup hnd ha hb hn

/-! ### the disk's own cell -/
theorem DiskAt.own_cell (h : DiskAt w p mb G room fuse dead) {room' fuse' : Int} {dead' : Bool} (hc : w'.heap[p]? = some (.cells #[.map (some mb), .int .i64 room', .int .i64 fuse', .bool dead'] 62 (0, 0)))
    (hk : ∀ k, k ≠ p → w'.heap[k]? = w.heap[k]?) : DiskAt w' p mb G room' fuse' dead' :=
  ⟨hc, h.map.kept (hk mb h.ne_map.symm), fun e he => (h.ents e he).kept (hk _ (h.ne_blk he).1.symm) (fun k hr => hk k (h.ne_row he hr).1.symm), h.apart, h.names⟩

theorem DiskAt.setRoom (h : DiskAt w p mb G room fuse dead) (x : Int) : DiskAt (w.setCell ⟨p, 1, none⟩ (.int .i64 x)) p mb G x fuse dead :=
  h.own_cell (by have := heap_setCell_same w p 1 _ _ (.int .i64 x) h.cell; simpa using this) (fun k hk => heap_setCell_other w _ k _ hk)
theorem DiskAt.setFuse (h : DiskAt w p mb G room fuse dead) (x : Int) : DiskAt (w.setCell ⟨p, 2, none⟩ (.int .i64 x)) p mb G room x dead :=
  h.own_cell (by have := heap_setCell_same w p 2 _ _ (.int .i64 x) h.cell; simpa using this) (fun k hk => heap_setCell_other w _ k _ hk)
theorem DiskAt.setDead (h : DiskAt w p mb G room fuse dead) (x : Bool) : DiskAt (w.setCell ⟨p, 3, none⟩ (.bool x)) p mb G room fuse x :=
  h.own_cell (by have := heap_setCell_same w p 3 _ _ (.bool x) h.cell; simpa using this) (fun k hk => heap_setCell_other w _ k _ hk)
theorem DiskAt.drew (h : DiskAt w p mb G room fuse dead) : DiskAt w.drew p mb G room fuse dead := h.kept (fun _ _ => rfl)

theorem DiskAt.c0 (h : DiskAt w p mb G room fuse dead) : w.cell? ⟨p, 0, none⟩ = some (.map (some mb)) := by rw [cell_of_row w p 0 _ _ _ h.cell]; rfl
theorem DiskAt.c1 (h : DiskAt w p mb G room fuse dead) : w.cell? ⟨p, 1, none⟩ = some (.int .i64 room) := by rw [cell_of_row w p 1 _ _ _ h.cell]; rfl
theorem DiskAt.c2 (h : DiskAt w p mb G room fuse dead) : w.cell? ⟨p, 2, none⟩ = some (.int .i64 fuse) := by rw [cell_of_row w p 2 _ _ _ h.cell]; rfl
theorem DiskAt.c3 (h : DiskAt w p mb G room fuse dead) : w.cell? ⟨p, 3, none⟩ = some (.bool dead) := by rw [cell_of_row w p 3 _ _ _ h.cell]; rfl
theorem DiskAt.frozen (h : DiskAt w p mb G room fuse dead) (j : Nat) : w.frozen? ⟨p, j, none⟩ = false := frozen_of_row w p j _ _ h.cell
theorem Ent.at.c0 {e : Ent} (h : e.at w) : w.cell? ⟨e.blk, 0, none⟩ = some e.v := by rw [cell_of_row w e.blk 0 _ _ _ h.1]; rfl
theorem Ent.at.c1 {e : Ent} (h : e.at w) : w.cell? ⟨e.blk, 1, none⟩ = some (.int .i64 e.pf.synced) := by rw [cell_of_row w e.blk 1 _ _ _ h.1]; rfl
theorem Ent.at.frozen {e : Ent} (h : e.at w) (j : Nat) : w.frozen? ⟨e.blk, j, none⟩ = false := frozen_of_row w e.blk j _ _ h.1

/-! ### one file turned -/
/-- The file of a name in the place of another one. -/
def updE (e' : Ent) (G : List Ent) : List Ent := G.map fun e => if e.pf.name = e'.pf.name then e' else e

theorem updE_pf (e' : Ent) {e : Ent} (he : e ∈ G) (hn : e'.pf.name = e.pf.name) (h : (G.map fun e => e.pf.name).Nodup) {g : PF → PF} (hg : e'.pf = g e.pf) : (updE e' G).map Ent.pf = setF e.pf.name g (G.map Ent.pf) := by
  unfold updE setF
  rw [List.map_map, List.map_map]
  refine List.map_congr_left fun x hx => ?_
  simp only [Function.comp]
  by_cases hc : x.pf.name = e.pf.name
  · obtain rfl := inj_of_nodup h hx he hc
    rw [if_pos hn.symm, if_pos rfl, hg]
  · rw [if_neg (by rw [hn]; exact hc), if_neg hc]

theorem updE_key (e' : Ent) {e : Ent} (he : e ∈ G) (hn : e'.pf.name = e.pf.name) (hb : e'.blk = e.blk) (h : (G.map fun e => e.pf.name).Nodup) : (updE e' G).map Ent.key = G.map Ent.key := by
  unfold updE
  rw [List.map_map]
  refine List.map_congr_left fun x hx => ?_
  simp only [Function.comp]
  by_cases hc : x.pf.name = e'.pf.name
  · obtain rfl := inj_of_nodup h hx he (hc.trans hn)
    rw [if_pos hc]
    simp [Ent.key, hn, hb]
  · rw [if_neg hc]

theorem FilesAt.of_key {G' : List Ent} (h : FilesAt w mb G) (hk : G'.map Ent.key = G.map Ent.key) : FilesAt w mb G' := by
  obtain ⟨D, h1, h2, h3⟩ := h
  have hl : G'.length = G.length := by simpa using congrArg List.length hk
  exact ⟨D, by rw [hl]; exact h1, by rw [hl]; exact h2, fun nm => by unfold blkOf; rw [hk]; exact h3 nm⟩

theorem apart_symm (a b : Ent) (hab : a.blk ≠ b.blk ∧ (a.v.ownBlock = none ∨ a.v.ownBlock ≠ b.v.ownBlock)) : b.blk ≠ a.blk ∧ (b.v.ownBlock = none ∨ b.v.ownBlock ≠ a.v.ownBlock) := by
  refine ⟨hab.1.symm, ?_⟩
  rcases hab.2 with h2 | h2
  · by_cases h3 : b.v.ownBlock = none
    · exact .inl h3
    · exact .inr (fun e4 => h3 (e4.trans h2))
  · exact .inr (fun e4 => h2 e4.symm)

theorem DiskAt.upd (h : DiskAt w p mb G room fuse dead) {e : Ent} (he : e ∈ G) (e' : Ent) (hn : e'.pf.name = e.pf.name) (hb : e'.blk = e.blk)
    (hkeep : ∀ k, Foot p mb G k → k ≠ e.blk → e.v.ownBlock ≠ some k → w'.heap[k]? = w.heap[k]?) (hat : e'.at w') (hv : ∀ k, e'.v.ownBlock = some k → e.v.ownBlock = some k ∨ w.heap.size ≤ k) :
    DiskAt w' p mb (updE e' G) room fuse dead := by
  have hnd : (G.map fun e => e.pf.name).Nodup := sortedN_nodup h.names
  refine ⟨(hkeep p (.inl rfl) (h.ne_blk he).1 (fun hr => (h.ne_row he hr).1 rfl)).trans h.cell, ?_, ?_, ?_, ?_⟩
  · exact (h.map.kept (hkeep mb (.inr (.inl rfl)) (h.ne_blk he).2 (fun hr => (h.ne_row he hr).2.1 rfl))).of_key (updE_key e' he hn hb hnd)
  · intro x hx
    obtain ⟨y, hy, rfl⟩ := List.mem_map.1 hx
    by_cases hc : y.pf.name = e'.pf.name
    · rw [if_pos hc]; exact hat
    · rw [if_neg hc]
      have hne : y ≠ e := fun e2 => hc (by rw [e2, hn])
      have hap : y.blk ≠ e.blk ∧ (y.v.ownBlock = none ∨ y.v.ownBlock ≠ e.v.ownBlock) := by
        exact pairwise_any apart_symm h.apart hy he hne
      refine (h.ents y hy).kept (hkeep _ (.inr (.inr ⟨y, hy, .inl rfl⟩)) hap.1 (fun hr => (h.ne_row he hr).2.2 y hy rfl)) (fun k hr => hkeep k (.inr (.inr ⟨y, hy, .inr hr⟩)) (fun e2 => (h.ne_row hy hr).2.2 e he e2.symm) (fun hr2 => ?_))
      rcases hap.2 with h2 | h2
      · rw [h2] at hr; cases hr
      · exact h2 (hr.trans hr2.symm)
  · unfold updE
    refine List.pairwise_map.2 (List.Pairwise.imp_of_mem (fun {a b} ha hb2 hab => ?_) (h.apart.and (List.pairwise_map.1 hnd)))
    obtain ⟨⟨hab1, hab2⟩, hab3⟩ := hab
    have fresh : ∀ x ∈ G, x ≠ e → x.blk ≠ e'.blk ∧ (x.v.ownBlock = none ∨ x.v.ownBlock ≠ e'.v.ownBlock) ∧ (e'.v.ownBlock = none ∨ e'.v.ownBlock ≠ x.v.ownBlock) := by
      intro x hx hne
      have hap : x.blk ≠ e.blk ∧ (x.v.ownBlock = none ∨ x.v.ownBlock ≠ e.v.ownBlock) := by
        exact pairwise_any apart_symm h.apart hx he hne
      have key : ∀ k, x.v.ownBlock = some k → e'.v.ownBlock = some k → False := by
        intro k h1 h2
        rcases hv k h2 with h3 | h3
        · rcases hap.2 with h4 | h4
          · rw [h4] at h1; cases h1
          · exact h4 (h1.trans h3.symm)
        · have := h.lt (.inr (.inr ⟨x, hx, .inr h1⟩))
          omega
      refine ⟨by rw [hb]; exact hap.1, ?_, ?_⟩
      · cases hx1 : x.v.ownBlock with
        | none => exact .inl rfl
        | some k => exact .inr (fun e2 => key k hx1 e2.symm)
      · cases hx1 : e'.v.ownBlock with
        | none => exact .inl rfl
        | some k => exact .inr (fun e2 => key k e2.symm hx1)
    by_cases ca : a.pf.name = e'.pf.name
    · have cb : ¬ b.pf.name = e'.pf.name := fun e2 => hab3 (ca.trans e2.symm)
      rw [if_pos ca, if_neg cb]
      obtain ⟨f1, f2, f3⟩ := fresh b hb2 (fun e2 => cb (by rw [e2, hn]))
      exact ⟨f1.symm, f3⟩
    · rw [if_neg ca]
      by_cases cb : b.pf.name = e'.pf.name
      · rw [if_pos cb]
        obtain ⟨f1, f2, f3⟩ := fresh a ha (fun e2 => ca (by rw [e2, hn]))
        exact ⟨f1, f2⟩
      · rw [if_neg cb]
        exact ⟨hab1, hab2⟩
  · have : (updE e' G).map (fun e => e.pf.name) = G.map fun e => e.pf.name := by
      have := congrArg (List.map Prod.fst) (updE_key e' he hn hb hnd)
      rw [List.map_map, List.map_map] at this
      exact this
    unfold sortedN
    rw [this]
    exact h.names

end Go.Proofs.YthpamdjgkmaleaaGreatDoor

namespace Go.Proofs.YthpamdjgkmaleaaGreatDoor
open Go.RowKit Go.Maps
set_option linter.unusedVariables false

def entOf (G : List Ent) (nm : List UInt8) : Option Ent := G.find? fun e => e.pf.name = nm

theorem blkOf_ent (G : List Ent) (nm : List UInt8) : blkOf G nm = (entOf G nm).map Ent.blk := by
  unfold blkOf entOf
  rw [List.find?_map, Option.map_map]
  rfl
theorem blkOf_cons (g : Ent) (r : List Ent) (nm : List UInt8) : blkOf (g :: r) nm = if g.pf.name = nm then some g.blk else blkOf r nm := by
  unfold blkOf
  rw [List.map_cons, List.find?_cons]
  by_cases hc : g.pf.name = nm
  · simp [Ent.key, hc]
  · simp [Ent.key, hc]
theorem find_ent (G : List Ent) (nm : List UInt8) : (G.map Ent.pf).find? (fun f => f.name = nm) = (entOf G nm).map Ent.pf := by
  unfold entOf
  rw [List.find?_map]
  rfl
theorem entOf_mem {G : List Ent} {nm : List UInt8} {e : Ent} (h : entOf G nm = some e) : e ∈ G ∧ e.pf.name = nm :=
  ⟨List.mem_of_find?_eq_some h, by simpa using List.find?_some h⟩
theorem entOf_none {G : List Ent} {nm : List UInt8} (h : entOf G nm = none) : ∀ x ∈ G, x.pf.name ≠ nm := by
  intro x hx
  simpa using List.find?_eq_none.1 h x hx

theorem ptrR_lit {v : Value} {o : Option Nat} {ps : List MemPlace} (h : ptrR v = some (litOf o, ps)) : v = ptrOf o := by
  unfold ptrR at h
  split at h
  · cases o with
    | none => rfl
    | some b => simp [litOf] at h
  · cases o with
    | none => simp [litOf] at h
    | some b' =>
      simp only [litOf, Option.some.injEq, Prod.mk.injEq, DataW.lit.injEq, Lit.int.injEq, true_and] at h
      obtain ⟨h1, _⟩ := h
      simp only [ptrOf]
      congr
      omega
  · cases h

theorem zero_ptr (w : World) : (zeroValue 67).run Tryz.prog w = .ok (.pointer none) w := by kernel_rfl
theorem str_key : Go.Maps.Keyed Tryz.prog 9 := string_keyed Tryz.underlying9
theorem key_of (nm : List UInt8) (hl : nm.length ≤ maxLen) : keyOf Tryz.prog 9 (.string (B nm)) = some (.string nm) := by
  have := Go.WideMaps.keyOf_string_mk (P := Tryz.prog) Tryz.underlying9 (s := B nm) (by rw [B_size]; exact hl)
  simpa using this

variable {w w' : World} {p mb : Nat} {G : List Ent} {room fuse : Int} {dead : Bool}

theorem bdrew (w : World) (n : Nat) : Below w.heap.size w (w.drewN n) := ⟨rfl, rfl, rfl, Nat.le_refl _, fun _ _ => rfl⟩
theorem FilesAt.drewN (h : FilesAt w mb G) (n : Nat) : FilesAt (w.drewN n) mb G := h.kept rfl
theorem FilesAt.look (h : FilesAt w mb G) (nm : List UInt8) (hl : nm.length ≤ maxLen) : (Instr.lookup 60 (.map (some mb)) (.string (B nm)) false).run Tryz.prog w = .ok (ptrOf (blkOf G nm)) w := by
  obtain ⟨D, hown, _, hat⟩ := h
  obtain ⟨v, ps, hrun, hv⟩ := hown.lookup str_key Tryz.underlying60 (zero_ptr w) (zd := .nil) (zp := []) rfl (key_of nm hl)
  rw [(hat nm).1] at hv
  rw [hrun, ptrR_lit hv]

theorem FilesAt.len (h : FilesAt w mb G) (ty : TypeId) : (Builtin.len_ #[60] ty #[.map (some mb)]).run Tryz.prog w = .ok (.int .i64 G.length) w := by
  obtain ⟨D, hown, hs, hat⟩ := h
  rw [hown.len Tryz.underlying60 ty, hs]

/-! ### a new file in its place -/
def insE (e : Ent) : List Ent → List Ent
  | [] => [e]
  | g :: r => if e.pf.name < g.pf.name then e :: g :: r else g :: insE e r

theorem insE_pf (e : Ent) : ∀ G : List Ent, (insE e G).map Ent.pf = insF e.pf (G.map Ent.pf)
  | [] => rfl
  | g :: r => by
    unfold insE
    rw [List.map_cons, insF]
    split
    · rfl
    · rw [List.map_cons, insE_pf e r]
theorem insE_perm (e : Ent) : ∀ G : List Ent, (insE e G).Perm (e :: G)
  | [] => List.Perm.refl _
  | g :: r => by
    unfold insE
    split
    · exact List.Perm.refl _
    · exact ((insE_perm e r).cons g).trans (List.Perm.swap e g r)
theorem insE_sorted (e : Ent) : ∀ G : List Ent, sortedN (G.map fun e => e.pf.name) → (∀ x ∈ G, x.pf.name ≠ e.pf.name) → sortedN ((insE e G).map fun e => e.pf.name)
  | [], _, _ => by simp [insE, sortedN]
  | g :: r, h, hn => by
    unfold sortedN at h ⊢
    rw [List.map_cons, List.pairwise_cons] at h
    unfold insE
    by_cases hc : e.pf.name < g.pf.name
    · rw [if_pos hc, List.map_cons, List.map_cons, List.pairwise_cons, List.pairwise_cons]
      refine ⟨fun a ha => ?_, h⟩
      rcases List.mem_cons.1 ha with rfl | ha'
      · exact hc
      · exact List.lt_trans hc (h.1 a ha')
    · rw [if_neg hc, List.map_cons, List.pairwise_cons]
      refine ⟨fun a ha => ?_, insE_sorted e r h.2 (fun x hx => hn x (List.mem_cons_of_mem _ hx))⟩
      obtain ⟨x, hx, rfl⟩ := List.mem_map.1 ha
      rcases List.mem_cons.1 ((insE_perm e r).mem_iff.1 hx) with rfl | hx'
      · exact nm_lt_of_le hc (hn g (List.mem_cons_self ..))
      · exact h.1 _ (List.mem_map_of_mem hx')
theorem insE_blk (e : Ent) (G : List Ent) (hn : ∀ x ∈ G, x.pf.name ≠ e.pf.name) (nm : List UInt8) : blkOf (insE e G) nm = if nm = e.pf.name then some e.blk else blkOf G nm := by
  induction G with
  | nil =>
    unfold insE
    rw [blkOf_cons]
    by_cases hc : e.pf.name = nm
    · rw [if_pos hc, if_pos hc.symm]
    · rw [if_neg hc, if_neg (fun h => hc h.symm)]
  | cons g r ih =>
    have ihr := ih (fun x hx => hn x (List.mem_cons_of_mem _ hx))
    have hg := hn g (List.mem_cons_self ..)
    unfold insE
    by_cases hlt : e.pf.name < g.pf.name
    · rw [if_pos hlt, blkOf_cons]
      by_cases hc : e.pf.name = nm
      · rw [if_pos hc, if_pos hc.symm]
      · rw [if_neg hc, if_neg (fun h => hc h.symm)]
    · rw [if_neg hlt, blkOf_cons, blkOf_cons, ihr]
      by_cases hgn : g.pf.name = nm
      · subst hgn
        rw [if_pos rfl, if_neg hg, if_pos rfl]
      · rw [if_neg hgn, if_neg hgn]

theorem FilesAt.store (h : FilesAt w mb G) (e : Ent) (hl : e.pf.name.length ≤ maxLen) (hn : ∀ x ∈ G, x.pf.name ≠ e.pf.name) (hmax : G.length < maxLen) :
    ∃ w', (Instr.mapUpdate 60 (.map (some mb)) (.string (B e.pf.name)) (.pointer (some ⟨e.blk, 0, none⟩))).run Tryz.prog w = .ok () w' ∧ w.mapTurned w' mb ∧ FilesAt w' mb (insE e G) := by
  obtain ⟨D, hown, hs, hat⟩ := h
  obtain ⟨w', hrun, ho', ht⟩ := hown.store (val := .pointer (some ⟨e.blk, 0, none⟩)) (d := .lit (.int .i64 e.blk)) (ps := []) str_key Tryz.underlying60 hmax (key_of _ hl) rfl
  have hk : WideAt.IsKeyLit (Lit.string e.pf.name) := trivial
  have hl2 : (insE e G).length = G.length + 1 := by rw [(insE_perm e G).length_eq, List.length_cons]
  have hno : blkOf G e.pf.name = none := by
    rw [blkOf_ent]
    have : entOf G e.pf.name = none := List.find?_eq_none.2 (fun x hx => by simpa using hn x hx)
    rw [this]; rfl
  refine ⟨w', hrun, ht, D.put (.string e.pf.name) (.lit (.int .i64 e.blk)), by rw [hl2]; exact ho', ?_, fun nm => ?_⟩
  · rw [hl2, size_put (hown.tidy str_key), if_neg (by rw [(hat _).2, hno]; simp), hs]
  · rw [insE_blk e G hn nm]
    by_cases hc : nm = e.pf.name
    · subst hc
      rw [if_pos rfl, atKey_put_same hown.isMap hk, has_put_same hown.isMap hk]
      exact ⟨rfl, rfl⟩
    · have hne : (Lit.string nm) ≠ Lit.string e.pf.name := fun e2 => hc (by simpa using e2)
      rw [if_neg hc, atKey_put_other hne, has_put_other hne]
      exact hat nm

theorem DiskAt.insert (h : DiskAt w p mb G room fuse dead) (e : Ent) (hn : ∀ x ∈ G, x.pf.name ≠ e.pf.name) (hb : w.heap.size ≤ e.blk) (hv : e.v.ownBlock = none) (hat : e.at w') (hm : FilesAt w' mb (insE e G))
    (hkeep : ∀ k, k < w.heap.size → k ≠ mb → w'.heap[k]? = w.heap[k]?) : DiskAt w' p mb (insE e G) room fuse dead := by
  have hk : ∀ k, Foot p mb G k → k ≠ mb → w'.heap[k]? = w.heap[k]? := fun k hf => hkeep k (h.lt hf)
  refine ⟨(hk p (.inl rfl) h.ne_map).trans h.cell, hm, ?_, ?_, insE_sorted e G h.names hn⟩
  · intro x hx
    rcases List.mem_cons.1 ((insE_perm e G).mem_iff.1 hx) with rfl | hx'
    · exact hat
    · exact (h.ents x hx').kept (hk _ (.inr (.inr ⟨x, hx', .inl rfl⟩)) (h.ne_blk hx').2.symm) (fun k hr => hk k (.inr (.inr ⟨x, hx', .inr hr⟩)) (h.ne_row hx' hr).2.1.symm)
  · refine ((insE_perm e G).pairwise_iff (fun {a b} => apart_symm a b)).2 ?_
    rw [List.pairwise_cons]
    refine ⟨fun x hx => ⟨fun e2 => ?_, .inl hv⟩, h.apart⟩
    have := h.lt (.inr (.inr ⟨x, hx, .inl rfl⟩))
    omega

/-! ### one file fewer -/
def delE (nm : List UInt8) (G : List Ent) : List Ent := G.filter fun e => e.pf.name ≠ nm
theorem delE_pf (nm : List UInt8) (G : List Ent) : (delE nm G).map Ent.pf = (G.map Ent.pf).filter fun g => g.name ≠ nm := by
  unfold delE
  rw [List.filter_map]
  rfl
theorem delE_cons (nm : List UInt8) (g : Ent) (r : List Ent) : delE nm (g :: r) = if g.pf.name = nm then delE nm r else g :: delE nm r := by
  unfold delE
  by_cases hg : g.pf.name = nm
  · rw [if_pos hg, List.filter_cons_of_neg (by simpa using hg)]
  · rw [if_neg hg, List.filter_cons_of_pos (by simpa using hg)]
theorem delE_blk (nm : List UInt8) (nm' : List UInt8) : ∀ G : List Ent, blkOf (delE nm G) nm' = if nm' = nm then none else blkOf G nm'
  | [] => by simp [delE, blkOf]
  | g :: r => by
    have ih := delE_blk nm nm' r
    rw [delE_cons, blkOf_cons]
    by_cases hg : g.pf.name = nm
    · rw [if_pos hg, ih]
      by_cases hc : nm' = nm
      · rw [if_pos hc, if_pos hc]
      · rw [if_neg hc, if_neg hc, if_neg (fun h => hc (h.symm.trans hg))]
    · rw [if_neg hg, blkOf_cons, ih]
      by_cases hc : g.pf.name = nm'
      · rw [if_pos hc, if_neg (fun h => hg (hc.trans h)), if_pos hc]
      · rw [if_neg hc, if_neg hc]
theorem delE_length {nm : List UInt8} : ∀ {G : List Ent}, (G.map fun e => e.pf.name).Nodup → (delE nm G).length + (if (blkOf G nm).isSome then 1 else 0) = G.length
  | [], _ => by simp [delE, blkOf]
  | g :: r, h => by
    rw [List.map_cons, List.nodup_cons] at h
    have ih := delE_length (nm := nm) h.2
    rw [delE_cons, blkOf_cons]
    by_cases hg : g.pf.name = nm
    · have h2 : blkOf r nm = none := by
        rw [blkOf_ent]
        have : entOf r nm = none := List.find?_eq_none.2 (fun x hx => by simpa using fun e2 : x.pf.name = nm => h.1 (hg ▸ e2 ▸ List.mem_map_of_mem hx))
        rw [this]; rfl
      rw [if_pos hg, if_pos hg, List.length_cons]
      rw [h2] at ih
      simpa using ih
    · rw [if_neg hg, if_neg hg, List.length_cons, List.length_cons, ← ih]
      omega

theorem FilesAt.drop (h : FilesAt w mb G) (hd : (G.map fun e => e.pf.name).Nodup) (nm : List UInt8) (hl : nm.length ≤ maxLen) (ty : TypeId) :
    ∃ w', (Builtin.delete_ #[60, 9] ty #[.map (some mb), .string (B nm)]).run Tryz.prog w = .ok (.tuple #[]) w' ∧ w.mapTurned w' mb ∧ FilesAt w' mb (delE nm G) := by
  obtain ⟨D, hown, hs, hat⟩ := h
  obtain ⟨w', hrun, ho', ht⟩ := hown.drop str_key Tryz.underlying60 (key_of _ hl) ty
  have hsz : Maps.size (D.del (.string nm)) = (delE nm G).length := by
    have h1 := size_del (hown.tidy str_key) (k := .string nm)
    have h2 := delE_length (nm := nm) hd
    rw [(hat nm).2, hs, ← h2] at h1
    omega
  have ho2 : w'.ownsMap Tryz.prog 9 ptrR mb (delE nm G).length (D.del (.string nm)) := by
    obtain ⟨es, clock, hb, F, hle, hD⟩ := ho'
    refine ⟨es, clock, hb, F, ?_, hD⟩
    rw [← hsz, hD]
    simp [Maps.size, length_sorted]
  refine ⟨w', hrun, ht, D.del (.string nm), ho2, hsz, fun nm' => ?_⟩
  rw [delE_blk]
  by_cases hc : nm' = nm
  · subst hc
    rw [if_pos rfl, atKey_del_same, has_del_same]
    exact ⟨rfl, rfl⟩
  · have hne : (Lit.string nm') ≠ Lit.string nm := fun e2 => hc (by simpa using e2)
    rw [if_neg hc, atKey_del_other hne, has_del_other hne]
    exact hat nm'

theorem DiskAt.delete (h : DiskAt w p mb G room fuse dead) (nm : List UInt8) (hm : FilesAt w' mb (delE nm G)) (hkeep : ∀ k, k < w.heap.size → k ≠ mb → w'.heap[k]? = w.heap[k]?) : DiskAt w' p mb (delE nm G) room fuse dead := by
  have hk : ∀ k, Foot p mb G k → k ≠ mb → w'.heap[k]? = w.heap[k]? := fun k hf => hkeep k (h.lt hf)
  refine ⟨(hk p (.inl rfl) h.ne_map).trans h.cell, hm, ?_, h.apart.filter _, ?_⟩
  · intro x hx
    have hx' : x ∈ G := (List.mem_filter.1 hx).1
    exact (h.ents x hx').kept (hk _ (.inr (.inr ⟨x, hx', .inl rfl⟩)) (h.ne_blk hx').2.symm) (fun k hr => hk k (.inr (.inr ⟨x, hx', .inr hr⟩)) (h.ne_row hx' hr).2.1.symm)
  · exact h.names.sublist (List.Sublist.map _ (List.filter_sublist (l := G)))

/-! ### a disk by what it is -/
/-- At block p there is the disk d; all its blocks are in F. -/
def DiskOf (w : World) (p : Nat) (d : PD) (F : Nat → Prop) : Prop :=
  (∀ k, F k → k < w.heap.size) ∧ ∃ mb G, DiskAt w p mb G d.room d.fuse d.dead ∧ G.map Ent.pf = d.files ∧ ∀ k, Foot p mb G k → F k

theorem DiskOf.kept {d : PD} {F : Nat → Prop} (h : DiskOf w p d F) (hs : w.heap.size ≤ w'.heap.size) (hk : ∀ k, F k → w'.heap[k]? = w.heap[k]?) : DiskOf w' p d F := by
  obtain ⟨h1, mb, G, h2, h3, h4⟩ := h
  exact ⟨fun k hf => Nat.lt_of_lt_of_le (h1 k hf) hs, mb, G, h2.kept (fun k hf => hk k (h4 k hf)), h3, h4⟩
theorem DiskOf.below {d : PD} {F : Nat → Prop} (h : DiskOf w p d F) (hb : Below w.heap.size w w') : DiskOf w' p d F := h.kept hb.size (fun k hk => hb.block k (h.1 k hk))
theorem DiskOf.alloc {d : PD} {F : Nat → Prop} (h : DiskOf w p d F) (o : Obj) : DiskOf (w.alloc o) p d F := h.below ((Below.refl _ _).alloc (Nat.le_refl _) o)
theorem DiskOf.drew {d : PD} {F : Nat → Prop} (h : DiskOf w p d F) : DiskOf w.drew p d F := h.kept (Nat.le_refl _) (fun _ _ => rfl)
theorem DiskOf.setCell {d : PD} {F : Nat → Prop} (h : DiskOf w p d F) {ad : Addr} (hF : ¬ F ad.block) (u : Value) : DiskOf (w.setCell ad u) p d F :=
  h.kept (by simp [World.setCell]) (fun k hk => heap_setCell_other w ad k u (fun e => hF (e ▸ hk)))
theorem DiskOf.lt {d : PD} {F : Nat → Prop} (h : DiskOf w p d F) {k : Nat} (hk : F k) : k < w.heap.size := h.1 k hk
theorem DiskOf.nil_free {d : PD} {F : Nat → Prop} (h : DiskOf w p d F) {k : Nat} (hk : w.heap.size ≤ k) : ¬ F k := fun hf => by have := h.1 k hf; omega
theorem DiskOf.own {d : PD} {F : Nat → Prop} (h : DiskOf w p d F) : F p := by
  obtain ⟨h1, mb, G, h2, h3, h4⟩ := h
  exact h4 p (.inl rfl)

/-- What a call on a disk leaves: the disk d, in blocks of F and new ones; nothing else is turned. -/
def Moves (w : World) (p : Nat) (F : Nat → Prop) (d : PD) (w' : World) : Prop :=
  ∃ F', DiskOf w' p d F' ∧ (∀ k, F' k → F k ∨ w.heap.size ≤ k) ∧ Turned F w w'

theorem Moves.refl {d : PD} {F : Nat → Prop} (h : DiskOf w p d F) : Moves w p F d w := ⟨F, h, fun _ hk => .inl hk, Turned.refl F w⟩

end Go.Proofs.YthpamdjgkmaleaaGreatDoor

namespace Go.Proofs.YthpamdjgkmaleaaGreatDoor
open Go.RowKit Go.Shelf
set_option linter.unusedVariables false

attribute [local go_sem] Oper.semAt_some

theorem new_disk (w : World) : Calls Tryz.prog 11 #[] w fun r w' => ∃ p F, r = .returned (.pointer (some ⟨p, 0, none⟩)) ∧ DiskOf w' p PD.new F ∧ (∀ k, F k → w.heap.size ≤ k) ∧ Below w.heap.size w w' := by
  have hmm := @run_makeMap Tryz.prog
  go_enter Tryz.func11, Tryz.ntmps11
  go_wp2
  go_ret
  refine ⟨w.heap.size + 1, fun k => k = w.heap.size ∨ k = w.heap.size + 1, by simp, ⟨?_, w.heap.size, [], ⟨?_, ?_, ?_, ?_, ?_⟩, rfl, ?_⟩, ?_, ?_⟩
  · rintro k (rfl | rfl) <;> simp <;> omega
  · have := World.alloc_heap_new (w.alloc (.map #[] 0)) (.cells #[.map (some w.heap.size), .int .i64 4194304, .int .i64 (-1), .bool false] 62 (0, 0))
    simpa [PD.new] using this
  · refine ⟨.map [], ?_, rfl, fun nm => ⟨rfl, rfl⟩⟩
    exact ((World.ownsMap_made w Tryz.prog 9 ptrR).alloc _)
  · simp
  · simp
  · simp [sortedN]
  · rintro k (rfl | rfl | ⟨e, he, _⟩)
    · exact .inr rfl
    · exact .inl rfl
    · cases he
  · rintro k (rfl | rfl) <;> omega
  · exact ((Below.refl _ w).alloc (Nat.le_refl _) _).alloc (by simp) _

variable {w : World} {p : Nat} {d : PD} {F : Nat → Prop}

/-- A cell of the disk's own block turned. -/
theorem moves_start (h : DiskOf w p d F) : Moves w p F d.start (w.setCell ⟨p, 3, none⟩ (.bool false)) := by
  obtain ⟨h1, mb, G, h2, h3, h4⟩ := h
  exact ⟨F, ⟨fun k hk => by have := h1 k hk; simpa [World.setCell] using this, mb, G, h2.setDead false, h3, h4⟩, fun _ hk => .inl hk, (Turned.refl F w).setCell (h4 p (.inl rfl)) _⟩

theorem start_any (h : DiskOf w p d F) : Calls Tryz.prog 15 #[.pointer (some ⟨p, 0, none⟩)] w fun r w' => r = .returned (.int .i64 0) ∧ Moves w p F d.start w' := by
  have HM := Lib.hid (moves_start h)
  obtain ⟨h1, mb, G, h2, h3, h4⟩ := h
  have c3 := h2.c3
  have f3 := h2.frozen 3
  go_enter Tryz.func15, Tryz.ntmps15
  go_wp2
  go_ret
  exact ⟨rfl, HM.out⟩

theorem dead_any (h : DiskOf w p d F) : Calls Tryz.prog 13 #[.pointer (some ⟨p, 0, none⟩)] w fun r w' => r = .returned (.bool d.dead) ∧ w = w' := by
  obtain ⟨h1, mb, G, h2, h3, h4⟩ := h
  have c3 := h2.c3
  go_enter Tryz.func13, Tryz.ntmps13
  go_wp2
  go_ret
  exact ⟨rfl, rfl⟩

theorem powerOff_any {mb : Nat} {G : List Ent} {room fuse : Int} {dead : Bool} (h : DiskAt w p mb G room fuse dead) : Calls Tryz.prog 32 #[.pointer (some ⟨p, 0, none⟩)] w fun r w' => (∃ v, r = .returned v) ∧ DiskAt w' p mb G room (-1) true ∧ w.grownBy w' (some p) := by
  have c3 := h.c3
  have f3 := h.frozen 3
  have f2 := h.frozen 2
  have c2 := h.c2
  have hd := (h.setDead true).setFuse (-1)
  have c2' := (h.setDead true).c2
  have f2' := (h.setDead true).frozen 2
  have hg : w.grownBy ((w.setCell ⟨p, 3, none⟩ (.bool true)).setCell ⟨p, 2, none⟩ (.int .i64 (-1))) (some p) := grown_trans (grown_setCell w p 3 _) (grown_setCell _ p 2 _)
  have HD := Lib.hid hd
  have HG := Lib.hid hg
  clear hd hg
  go_enter Tryz.func32, Tryz.ntmps32
  go_wp2
  go_end0
  exact ⟨⟨_, rfl⟩, HD.out, HG.out⟩

/-! ### what needs power -/
theorem powered_dead {fb : Nat} {caps : Array Value} (h : DiskOf w p d F) (hd : d.dead = true) :
    Calls Tryz.prog 27 #[.pointer (some ⟨p, 0, none⟩), .func (.func fb) #[] caps] w fun r w' => r = .returned (.int .i64 8) ∧ w = w' := by
  obtain ⟨h1, mb, G, h2, h3, h4⟩ := h
  have c3 := h2.c3
  rw [hd] at c3
  go_enter Tryz.func27, Tryz.ntmps27
  go_wp2
  go_ret
  exact ⟨rfl, rfl⟩

theorem powered_nil {fb : Nat} {caps : Array Value} (w : World) :
    Calls Tryz.prog 27 #[.pointer none, .func (.func fb) #[] caps] w fun r w' => r = .returned (.int .i64 1) ∧ w = w' := by
  go_enter Tryz.func27, Tryz.ntmps27
  go_wp2
  go_ret
  exact ⟨rfl, rfl⟩

theorem powered_ok {fb : Nat} {caps : Array Value} {R : Int → World → Prop} (h : DiskOf w p d F) (hd : d.dead = false) (he : ∀ args w, (callFunc fb args).run Tryz.prog w = .ok (.enter fb args) w)
    (hc : Calls Tryz.prog fb caps w fun r w' => ∃ e, r = .returned (.int .i64 e) ∧ R e w') :
    Calls Tryz.prog 27 #[.pointer (some ⟨p, 0, none⟩), .func (.func fb) #[] caps] w fun r w' => ∃ e, r = .returned (.int .i64 e) ∧ R e w' := by
  obtain ⟨h1, mb, G, h2, h3, h4⟩ := h
  have c3 := h2.c3
  rw [hd] at c3
  have HC := Lib.hid hc
  clear hc h2
  go_enter Tryz.func27, Tryz.ntmps27
  go_wp2
  refine HC.out.mono ?_
  rintro r w' ⟨e, rfl, hR⟩
  have HR := Lib.hid hR
  clear hR
  go_wp2
  go_ret
  exact ⟨e, rfl, HR.out⟩

/-! ### the fuse -/
theorem fuse_any (h : DiskOf w p d F) (n : Int) : Calls Tryz.prog 12 #[.pointer (some ⟨p, 0, none⟩), .int .i64 n] w fun r w' => r = .returned (.int .i64 (d.setFuse n).2) ∧ Moves w p F (d.setFuse n).1 w' := by
  obtain ⟨W0, hW0⟩ : ∃ W0, (w.alloc (.cells #[.pointer (some ⟨p, 0, none⟩)] 33)).alloc (.cells #[.int .i64 n] 3) = W0 := ⟨_, rfl⟩
  have hd0 : DiskOf W0 p d F := by rw [← hW0]; exact (h.alloc _).alloc _
  have hb0 : Below w.heap.size w W0 := by rw [← hW0]; exact ((Below.refl _ w).alloc (Nat.le_refl _) _).alloc (by simp) _
  have b1 : Boxed W0 w.heap.size 33 (.pointer (some ⟨p, 0, none⟩)) := by rw [← hW0]; exact (Boxed.new w _ _).alloc _
  have b2 : Boxed W0 (w.heap.size + 1) 3 (.int .i64 n) := by rw [← hW0]; have := Boxed.new (w.alloc (.cells #[.pointer (some ⟨p, 0, none⟩)] 33)) 3 (.int .i64 n); simpa using this
  have hmov : ∀ d' w', Moves W0 p F d' w' → Moves w p F d' w' := by
    rintro d' w' ⟨F', g1, g2, g3⟩
    exact ⟨F', g1, fun k hk => (g2 k hk).imp id (fun h => Nat.le_trans hb0.size h), (Turned.of_below hb0).trans g3 (fun _ hk => .inl hk)⟩
  have hfin : Calls Tryz.prog 27 #[.pointer (some ⟨p, 0, none⟩), .func (.func 28) #[] #[.pointer (some ⟨w.heap.size + 1, 0, none⟩), .pointer (some ⟨w.heap.size, 0, none⟩)]] W0 fun r w' => ∃ e, r = .returned (.int .i64 e) ∧ (e = (d.setFuse n).2 ∧ Moves W0 p F (d.setFuse n).1 w') := by
    by_cases hdead : d.dead = true
    · refine (powered_dead hd0 hdead).mono ?_
      rintro r w' ⟨rfl, rfl⟩
      exact ⟨8, rfl, by simp [PD.setFuse, hdead], by simpa [PD.setFuse, hdead] using Moves.refl hd0⟩
    · have hdead : d.dead = false := by simpa using hdead
      refine powered_ok hd0 hdead (enters_of Tryz.func28 (by kernel_rfl) rfl) ?_
      have hset : d.setFuse n = ({ d with fuse := max n (-1) }, 0) := by simp [PD.setFuse, hdead]
      rw [hset]
      obtain ⟨h1, mb, G, h2, h3, h4⟩ := hd0
      have c2 := h2.c2
      have f2 := h2.frozen 2
      have hm : Moves W0 p F { d with fuse := max n (-1) } (W0.setCell ⟨p, 2, none⟩ (.int .i64 (max n (-1)))) :=
        ⟨F, ⟨fun k hk => by have := h1 k hk; simpa [World.setCell] using this, mb, G, h2.setFuse _, h3, h4⟩, fun _ hk => .inl hk, (Turned.refl F W0).setCell (h4 p (.inl rfl)) _⟩
      have k1 := b1.cell
      have k2 := b2.cell
      have HM := Lib.hid hm
      clear hm
      go_enter Tryz.func28, Tryz.ntmps28
      go_wp2
      go_ret
      exact ⟨_, rfl, rfl, HM.out⟩
  have k1 := b1.cell
  have HF := Lib.hid hfin
  have HV := Lib.hid hmov
  clear hfin hmov
  go_enter Tryz.func12, Tryz.ntmps12
  go_wp2_with (go_at_call 27; (try rw [hW0]); refine HF.out.mono ?_; rintro r w' ⟨e, rfl, rfl, hm⟩; have HM := Lib.hid hm; clear hm)
  go_ret
  exact ⟨rfl, HV.out _ _ HM.out⟩

end Go.Proofs.YthpamdjgkmaleaaGreatDoor

namespace Go.Proofs.YthpamdjgkmaleaaGreatDoor
open Go.RowKit Go.Shelf
set_option linter.unusedVariables false

attribute [local go_sem] Oper.semAt_some

variable {w : World} {p : Nat} {d : PD} {F : Nat → Prop}

/-- The boxes that within lays. -/
theorem within_boxes (w : World) (p : Nat) (nm : List UInt8) (fv : Value) : ∃ W0, ((w.alloc (.cells #[.pointer (some ⟨p, 0, none⟩)] 33)).alloc (.cells #[.string (B nm)] 9)).alloc (.cells #[fv] 73) = W0 ∧ Below w.heap.size w W0 ∧
    Boxed W0 w.heap.size 33 (.pointer (some ⟨p, 0, none⟩)) ∧ Boxed W0 (w.heap.size + 1) 9 (.string (B nm)) ∧ Boxed W0 (w.heap.size + 2) 73 fv := by
  refine ⟨_, rfl, ?_, ?_, ?_, ?_⟩
  · exact (((Below.refl _ w).alloc (Nat.le_refl _) _).alloc (by simp) _).alloc (by simp; omega) _
  · exact ((Boxed.new w _ _).alloc _).alloc _
  · have := (Boxed.new (w.alloc (.cells #[.pointer (some ⟨p, 0, none⟩)] 33)) 9 (.string (B nm))).alloc (.cells #[fv] 73)
    simpa using this
  · have := Boxed.new ((w.alloc (.cells #[.pointer (some ⟨p, 0, none⟩)] 33)).alloc (.cells #[.string (B nm)] 9)) 73 fv
    simpa using this

theorem within_dead {fa : Nat} {caps : Array Value} (h : DiskOf w p d F) (nm : List UInt8) (hd : d.dead = true) :
    Calls Tryz.prog 34 #[.pointer (some ⟨p, 0, none⟩), .string (B nm), .func (.func fa) #[] caps] w fun r w' => r = .returned (.int .i64 8) ∧ Below w.heap.size w w' := by
  obtain ⟨W0, hW0, hb0, b1, b2, b3⟩ := within_boxes w p nm (.func (.func fa) #[] caps)
  have hd0 := h.below hb0
  have k1 := b1.cell
  have HD := Lib.hid hd0
  have HB := Lib.hid hb0
  clear hd0 hb0 b1 b2 b3
  go_enter Tryz.func34, Tryz.ntmps34
  go_wp2_with (go_at_call 27; (try rw [hW0]); refine (powered_dead HD.out hd).mono ?_; rintro r w' ⟨rfl, rfl⟩)
  go_ret
  exact ⟨rfl, HB.out⟩

theorem within_none {fa : Nat} {caps : Array Value} (h : DiskOf w p d F) (nm : List UInt8) (hl : nm.length ≤ maxLen) (hd : d.dead = false) (hn : d.find nm = none) :
    Calls Tryz.prog 34 #[.pointer (some ⟨p, 0, none⟩), .string (B nm), .func (.func fa) #[] caps] w fun r w' => r = .returned (.int .i64 11) ∧ Below w.heap.size w w' := by
  obtain ⟨W0, hW0, hb0, b1, b2, b3⟩ := within_boxes w p nm (.func (.func fa) #[] caps)
  have hd0 := h.below hb0
  have hfin : Calls Tryz.prog 27 #[.pointer (some ⟨p, 0, none⟩), .func (.func 52) #[] #[.pointer (some ⟨w.heap.size, 0, none⟩), .pointer (some ⟨w.heap.size + 1, 0, none⟩), .pointer (some ⟨w.heap.size + 2, 0, none⟩)]] W0 fun r w' => ∃ e, r = .returned (.int .i64 e) ∧ (e = 11 ∧ Below W0.heap.size W0 w') := by
    refine powered_ok hd0 hd (enters_of Tryz.func52 (by kernel_rfl) rfl) ?_
    obtain ⟨h1, mb, G, h2, h3, h4⟩ := hd0
    have hlook := fun n => (h2.map.drewN n).look nm hl
    have hno : blkOf G nm = none := by
      rw [blkOf_ent]
      have : (entOf G nm).map Ent.pf = none := by rw [← find_ent, h3]; exact hn
      simpa using this
    rw [hno] at hlook
    simp only [ptrOf] at hlook
    have k1 := b1.cell
    have k2 := b2.cell
    have k3 := b3.cell
    have c0 := h2.c0
    clear b1 b2 b3 h2
    go_enter Tryz.func52, Tryz.ntmps52
    go_wp2_with fail
    go_quiet (fail)
    go_wp2
    go_ret
    exact ⟨_, rfl, rfl, bdrew _ _⟩
  have k1 := b1.cell
  have HF := Lib.hid hfin
  have HB := Lib.hid hb0
  clear hfin hb0 b1 b2 b3
  go_enter Tryz.func34, Tryz.ntmps34
  go_wp2_with (go_at_call 27; (try rw [hW0]); refine HF.out.mono ?_; rintro r w' ⟨e, rfl, rfl, hb2⟩; have HB2 := Lib.hid hb2; clear hb2)
  go_ret
  exact ⟨rfl, HB.out.trans (HB2.out.mono HB.out.size)⟩

theorem within_some {fa : Nat} {caps : Array Value} {R : Int → World → World → Prop} (h : DiskOf w p d F) (nm : List UInt8) (hl : nm.length ≤ maxLen) (hd : d.dead = false)
    (he : ∀ args w, (callFunc fa args).run Tryz.prog w = .ok (.enter fa args) w) {mb : Nat} {G : List Ent} (hat : DiskAt w p mb G d.room d.fuse d.dead) {e : Ent} (hme : e ∈ G) (hnm : e.pf.name = nm)
    (hc : ∀ w1, Below w.heap.size w w1 → Calls Tryz.prog fa (#[.pointer (some ⟨e.blk, 0, none⟩)] ++ caps) w1 fun r w' => ∃ x, r = .returned (.int .i64 x) ∧ R x w1 w') :
    Calls Tryz.prog 34 #[.pointer (some ⟨p, 0, none⟩), .string (B nm), .func (.func fa) #[] caps] w fun r w' => ∃ x w1, r = .returned (.int .i64 x) ∧ Below w.heap.size w w1 ∧ R x w1 w' := by
  obtain ⟨W0, hW0, hb0, b1, b2, b3⟩ := within_boxes w p nm (.func (.func fa) #[] caps)
  have hd0 := h.below hb0
  have hat0 : DiskAt W0 p mb G d.room d.fuse d.dead := hat.kept (fun k hk => hb0.block k (hat.lt hk))
  have hfin : Calls Tryz.prog 27 #[.pointer (some ⟨p, 0, none⟩), .func (.func 52) #[] #[.pointer (some ⟨w.heap.size, 0, none⟩), .pointer (some ⟨w.heap.size + 1, 0, none⟩), .pointer (some ⟨w.heap.size + 2, 0, none⟩)]] W0 fun r w' => ∃ x, r = .returned (.int .i64 x) ∧ (∃ w1, Below w.heap.size w w1 ∧ R x w1 w') := by
    refine powered_ok hd0 hd (enters_of Tryz.func52 (by kernel_rfl) rfl) ?_
    have hlook := fun n => (hat0.map.drewN n).look nm hl
    have hno : blkOf G nm = some e.blk := by
      rw [blkOf_ent]
      cases hx : entOf G nm with
      | none => exact absurd hnm (entOf_none hx e hme)
      | some e2 =>
        obtain ⟨m1, m2⟩ := entOf_mem hx
        rw [hat.same_name m1 hme (m2.trans hnm.symm)]
        rfl
    rw [hno] at hlook
    simp only [ptrOf] at hlook
    have k1 := b1.cell
    have k2 := b2.cell
    have k3 := b3.cell
    have c0 := hat0.c0
    have HC := Lib.hid hc
    have HB := Lib.hid hb0
    clear b1 b2 b3 hat hat0 h hc
    go_enter Tryz.func52, Tryz.ntmps52
    go_wp2_with fail
    go_quiet (fail)
    go_wp2
    refine (HC.out _ (HB.out.trans ((bdrew _ _).mono HB.out.size))).mono ?_
    rintro r w' ⟨x, rfl, hR⟩
    have HR := Lib.hid hR
    clear hR
    go_wp2
    go_ret
    exact ⟨_, rfl, _, HB.out.trans ((bdrew _ _).mono HB.out.size), HR.out⟩
  have k1 := b1.cell
  have HF := Lib.hid hfin
  have HB := Lib.hid hb0
  clear hfin hb0 b1 b2 b3
  go_enter Tryz.func34, Tryz.ntmps34
  go_wp2_with (go_at_call 27; (try rw [hW0]); refine HF.out.mono ?_; rintro r w' ⟨x, rfl, w1, hb1, hR⟩; have HB1 := Lib.hid hb1; have HR := Lib.hid hR; clear hR hb1)
  go_ret
  exact ⟨_, _, rfl, HB1.out, HR.out⟩

end Go.Proofs.YthpamdjgkmaleaaGreatDoor

namespace Go.Proofs.YthpamdjgkmaleaaGreatDoor
open Go.RowKit Go.Shelf
set_option linter.unusedVariables false

attribute [local go_sem] Oper.semAt_some

variable {w : World} {p mb : Nat} {G : List Ent} {room fuse : Int} {dead : Bool}

/-- A file with fewer bytes, in a slice of the same row. -/
def Ent.cut (e : Ent) (n : Nat) (v : Value) : Ent := { pf := { e.pf with bytes := e.pf.bytes.take n }, blk := e.blk, v := v }

theorem owns_take {w : World} {base : Nat} {e : TypeId} {a : Option Addr} {n c : Nat} {l : List UInt8} (h : w.ownsRow base e 1 (.slice a n c) n (Lib.byteCells l)) {k : Nat} (hk : k ≤ n) : w.ownsRow base e 1 (.slice a k c) k (Lib.byteCells (l.take k)) := by
  have hl : l.length = n := by have := h.1; simpa [Lib.byteCells_length] using this
  refine ⟨by simp [Lib.byteCells_length]; omega, ?_⟩
  rcases h.2 with ⟨hv, hn⟩ | ⟨g, cap, cur, hv, hb, hg, h1, h2, h3, h4⟩
  · cases hv
    obtain rfl : k = 0 := by omega
    exact .inl ⟨rfl, rfl⟩
  · simp only [Value.slice.injEq] at hv
    obtain ⟨rfl, _, rfl⟩ := hv
    refine .inr ⟨g, c, cur, rfl, hb, hg, by omega, h2, h3, ?_⟩
    have : (cur.toList.take (n * 1)).take (k * 1) = (Lib.byteCells l).take (k * 1) := by rw [h4]
    rw [List.take_take, Nat.min_eq_left (by omega)] at this
    rw [this]
    simp [Lib.byteCells, List.map_take]

theorem owns_slice {w : World} {e : Ent} (h : e.at w) : ∃ a c, e.v = .slice a e.pf.bytes.length c ∧ (a = none ∨ ∃ g, a = some ⟨g, 0, none⟩) ∧ (a = none → e.pf.bytes.length = 0 ∧ c = 0) ∧ e.pf.bytes.length ≤ c ∧ c ≤ maxLen := by
  rcases h.2.2 with ⟨hv, hn⟩ | ⟨g, cap, cur, hv, hb, hg, h1, h2, _⟩
  · exact ⟨none, 0, by rw [hv, hn], .inl rfl, fun _ => ⟨hn, rfl⟩, by omega, by unfold maxLen; omega⟩
  · exact ⟨some ⟨g, 0, none⟩, cap, hv, .inr ⟨g, rfl⟩, fun hc => (by cases hc), h1, h2⟩

/-- The file's slice laid anew in its content. -/
theorem DiskAt.cut_at (h : DiskAt w p mb G room fuse dead) {e : Ent} (he : e ∈ G) {a : Option Addr} {c : Nat} (hv : e.v = .slice a e.pf.bytes.length c) {n : Nat} (hn : n ≤ e.pf.bytes.length) :
    DiskAt (w.setCell ⟨e.blk, 0, none⟩ (.slice a n c)) p mb (updE (e.cut n (.slice a n c)) G) room fuse dead := by
  have hat := h.ents e he
  have hrow := hat.2
  rw [hv] at hrow
  have ho : (Value.slice a n c).ownBlock = e.v.ownBlock := by rw [hv]; cases a <;> rfl
  have hlen : (e.pf.bytes.take n).length = n := by simp; omega
  refine h.upd he (e.cut n (.slice a n c)) rfl rfl (fun k _ hk _ => heap_setCell_other w _ k _ hk) ⟨?_, ?_⟩ (fun k hk => .inl (by rw [← ho]; exact hk))
  · have := heap_setCell_same w e.blk 0 _ _ (.slice a n c) hat.1
    simpa [Ent.cut] using this
  · show (w.setCell ⟨e.blk, 0, none⟩ (.slice a n c)).ownsRow 0 5 1 (.slice a n c) (e.pf.bytes.take n).length (Lib.byteCells (e.pf.bytes.take n))
    rw [hlen]
    exact ownsRow_same (owns_take hrow hn) (fun k hk => heap_setCell_other w _ k _ (fun e2 => (h.ne_row he (ho ▸ hk)).2.2 e he e2.symm))

set_option maxHeartbeats 1000000 in
theorem shorten_any (h : DiskAt w p mb G room fuse dead) {e : Ent} (he : e ∈ G) (n : Nat) (hn : n ≤ e.pf.bytes.length) (hr0 : 0 ≤ room) (hr1 : room + e.pf.bytes.length ≤ 4611686018427387904) :
    Calls Tryz.prog 31 #[.pointer (some ⟨p, 0, none⟩), .pointer (some ⟨e.blk, 0, none⟩), .int .i64 n] w fun r w' => (∃ v, r = .returned v) ∧
      ∃ v', v'.ownBlock = e.v.ownBlock ∧ DiskAt w' p mb (updE (e.cut n v') G) (room + (e.pf.bytes.length - n)) fuse dead ∧ Turned (fun k => k = p ∨ k = e.blk) w w' := by
  obtain ⟨a, c, hv, ha, hnil, hc1, hc2⟩ := owns_slice (h.ents e he)
  have hat := h.ents e he
  have c1 := h.c1
  have f1 := h.frozen 1
  have k0 := hat.c0
  have f0 := hat.frozen 0
  have hne := (h.ne_blk he).1
  rw [hv] at k0
  have hw1 : IntKind.i64.wrap ((e.pf.bytes.length : Int) - n) = (e.pf.bytes.length : Int) - n := by rw [IntKind.wrap_i64]; omega
  have hw2 : IntKind.i64.wrap (room + ((e.pf.bytes.length : Int) - n)) = room + ((e.pf.bytes.length : Int) - n) := by rw [IntKind.wrap_i64]; omega
  have h2 := h.setRoom (room + ((e.pf.bytes.length : Int) - n))
  have hat2 := h2.ents e he
  have k2 := hat2.c0
  have f2 := hat2.frozen 0
  rw [hv] at k2
  have h3 := h2.cut_at he hv hn
  have ht : Turned (fun k => k = p ∨ k = e.blk) w ((w.setCell ⟨p, 1, none⟩ (.int .i64 (room + ((e.pf.bytes.length : Int) - n)))).setCell ⟨e.blk, 0, none⟩ (.slice a n c)) := ((Turned.refl _ w).setCell (.inl rfl) _).setCell (.inr rfl) _
  have ho : (Value.slice a n c).ownBlock = e.v.ownBlock := by rw [hv]; cases a <;> rfl
  rcases ha with rfl | ⟨g, rfl⟩
  · obtain ⟨hz, rfl⟩ := hnil rfl
    obtain rfl : n = 0 := by omega
    have e1 : room + ((e.pf.bytes.length : Int) - ((0 : Nat) : Int)) = room := by omega
    rw [e1] at h3 ht ⊢
    have H3 := Lib.hid h3
    have HT := Lib.hid ht
    have HO := Lib.hid ho
    rw [e1] at k2 f2
    clear h3 ht ho h2 hat2 hat h hn hnil e1 hw1 hw2
    rw [hz] at k0 k2
    go_enter Tryz.func31, Tryz.ntmps31
    go_wp2
    go_region
    go_wp2
    go_end0
    exact ⟨⟨_, rfl⟩, _, HO.out, H3.out.drew, HT.out.drew⟩
  · have H3 := Lib.hid h3
    have HT := Lib.hid ht
    have HO := Lib.hid ho
    clear hnil h3 ht ho h2 hat2 hat h
    go_enter Tryz.func31, Tryz.ntmps31
    go_wp2
    go_region
    go_wp2
    go_end0
    exact ⟨⟨_, rfl⟩, _, HO.out, H3.out.drew, HT.out.drew⟩

end Go.Proofs.YthpamdjgkmaleaaGreatDoor

namespace Go.Proofs.YthpamdjgkmaleaaGreatDoor
open Go.RowKit Go.Shelf
set_option linter.unusedVariables false

attribute [local go_sem] Oper.semAt_some

variable {w w' : World} {p mb : Nat} {d : PD} {F : Nat → Prop} {G : List Ent} {room fuse : Int} {dead : Bool}

theorem Moves.before {w1 : World} {d' : PD} (hb : Below w.heap.size w w1) (h : Moves w1 p F d' w') : Moves w p F d' w' := by
  obtain ⟨F', g1, g2, g3⟩ := h
  exact ⟨F', g1, fun k hk => (g2 k hk).imp id (fun h => Nat.le_trans hb.size h), (Turned.of_below hb).trans g3 (fun _ hk => .inl hk)⟩
theorem Moves.of_below (h : DiskOf w p d F) (hb : Below w.heap.size w w') : Moves w p F d w' := ⟨F, h.below hb, fun _ hk => .inl hk, Turned.of_below hb⟩
theorem Moves.trans {d1 d2 : PD} {w1 w2 : World} {R : Prop} (h : Moves w p F d1 w1) (k : ∀ F1, DiskOf w1 p d1 F1 → (∀ i, F1 i → F i ∨ w.heap.size ≤ i) → Turned F w w1 → (∀ d2 w2, Moves w1 p F1 d2 w2 → Moves w p F d2 w2) → R) : R := by
  obtain ⟨F1, g1, g2, g3⟩ := h
  refine k F1 g1 g2 g3 ?_
  rintro d2 w2 ⟨F2, k1, k2, k3⟩
  refine ⟨F2, k1, fun i hi => ?_, g3.trans k3 g2⟩
  rcases k2 i hi with h1 | h1
  · exact g2 i h1
  · exact .inr (Nat.le_trans g3.size h1)

theorem moves_of {G' : List Ent} {r f : Int} {dd : Bool} (hF : ∀ k, F k → k < w.heap.size) (h' : DiskAt w' p mb G' r f dd) (hfoot : ∀ k, Foot p mb G' k → F k ∨ w.heap.size ≤ k) (ht : Turned F w w') :
    Moves w p F { files := G'.map Ent.pf, room := r, fuse := f, dead := dd } w' := by
  refine ⟨fun k => F k ∨ Foot p mb G' k, ⟨?_, mb, G', h', rfl, fun k hk => .inr hk⟩, ?_, ht⟩
  · rintro k (hk | hk)
    · exact Nat.lt_of_lt_of_le (hF k hk) ht.size
    · exact h'.lt hk
  · rintro k (hk | hk)
    · exact .inl hk
    · exact hfoot k hk

theorem le_sum {n : Nat} : ∀ {l : List Nat}, n ∈ l → n ≤ l.sum
  | [], h => by cases h
  | x :: l, h => by
    rw [List.sum_cons]
    rcases List.mem_cons.1 h with rfl | h'
    · omega
    · have := le_sum h'; omega

theorem foot_upd {e e' : Ent} (he : e ∈ G) (hb : e'.blk = e.blk) {k : Nat} (h : Foot p mb (updE e' G) k) : Foot p mb G k ∨ e'.v.ownBlock = some k := by
  rcases h with h | h | ⟨x, hx, h⟩
  · exact .inl (.inl h)
  · exact .inl (.inr (.inl h))
  · obtain ⟨y, hy, rfl⟩ := List.mem_map.1 hx
    by_cases hc : y.pf.name = e'.pf.name
    · rw [if_pos hc] at h
      rcases h with h | h
      · exact .inl (.inr (.inr ⟨e, he, .inl (by rw [h, hb])⟩))
      · exact .inr h
    · rw [if_neg hc] at h
      exact .inl (.inr (.inr ⟨y, hy, h⟩))

/-! ### whatever asks for a file -/
theorem within_any {fa : Nat} {caps : Array Value} (h : DiskOf w p d F) (nm : List UInt8) (hl : nm.length ≤ maxLen) (he : ∀ args w, (callFunc fa args).run Tryz.prog w = .ok (.enter fa args) w) (act : PF → PD × Int)
    (hc : ∀ mb G e w1, DiskAt w1 p mb G d.room d.fuse d.dead → G.map Ent.pf = d.files → (∀ k, Foot p mb G k → F k) → (∀ k, F k → k < w1.heap.size) → e ∈ G → e.pf.name = nm → d.dead = false → Below w.heap.size w w1 →
      Calls Tryz.prog fa (#[.pointer (some ⟨e.blk, 0, none⟩)] ++ caps) w1 fun r w' => ∃ x, r = .returned (.int .i64 x) ∧ (x = (act e.pf).2 ∧ Moves w1 p F (act e.pf).1 w')) :
    Calls Tryz.prog 34 #[.pointer (some ⟨p, 0, none⟩), .string (B nm), .func (.func fa) #[] caps] w fun r w' => r = .returned (.int .i64 (d.within nm act).2) ∧ Moves w p F (d.within nm act).1 w' := by
  by_cases hd : d.dead = true
  · have hw : d.within nm act = (d, 8) := by simp [PD.within, hd]
    rw [hw]
    refine (within_dead h nm hd).mono ?_
    rintro r w' ⟨rfl, hb⟩
    exact ⟨rfl, Moves.of_below h hb⟩
  · have hd : d.dead = false := by simpa using hd
    cases hf : d.find nm with
    | none =>
      have hw : d.within nm act = (d, 11) := by simp [PD.within, hd, hf]
      rw [hw]
      refine (within_none h nm hl hd hf).mono ?_
      rintro r w' ⟨rfl, hb⟩
      exact ⟨rfl, Moves.of_below h hb⟩
    | some f =>
      have hw : d.within nm act = act f := by simp [PD.within, hd, hf]
      rw [hw]
      obtain ⟨h1, mb, G, h2, h3, h4⟩ := id h
      have hx : (entOf G nm).map Ent.pf = some f := by rw [← find_ent, h3]; exact hf
      cases hen : entOf G nm with
      | none => rw [hen] at hx; cases hx
      | some e =>
        rw [hen] at hx
        obtain rfl : e.pf = f := by simpa using hx
        obtain ⟨m1, m2⟩ := entOf_mem hen
        refine (within_some (R := fun x w1 w' => x = (act e.pf).2 ∧ Moves w1 p F (act e.pf).1 w') h nm hl hd he h2 m1 m2 (fun w1 hb => ?_)).mono ?_
        · exact hc mb G e w1 (h2.kept (fun k hk => hb.block k (h2.lt hk))) h3 h4 (fun k hk => Nat.lt_of_lt_of_le (h1 k hk) hb.size) m1 m2 hd hb
        · rintro r w' ⟨x, w1, rfl, hb, rfl, hm⟩
          exact ⟨rfl, hm.before hb⟩

/-! ### Sync -/
theorem DiskAt.sync_at (h : DiskAt w p mb G room fuse dead) {e : Ent} (he : e ∈ G) (n : Nat) :
    DiskAt (w.setCell ⟨e.blk, 1, none⟩ (.int .i64 n)) p mb (updE { e with pf := { e.pf with synced := n } } G) room fuse dead := by
  have hat := h.ents e he
  refine h.upd he { e with pf := { e.pf with synced := n } } rfl rfl (fun k _ hk _ => heap_setCell_other w _ k _ hk) ⟨?_, ?_⟩ (fun k hk => .inl hk)
  · have := heap_setCell_same w e.blk 1 _ _ (.int .i64 n) hat.1
    simpa using this
  · exact ownsRow_same hat.2 (fun k hk => heap_setCell_other w _ k _ (fun e2 => (h.ne_row he hk).2.2 e he e2.symm))

theorem sync_any (h : DiskOf w p d F) (nm : List UInt8) (hl : nm.length ≤ maxLen) :
    Calls Tryz.prog 20 #[.pointer (some ⟨p, 0, none⟩), .string (B nm)] w fun r w' => r = .returned (.int .i64 (d.sync nm).2) ∧ Moves w p F (d.sync nm).1 w' := by
  have hw := within_any (fa := 38) (caps := #[]) h nm hl (enters_of Tryz.func38 (by kernel_rfl) rfl) (fun _ => ({ d with files := setF nm (fun f => { f with synced := f.bytes.length }) d.files }, 0)) (by
    intro mb G e w1 hat hpf hF hF1 he hnm hdead hb
    obtain ⟨a, c, hv, ha, hnil, hc1, hc2⟩ := owns_slice (hat.ents e he)
    have k0 := (hat.ents e he).c0
    have k1 := (hat.ents e he).c1
    have f1 := (hat.ents e he).frozen 1
    rw [hv] at k0
    have hd := hat.sync_at he e.pf.bytes.length
    have hm := moves_of hF1 hd (fun k hk => .inl (by rcases foot_upd (e' := { e with pf := { e.pf with synced := e.pf.bytes.length } }) he rfl hk with hk | hk; exact hF k hk; exact hF k (.inr (.inr ⟨e, he, .inr hk⟩)))) ((Turned.refl F w1).setCell (hF _ (.inr (.inr ⟨e, he, .inl rfl⟩))) _)
    rw [updE_pf { e with pf := { e.pf with synced := e.pf.bytes.length } } he rfl (sortedN_nodup hat.names) (g := fun f => { f with synced := f.bytes.length }) rfl, hpf, hnm] at hm
    have HM := Lib.hid hm
    clear hm hd hat
    simp only [List.append_toArray, List.cons_append, List.nil_append]
    go_enter Tryz.func38, Tryz.ntmps38
    go_wp2
    go_ret
    exact ⟨_, rfl, rfl, HM.out⟩)
  have HW := Lib.hid hw
  clear hw
  go_enter Tryz.func20, Tryz.ntmps20
  go_wp2_with (go_at_call 34; refine HW.out.mono ?_; rintro r w' ⟨rfl, hm⟩; have HM := Lib.hid hm; clear hm)
  go_ret
  exact ⟨rfl, HM.out⟩

/-! ### Cut -/
end Go.Proofs.YthpamdjgkmaleaaGreatDoor
