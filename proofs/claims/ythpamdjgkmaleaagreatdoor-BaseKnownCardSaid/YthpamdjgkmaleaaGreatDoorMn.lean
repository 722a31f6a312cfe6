/-
What the library's variables hold that the layers from the log on come to.
What a call leaves of a disk, seen from those that hold it: the blocks that it keeps, the disk off them.
The disk's calls as the walks of the laws meet them; files in a row, a bit that turns, bytes that are written by the two ways.
-/
import Derived.Test.YthpamdjgkmaleaaGreatDoorShelf
import Derived.Test.YthpamdjgkmaleaaGreatDoorStr
import Derived.Test.YthpamdjgkmaleaaGreatDoorMc
import Derived.Test.YthpamdjgkmaleaaGreatDoorDkFile
import Derived.Test.YthpamdjgkmaleaaGreatDoorMb
import Derived.Test.YthpamdjgkmaleaaGreatDoorMd
import Derived.Test.YthpamdjgkmaleaaGreatDoorRowLib
import Derived.Lib.SmallJoins
namespace Go.Proofs.YthpamdjgkmaleaaGreatDoor
open Go.RowKit
set_option linter.unusedVariables false

/-- The variables' blocks. -/
def Vr (k : Nat) : Prop := k = 2 ∨ k = 3 ∨ k = 0 ∨ k = 5
/-- What they hold. -/
structure Env (w : World) : Prop where
  tab : Lib.TabIs Tryz.prog w "internal/strconv.uint64pow10" .u64 Lib.pow10Tab
  syn : ∃ tp pe, w.cell? ⟨2, 0, none⟩ = some (.iface tp pe)
  rng : ∃ tp pe, w.cell? ⟨3, 0, none⟩ = some (.iface tp pe)
  deb : w.cell? ⟨5, 15, none⟩ = some (.int .u8 4)
theorem tab_named : Tryz.prog.globalNamed "internal/strconv.uint64pow10" = some 0 := by kernel_rfl
theorem Env.same {w w' : World} (h : Env w) (hk : ∀ k, Vr k → w'.heap[k]? = w.heap[k]?) : Env w' := by
  refine ⟨?_, ?_, ?_, ?_⟩
  · have := h.tab
    unfold Lib.TabIs World.var? at this ⊢
    rw [tab_named] at this ⊢
    simp only [Option.bind_some] at this ⊢
    rw [hk _ (.inr (.inr (.inl rfl)))]
    exact this
  · obtain ⟨tp, pe, hc⟩ := h.syn
    exact ⟨tp, pe, (World.cell?_of_block (a := ⟨2, 0, none⟩) (hk _ (.inl rfl))).trans hc⟩
  · obtain ⟨tp, pe, hc⟩ := h.rng
    exact ⟨tp, pe, (World.cell?_of_block (a := ⟨3, 0, none⟩) (hk _ (.inr (.inl rfl)))).trans hc⟩
  · exact (World.cell?_of_block (a := ⟨5, 15, none⟩) (hk _ (.inr (.inr (.inr rfl))))).trans h.deb
theorem Env.lt {w : World} (h : Env w) {k : Nat} (hk : Vr k) : k < w.heap.size := by
  rcases hk with rfl | rfl | rfl | rfl
  · obtain ⟨tp, pe, hc⟩ := h.syn
    exact World.block_lt_of_cell? _ _ hc
  · obtain ⟨tp, pe, hc⟩ := h.rng
    exact World.block_lt_of_cell? _ _ hc
  · have := h.tab
    unfold Lib.TabIs World.var? at this
    rw [tab_named] at this
    simp only [Option.bind_some] at this
    rcases Nat.lt_or_ge 0 w.heap.size with h' | h'
    · exact h'
    · rw [Array.getElem?_eq_none h'] at this; cases this
  · exact World.block_lt_of_cell? _ _ h.deb
theorem Env.below {w w' : World} (h : Env w) (hb : Below w.heap.size w w') : Env w' := h.same (fun k hk => hb.block k (h.lt hk))

end Go.Proofs.YthpamdjgkmaleaaGreatDoor

namespace Go.Proofs.YthpamdjgkmaleaaGreatDoor
open Go.RowKit
set_option linter.unusedVariables false

/-- The bounds of a disk. -/
structure Sane (d : PD) : Prop where
  few : d.files.length ≤ 1000
  names : ∀ f ∈ d.files, f.name.length ≤ 24
  synced : ∀ f ∈ d.files, f.synced ≤ f.bytes.length
  fuse0 : -1 ≤ d.fuse
  fuse1 : d.fuse ≤ 9223372036854775807
  room0 : 0 ≤ d.room
  room1 : d.room + totF d.files ≤ 4194304
/-- Worlds that keep the blocks K. -/
abbrev Kept (K : Nat → Prop) (w w' : World) : Prop := Turned (fun k => ¬ K k) w w'
/-- What a call leaves of a disk in the blocks F: it is in F'. -/
structure Step (w : World) (p : Nat) (F : Nat → Prop) (d : PD) (F' : Nat → Prop) (w' : World) : Prop where
  disk : DiskOf w' p d F'
  sub : ∀ k, F' k → F k ∨ w.heap.size ≤ k
  turn : Turned F w w'
theorem Moves.step {w w' : World} {p : Nat} {F : Nat → Prop} {d : PD} (h : Moves w p F d w') : ∃ F', Step w p F d F' w' := by
  obtain ⟨F', h1, h2, h3⟩ := h
  exact ⟨F', h1, h2, h3⟩
theorem Step.trans {a b c : World} {p : Nat} {F F' F'' : Nat → Prop} {d e : PD} (h : Step a p F d F' b) (k : Step b p F' e F'' c) : Step a p F e F'' c :=
  ⟨k.disk, fun i hi => (k.sub i hi).elim (h.sub i) (fun h' => .inr (Nat.le_trans h.turn.size h')), h.turn.trans k.turn h.sub⟩
theorem Step.below {a b c : World} {p : Nat} {F F' : Nat → Prop} {d : PD} (h : Step a p F d F' b) (k : Below b.heap.size b c) : Step a p F d F' c :=
  ⟨h.disk.below k, h.sub, h.turn.trans (Turned.of_below (F := F) k) (fun _ h' => .inl h')⟩
theorem Step.kept {a b : World} {p : Nat} {F F' K : Nat → Prop} {d : PD} (h : Step a p F d F' b) (hK : ∀ k, F k → ¬ K k) : Kept K a b :=
  ⟨h.turn.os, h.turn.tape, h.turn.output, h.turn.size, fun i hi hn => h.turn.block i hi (fun hf => hn (hK i hf))⟩
theorem Step.off {a b : World} {p : Nat} {F F' K : Nat → Prop} {d : PD} (h : Step a p F d F' b) (hK : ∀ k, F k → ¬ K k) (hs : ∀ k, K k → k < a.heap.size) : ∀ k, F' k → ¬ K k := fun k hk hk2 => by
  rcases h.sub k hk with h1 | h1
  · exact hK k h1 hk2
  · have := hs k hk2; omega
theorem Kept.below {w w' : World} {n : Nat} (h : Kept (fun k => k < n) w w') (hn : n ≤ w.heap.size) : Below n w w' :=
  ⟨h.os, h.tape, h.output, h.size, fun i hi => h.block i (by omega) (fun h' => h' hi)⟩
theorem Kept.of_below {K : Nat → Prop} {w w' : World} (h : Below w.heap.size w w') : Kept K w w' := Turned.of_below h
theorem Kept.trans {K K' : Nat → Prop} {a b c : World} (h : Kept K a b) (k : Kept K' b c) (hK : ∀ i, i < a.heap.size → K i → K' i) : Kept K a c :=
  ⟨k.os.trans h.os, k.tape.trans h.tape, k.output.trans h.output, Nat.le_trans h.size k.size, fun i hi hn =>
    (k.block i (Nat.lt_of_lt_of_le hi h.size) (fun h' => h' (hK i hi (Classical.not_not.1 hn)))).trans (h.block i hi hn)⟩
theorem Kept.mono {K K' : Nat → Prop} {a b : World} (h : Kept K a b) (hK : ∀ i, K' i → K i) : Kept K' a b :=
  ⟨h.os, h.tape, h.output, h.size, fun i hi hn => h.block i hi (fun h' => hn (fun h2 => h' (hK i h2)))⟩
theorem Kept.heap {K : Nat → Prop} {a b : World} (h : Kept K a b) {k : Nat} (hk : k < a.heap.size) (hK : K k) : b.heap[k]? = a.heap[k]? := h.block k hk (fun h' => h' hK)
theorem Kept.row {K : Nat → Prop} {a b : World} (h : Kept K a b) {base : Nat} {e : TypeId} {size : Nat} {v : Value} {n : Nat} {xs : List Value} (hr : a.ownsRow base e size v n xs) (hK : ∀ k, v.ownBlock = some k → K k) : b.ownsRow base e size v n xs :=
  ownsRow_same hr (fun k hk => h.heap (hr.lt k hk).2 (hK k hk))
/-- K's blocks are there; the library's variables hold what they hold, in no block of F. -/
structure KOk (K : Nat → Prop) (w : World) (F : Nat → Prop) : Prop where
  lt : ∀ k, K k → k < w.heap.size
  env : Env w
  fv : ∀ k, F k → ¬ Vr k
instance {K : Nat → Prop} {w : World} {F : Nat → Prop} : CoeFun (KOk K w F) (fun _ => ∀ k, K k → k < w.heap.size) := ⟨KOk.lt⟩
theorem KOk.below {K F : Nat → Prop} {w w' : World} (h : KOk K w F) (hb : Below w.heap.size w w') : KOk K w' F := ⟨fun k hk => Nat.lt_of_lt_of_le (h.lt k hk) hb.size, h.env.below hb, h.fv⟩
theorem KOk.step {K F F' : Nat → Prop} {w w' : World} {p : Nat} {d : PD} (h : KOk K w F) (st : Step w p F d F' w') : KOk K w' F' :=
  ⟨fun k hk => Nat.lt_of_lt_of_le (h.lt k hk) st.turn.size, h.env.same (fun k hk => st.turn.block k (h.env.lt hk) (fun hf => h.fv k hf hk)), fun k hk hv => by
    rcases st.sub k hk with h' | h'
    · exact h.fv k h' hv
    · have := h.env.lt hv; omega⟩
/-- A disk in blocks that are not of K. -/
def DkOff (K : Nat → Prop) (w : World) (p : Nat) (d : PD) : Prop := ∃ F, DiskOf w p d F ∧ (∀ k, F k → ¬ K k) ∧ KOk K w F
theorem DkOff.below {K : Nat → Prop} {w w' : World} {p : Nat} {d : PD} (h : DkOff K w p d) (hb : Below w.heap.size w w') : DkOff K w' p d := by
  obtain ⟨F, h1, h2, h3⟩ := h
  exact ⟨F, h1.below hb, h2, h3.below hb⟩
theorem DkOff.calls {K : Nat → Prop} {w : World} {p : Nat} {d d' : PD} {fa : Nat} {args : Array Value} {v : Value} (h : DkOff K w p d)
    (hc : ∀ F, DiskOf w p d F → Calls Tryz.prog fa args w fun r w' => r = .returned v ∧ Moves w p F d' w') :
    Calls Tryz.prog fa args w fun r w' => r = .returned v ∧ DkOff K w' p d' ∧ Kept K w w' := by
  obtain ⟨F, h1, h2, h3⟩ := h
  refine (hc F h1).mono ?_
  rintro r w' ⟨rfl, hm⟩
  obtain ⟨F', hs⟩ := hm.step
  exact ⟨rfl, ⟨F', hs.disk, hs.off h2 h3, h3.step hs⟩, hs.kept h2⟩

end Go.Proofs.YthpamdjgkmaleaaGreatDoor

namespace Go.Proofs.YthpamdjgkmaleaaGreatDoor
open Go.RowKit
set_option linter.unusedVariables false

theorem sane_new : Sane PD.new := ⟨by simp [PD.new], by simp [PD.new], by simp [PD.new], by simp [PD.new], by simp [PD.new], by simp [PD.new], by simp [PD.new, totF]⟩
/-- A new disk, off what was there. -/
theorem new_off {w : World} (E : Env w) : Calls Tryz.prog 11 #[] w fun r w' => ∃ p, r = .returned (.pointer (some ⟨p, 0, none⟩)) ∧ DkOff (fun k => k < w.heap.size) w' p PD.new ∧ Below w.heap.size w w' := by
  refine (new_disk w).mono ?_
  rintro r w' ⟨p, F, rfl, h1, h2, h3⟩
  exact ⟨p, rfl, ⟨F, h1, fun k hk h => by have := h2 k hk; omega, ⟨fun k hk => Nat.lt_of_lt_of_le hk h3.size, E.below h3, fun k hk hv => by have := h2 k hk; have := E.lt hv; omega⟩⟩, h3⟩
theorem own_blk {w : World} {b n m : Nat} {a : Option Addr} {c : Nat} {xs : List Value} {t : TypeId} {sz : Nat} (h : w.ownsRow b t sz (.slice a n c) m xs) {e : Addr} (he : a = some e) : (Value.slice a n c).ownBlock = some e.block ∧ b ≤ e.block ∧ e.block < w.heap.size := by
  rcases h.2 with ⟨e', _⟩ | ⟨g, cap, cur, e', h1, _⟩
  · subst he; cases e'
  · subst he
    cases e'
    exact ⟨rfl, h1, (h.lt g rfl).2⟩
/-- The cells of a file alone. -/
theorem file_one {w : World} {b : Nat} {a : Option Addr} {c : Nat} {f : PF} (h : w.ownsRow b 44 3 (.slice a 1 c) 1 (fileCells f)) : ∃ q, a = some ⟨q, 0, none⟩ ∧ ∀ j u, (fileCells f)[j]? = some u → w.cell? ⟨q, j, none⟩ = some u := by
  rcases h.2 with ⟨_, h0⟩ | ⟨g, cap, cur, he, _⟩
  · cases h0
  · obtain ⟨rfl, rfl⟩ : a = some ⟨g, 0, none⟩ ∧ c = cap := by simpa using he
    refine ⟨g, rfl, fun j u hu => ?_⟩
    have hj : j < 1 * 3 := (List.getElem?_eq_some_iff.1 hu).1
    rw [h.cellAt j hj]
    exact hu
def saneB (d : PD) : Bool := decide (d.files.length ≤ 1000) && d.files.all (fun f => decide (f.name.length ≤ 24) && decide (f.synced ≤ f.bytes.length)) && decide (-1 ≤ d.fuse) && decide (d.fuse ≤ 9223372036854775807) && decide (0 ≤ d.room) && decide (d.room + totF d.files ≤ 4194304)
theorem sane_of {d : PD} (h : saneB d = true) : Sane d := by
  simp only [saneB, Bool.and_eq_true, decide_eq_true_eq, List.all_eq_true] at h
  obtain ⟨⟨⟨⟨⟨h1, h2⟩, h3⟩, h4⟩, h5⟩, h6⟩ := h
  exact ⟨h1, fun f hf => (h2 f hf).1, fun f hf => (h2 f hf).2, h3, h4, h5, h6⟩
theorem DkOff.weak {K K' : Nat → Prop} {w : World} {p : Nat} {d : PD} (h : DkOff K w p d) (hK : ∀ k, K' k → K k) : DkOff K' w p d := by
  obtain ⟨F, h1, h2, h3⟩ := h
  exact ⟨F, h1, fun k hk h => h2 k hk (hK k h), fun k hk => h3 k (hK k hk), h3.env, h3.fv⟩
theorem DkOff.app {K : Nat → Prop} {w : World} {p : Nat} {d d' : PD} {nm s : List UInt8} (h : DkOff K w p d) (hs : Sane d) (h1 : nm.length ≤ 100) (h2 : s.length ≤ 100) (ha : d.append nm s = (d', 0)) :
    Calls Tryz.prog 19 #[.pointer (some ⟨p, 0, none⟩), .string (B nm), .string (B s)] w fun r w' => r = .returned (.int .i64 0) ∧ DkOff K w' p d' ∧ Kept K w w' := by
  have r0 := hs.room0
  have r1 := hs.room1
  refine h.calls fun F hF => ?_
  have := append_any hF nm s (by omega) (by omega) r0 (by omega) hs.fuse0 hs.fuse1
  rw [ha] at this
  exact this
theorem DkOff.rem {K : Nat → Prop} {w : World} {p : Nat} {d d' : PD} {nm : List UInt8} (h : DkOff K w p d) (hs : Sane d) (h1 : nm.length ≤ 100) (ha : d.remove nm = (d', 0)) :
    Calls Tryz.prog 22 #[.pointer (some ⟨p, 0, none⟩), .string (B nm)] w fun r w' => r = .returned (.int .i64 0) ∧ DkOff K w' p d' ∧ Kept K w w' := by
  have r0 := hs.room0
  have r1 := hs.room1
  refine h.calls fun F hF => ?_
  have := remove_any hF nm (by unfold maxLen; omega) r0 (by omega)
  rw [ha] at this
  exact this
theorem file_row {w : World} {b n : Nat} {a : Option Addr} {c : Nat} {xs : List Value} (h : w.ownsRow b 44 3 (.slice a n c) n xs) (h0 : 0 < n) : ∃ q, a = some ⟨q, 0, none⟩ ∧ ∀ j u, xs[j]? = some u → w.cell? ⟨q, j, none⟩ = some u := by
  have hx := h.1
  rcases h.2 with ⟨_, h1⟩ | ⟨g, cap, cur, he, _⟩
  · omega
  · obtain ⟨rfl, rfl⟩ : a = some ⟨g, 0, none⟩ ∧ c = cap := by simpa using he
    refine ⟨g, rfl, fun j u hu => ?_⟩
    have hj : j < n * 3 := by have := (List.getElem?_eq_some_iff.1 hu).1; omega
    rw [h.cellAt j hj]
    exact hu
theorem Kept.cell {K : Nat → Prop} {w w' : World} (h : Kept K w w') {ad : Addr} {v : Value} (hc : w.cell? ad = some v) (hK : K ad.block) : w'.cell? ad = some v :=
  (World.cell?_of_block (h.heap (World.block_lt_of_cell? w _ hc) hK)).trans hc
theorem blk_of {a : Option Addr} {k c j : Nat} (h : (Value.slice a k c).ownBlock = some j) : ∃ b, a = some b ∧ j = b.block := by
  cases a with
  | none => cases h
  | some b => exact ⟨b, rfl, by simpa [Value.ownBlock] using h.symm⟩
theorem own_nil {w : World} {b n m : Nat} {a : Option Addr} {c : Nat} {xs : List Value} {t : TypeId} {sz : Nat} (h : w.ownsRow b t sz (.slice a n c) m xs) : a = none → c = 0 := by
  intro ha
  rcases h.2 with ⟨e, _⟩ | ⟨g, cap, cur, e, _⟩
  · cases e; rfl
  · subst ha; cases e
theorem DkOff.env {K w p d} (h : DkOff K w p d) : Env w := by
  obtain ⟨_, _, _, h⟩ := h
  exact h.env
/-- What a turned bit leaves. -/
def shape (f : PF) : List UInt8 × Nat × Nat := (f.name, f.synced, f.bytes.length)
theorem turnF_shape (g : UInt8 → UInt8) : ∀ (l : List PF) (a : Nat) (l' : List PF), turnF a g l = some l' → l'.map shape = l.map shape
  | [], a, l', h => by cases h
  | f :: r, a, l', h => by
    rw [turnF] at h
    by_cases hlt : a < f.bytes.length
    · rw [if_pos hlt] at h
      cases h
      simp [shape]
    · rw [if_neg hlt] at h
      cases ht : turnF (a - f.bytes.length) g r with
      | none => rw [ht] at h; cases h
      | some r' =>
        rw [ht] at h
        cases h
        rw [List.map_cons, List.map_cons, turnF_shape g r _ r' ht]
theorem shape_tot : ∀ {l l' : List PF}, l'.map shape = l.map shape → totF l' = totF l
  | [], [], _ => rfl
  | f :: r, f' :: r', h => by
    rw [List.map_cons, List.map_cons, List.cons.injEq] at h
    rw [totF_cons, totF_cons, shape_tot h.2]
    have := congrArg (fun x => x.2.2) h.1
    simp only [shape] at this
    omega
  | [], _ :: _, h => by cases h
  | _ :: _, [], h => by cases h
theorem shape_sane {d d' : PD} (h : Sane d) (hs : d'.files.map shape = d.files.map shape) (hf : d'.fuse = d.fuse) (hr : d'.room = d.room) : Sane d' := by
  have hl : d'.files.length = d.files.length := by have := congrArg List.length hs; simpa using this
  have hm : ∀ f ∈ d'.files, ∃ g ∈ d.files, shape f = shape g := fun f hfm => by
    have : shape f ∈ d.files.map shape := by rw [← hs]; exact List.mem_map_of_mem hfm
    obtain ⟨g, hg, he⟩ := List.mem_map.1 this
    exact ⟨g, hg, he.symm⟩
  refine ⟨by rw [hl]; exact h.few, fun f hfm => ?_, fun f hfm => ?_, by rw [hf]; exact h.fuse0, by rw [hf]; exact h.fuse1, by rw [hr]; exact h.room0, by rw [hr, shape_tot hs]; exact h.room1⟩
  · obtain ⟨g, hg, he⟩ := hm f hfm
    have := congrArg (fun x => x.1) he
    simp only [shape] at this
    rw [this]; exact h.names g hg
  · obtain ⟨g, hg, he⟩ := hm f hfm
    have h1 := congrArg (fun x => x.2.1) he
    have h2 := congrArg (fun x => x.2.2) he
    simp only [shape] at h1 h2
    rw [h1, h2]; exact h.synced g hg
theorem DkOff.files {K : Nat → Prop} {w : World} {p : Nat} {d : PD} (h : DkOff K w p d) (hs : Sane d) :
    Calls Tryz.prog 16 #[.pointer (some ⟨p, 0, none⟩)] w fun r w' => ∃ a c, r = .returned (.slice a d.files.length c) ∧ w'.ownsRow w.heap.size 44 3 (.slice a d.files.length c) d.files.length (d.files.flatMap fileCells) ∧ Below w.heap.size w w' := by
  obtain ⟨F, h1, _, _⟩ := h
  refine (files_any h1 (by have := hs.few; omega) (fun f hf => by have := hs.names f hf; omega)).mono ?_
  rintro r w' ⟨u, rfl, ho, hb⟩
  obtain ⟨a, c, rfl⟩ := row_val ho
  exact ⟨a, c, rfl, ho, hb⟩
/-- K, and the block of a slice. -/
abbrev andOf (K : Nat → Prop) (a : Option Addr) : Nat → Prop := fun k => K k ∨ ∃ b, a = some b ∧ k = b.block
theorem DkOff.on {K : Nat → Prop} {w : World} {p : Nat} {d : PD} (h : DkOff K w p d) : Calls Tryz.prog 15 #[.pointer (some ⟨p, 0, none⟩)] w fun r w' => r = .returned (.int .i64 0) ∧ DkOff K w' p d.start ∧ Kept K w w' :=
  h.calls fun F hF => start_any hF
/-- The cells of a file among files. -/
theorem files_cell : ∀ (l : List PF) (j k : Nat) (hj : j < l.length) (hk : k < 3), (l.flatMap fileCells)[3 * j + k]? = (fileCells l[j])[k]?
  | [], j, k, hj, _ => by simp at hj
  | f :: r, 0, k, hj, hk => by
    rw [List.flatMap_cons, List.getElem?_append_left (by simp [fileCells]; omega)]
    simp
  | f :: r, j + 1, k, hj, hk => by
    rw [List.flatMap_cons, List.getElem?_append_right (by simp [fileCells]; omega)]
    have : 3 * (j + 1) + k - (fileCells f).length = 3 * j + k := by simp [fileCells]; omega
    rw [this, files_cell r j k (by simpa using hj) hk]
    simp
theorem DkOff.more {K K' : Nat → Prop} {w w' : World} {p : Nat} {d : PD} (h : DkOff K w p d) (hb : Below w.heap.size w w') (hK : ∀ k, K' k → K k ∨ w.heap.size ≤ k) (hs : ∀ k, K' k → k < w'.heap.size) : DkOff K' w' p d := by
  obtain ⟨F, h1, h2, h3⟩ := h
  exact ⟨F, h1.below hb, fun k hk hk' => (hK k hk').elim (h2 k hk) (fun h => by have := h1.lt hk; omega), ⟨hs, h3.env.below hb, h3.fv⟩⟩
/-- The cells of a file, in a row of files. -/
theorem row_file {w : World} {b : Nat} {a : Option Addr} {c : Nat} {fs : List PF} (h : w.ownsRow b 44 3 (.slice a fs.length c) fs.length (fs.flatMap fileCells)) (h0 : 0 < fs.length) : ∃ q, a = some ⟨q, 0, none⟩ ∧ ∀ j (hj : j < fs.length),
    w.cell? ⟨q, 3 * j, none⟩ = some (.string (B fs[j].name)) ∧ w.cell? ⟨q, 3 * j + 1, none⟩ = some (.string (B fs[j].bytes)) ∧ w.cell? ⟨q, 3 * j + 2, none⟩ = some (.int .i64 fs[j].synced) := by
  rcases h.2 with ⟨_, h1⟩ | ⟨g, cap, cur, he, _⟩
  · omega
  · obtain ⟨rfl, rfl⟩ : a = some ⟨g, 0, none⟩ ∧ c = cap := by simpa using he
    refine ⟨g, rfl, fun j hj => ⟨?_, ?_, ?_⟩⟩
    · have := files_cell fs j 0 hj (by decide)
      rw [h.cellAt (3 * j) (by omega)]
      simpa [fileCells] using this
    · have := files_cell fs j 1 hj (by decide)
      rw [h.cellAt (3 * j + 1) (by omega)]
      simpa [fileCells] using this
    · have := files_cell fs j 2 hj (by decide)
      rw [h.cellAt (3 * j + 2) (by omega)]
      simpa [fileCells] using this
theorem bitX_ne (k : Nat) (hk : k < 8) (b : UInt8) : bitX k b ≠ b := by
  intro h
  have h2 := congrArg (fun x => x ^^^ b) h
  simp only [bitX] at h2
  have e1 : (b ^^^ UInt8.ofNat (2 ^ k)) ^^^ b = UInt8.ofNat (2 ^ k) := by
    rw [UInt8.xor_comm b, UInt8.xor_assoc, UInt8.xor_self, UInt8.xor_zero]
  rw [e1, UInt8.xor_self] at h2
  have h3 := congrArg UInt8.toNat h2
  match k, hk with
  | 0, _ | 1, _ | 2, _ | 3, _ | 4, _ | 5, _ | 6, _ | 7, _ => revert h3; decide

end Go.Proofs.YthpamdjgkmaleaaGreatDoor
