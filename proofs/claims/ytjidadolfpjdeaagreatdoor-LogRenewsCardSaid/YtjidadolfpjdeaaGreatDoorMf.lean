/-
Package log over this translation: Open.
Package log over this translation: Open, whole; the log's calls as a LogSpec.
The landed log's calls are those of a LogSpec.
What a row's list of variables gives a walk; and a start that meets it.
The arguments of the laws of layer 5, as a walk is told of them.
-/
import Derived.Test.YtjidadolfpjdeaaGreatDoorMe
import Derived.Test.YtjidadolfpjdeaaGreatDoorLgRead
import Derived.Test.YtjidadolfpjdeaaGreatDoorMl
import Derived.Test.YtjidadolfpjdeaaGreatDoorRows
import Derived.Test.YtjidadolfpjdeaaGreatDoorFrSame
import Derived.Stop.LaidErr
import Derived.LaidMore
import Derived.LaidHandle
import Derived.Deep.Strs
import Derived.SevenTiedAt
import Derived.Stop.Joined
namespace Go.Proofs.YtjidadolfpjdeaaGreatDoor
open Go.RowKit
set_option linter.unusedVariables false

variable {w w' : World} {xb p last count : Nat} {d : PD} {F : Nat → Prop}

theorem number_le (nm : List UInt8) : numberL nm ≤ 99999999 := by
  cases nm with
  | nil => exact Nat.zero_le _
  | cons c s =>
    rw [number_cons]
    split
    · rename_i h
      have := val_lt h.2.1 h.2.2
      omega
    · exact Nat.zero_le _
theorem segs_tot : ∀ l : List PF, totS (segsL l) ≤ totF l
  | [] => Nat.le_refl _
  | f :: r => by
    have h := segs_tot r
    rw [segsL_cons, totF_cons]
    unfold totS at h ⊢
    rw [List.map_append, List.sum_append]
    by_cases h0 : 0 < numberL f.name
    · rw [if_pos h0]; simp; omega
    · rw [if_neg h0]; simp; omega
theorem segs_few (l : List PF) : (segsL l).length ≤ l.length := List.length_filterMap_le _ _
theorem cut_found {nm : List UInt8} {f : PF} {k : Nat} (hd : d.dead = false) (hf : d.find nm = some f) (h1 : f.synced ≤ k) (h2 : k ≤ f.bytes.length) :
    (d.cut nm k).2 = 0 ∧ (d.cut nm k).1.dead = false ∧ (d.cut nm k).1.files.map PF.name = d.files.map PF.name := by
  have e : d.cut nm k = ({ d with files := setF nm (fun f => { f with bytes := f.bytes.take k }) d.files, room := d.room + (f.bytes.length - k) }, 0) := by
    unfold PD.cut PD.within
    rw [if_neg (by simp [hd]), hf]
    simp only
    rw [if_neg (by omega)]
    rfl
  rw [e]
  exact ⟨rfl, hd, setF_names nm (fun f => { f with bytes := f.bytes.take k }) (fun _ => rfl) d.files⟩

/-! ### Open's first step -/
/-- What it reads. -/
def O1S (lb xb p sb wb : Nat) (nm : List UInt8) (k : Nat) (w : World) : Prop :=
  w.cell? ⟨lb, 0, none⟩ = some (.pointer (some ⟨xb, 0, none⟩)) ∧ w.cell? ⟨xb, 0, none⟩ = some (.pointer (some ⟨p, 0, none⟩)) ∧ w.cell? ⟨sb, 0, none⟩ = some (.string (B nm)) ∧ w.cell? ⟨wb, 0, none⟩ = some (.int .i64 k)
theorem O1S.same {lb sb wb k : Nat} {nm : List UInt8} (h : O1S lb xb p sb wb nm k w) (h1 : w'.heap[lb]? = w.heap[lb]?) (h2 : w'.heap[xb]? = w.heap[xb]?) (h3 : w'.heap[sb]? = w.heap[sb]?) (h4 : w'.heap[wb]? = w.heap[wb]?) : O1S lb xb p sb wb nm k w' :=
  ⟨(World.cell?_of_block (a := ⟨lb, 0, none⟩) h1).trans h.1, (World.cell?_of_block (a := ⟨xb, 0, none⟩) h2).trans h.2.1, (World.cell?_of_block (a := ⟨sb, 0, none⟩) h3).trans h.2.2.1, (World.cell?_of_block (a := ⟨wb, 0, none⟩) h4).trans h.2.2.2⟩
theorem O1S.lt {lb sb wb k : Nat} {nm : List UInt8} (h : O1S lb xb p sb wb nm k w) : lb < w.heap.size ∧ xb < w.heap.size ∧ sb < w.heap.size ∧ wb < w.heap.size :=
  ⟨World.block_lt_of_cell? _ _ h.1, World.block_lt_of_cell? _ _ h.2.1, World.block_lt_of_cell? _ _ h.2.2.1, World.block_lt_of_cell? _ _ h.2.2.2⟩

set_option maxRecDepth 100000 in
set_option maxHeartbeats 2000000 in
theorem open1_any {lb sb wb k : Nat} {nm : List UInt8} (h : LogM w xb p d F last count) (hS : O1S lb xb p sb wb nm k w) (n1 : ¬ F lb) (n2 : ¬ F sb) (n3 : ¬ F wb) (hl : nm.length ≤ maxLen) (hb : Bnd d) :
    Calls Tryz.prog 27 #[.pointer (some ⟨lb, 0, none⟩), .pointer (some ⟨sb, 0, none⟩), .pointer (some ⟨wb, 0, none⟩)] w fun r w' => r = .returned (.int .i64 (d.cut nm k).2) ∧ LogOut w xb p F (d.cut nm k).1 last count w' := by
  have r0 := hb.room0
  have r1 := hb.room1
  have hc := cut_any (h.drew).disk nm hl (k : Int) hb.room0 (by omega)
  have hS0 : O1S lb xb p sb wb nm k w.drew := hS
  have hlt := hS.lt
  have HM := Lib.hid h
  have HC := Lib.hid hc
  have HS := Lib.hid hS0
  have hkeep : ∀ w2 : World, Moves w.drew p F (d.cut nm k).1 w2 → O1S lb xb p sb wb nm k w2 := by
    rintro w2 ⟨F', m1, m2, m3⟩
    exact hS0.same (m3.block lb hlt.1 n1) (m3.block xb hlt.2.1 h.nf) (m3.block sb hlt.2.2.1 n2) (m3.block wb hlt.2.2.2 n3)
  have HK := Lib.hid hkeep
  clear hc h hS hkeep
  go_enter Tryz.func27, Tryz.ntmps27
  go_upto_region 1 with fail
  refine wp_region_held_drew (S := O1S lb xb p sb wb nm k) (by kernel_rfl) (hS0) (fun hHeld => ?_)
  refine take_run (i := 0) (v := ?_) rfl (by kernel_rfl) (by kernel_rfl) (by kernel_rfl) (fun _ _ _ h => h) (by kernel_rfl) ?_ (by assumption) ?_
  rotate_left
  · (intro w5 hSw; obtain ⟨s0, s1, s2, s3⟩ := hSw; go_simp); all_goals with_reducible rfl
  try simp only [Act.put, List.setIfInBounds_toArray, List.set_cons_zero, List.set_cons_succ]
  refine take_run (i := 1) (v := ?_) rfl (by kernel_rfl) (by kernel_rfl) (by kernel_rfl) (fun _ _ _ h => h) (by kernel_rfl) ?_ (by assumption) ?_
  rotate_left
  · (intro w5 hSw; obtain ⟨s0, s1, s2, s3⟩ := hSw; go_simp); all_goals with_reducible rfl
  try simp only [Act.put, List.setIfInBounds_toArray, List.set_cons_zero, List.set_cons_succ]
  refine take_run (i := 2) (v := ?_) rfl (by kernel_rfl) (by kernel_rfl) (by kernel_rfl) (fun _ _ _ h => h) (by kernel_rfl) ?_ (by assumption) ?_
  rotate_left
  · (intro w5 hSw; obtain ⟨s0, s1, s2, s3⟩ := hSw; go_simp); all_goals with_reducible rfl
  try simp only [Act.put, List.setIfInBounds_toArray, List.set_cons_zero, List.set_cons_succ]
  refine take_run (i := 3) (v := ?_) rfl (by kernel_rfl) (by kernel_rfl) (by kernel_rfl) (fun _ _ _ h => h) (by kernel_rfl) ?_ (by assumption) ?_
  rotate_left
  · (intro w5 hSw; obtain ⟨s0, s1, s2, s3⟩ := hSw; go_simp); all_goals with_reducible rfl
  try simp only [Act.put, List.setIfInBounds_toArray, List.set_cons_zero, List.set_cons_succ]
  refine take_run (i := 4) (v := ?_) rfl (by kernel_rfl) (by kernel_rfl) (by kernel_rfl) (fun _ _ _ h => h) (by kernel_rfl) ?_ (by assumption) ?_
  rotate_left
  · (intro w5 hSw; obtain ⟨s0, s1, s2, s3⟩ := hSw; go_simp); all_goals with_reducible rfl
  try simp only [Act.put, List.setIfInBounds_toArray, List.set_cons_zero, List.set_cons_succ]
  refine take_run (i := 5) (v := ?_) rfl (by kernel_rfl) (by kernel_rfl) (by kernel_rfl) (fun _ _ _ h => h) (by kernel_rfl) ?_ (by assumption) ?_
  rotate_left
  · (intro w5 hSw; obtain ⟨s0, s1, s2, s3⟩ := hSw; go_simp); all_goals with_reducible rfl
  try simp only [Act.put, List.setIfInBounds_toArray, List.set_cons_zero, List.set_cons_succ]
  refine take_run (i := 6) (v := ?_) rfl (by kernel_rfl) (by kernel_rfl) (by kernel_rfl) (fun _ _ _ h => h) (by kernel_rfl) ?_ (by assumption) ?_
  rotate_left
  · (intro w5 hSw; obtain ⟨s0, s1, s2, s3⟩ := hSw; go_simp); all_goals with_reducible rfl
  try simp only [Act.put, List.setIfInBounds_toArray, List.set_cons_zero, List.set_cons_succ]
  refine take_run (i := 7) (v := ?_) rfl (by kernel_rfl) (by kernel_rfl) (by kernel_rfl) (fun _ _ _ h => h) (by kernel_rfl) ?_ (by assumption) ?_
  rotate_left
  · (intro w5 hSw; obtain ⟨s0, s1, s2, s3⟩ := hSw; go_simp); all_goals with_reducible rfl
  try simp only [Act.put, List.setIfInBounds_toArray, List.set_cons_zero, List.set_cons_succ]
  refine take_call (i := 8) rfl (by kernel_rfl) (by kernel_rfl) (fun K hK => ?_)
  go_simp; refine HC.out.mono ?_; rintro r w2 ⟨rfl, m2⟩
  go_wp2_with fail
  clear hHeld
  refine hK.out _ _ ?_ (fun hHeld => ?_)
  · exact HK.out w2 m2
  clear hK K
  try simp only [Act.put, List.setIfInBounds_toArray, List.set_cons_zero, List.set_cons_succ]
  refine take_run (i := 9) (v := ?_) rfl (by kernel_rfl) (by kernel_rfl) (by kernel_rfl) (fun _ _ _ h => h) (by kernel_rfl) ?_ (by assumption) ?_
  rotate_left
  · (intro w5 hSw; obtain ⟨s0, s1, s2, s3⟩ := hSw; go_simp); all_goals with_reducible rfl
  try simp only [Act.put, List.setIfInBounds_toArray, List.set_cons_zero, List.set_cons_succ]
  refine wpAnyH_done (by kernel_rfl) ?_ _
  go_wp2
  go_ret
  have O2 := HM.out.drew.moves m2
  exact ⟨rfl, LogOut.before HM.out ((Below.refl _ w).drew) O2⟩

/-- Open's steps. -/
def opS (lb xb sb wb : Nat) : Nat → Nat × Array Value × Array Value
  | 0 => (27, #[], #[.pointer (some ⟨lb, 0, none⟩), .pointer (some ⟨sb, 0, none⟩), .pointer (some ⟨wb, 0, none⟩)])
  | _ => (10, #[.pointer (some ⟨xb, 0, none⟩)], #[])
def opI (W : World) (xb p : Nat) (F : Nat → Prop) (d1 d2 : PD) (last count : Nat) : Nat → World → Prop
  | 0, X => X = W
  | 1, X => LogOut W xb p F d1 last count X
  | _, X => LogOut W xb p F d2 last count X
theorem opI_turned {W X : World} {d1 d2 : PD} {i : Nat} (h : opI W xb p F d1 d2 last count i X) : Turned (fun k => F k ∨ k = xb) W X := by
  match i, h with
  | 0, h => exact h ▸ Turned.refl _ _
  | 1, ⟨_, _, _, h⟩ => exact h
  | n + 2, ⟨_, _, _, h⟩ => exact h

set_option maxRecDepth 100000 in
set_option maxHeartbeats 2000000 in
theorem open_turn {lb sb wb qb k : Nat} {f : PF} (h : LogM w xb p d F last count) (ha : LogAt d last count) (hd : d.dead = false) (hb : Bnd d) (h0 : 0 < count) (hf : d.find (nameL last) = some f) (k1 : f.synced ≤ k) (k2 : k ≤ f.bytes.length)
    (hS : O1S lb xb p sb wb (nameL last) k w) (n1 : ¬ F lb) (n2 : ¬ F sb) (n3 : ¬ F wb) (q1 : ¬ F qb) (q2 : qb ≠ xb)
    (hsl : w.heap[qb]? = some (.cells #[.func (.func 27) #[] #[.pointer (some ⟨lb, 0, none⟩), .pointer (some ⟨sb, 0, none⟩), .pointer (some ⟨wb, 0, none⟩)], .func (.func 10) #[.pointer (some ⟨xb, 0, none⟩)] #[]] 28 (0, 0))) :
    Calls Tryz.prog 29 #[.slice (some ⟨qb, 0, none⟩) 2 2] w fun r w' => r = .returned (.int .i64 0) ∧ LogOut w xb p F ((d.cut (nameL last) k).1.sync (nameL last)).1 last count w' := by
  have hsrt := h.disk.srt
  have lq := (Array.getElem?_eq_some_iff.1 hsl).1
  obtain ⟨c1, c2, c3⟩ := cut_found hd hf k1 k2
  have ha1 := ha.same c3
  obtain ⟨y1, y2, _, _, _, _, _, y3⟩ := syncL_at ha1 (hsrt.same c3) c2
  rw [if_neg (by omega)] at y3
  refine (inTurn_any (w := w) (q := qb) (n := 2) (c := 2) (I := opI w xb p F (d.cut (nameL last) k).1 ((d.cut (nameL last) k).1.sync (nameL last)).1 last count) (O := fun _ _ => False) (opS lb xb sb wb)
      (by
        intro i X hI j hj
        have hk := (opI_turned hI).block qb lq (fun hh => by
          rcases hh with hh | hh
          · exact q1 hh
          · exact q2 hh)
        rw [hsl] at hk
        rw [cell_of_row X qb j _ _ _ hk]
        match j, hj with
        | 0, _ => rfl
        | 1, _ => rfl)
      (by
        intro i hi
        match i, hi with
        | 0, _ => exact enters_of Tryz.func27 (by kernel_rfl) rfl
        | 1, _ => exact enters_of Tryz.func10 (by kernel_rfl) rfl)
      (by
        intro i X hi hI
        match i, hi, hI with
        | 0, _, hI =>
          obtain rfl : X = w := hI
          refine (open1_any h hS n1 n2 n3 (name_small _) hb).mono ?_
          rintro r X' ⟨rfl, ho⟩
          rw [c1]
          exact ⟨0, rfl, .inl ⟨rfl, ho⟩⟩
        | 1, _, hI =>
          obtain ⟨F1, M1, g2, g3⟩ := hI
          refine (lsync_any M1 ha1 c2).mono ?_
          rintro r X' ⟨rfl, ho⟩
          rw [y3] at ho
          exact ⟨0, rfl, .inl ⟨rfl, LogOut.trans (d1 := d) (last1 := last) (count1 := count) g2 g3 h.lt ho⟩⟩)
      (by decide) rfl).mono ?_
  rintro r w' ⟨e, rfl, ⟨rfl, h1⟩ | ⟨_, h1⟩⟩
  · exact ⟨rfl, h1⟩
  · exact h1.elim

end Go.Proofs.YtjidadolfpjdeaaGreatDoor

namespace Go.Proofs.YtjidadolfpjdeaaGreatDoor
open Go.RowKit
set_option linter.unusedVariables false

variable {w w' : World} {xb p last count : Nat} {d : PD} {F : Nat → Prop}

/-- At x a log on the disk d at block p, none of their blocks in K. -/
def LogG (K : Nat → Prop) (w : World) (x : Addr) (p : Nat) (d : PD) : Prop :=
  ∃ xb F last count, x = ⟨xb, 0, none⟩ ∧ LogM w xb p d F last count ∧ LogAt d last count ∧ ¬ K xb ∧ (∀ k, F k → ¬ K k) ∧ ∀ k, K k → k < w.heap.size

/-- What Open answers and leaves. -/
def OpEnd (w : World) (p : Nat) (F : Nat → Prop) (d : PD) (r : Ending) (w' : World) : Prop := ∃ x a c F',
    r = .returned (.tuple #[.pointer x, .slice a (openL d).2.1.length c, .int .i64 (openL d).2.2]) ∧ Step w p F (openL d).1 F' w' ∧
    w'.ownsRow w.heap.size 9 1 (.slice a (openL d).2.1.length c) (openL d).2.1.length (strV (openL d).2.1) ∧ (∀ b, a = some b → ¬ F' b.block) ∧
    ((openL d).2.2 ≠ 0 → x = none) ∧ ((openL d).2.2 = 0 → ∃ y, x = some y ∧ ∀ K, (∀ k, F' k → ¬ K k) → (∀ k, K k → k < w.heap.size ∨ ∃ b, a = some b ∧ k = b.block) → (∀ k, K k → k < w'.heap.size) → LogG K w' y p (openL d).1)

theorem Step.of_below (h : DiskOf w p d F) (hb : Below w.heap.size w w') : Step w p F d F w' := ⟨h.below hb, fun _ hk => .inl hk, Turned.of_below hb⟩

theorem opEnd_bad (h : DiskOf w p d F) {e : Int} (he : openL d = (d, [], e)) (h0 : e ≠ 0) (hb : Below w.heap.size w w') : OpEnd w p F d (.returned (.tuple #[.pointer none, .slice none 0 0, .int .i64 e])) w' := by
  unfold OpEnd
  rw [he]
  exact ⟨none, none, 0, F, rfl, Step.of_below h hb, World.ownsRow_nil _ _ _ _, (fun b hb => by cases hb), fun _ => rfl, fun h => absurd h h0⟩

theorem opEnd_none {x : Nat} (h : DiskOf w p d F) (E : Env w) (hv : ∀ k, F k → ¬ Vr k) (la : LogAt d 0 0) (he : openL d = (d, [], 0)) (hb : Below w.heap.size w w') (hx : w.heap.size ≤ x)
    (hc : w'.heap[x]? = some (.cells #[.pointer (some ⟨p, 0, none⟩), .int .i64 0, .int .i64 0] 52 (0, 0))) : OpEnd w p F d (.returned (.tuple #[.pointer (some ⟨x, 0, none⟩), .slice none 0 0, .int .i64 0])) w' := by
  unfold OpEnd
  rw [he]
  have hdk := h.below hb
  refine ⟨some ⟨x, 0, none⟩, none, 0, F, rfl, Step.of_below h hb, World.ownsRow_nil _ _ _ _, (fun b hb => by cases hb), fun h => absurd rfl h, fun _ => ⟨⟨x, 0, none⟩, rfl, fun K k1 k2 k3 => ⟨x, F, 0, 0, rfl, ⟨hc, hdk, fun hf => ?_, E.below hb, hv, fun hvx => ?_⟩, la, fun hk => ?_, k1, k3⟩⟩⟩
  · have := h.1 x hf; omega
  · have := E.lt hvx; omega
  · rcases k2 x hk with h' | ⟨b, hb, _⟩
    · omega
    · cases hb

theorem sync_names (hd : d.dead = false) (nm : List UInt8) : (d.sync nm).1.files.map PF.name = d.files.map PF.name := by
  cases hf : d.find nm with
  | none =>
    unfold PD.sync PD.within
    rw [if_neg (by simp [hd]), hf]
  | some f =>
    rw [sync_found hd hf]
    exact setF_names nm (fun f => { f with synced := f.bytes.length }) (fun _ => rfl) d.files

/-- The world ahead of Open's last steps. -/
def opW (w2 : World) (p : Nat) (f : PF) (n m k : Nat) : World :=
  (((((w2.alloc (.cells #[.int .i64 k] 3)).alloc (.cells #[.string (B (nameL n)), .string (B f.bytes), .int .i64 f.synced, .int .i64 n] 54)).alloc (.cells #[.pointer (some ⟨p, 0, none⟩), .int .i64 n, .int .i64 ((m : Int) + 1)] 52)).alloc
    (.cells #[.pointer (some ⟨w2.heap.size + 1 + 1, 0, none⟩)] 22)).alloc
    (.cells #[.func (.func 27) #[] #[.pointer (some ⟨w2.heap.size + 1 + 1 + 1, 0, none⟩), .pointer (some ⟨w2.heap.size + 1, 0, none⟩), .pointer (some ⟨w2.heap.size, 0, none⟩)], .func (.func 10) #[.pointer (some ⟨w2.heap.size + 1 + 1, 0, none⟩)] #[]] 28))
theorem opW_size (w2 : World) (p : Nat) (f : PF) (n m k : Nat) : (opW w2 p f n m k).heap.size = w2.heap.size + 5 := by unfold opW; simp
theorem opW_below (w2 : World) (p : Nat) (f : PF) (n m k : Nat) : Below w2.heap.size w2 (opW w2 p f n m k) := by
  unfold opW
  exact (((((Below.refl _ w2).alloc (Nat.le_refl _) _).alloc (by simp) _).alloc (by simp; omega) _).alloc (by simp; omega) _).alloc (by simp; omega) _
theorem alloc_at (w : World) (o : Obj) {k : Nat} (hk : k = w.heap.size) : (w.alloc o).heap[k]? = some o := by subst hk; exact heap_alloc_new w o
theorem alloc_old (w : World) (o : Obj) {k : Nat} (hk : k < w.heap.size) : (w.alloc o).heap[k]? = w.heap[k]? := Below.heap_alloc w o k hk
theorem opW_heap (w2 : World) (p : Nat) (f : PF) (n m k : Nat) :
    (opW w2 p f n m k).heap[w2.heap.size]? = some (.cells #[.int .i64 k] 3 (0, 0)) ∧ (opW w2 p f n m k).heap[w2.heap.size + 1]? = some (.cells #[.string (B (nameL n)), .string (B f.bytes), .int .i64 f.synced, .int .i64 n] 54 (0, 0)) ∧
    (opW w2 p f n m k).heap[w2.heap.size + 1 + 1]? = some (.cells #[.pointer (some ⟨p, 0, none⟩), .int .i64 n, .int .i64 ((m : Int) + 1)] 52 (0, 0)) ∧ (opW w2 p f n m k).heap[w2.heap.size + 1 + 1 + 1]? = some (.cells #[.pointer (some ⟨w2.heap.size + 1 + 1, 0, none⟩)] 22 (0, 0)) ∧
    (opW w2 p f n m k).heap[w2.heap.size + 1 + 1 + 1 + 1]? = some (.cells #[.func (.func 27) #[] #[.pointer (some ⟨w2.heap.size + 1 + 1 + 1, 0, none⟩), .pointer (some ⟨w2.heap.size + 1, 0, none⟩), .pointer (some ⟨w2.heap.size, 0, none⟩)], .func (.func 10) #[.pointer (some ⟨w2.heap.size + 1 + 1, 0, none⟩)] #[]] 28 (0, 0)) := by
  unfold opW
  refine ⟨?_, ?_, ?_, ?_, ?_⟩
  · rw [alloc_old _ _ (by simp <;> omega), alloc_old _ _ (by simp <;> omega), alloc_old _ _ (by simp <;> omega), alloc_old _ _ (by simp)]
    exact alloc_at _ _ rfl
  · rw [alloc_old _ _ (by simp <;> omega), alloc_old _ _ (by simp <;> omega), alloc_old _ _ (by simp)]
    exact alloc_at _ _ (by simp)
  · rw [alloc_old _ _ (by simp <;> omega), alloc_old _ _ (by simp)]
    exact alloc_at _ _ (by simp)
  · rw [alloc_old _ _ (by simp)]
    exact alloc_at _ _ (by simp)
  · exact alloc_at _ _ (by simp)

theorem open_last {w2 : World} {f : PF} {n m k : Nat} (h : DiskOf w p d F) (E : Env w) (hv : ∀ k, F k → ¬ Vr k) (B2 : Below w.heap.size w w2) (la : LogAt d n (m + 1)) (hd : d.dead = false) (hb : Bnd d) (hf : d.find (nameL n) = some f) (k1 : f.synced ≤ k) (k2 : k ≤ f.bytes.length) :
    Calls Tryz.prog 29 #[.slice (some ⟨w2.heap.size + 1 + 1 + 1 + 1, 0, none⟩) 2 2] (opW w2 p f n m k) fun r w' => r = .returned (.int .i64 0) ∧ LogOut (opW w2 p f n m k) (w2.heap.size + 1 + 1) p F ((d.cut (nameL n) k).1.sync (nameL n)).1 n (m + 1) w' ∧ Below w.heap.size w (opW w2 p f n m k) ∧ (opW w2 p f n m k).heap.size = w2.heap.size + 5 := by
  obtain ⟨e1, e2, e3, e4, e5⟩ := opW_heap w2 p f n m k
  have hB := B2.trans ((opW_below w2 p f n m k).mono B2.size)
  have hs := opW_size w2 p f n m k
  have hsz := B2.size
  have hF : ∀ k, w.heap.size ≤ k → ¬ F k := fun k hk => h.nil_free hk
  have hV : ∀ k, w.heap.size ≤ k → ¬ Vr k := fun k hk hv => by have := E.lt hv; omega
  rw [show ((m : Int) + 1) = ((m + 1 : Nat) : Int) from by omega] at e3
  have hM : LogM (opW w2 p f n m k) (w2.heap.size + 1 + 1) p d F n (m + 1) := ⟨e3, h.below hB, hF _ (by omega), E.below hB, hv, hV _ (by omega)⟩
  refine (open_turn (lb := w2.heap.size + 1 + 1 + 1) (sb := w2.heap.size + 1) (wb := w2.heap.size) (qb := w2.heap.size + 1 + 1 + 1 + 1) (k := k) hM la hd hb (by omega) hf k1 k2 ⟨?_, hM.c0, ?_, ?_⟩ (hF _ (by omega)) (hF _ (by omega)) (hF _ (by omega)) (hF _ (by omega)) (by omega) e5).mono ?_
  · rw [cell_of_row _ _ 0 _ _ _ e4]; rfl
  · rw [cell_of_row _ _ 0 _ _ _ e2]; rfl
  · rw [cell_of_row _ _ 0 _ _ _ e1]; rfl
  · rintro r w' ⟨rfl, ho⟩
    exact ⟨rfl, ho, hB, hs⟩
theorem open_box {w2 w9 : World} {f : PF} {n m k n' c' : Nat} {d' : PD} (h : DiskOf w p d F) (B2 : Below w.heap.size w w2) (ho : LogOut (opW w2 p f n m k) (w2.heap.size + 1 + 1) p F d' n' c' w9) : w9.cell? ⟨w2.heap.size + 1 + 1 + 1, 0, none⟩ = some (.pointer (some ⟨w2.heap.size + 1 + 1, 0, none⟩)) := by
  obtain ⟨_, _, _, t⟩ := ho
  obtain ⟨_, _, _, e4, _⟩ := opW_heap w2 p f n m k
  have hs := opW_size w2 p f n m k
  have hsz := B2.size
  have := t.block (w2.heap.size + 1 + 1 + 1) (by omega) (fun hh => by
    rcases hh with hh | hh
    · exact h.nil_free (by omega) hh
    · omega)
  rw [e4] at this
  rw [cell_of_row _ _ 0 _ _ _ this]
  rfl
theorem open_row {w1 w2 : World} {f : PF} {n m k : Nat} {a : Option Addr} {c : Nat} {rs : List Rec} (o2 : w2.ownsRow w1.heap.size 9 1 (.slice a rs.length c) rs.length (strV rs)) (hb : w.heap.size ≤ w1.heap.size) : (opW w2 p f n m k).ownsRow w.heap.size 9 1 (.slice a rs.length c) rs.length (strV rs) :=
  own_low (own_below o2 (opW_below w2 p f n m k)) hb

theorem opEnd_some {W : World} {x n cnt : Nat} {a : Option Addr} {c : Nat} {rs : List Rec} {d' : PD} (h : DiskOf w p d F) (E : Env w) (hv : ∀ k, F k → ¬ Vr k) (he : openL d = (d', rs, 0)) (hb : Below w.heap.size w W) (hx : w.heap.size ≤ x)
    (ha : ∀ b, a = some b → b.block < x) (row : W.ownsRow w.heap.size 9 1 (.slice a rs.length c) rs.length (strV rs)) (ho : LogOut W x p F d' n cnt w') (la : LogAt d' n cnt) :
    OpEnd w p F d (.returned (.tuple #[.pointer (some ⟨x, 0, none⟩), .slice a rs.length c, .int .i64 0])) w' := by
  obtain ⟨F', M, s1, s2⟩ := ho
  have hsz := hb.size
  have hblk : ∀ b, a = some b → w.heap.size ≤ b.block ∧ b.block < W.heap.size := fun b hb => row.lt b.block (by rw [hb]; rfl)
  unfold OpEnd
  rw [he]
  refine ⟨some ⟨x, 0, none⟩, a, c, F', rfl, ⟨M.disk, fun k hk => ?_, ⟨s2.os.trans hb.os, s2.tape.trans hb.tape, s2.output.trans hb.output, Nat.le_trans hsz s2.size, fun k hk hn => ?_⟩⟩, ?_, fun b hb hf => ?_, fun h => absurd rfl h, fun _ => ⟨⟨x, 0, none⟩, rfl, fun K k1 k2 k3 => ⟨x, F', n, cnt, rfl, M, la, fun hk => ?_, k1, k3⟩⟩⟩
  · exact (s1 k hk).imp id (fun h => Nat.le_trans hsz h)
  · exact (s2.block k (by omega) (fun hh => by
      rcases hh with hh | hh
      · exact hn hh
      · omega)).trans (hb.block k hk)
  · refine ownsRow_same row (fun k hk => ?_)
    have hk2 : ∃ b, a = some b ∧ k = b.block := by
      cases a with
      | none => cases hk
      | some b => exact ⟨b, rfl, by simpa [Value.ownBlock] using hk.symm⟩
    obtain ⟨b, hb1, rfl⟩ := hk2
    have h1 := hblk b hb1
    have h2 := ha b hb1
    refine s2.block _ h1.2 (fun hh => ?_)
    rcases hh with hh | hh
    · exact h.nil_free h1.1 hh
    · omega
  · have h1 := hblk b hb
    rcases s1 _ hf with h2 | h2
    · exact h.nil_free h1.1 h2
    · omega
  · rcases k2 x hk with h' | ⟨b, hb1, h2⟩
    · omega
    · have := ha b hb1; omega

set_option maxRecDepth 100000 in
set_option maxHeartbeats 8000000 in
theorem lopen_any (h : DiskOf w p d F) (E : Env w) (hv : ∀ k, F k → ¬ Vr k) (hs : Sane d) :
    Calls Tryz.prog 8 #[.pointer (some ⟨p, 0, none⟩)] w fun r w' => OpEnd w p F d r w' := by
  have hde := dead_any h
  have HD := Lib.hid hde
  have HH := Lib.hid h
  clear hde
  by_cases hd : d.dead = true
  · have he : openL d = (d, [], 8) := by unfold openL; rw [if_pos hd]
    rw [hd] at HD
    go_enter Tryz.func8, Tryz.ntmps8
    go_wp2_with (go_at_call 16; refine HD.out.mono ?_; rintro r w1 ⟨rfl, rfl⟩)
    go_ret3
    exact opEnd_bad HH.out he (by decide) (Below.refl _ _)
  · have hd : d.dead = false := by simpa using hd
    rw [hd] at HD
    have hsg := segments_any E h (by have := hs.few; omega) (fun f hf => by have := hs.names f hf; omega)
    have hfew := segs_few d.files
    have htot := segs_tot d.files
    have h4 := hs.few
    have h5 := hs.room0
    have h6 := hs.room1
    have hrd := fun (v : Value) (w1 : World) (o : w1.ownsRow w.heap.size 54 4 v (segsL d.files).length (segV (segsL d.files))) => read_any o (by omega) (fun x hx => by obtain ⟨m1, m2, m3, m4⟩ := segsL_mem (n := x.1) (f := x.2) hx; rw [← m3]; exact number_le _) (fun x hx => hs.synced _ (segsL_mem (n := x.1) (f := x.2) hx).1) (by omega)
    by_cases hok : okSegs (segsL d.files)
    · by_cases hne : segsL d.files = []
      · have he : openL d = (d, [], 0) := by rw [open_ok hd hs.synced hok, hne]; rfl
        rw [hne] at hsg hrd
        have hrd2 := fun (v : Value) (w1 : World) (o : w1.ownsRow w.heap.size 54 4 v ([] : List (Nat × PF)).length (segV [])) => (hrd v w1 o).mono (fun r w' (h : ReadEnd _ _ _ _) => show ∃ a c, r = .returned (.tuple #[.slice a 0 c, .int .i64 0, .bool true]) ∧ Below w1.heap.size w1 w' from by
          obtain ⟨a, c, hb, ⟨_, h1, _⟩ | ⟨h1, _⟩⟩ := h
          · exact ⟨a, c, h1, hb⟩
          · exact absurd (fun i hi => by simp at hi) h1)
        have la : LogAt d 0 0 := ⟨by rw [← segsL_N, hne]; rfl, Nat.le_refl _, by decide, fun _ => rfl⟩
        have HS := Lib.hid hsg
        have HR := Lib.hid hrd2
        clear hsg hrd hrd2
        go_enter Tryz.func8, Tryz.ntmps8
        go_wp2_with (first
          | (go_at_call 16; refine HD.out.mono ?_; rintro r w1 ⟨rfl, rfl⟩)
          | (go_at_call 25; refine HS.out.mono ?_; rintro r w1 ⟨v1, rfl, o1, b1⟩; obtain ⟨a1, c1, rfl⟩ := row_form o1)
          | (go_at_call 26; refine (HR.out _ _ o1).mono ?_; rintro r w2 ⟨a2, c2, rfl, b2⟩; have B2 := b1.trans (b2.mono b1.size)))
        go_ret3
        have B3 : Below w.heap.size w (w2.alloc (.cells #[.int .i64 0] 3)) := B2.alloc B2.size _
        have s3 : (w2.alloc (.cells #[.int .i64 0] 3)).heap.size = w2.heap.size + 1 := by simp
        have hw2 := B2.size
        have hc := heap_alloc_new (w2.alloc (.cells #[.int .i64 0] 3)) (.cells #[.pointer (some ⟨p, 0, none⟩), .int .i64 0, .int .i64 0] 52)
        rw [s3] at hc
        exact opEnd_none HH.out E hv la he (B3.alloc B3.size _) (by omega) hc
      · obtain ⟨n, f, hg, la⟩ := open_at hok hne
        obtain ⟨m, hlen⟩ : ∃ m, (segsL d.files).length = m + 1 := ⟨(segsL d.files).length - 1, by have := List.length_pos_iff.2 hne; omega⟩
        have hLm : (segsL d.files)[m]? = some (n, f) := by rw [List.getLast?_eq_getElem?, hlen] at hg; exact hg
        have hLm' : (segsL d.files)[m]'(by omega) = (n, f) := by
          have := List.getElem?_eq_some_iff.1 hLm
          exact this.2
        obtain ⟨m1, m2, m3, m4⟩ := segsL_mem (List.mem_of_getLast? hg)
        have hmx := la.max
        rw [hlen] at la hsg hrd
        obtain ⟨f2, g1, g2, g3, hfind⟩ := la.last h.srt (by omega)
        obtain rfl : f2 = f := by rw [hg] at g1; cases g1; rfl
        have hgood := (hok m (by omega)).2.1
        rw [hLm'] at hgood
        have hsy := hs.synced f2 m1
        obtain ⟨kk1, kk2⟩ : f2.synced ≤ (splitL f2.bytes 0).2.1 ∧ (splitL f2.bytes 0).2.1 ≤ f2.bytes.length := by
          refine ⟨?_, split_le f2.bytes f2.bytes.length 0 (by omega) (by omega)⟩
          have hp := split_parts (a := f2.bytes.take f2.synced) (b := f2.bytes.drop f2.synced) (by simpa [goodSeg] using hgood)
          rw [List.take_append_drop, List.length_take] at hp
          rw [hp]
          simp only
          omega
        have he : openL d = (((d.cut (nameL n) (splitL f2.bytes 0).2.1).1.sync (nameL n)).1, recsOf (segsL d.files), 0) := by
          rw [open_ok hd hs.synced hok, hg]
          simp only
          rw [m4]
        have hwh : wholeOf (segsL d.files) (m + 1) = (splitL f2.bytes 0).2.1 := by unfold wholeOf; simp only [hLm]
        have hrd2 := fun (v : Value) (w1 : World) (o : w1.ownsRow w.heap.size 54 4 v (m + 1) (segV (segsL d.files))) => (hrd v w1 o).mono (fun r w' (h : ReadEnd _ _ _ _) => show ∃ a c, r = .returned (.tuple #[.slice a (recsOf (segsL d.files)).length c, .int .i64 ((splitL f2.bytes 0).2.1 : Nat), .bool true]) ∧ w'.ownsRow w1.heap.size 9 1 (.slice a (recsOf (segsL d.files)).length c) (recsOf (segsL d.files)).length (strV (recsOf (segsL d.files))) ∧ Below w1.heap.size w1 w' from by
          obtain ⟨a, c, hb, ⟨_, h1, h2⟩ | ⟨h1, _⟩⟩ := h
          · rw [hlen, hwh] at h1
            exact ⟨a, c, h1, h2, hb⟩
          · exact absurd hok h1)
        have hw9 : IntKind.i64.wrap ((m : Int) + 1 - 1) = (m : Int) := by rw [IntKind.wrap_i64]; omega
        have hmI : (m : Int) < (m : Int) + 1 := by omega
        have hm0 : ¬ (m : Int) + 1 = 0 := by omega
        have hmb : (m : Int) ≤ 1000 := by omega
        have hmb2 : m ≤ 1000 := by omega
        have HS := Lib.hid hsg
        have HR := Lib.hid hrd2
        have hcell : ∀ (w1 w2 : World) (a1 : Option Addr) (c1 : Nat), w1.ownsRow w.heap.size 54 4 (.slice a1 (m + 1) c1) (m + 1) (segV (segsL d.files)) → Below w1.heap.size w1 w2 → ∃ q, a1 = some ⟨q, 0, none⟩ ∧ ∀ o, (w2.alloc o).cell? ⟨q, m * 4, none⟩ = some (.string (B f2.name)) ∧ (w2.alloc o).cell? ⟨q, m * 4 + 1, none⟩ = some (.string (B f2.bytes)) ∧ (w2.alloc o).cell? ⟨q, m * 4 + 2, none⟩ = some (.int .i64 f2.synced) ∧ (w2.alloc o).cell? ⟨q, m * 4 + 3, none⟩ = some (.int .i64 n) := by
          intro w1 w2 a1 c1 o1 b2
          obtain ⟨q, c', hv', hq1, hq2, _, _, hcells⟩ := row_at o1 (by omega)
          obtain ⟨rfl, rfl⟩ : a1 = some ⟨q, 0, none⟩ ∧ c1 = c' := by simpa using hv'
          refine ⟨q, rfl, fun o => ?_⟩
          have key : ∀ j, j < 4 → (w2.alloc o).cell? ⟨q, m * 4 + j, none⟩ = (segCells (n, f2))[j]? := by
            intro j hj
            rw [((Below.refl _ w2).alloc (Nat.le_refl _) o).cell (p := ⟨q, m * 4 + j, none⟩) (Nat.lt_of_lt_of_le hq2 b2.size), b2.cell (p := ⟨q, m * 4 + j, none⟩) hq2, hcells _ (by omega), segV_cell _ m j (by omega) hj, hLm']
          exact ⟨key 0 (by decide), key 1 (by decide), key 2 (by decide), key 3 (by decide)⟩
        have HCELL := Lib.hid hcell
        have HOK := Lib.hid hok
        clear hsg hrd hrd2 hcell hok hwh hLm hLm' hlen g1 hg
        go_enter Tryz.func8, Tryz.ntmps8
        go_wp2_with (first
          | (go_at_call 16; refine HD.out.mono ?_; rintro r w1 ⟨rfl, rfl⟩)
          | (go_at_call 25; refine HS.out.mono ?_; rintro r w1 ⟨v1, rfl, o1, b1⟩; obtain ⟨a1, c1, rfl⟩ := row_form o1)
          | (go_at_call 26; refine (HR.out _ _ o1).mono ?_; rintro r w2 ⟨a2, c2, rfl, o2, b2⟩; have B2 := b1.trans (b2.mono b1.size); obtain ⟨q, rfl, hq⟩ := HCELL.out _ _ _ _ o1 b2; have hq0 := fun o => (hq o).1; have hq1 := fun o => (hq o).2.1; have hq2 := fun o => (hq o).2.2.1; have hq3 := fun o => (hq o).2.2.2))
        go_wp2_with (go_at_call 29; refine (open_last HH.out E hv B2 la hd ⟨hs.room0, hs.room1, hs.fuse0, hs.fuse1⟩ hfind kk1 kk2).mono ?_; rintro r w9 ⟨rfl, o9, B5, s5⟩; have O9 := Lib.hid o9; clear o9; have c9 : w9.cell? ⟨w2.heap.size + 1 + 1 + 1, 0, none⟩ = some (.pointer (some ⟨w2.heap.size + 1 + 1, 0, none⟩)) := open_box HH.out B2 O9.out)
        go_ret3
        have hb2 := B2.size
        refine opEnd_some HH.out E hv he B5 (by omega) (fun b hb => ?_) (open_row o2 b1.size) O9.out ((la.same (cut_found hd hfind kk1 kk2).2.2).same (sync_names (cut_found hd hfind kk1 kk2).2.1 _))
        have := o2.lt b.block (by rw [hb]; rfl)
        have := b1.size
        omega
    · have he := open_halt hd hok
      have hrd2 := fun (v : Value) (w1 : World) (o : w1.ownsRow w.heap.size 54 4 v (segsL d.files).length (segV (segsL d.files))) => (hrd v w1 o).mono (fun r w' (h : ReadEnd _ _ _ _) => show r = .returned (.tuple #[.slice none 0 0, .int .i64 0, .bool false]) ∧ Below w1.heap.size w1 w' from by
        obtain ⟨a, c, hb, ⟨h1, _⟩ | ⟨_, h2⟩⟩ := h
        · exact absurd h1 hok
        · exact ⟨h2, hb⟩)
      have HS := Lib.hid hsg
      have HR := Lib.hid hrd2
      clear hsg hrd hrd2
      go_enter Tryz.func8, Tryz.ntmps8
      go_wp2_with (first
        | (go_at_call 16; refine HD.out.mono ?_; rintro r w1 ⟨rfl, rfl⟩)
        | (go_at_call 25; refine HS.out.mono ?_; rintro r w1 ⟨v1, rfl, o1, b1⟩)
        | (go_at_call 26; refine (HR.out _ _ o1).mono ?_; rintro r w2 ⟨rfl, b2⟩; have B2 := b1.trans (b2.mono b1.size)))
      go_ret3
      exact opEnd_bad HH.out he (by decide) (B2.alloc B2.size _)

end Go.Proofs.YtjidadolfpjdeaaGreatDoor

namespace Go.Proofs.YtjidadolfpjdeaaGreatDoor
open Go.RowKit
set_option linter.unusedVariables false

theorem Sane.bnd {d : PD} (h : Sane d) : Bnd d := ⟨h.room0, h.room1, h.fuse0, h.fuse1⟩

/-- What a call on a log leaves, told of the blocks K. -/
theorem logOut_g {K F : Nat → Prop} {w w' : World} {xb p last count : Nat} {d' : PD} (h3 : ¬ K xb) (h4 : ∀ k, F k → ¬ K k) (h5 : ∀ k, K k → k < w.heap.size) (hx : xb < w.heap.size) (ho : LogOut w xb p F d' last count w') :
    DkOff K w' p d' ∧ Kept K w w' ∧ (LogAt d' last count → LogG K w' ⟨xb, 0, none⟩ p d') := by
  obtain ⟨F', M, s1, s2⟩ := ho
  have off : ∀ k, F' k → ¬ K k := fun k hk hk2 => by
    rcases s1 k hk with h | h
    · exact h4 k h hk2
    · have := h5 k hk2; omega
  have ltK : ∀ k, K k → k < w'.heap.size := fun k hk => Nat.lt_of_lt_of_le (h5 k hk) s2.size
  refine ⟨⟨F', M.disk, off, ⟨ltK, M.env, M.fv⟩⟩, ⟨s2.os, s2.tape, s2.output, s2.size, fun k hk hn => s2.block k hk (fun hh => ?_)⟩, fun la => ⟨xb, F', last, count, rfl, M, la, h3, off, ltK⟩⟩
  rcases hh with hh | rfl
  · exact hn (h4 k hh)
  · exact hn h3

theorem nextOut_g {K F : Nat → Prop} {w w' : World} {xb p : Nat} {q : PD × Int} (h3 : ¬ K xb) (h4 : ∀ k, F k → ¬ K k) (h5 : ∀ k, K k → k < w.heap.size) (hx : xb < w.heap.size) (ho : NextOut w xb p F q w') :
    (q.1.dead = false → LogG K w' ⟨xb, 0, none⟩ p q.1) ∧ DkOff K w' p q.1 ∧ Kept K w w' := by
  obtain ⟨l, c, h1, h2⟩ := ho
  obtain ⟨g1, g2, g3⟩ := logOut_g h3 h4 h5 hx h1
  exact ⟨fun hd => g3 (h2 hd), g1, g2⟩

theorem logSpec : LogSpec LogG where
  disk := by
    rintro K w x p d ⟨xb, F, last, count, rfl, M, la, h3, h4, h5⟩
    exact ⟨F, M.disk, h4, ⟨h5, M.env, M.fv⟩⟩
  kept := by
    rintro K K' w w' x p d ⟨xb, F, last, count, rfl, M, la, h3, h4, h5⟩ hs hk hK hlt
    have hx := M.lt
    have off : ∀ k, F k → ¬ K' k := fun k hf hk2 => by
      rcases hK k hk2 with h | h
      · exact h4 k hf h
      · have := M.disk.lt hf; omega
    refine ⟨xb, F, last, count, rfl, ⟨(hk xb hx (.inl h3)).trans M.cell, M.disk.kept hs (fun k hf => hk k (M.disk.lt hf) (.inl (h4 k hf))), M.nf, M.env.same (fun k hv => hk k (M.env.lt hv) (.inr hv)), M.fv, M.xv⟩, la, fun hk2 => ?_, off, hlt⟩
    rcases hK xb hk2 with h | h
    · exact h3 h
    · omega
  moved := by
    rintro K w x p d ⟨xb, F, last, count, rfl, M, la, h3, h4, h5⟩
    refine ⟨F, M.disk, h4, ⟨h5, M.env, M.fv⟩, ?_⟩
    intro K' d' F' w' st hl hK hoff
    have hx := M.lt
    have hn : d'.files.map PF.name = d.files.map PF.name := by
      have := congrArg (List.map Prod.fst) hl
      unfold lensF at this
      rw [List.map_map, List.map_map] at this
      exact this
    obtain ⟨F2, M2, s1, s2⟩ := M.moves (d' := d') (w' := w') ⟨F', st.disk, st.sub, st.turn⟩
    refine ⟨xb, F', last, count, rfl, ⟨M2.cell, st.disk, fun hf => ?_, M2.env, fun k hf hv => ?_, M.xv⟩, la.same hn, fun hk2 => ?_, fun k hf hk2 => (hoff k hk2).1 hf, fun k hk2 => (hoff k hk2).2⟩
    · rcases st.sub xb hf with h | h
      · exact M.nf h
      · omega
    · rcases st.sub k hf with h | h
      · exact M.fv k h hv
      · have := M.env.lt hv; omega
    · rcases hK xb hk2 with h | h
      · exact h3 h
      · omega
  opens := by
    intro w p d F h E hv hs
    exact lopen_any h E hv hs
  adds := by
    rintro K w x p d r ⟨xb, F, last, count, rfl, M, la, h3, h4, h5⟩ hs hd hr
    refine (ladd_any M la hd hs.bnd r hr).mono ?_
    rintro e w' ⟨rfl, ho⟩
    exact ⟨rfl, nextOut_g h3 h4 h5 M.lt ho⟩
  syncs := by
    rintro K w x p d ⟨xb, F, last, count, rfl, M, la, h3, h4, h5⟩ hs hd
    obtain ⟨y1, y2, y3, _⟩ := syncL_at la M.disk.srt hd
    refine (lsync_any M la hd).mono ?_
    rintro e w' ⟨rfl, ho⟩
    obtain ⟨g1, g2, g3⟩ := logOut_g h3 h4 h5 M.lt ho
    exact ⟨by rw [y1], g3 (la.same y3), g2⟩
  renews := by
    rintro K w x p d a n c rs ⟨xb, F, last, count, rfl, M, la, h3, h4, h5⟩ hs hd ht hK hn hrs
    refine (lrenew_any M la hd hs.bnd ht hn).mono ?_
    rintro e w' ⟨rfl, ho⟩
    exact ⟨rfl, nextOut_g h3 h4 h5 M.lt ho⟩
  segments := by
    rintro K w x p d ⟨xb, F, last, count, rfl, M, la, h3, h4, h5⟩ hs
    refine (lsegments_any M).mono ?_
    rintro e w' ⟨rfl, hb⟩
    obtain ⟨g1, g2, g3⟩ := logOut_g h3 h4 h5 M.lt (M.of_below hb)
    exact ⟨by rw [la.len], g3 la, g2⟩
  open_nil := lopen_nil
  add_nil := ladd_nil
  sync_nil := lsync_nil
  renew_nil := lrenew_nil
  segments_nil := lsegments_nil

end Go.Proofs.YtjidadolfpjdeaaGreatDoor

namespace Go.Proofs.YtjidadolfpjdeaaGreatDoor
open Go.RowKit Go.ChangeShapes Go.WideShapes Go.ChangeAt Go.Deep
set_option linter.unusedVariables false

/-- The list, as all rows have it. -/
def laid5 : List (String × DataW Unit) := Rows.logNilRow.laid
def doorSteps : Nat := 62

theorem gSyn : Tryz.prog.globalNamed "strconv.ErrSyntax" = some 0 := by kernel_rfl
theorem tSyn : (Tryz.prog.globals[0]?).map (·.type) = some 86 := by kernel_rfl
theorem tTab : (Tryz.prog.globals[2]?).map (·.type) = some 164 := by kernel_rfl
theorem cells_tab : Tryz.prog.cellsOf 164 = 20 := by kernel_rfl
theorem cells_u64' : Tryz.prog.cellsOf 97 = 1 := by kernel_rfl
theorem cells_err : Tryz.prog.cellsOf 175 = 1 := by kernel_rfl
theorem cells_str' : Tryz.prog.cellsOf 9 = 1 := by kernel_rfl
theorem row_err (u : TypeId) (h : Tryz.prog.typeName? 3 u = some "*errors.errorString") : u = 173 :=
  typeName_ptr_named (nm := "errors.errorString") (by kernel_rfl) (by kernel_rfl) (by decide) u h
theorem pow_data : Rows.laid_internal_strconv_uint64pow10 (H := Unit) = Lib.tabData .u64 Lib.pow10Tab := by kernel_rfl

theorem env_of_laid {W : World} (h : laidMetH Tryz.prog laid5 W) : Env W := by
  rw [MakeChecks.laidMetH_plain _ _ _ (by kernel_rfl)] at h
  have h2 : laidMet Tryz.prog (("internal/strconv.uint64pow10", Rows.laid_internal_strconv_uint64pow10) :: ("strconv.ErrRange", Rows.laid_strconv_ErrRange) :: ("strconv.ErrSyntax", Rows.laid_strconv_ErrSyntax) :: []) W := h.tail.tail
  rw [pow_data] at h2
  have h4 : laidMet Tryz.prog (("strconv.ErrSyntax", Rows.laid_strconv_ErrSyntax) :: []) W := h2.tail.tail
  refine ⟨Lib.tabIs_of_head tab_named tTab Tryz.underlying164 Tryz.underlying97 cells_u64' cells_tab h2, ?_⟩
  obtain ⟨a, s, hv, _⟩ := laid_sentinel h4 gSyn tSyn Tryz.underlying86 row_err Tryz.underlying173 Tryz.underlying175 rfl rfl Tryz.underlying9 cells_err cells_str'
  exact ⟨_, _, World.var?_cell gSyn hv 0⟩

theorem door_met (os : Os) (args : Array Value) : laidMetH Tryz.prog laid5 ((World.doorLaid Tryz.prog doorSteps os).forCall (fun _ _ => 0) ⟨#[], args, []⟩).memory :=
  laidMetH_of_parts3 (fuel := 8) (laidMet_of_run' 8 (by kernel_rfl) (by kernel_rfl)) (by kernel_rfl) (by kernel_rfl)
theorem door_shaped (os : Os) (args : Array Value) : ((World.doorLaid Tryz.prog doorSteps os).forCall (fun _ _ => 0) ⟨#[], args, []⟩).Shaped Tryz.prog := World.shaped_of_RefB (by kernel_rfl) (by kernel_rfl)

end Go.Proofs.YtjidadolfpjdeaaGreatDoor

namespace Go.Proofs.YtjidadolfpjdeaaGreatDoor
open Go.RowKit Go.ChangeShapes Go.WideShapes Go.ChangeAt Go.Deep
set_option linter.unusedVariables false

theorem cellsOf_str9 : Tryz.prog.cellsOf 9 = 1 := by kernel_rfl

/-- A slice of texts that came in. -/
theorem texts_of {H : Type} {enc : TypeId × Value → H} {W : World} {a : Option Addr} {n c : Nat} {d : DataW H} {p : List MemPlace}
    (h : DataW.Trod enc Tryz.prog W 0 (fun _ => true) true 23 (.slice a n c) d p) : n ≤ c ∧ c ≤ maxLen ∧ (a = none → c = 0) ∧ ∃ ls, Txt W a n ls := by
  obtain ⟨fuel, hf⟩ := h
  rcases open_strs Tryz.underlying23 Tryz.underlying9 cellsOf_str9 hf with ⟨hcs, _⟩ | ⟨x, l, c', m, Sx, hcs, _, hl, hm, hmm, _, hcell⟩
  · simp [Value.cells] at hcs
    obtain ⟨rfl, rfl, rfl⟩ := hcs
    exact ⟨Nat.le_refl _, by decide, fun _ => rfl, [], ⟨rfl, fun j hj => absurd hj (by simp)⟩⟩
  · simp [Value.cells] at hcs
    obtain ⟨rfl, rfl, rfl⟩ := hcs
    simp at hmm
    subst hmm
    refine ⟨hl, hm, (fun e => by cases e), (List.range n).map fun i => (Sx i).data.toList, ⟨by simp, fun j hj => ?_⟩⟩
    simp at hj
    have hc := (hcell j (by omega)).1
    obtain ⟨b, off, sp⟩ := x
    have hs : sp = none := by have := World.cell?_spot (hcell 0 (by omega)).1; simpa [Addr.add] using this
    subst hs
    refine ⟨b, off, rfl, ?_⟩
    rw [Addr.add_lit] at hc
    rw [hc]
    simp [← B_data]

end Go.Proofs.YtjidadolfpjdeaaGreatDoor
