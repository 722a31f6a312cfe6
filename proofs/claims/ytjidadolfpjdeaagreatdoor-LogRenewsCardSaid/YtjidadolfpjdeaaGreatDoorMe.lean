/-
A log as it lies in memory: its own block, beside the blocks of its disk; what a call on it leaves.
Package log over this translation: Sync, lastSize, takesMore, writeNext.
Package log over this translation: lastSize, takesMore, begin.
Package log over this translation: takesMore, begin, removeElder.
Package log over this translation: Add, Renew, Segments, and the calls on no log.
Package log over this translation: Renew.
-/
import Derived.Test.YtjidadolfpjdeaaGreatDoorLgEnv
import Derived.Test.YtjidadolfpjdeaaGreatDoorMa
import Derived.Test.YtjidadolfpjdeaaGreatDoorMb
import Derived.Test.YtjidadolfpjdeaaGreatDoorDkRead
import Derived.Test.YtjidadolfpjdeaaGreatDoorRegion
import Derived.Test.YtjidadolfpjdeaaGreatDoorLgTurn
import Derived.Test.YtjidadolfpjdeaaGreatDoorLgBuild
namespace Go.Proofs.YtjidadolfpjdeaaGreatDoor
open Go.RowKit
set_option linter.unusedVariables false

/-- At block xb a log on the disk d at block p. -/
structure LogM (w : World) (xb p : Nat) (d : PD) (F : Nat → Prop) (last count : Nat) : Prop where
  cell : w.heap[xb]? = some (.cells #[.pointer (some ⟨p, 0, none⟩), .int .i64 last, .int .i64 count] 52 (0, 0))
  disk : DiskOf w p d F
  nf : ¬ F xb
  env : Env w
  fv : ∀ k, F k → ¬ Vr k
  xv : ¬ Vr xb

variable {w w' w'' : World} {xb p last count : Nat} {d d' d'' : PD} {F : Nat → Prop}

theorem LogM.lt (h : LogM w xb p d F last count) : xb < w.heap.size := (Array.getElem?_eq_some_iff.1 h.cell).1
theorem LogM.c0 (h : LogM w xb p d F last count) : w.cell? ⟨xb, 0, none⟩ = some (.pointer (some ⟨p, 0, none⟩)) := by rw [cell_of_row w xb 0 _ _ _ h.cell]; rfl
theorem LogM.c1 (h : LogM w xb p d F last count) : w.cell? ⟨xb, 1, none⟩ = some (.int .i64 last) := by rw [cell_of_row w xb 1 _ _ _ h.cell]; rfl
theorem LogM.c2 (h : LogM w xb p d F last count) : w.cell? ⟨xb, 2, none⟩ = some (.int .i64 count) := by rw [cell_of_row w xb 2 _ _ _ h.cell]; rfl
theorem LogM.frozen (h : LogM w xb p d F last count) (j : Nat) : w.frozen? ⟨xb, j, none⟩ = false := frozen_of_row w xb j _ _ h.cell
theorem LogM.below (h : LogM w xb p d F last count) (hb : Below w.heap.size w w') : LogM w' xb p d F last count :=
  ⟨(hb.block xb h.lt).trans h.cell, h.disk.below hb, h.nf, h.env.below hb, h.fv, h.xv⟩

/-- The names of a disk in memory stand in order. -/
theorem DiskOf.srt (h : DiskOf w p d F) : Srt d := by
  obtain ⟨h1, mb, G, h2, h3, h4⟩ := h
  unfold Srt
  rw [← h3, List.map_map]
  exact h2.names

/-- What a call on a log leaves. -/
def LogOut (w : World) (xb p : Nat) (F : Nat → Prop) (d' : PD) (last' count' : Nat) (w' : World) : Prop :=
  ∃ F', LogM w' xb p d' F' last' count' ∧ (∀ k, F' k → F k ∨ w.heap.size ≤ k) ∧ Turned (fun k => F k ∨ k = xb) w w'

theorem LogM.refl (h : LogM w xb p d F last count) : LogOut w xb p F d last count w := ⟨F, h, fun _ hk => .inl hk, Turned.refl _ w⟩
theorem LogM.of_below (h : LogM w xb p d F last count) (hb : Below w.heap.size w w') : LogOut w xb p F d last count w' := ⟨F, h.below hb, fun _ hk => .inl hk, Turned.of_below hb⟩
/-- A call on the disk alone. -/
theorem LogM.moves (h : LogM w xb p d F last count) (hm : Moves w p F d' w') : LogOut w xb p F d' last count w' := by
  obtain ⟨F', h1, h2, h3⟩ := hm
  have hx := h.lt
  refine ⟨F', ⟨(h3.block xb hx h.nf).trans h.cell, h1, fun hf => ?_, h.env.same (fun k hk => h3.block k (h.env.lt hk) (fun hf => h.fv k hf hk)), fun k hk hv => ?_, h.xv⟩, h2, ⟨h3.os, h3.tape, h3.output, h3.size, fun k hk hn => h3.block k hk (fun hf => hn (.inl hf))⟩⟩
  · rcases h2 xb hf with h' | h'
    · exact h.nf h'
    · omega
  · rcases h2 k hk with h' | h'
    · exact h.fv k h' hv
    · have := h.env.lt hv; omega
theorem LogOut.trans {w1 : World} {last1 count1 last2 count2 : Nat} {d1 d2 : PD} {F1 : Nat → Prop} (h1 : ∀ k, F1 k → F k ∨ w.heap.size ≤ k) (ht : Turned (fun k => F k ∨ k = xb) w w1) (hx : xb < w.heap.size)
    (h : LogOut w1 xb p F1 d2 last2 count2 w') : LogOut w xb p F d2 last2 count2 w' := by
  obtain ⟨F2, g1, g2, g3⟩ := h
  refine ⟨F2, g1, fun k hk => ?_, ht.trans g3 (fun k hk => ?_)⟩
  · rcases g2 k hk with h' | h'
    · exact h1 k h'
    · exact .inr (Nat.le_trans ht.size h')
  · rcases hk with h' | rfl
    · exact (h1 k h').imp .inl id
    · exact .inl (.inr rfl)
theorem LogOut.before {w1 : World} (h : LogM w xb p d F last count) (hb : Below w.heap.size w w1) {last' count' : Nat} (ho : LogOut w1 xb p F d' last' count' w') : LogOut w xb p F d' last' count' w' :=
  LogOut.trans (d1 := d) (last1 := last) (count1 := count) (fun _ hk => .inl hk) (Turned.of_below hb) h.lt ho
theorem LogOut.below {last' count' : Nat} (h : LogOut w xb p F d' last' count' w') (hb : Below w'.heap.size w' w'') : LogOut w xb p F d' last' count' w'' := by
  obtain ⟨F', g1, g2, g3⟩ := h
  exact ⟨F', g1.below hb, g2, g3.trans (Turned.of_below (F := fun _ => False) hb) (fun _ h' => h'.elim)⟩

theorem LogM.cells (h : LogM w xb p d F last count) {n1 n2 : Nat} (hc : w'.heap[xb]? = some (.cells #[.pointer (some ⟨p, 0, none⟩), .int .i64 n1, .int .i64 n2] 52 (0, 0))) (hs : w'.heap.size = w.heap.size) (hk : ∀ k, k ≠ xb → w'.heap[k]? = w.heap[k]?) (ho : w'.os = w.os) (ht : w'.tape = w.tape) (hu : w'.output = w.output) :
    LogOut w xb p F d n1 n2 w' :=
  ⟨F, ⟨hc, h.disk.kept (Nat.le_of_eq hs.symm) (fun k hf => hk k (fun e => h.nf (e ▸ hf))), h.nf, h.env.same (fun k hv => hk k (fun e => h.xv (e ▸ hv))), h.fv, h.xv⟩, fun _ hf => .inl hf, ⟨ho, ht, hu, Nat.le_of_eq hs.symm, fun k hl hn => hk k (fun e => hn (.inr e))⟩⟩
theorem LogM.set1 (h : LogM w xb p d F last count) (n : Nat) : LogOut w xb p F d n count (w.setCell ⟨xb, 1, none⟩ (.int .i64 n)) :=
  h.cells (by have := heap_setCell_same w xb 1 _ _ (.int .i64 n) h.cell; simpa using this) (by simp [World.setCell]) (fun k hk => heap_setCell_other w _ k _ hk) rfl rfl rfl
theorem LogM.set2 (h : LogM w xb p d F last count) (n : Nat) : LogOut w xb p F d last n (w.setCell ⟨xb, 2, none⟩ (.int .i64 n)) :=
  h.cells (by have := heap_setCell_same w xb 2 _ _ (.int .i64 n) h.cell; simpa using this) (by simp [World.setCell]) (fun k hk => heap_setCell_other w _ k _ hk) rfl rfl rfl

/-- What a log's cells hold. -/
def LogS (xb p last count : Nat) (w : World) : Prop := w.cell? ⟨xb, 0, none⟩ = some (.pointer (some ⟨p, 0, none⟩)) ∧ w.cell? ⟨xb, 1, none⟩ = some (.int .i64 last) ∧ w.cell? ⟨xb, 2, none⟩ = some (.int .i64 count)
theorem LogM.s (h : LogM w xb p d F last count) : LogS xb p last count w := ⟨h.c0, h.c1, h.c2⟩
theorem LogM.drew (h : LogM w xb p d F last count) : LogM w.drew xb p d F last count := h.below ((Below.refl _ w).drew)

/-! ### room and bytes -/
/-- The bounds that the disk's calls ask for. -/
structure Bnd (d : PD) : Prop where
  room0 : 0 ≤ d.room
  room1 : d.room + totF d.files ≤ 4194304
  fuse0 : -1 ≤ d.fuse
  fuse1 : d.fuse ≤ 9223372036854775807
theorem totF_ins (f : PF) : ∀ l : List PF, totF (insF f l) = totF l + f.bytes.length
  | [] => by simp [insF, totF]
  | g :: r => by
    rw [insF]
    by_cases h : f.name < g.name
    · rw [if_pos h, totF_cons, totF_cons]; omega
    · rw [if_neg h, totF_cons, totF_cons, totF_ins f r]; omega
theorem totF_more {nm : List UInt8} (s : List UInt8) : ∀ l : List PF, (l.map PF.name).Nodup → nm ∈ l.map PF.name → totF (setF nm (fun f => f.more s) l) = totF l + s.length
  | [], _, h => by cases h
  | g :: r, hn, h => by
    rw [List.map_cons, List.nodup_cons] at hn
    have e : setF nm (fun f => f.more s) (g :: r) = (if g.name = nm then g.more s else g) :: setF nm (fun f => f.more s) r := rfl
    rw [e, totF_cons, totF_cons]
    by_cases hg : g.name = nm
    · have hr : setF nm (fun f => f.more s) r = r := by
        unfold setF
        conv => rhs; rw [← List.map_id r]
        refine List.map_congr_left fun x hx => if_neg (fun e => hn.1 ?_)
        rw [hg, ← e]
        exact List.mem_map_of_mem hx
      rw [if_pos hg, hr]
      simp [PF.more]
      omega
    · have hm : nm ∈ r.map PF.name := by
        rw [List.map_cons] at h
        rcases List.mem_cons.1 h with h | h
        · exact absurd h.symm hg
        · exact h
      rw [if_neg hg, totF_more s r hn.2 hm]
      omega
theorem write_bnd {d : PD} (h : Bnd d) {nm : List UInt8} (hs : Srt d) (hm : nm ∈ d.files.map PF.name) (s : List UInt8) (hr : (s.length : Int) ≤ d.room) : Bnd (d.write nm s).1 := by
  have h0 := h.room0
  have h1 := h.room1
  have h2 := h.fuse0
  have h3 := h.fuse1
  unfold PD.write
  split
  · rename_i hc
    have ht := totF_more (s.take d.fuse.toNat) d.files (sortedN_nodup hs) hm
    rw [List.length_take] at ht
    refine ⟨by simp only; omega, ?_, by show (-1 : Int) ≤ -1; decide, by show (-1 : Int) ≤ 9223372036854775807; decide⟩
    simp only [ht]
    omega
  · rename_i hc
    have ht := totF_more s d.files (sortedN_nodup hs) hm
    refine ⟨by simp only; omega, ?_, ?_, ?_⟩
    · simp only [ht]
      omega
    · simp only; split <;> omega
    · simp only; split <;> omega
theorem append_bnd {d : PD} (h : Bnd d) (hs : Srt d) (nm s : List UInt8) : Bnd (d.append nm s).1 := by
  unfold PD.append
  split
  · exact h
  · split
    · exact h
    · split
      · exact h
      · rename_i hc
        have hr : (s.length : Int) ≤ d.room := by omega
        cases hf : d.find nm with
        | some f =>
          have e : d.withFile nm = d := by unfold PD.withFile; rw [hf]; rfl
          rw [e]
          have hm := List.find?_some hf
          simp only [decide_eq_true_eq] at hm
          exact write_bnd h hs (hm ▸ List.mem_map_of_mem (List.mem_of_find?_eq_some hf)) s hr
        | none =>
          have e : (d.withFile nm).files = insF ⟨nm, [], 0⟩ d.files := by unfold PD.withFile; rw [hf]; rfl
          have hn : (d.withFile nm).files.map PF.name = insN nm (d.files.map PF.name) := by rw [e]; exact insF_names _ _
          have ht : totF (d.withFile nm).files = totF d.files := by rw [e, totF_ins]; rfl
          refine write_bnd (d := d.withFile nm) ⟨h.room0, by rw [ht]; exact h.room1, h.fuse0, h.fuse1⟩ ?_ ?_ s hr
          · unfold Srt
            rw [hn]
            exact insN_sorted _ hs (find_names hf)
          · rw [e]
            have : ∀ (f : PF) (l : List PF), f ∈ insF f l := by
              intro f l
              induction l with
              | nil => simp [insF]
              | cons g r ih =>
                rw [insF]
                split
                · simp
                · exact List.mem_cons_of_mem _ ih
            exact List.mem_map_of_mem (f := PF.name) (this ⟨nm, [], 0⟩ d.files)
theorem Bnd.same {d d' : PD} (h : Bnd d) (h1 : d'.room = d.room) (h2 : d'.fuse = d.fuse) (h3 : totF d'.files = totF d.files) : Bnd d' := ⟨by rw [h1]; exact h.room0, by rw [h1, h3]; exact h.room1, by rw [h2]; exact h.fuse0, by rw [h2]; exact h.fuse1⟩

end Go.Proofs.YtjidadolfpjdeaaGreatDoor

namespace Go.Proofs.YtjidadolfpjdeaaGreatDoor
open Go.RowKit
set_option linter.unusedVariables false

variable {w w' : World} {xb p last count : Nat} {d : PD} {F : Nat → Prop}

theorem name_small (n : Nat) : (nameL n).length ≤ maxLen := by rw [name_length]; unfold maxLen; omega

set_option maxRecDepth 100000 in
set_option maxHeartbeats 2000000 in
theorem lsync_any (h : LogM w xb p d F last count) (ha : LogAt d last count) (hd : d.dead = false) :
    Calls Tryz.prog 10 #[.pointer (some ⟨xb, 0, none⟩)] w fun r w' => r = .returned (.int .i64 0) ∧ LogOut w xb p F (syncL d).1 last count w' := by
  obtain ⟨y1, y2, _, _, _, _, _, y3⟩ := syncL_at ha h.disk.srt hd
  have c2 := h.c2
  have hmax := ha.max
  by_cases h0 : count = 0
  · subst h0
    rw [if_pos rfl] at y3
    rw [y3]
    have HO := Lib.hid h.refl
    go_enter Tryz.func10, Tryz.ntmps10
    go_wp2
    go_ret
    exact ⟨rfl, HO.out⟩
  · rw [if_neg h0] at y3
    have hx := h.drew
    have hn := fun (E : Env w.drew) => name_any E hmax
    have hs := fun (w1 : World) (D : DiskOf w1 p d F) => sync_any D (nameL last) (name_small last)
    rw [← y3, y1] at hs
    have h0' : ¬ (count : Int) = 0 := by omega
    have h0'' : ((count : Int) == 0) = false := by simpa using h0'
    have HN := Lib.hid (hn hx.env)
    have HS := Lib.hid hs
    have HX := Lib.hid hx
    have HM := Lib.hid h
    clear hn hs y3 y1 y2 ha hx
    go_enter Tryz.func10, Tryz.ntmps10
    go_upto_region 5 with fail
    refine wp_region_held_drew (S := LogS xb p last count) (by kernel_rfl) (HX.out.s) (fun hHeld => ?_)
    refine take_run (i := 0) (v := ?_) rfl (by kernel_rfl) (by kernel_rfl) (by kernel_rfl) (fun _ _ _ h => h) (by kernel_rfl) ?_ (by assumption) ?_
    rotate_left
    · (intro w5 hSw; obtain ⟨s0, s1, s2⟩ := hSw; go_simp); all_goals with_reducible rfl
    try simp only [Act.put, List.setIfInBounds_toArray, List.set_cons_zero, List.set_cons_succ]
    refine take_run (i := 1) (v := ?_) rfl (by kernel_rfl) (by kernel_rfl) (by kernel_rfl) (fun _ _ _ h => h) (by kernel_rfl) ?_ (by assumption) ?_
    rotate_left
    · (intro w5 hSw; obtain ⟨s0, s1, s2⟩ := hSw; go_simp); all_goals with_reducible rfl
    try simp only [Act.put, List.setIfInBounds_toArray, List.set_cons_zero, List.set_cons_succ]
    refine take_run (i := 2) (v := ?_) rfl (by kernel_rfl) (by kernel_rfl) (by kernel_rfl) (fun _ _ _ h => h) (by kernel_rfl) ?_ (by assumption) ?_
    rotate_left
    · (intro w5 hSw; obtain ⟨s0, s1, s2⟩ := hSw; go_simp); all_goals with_reducible rfl
    try simp only [Act.put, List.setIfInBounds_toArray, List.set_cons_zero, List.set_cons_succ]
    refine take_run (i := 3) (v := ?_) rfl (by kernel_rfl) (by kernel_rfl) (by kernel_rfl) (fun _ _ _ h => h) (by kernel_rfl) ?_ (by assumption) ?_
    rotate_left
    · (intro w5 hSw; obtain ⟨s0, s1, s2⟩ := hSw; go_simp); all_goals with_reducible rfl
    try simp only [Act.put, List.setIfInBounds_toArray, List.set_cons_zero, List.set_cons_succ]
    refine take_run (i := 4) (v := ?_) rfl (by kernel_rfl) (by kernel_rfl) (by kernel_rfl) (fun _ _ _ h => h) (by kernel_rfl) ?_ (by assumption) ?_
    rotate_left
    · (intro w5 hSw; obtain ⟨s0, s1, s2⟩ := hSw; go_simp); all_goals with_reducible rfl
    try simp only [Act.put, List.setIfInBounds_toArray, List.set_cons_zero, List.set_cons_succ]
    refine take_run (i := 5) (v := ?_) rfl (by kernel_rfl) (by kernel_rfl) (by kernel_rfl) (fun _ _ _ h => h) (by kernel_rfl) ?_ (by assumption) ?_
    rotate_left
    · (intro w5 hSw; obtain ⟨s0, s1, s2⟩ := hSw; go_simp); all_goals with_reducible rfl
    try simp only [Act.put, List.setIfInBounds_toArray, List.set_cons_zero, List.set_cons_succ]
    refine take_run (i := 6) (v := ?_) rfl (by kernel_rfl) (by kernel_rfl) (by kernel_rfl) (fun _ _ _ h => h) (by kernel_rfl) ?_ (by assumption) ?_
    rotate_left
    · (intro w5 hSw; obtain ⟨s0, s1, s2⟩ := hSw; go_simp); all_goals with_reducible rfl
    try simp only [Act.put, List.setIfInBounds_toArray, List.set_cons_zero, List.set_cons_succ]
    refine take_run (i := 7) (v := ?_) rfl (by kernel_rfl) (by kernel_rfl) (by kernel_rfl) (fun _ _ _ h => h) (by kernel_rfl) ?_ (by assumption) ?_
    rotate_left
    · (intro w5 hSw; obtain ⟨s0, s1, s2⟩ := hSw; go_simp); all_goals with_reducible rfl
    try simp only [Act.put, List.setIfInBounds_toArray, List.set_cons_zero, List.set_cons_succ]
    refine take_call (i := 8) rfl (by kernel_rfl) (by kernel_rfl) (fun K hK => ?_)
    go_simp; refine HN.out.mono ?_; rintro r w1 ⟨rfl, b1⟩; have M1 := HX.out.below b1
    go_wp2_with fail
    clear hHeld
    refine hK.out _ _ ?_ (fun hHeld => ?_)
    · exact M1.s
    clear hK K
    try simp only [Act.put, List.setIfInBounds_toArray, List.set_cons_zero, List.set_cons_succ]
    refine take_call (i := 9) rfl (by kernel_rfl) (by kernel_rfl) (fun K hK => ?_)
    go_simp; refine (HS.out w1 M1.disk).mono ?_; rintro r w2 ⟨rfl, m2⟩; have O2 := M1.moves m2; obtain ⟨F2, M2, _, _⟩ := id O2
    go_wp2_with fail
    clear hHeld
    refine hK.out _ _ ?_ (fun hHeld => ?_)
    · exact M2.s
    clear hK K
    try simp only [Act.put, List.setIfInBounds_toArray, List.set_cons_zero, List.set_cons_succ]
    refine take_run (i := 10) (v := ?_) rfl (by kernel_rfl) (by kernel_rfl) (by kernel_rfl) (fun _ _ _ h => h) (by kernel_rfl) ?_ (by assumption) ?_
    rotate_left
    · (intro w5 hSw; obtain ⟨s0, s1, s2⟩ := hSw; go_simp); all_goals with_reducible rfl
    try simp only [Act.put, List.setIfInBounds_toArray, List.set_cons_zero, List.set_cons_succ]
    refine wpAnyH_done (by kernel_rfl) ?_ _
    go_wp2
    go_ret
    exact ⟨rfl, LogOut.before HM.out (((Below.refl _ w).drew).trans b1) O2⟩

/-- What writing into the next segment leaves. -/
def NextOut (w : World) (xb p : Nat) (F : Nat → Prop) (q : PD × Int) (w' : World) : Prop := ∃ l' c', LogOut w xb p F q.1 l' c' w' ∧ (q.1.dead = false → LogAt q.1 l' c')

theorem LogOut.more (h : LogM w xb p d F last count) : LogOut w xb p F d (last + 1) (count + 1) ((w.setCell ⟨xb, 1, none⟩ (.int .i64 ((last : Int) + 1))).setCell ⟨xb, 2, none⟩ (.int .i64 ((count : Int) + 1))) := by
  obtain ⟨F1, g1, g2, g3⟩ := h.set1 (last + 1)
  have g4 := g1.set2 (count + 1)
  have := LogOut.trans (d1 := d) (last1 := last) (count1 := count) g2 g3 h.lt g4
  simpa using this

set_option maxRecDepth 100000 in
set_option maxHeartbeats 4000000 in
theorem writeNext_any (h : LogM w xb p d F last count) (ha : LogAt d last count) (hd : d.dead = false) (hb : Bnd d) (hl : last + 1 ≤ 99999999) (fr : List UInt8) (hfr : fr.length ≤ 69206016000000) :
    Calls Tryz.prog 58 #[.pointer (some ⟨xb, 0, none⟩), .string (B fr)] w fun r w' => r = .returned (.int .i64 (d.append (nameL (last + 1)) fr).2) ∧ NextOut w xb p F (d.append (nameL (last + 1)) fr) w' := by
  have hcs := append_next ha h.disk.srt hd hl fr
  have hx := h.drew
  have hcn := ha.le
  have r0 := hb.room0
  have r1 := hb.room1
  have ht : totF d.files ≤ 4194304 := by omega
  have hs := fun (w1 : World) (D : DiskOf w1 p d F) => append_any D (nameL (last + 1)) fr (by rw [name_length]; decide) (by omega) hb.room0 (by omega) hb.fuse0 hb.fuse1
  have hnx := name_any (n := last + 1) hx.env hl
  rw [show ((last + 1 : Nat) : Int) = (last : Int) + 1 from by omega] at hnx
  generalize d.append (nameL (last + 1)) fr = q at hcs hs
  obtain ⟨d2, e⟩ := q
  simp only at hcs hs
  have hw1 : IntKind.i64.wrap ((last : Int) + 1) = (last : Int) + 1 := by rw [IntKind.wrap_i64]; omega
  have hw2 : IntKind.i64.wrap ((count : Int) + 1) = (count : Int) + 1 := by rw [IntKind.wrap_i64]; omega
  have HN := Lib.hid hnx
  have HS := Lib.hid hs
  have HX := Lib.hid hx
  have HM := Lib.hid h
  have HA := Lib.hid ha
  clear hs ha hx h hnx
  have hsim : ∀ {w1 w2 : World}, Below w.drew.heap.size w.drew w1 → Below w.heap.size w w1 := fun hb => ((Below.refl _ w).drew).trans hb
  rcases hcs with ⟨e1, e2, rfl⟩ | ⟨(⟨rfl, e2⟩ | ⟨rfl, e2⟩), e3, e4⟩
  · have e1' : (e == 0) = false := by simpa using e1
    have e2' : (e == 9) = false := by simpa using e2
    go_enter Tryz.func58, Tryz.ntmps58
    go_upto_region 1 with fail
    refine wp_region_held_drew (S := LogS xb p last count) (by kernel_rfl) (HX.out.s) (fun hHeld => ?_)
    refine take_run (i := 0) (v := ?_) rfl (by kernel_rfl) (by kernel_rfl) (by kernel_rfl) (fun _ _ _ h => h) (by kernel_rfl) ?_ (by assumption) ?_
    rotate_left
    · (intro w5 hSw; obtain ⟨s0, s1, s2⟩ := hSw; go_simp); all_goals with_reducible rfl
    try simp only [Act.put, List.setIfInBounds_toArray, List.set_cons_zero, List.set_cons_succ]
    refine take_run (i := 1) (v := ?_) rfl (by kernel_rfl) (by kernel_rfl) (by kernel_rfl) (fun _ _ _ h => h) (by kernel_rfl) ?_ (by assumption) ?_
    rotate_left
    · (intro w5 hSw; obtain ⟨s0, s1, s2⟩ := hSw; go_simp); all_goals with_reducible rfl
    try simp only [Act.put, List.setIfInBounds_toArray, List.set_cons_zero, List.set_cons_succ]
    refine take_run (i := 2) (v := ?_) rfl (by kernel_rfl) (by kernel_rfl) (by kernel_rfl) (fun _ _ _ h => h) (by kernel_rfl) ?_ (by assumption) ?_
    rotate_left
    · (intro w5 hSw; obtain ⟨s0, s1, s2⟩ := hSw; go_simp); all_goals with_reducible rfl
    try simp only [Act.put, List.setIfInBounds_toArray, List.set_cons_zero, List.set_cons_succ]
    refine take_run (i := 3) (v := ?_) rfl (by kernel_rfl) (by kernel_rfl) (by kernel_rfl) (fun _ _ _ h => h) (by kernel_rfl) ?_ (by assumption) ?_
    rotate_left
    · (intro w5 hSw; obtain ⟨s0, s1, s2⟩ := hSw; go_simp); all_goals with_reducible rfl
    try simp only [Act.put, List.setIfInBounds_toArray, List.set_cons_zero, List.set_cons_succ]
    refine take_run (i := 4) (v := ?_) rfl (by kernel_rfl) (by kernel_rfl) (by kernel_rfl) (fun _ _ _ h => h) (by kernel_rfl) ?_ (by assumption) ?_
    rotate_left
    · (intro w5 hSw; obtain ⟨s0, s1, s2⟩ := hSw; go_simp); all_goals with_reducible rfl
    try simp only [Act.put, List.setIfInBounds_toArray, List.set_cons_zero, List.set_cons_succ]
    refine take_run (i := 5) (v := ?_) rfl (by kernel_rfl) (by kernel_rfl) (by kernel_rfl) (fun _ _ _ h => h) (by kernel_rfl) ?_ (by assumption) ?_
    rotate_left
    · (intro w5 hSw; obtain ⟨s0, s1, s2⟩ := hSw; go_simp); all_goals with_reducible rfl
    try simp only [Act.put, List.setIfInBounds_toArray, List.set_cons_zero, List.set_cons_succ]
    refine take_run (i := 6) (v := ?_) rfl (by kernel_rfl) (by kernel_rfl) (by kernel_rfl) (fun _ _ _ h => h) (by kernel_rfl) ?_ (by assumption) ?_
    rotate_left
    · (intro w5 hSw; obtain ⟨s0, s1, s2⟩ := hSw; go_simp); all_goals with_reducible rfl
    try simp only [Act.put, List.setIfInBounds_toArray, List.set_cons_zero, List.set_cons_succ]
    refine take_run (i := 7) (v := ?_) rfl (by kernel_rfl) (by kernel_rfl) (by kernel_rfl) (fun _ _ _ h => h) (by kernel_rfl) ?_ (by assumption) ?_
    rotate_left
    · (intro w5 hSw; obtain ⟨s0, s1, s2⟩ := hSw; go_simp); all_goals with_reducible rfl
    try simp only [Act.put, List.setIfInBounds_toArray, List.set_cons_zero, List.set_cons_succ]
    refine take_run (i := 8) (v := ?_) rfl (by kernel_rfl) (by kernel_rfl) (by kernel_rfl) (fun _ _ _ h => h) (by kernel_rfl) ?_ (by assumption) ?_
    rotate_left
    · (intro w5 hSw; obtain ⟨s0, s1, s2⟩ := hSw; go_simp); all_goals with_reducible rfl
    try simp only [Act.put, List.setIfInBounds_toArray, List.set_cons_zero, List.set_cons_succ]
    refine take_run (i := 10) (v := ?_) rfl (by kernel_rfl) (by kernel_rfl) (by kernel_rfl) (fun _ _ _ h => h) (by kernel_rfl) ?_ (by assumption) ?_
    rotate_left
    · (intro w5 hSw; obtain ⟨s0, s1, s2⟩ := hSw; go_simp); all_goals with_reducible rfl
    try simp only [Act.put, List.setIfInBounds_toArray, List.set_cons_zero, List.set_cons_succ]
    refine take_call (i := 9) rfl (by kernel_rfl) (by kernel_rfl) (fun K hK => ?_)
    go_simp; refine HN.out.mono ?_; rintro r w1 ⟨rfl, b1⟩; have M1 := HX.out.below b1
    go_wp2_with fail
    clear hHeld
    refine hK.out _ _ ?_ (fun hHeld => ?_)
    · exact M1.s
    clear hK K
    try simp only [Act.put, List.setIfInBounds_toArray, List.set_cons_zero, List.set_cons_succ]
    refine take_call (i := 11) rfl (by kernel_rfl) (by kernel_rfl) (fun K hK => ?_)
    go_simp; refine (HS.out w1 M1.disk).mono ?_; rintro r w2 ⟨rfl, m2⟩; have O2 := M1.moves m2; obtain ⟨F2, M2, g2, t2⟩ := id O2
    go_wp2_with fail
    clear hHeld
    refine hK.out _ _ ?_ (fun hHeld => ?_)
    · exact M2.s
    clear hK K
    try simp only [Act.put, List.setIfInBounds_toArray, List.set_cons_zero, List.set_cons_succ]
    refine take_run (i := 12) (v := ?_) rfl (by kernel_rfl) (by kernel_rfl) (by kernel_rfl) (fun _ _ _ h => h) (by kernel_rfl) ?_ (by assumption) ?_
    rotate_left
    · (intro w5 hSw; obtain ⟨s0, s1, s2⟩ := hSw; go_simp); all_goals with_reducible rfl
    try simp only [Act.put, List.setIfInBounds_toArray, List.set_cons_zero, List.set_cons_succ]
    refine wpAnyH_done (by kernel_rfl) ?_ _
    go_wp2
    go_ret
    exact ⟨rfl, _, _, LogOut.before HM.out (((Below.refl _ w).drew).trans b1) O2, fun _ => HA.out⟩
  · go_enter Tryz.func58, Tryz.ntmps58
    go_upto_region 1 with fail
    refine wp_region_held_drew (S := LogS xb p last count) (by kernel_rfl) (HX.out.s) (fun hHeld => ?_)
    refine take_run (i := 0) (v := ?_) rfl (by kernel_rfl) (by kernel_rfl) (by kernel_rfl) (fun _ _ _ h => h) (by kernel_rfl) ?_ (by assumption) ?_
    rotate_left
    · (intro w5 hSw; obtain ⟨s0, s1, s2⟩ := hSw; go_simp); all_goals with_reducible rfl
    try simp only [Act.put, List.setIfInBounds_toArray, List.set_cons_zero, List.set_cons_succ]
    refine take_run (i := 1) (v := ?_) rfl (by kernel_rfl) (by kernel_rfl) (by kernel_rfl) (fun _ _ _ h => h) (by kernel_rfl) ?_ (by assumption) ?_
    rotate_left
    · (intro w5 hSw; obtain ⟨s0, s1, s2⟩ := hSw; go_simp); all_goals with_reducible rfl
    try simp only [Act.put, List.setIfInBounds_toArray, List.set_cons_zero, List.set_cons_succ]
    refine take_run (i := 2) (v := ?_) rfl (by kernel_rfl) (by kernel_rfl) (by kernel_rfl) (fun _ _ _ h => h) (by kernel_rfl) ?_ (by assumption) ?_
    rotate_left
    · (intro w5 hSw; obtain ⟨s0, s1, s2⟩ := hSw; go_simp); all_goals with_reducible rfl
    try simp only [Act.put, List.setIfInBounds_toArray, List.set_cons_zero, List.set_cons_succ]
    refine take_run (i := 3) (v := ?_) rfl (by kernel_rfl) (by kernel_rfl) (by kernel_rfl) (fun _ _ _ h => h) (by kernel_rfl) ?_ (by assumption) ?_
    rotate_left
    · (intro w5 hSw; obtain ⟨s0, s1, s2⟩ := hSw; go_simp); all_goals with_reducible rfl
    try simp only [Act.put, List.setIfInBounds_toArray, List.set_cons_zero, List.set_cons_succ]
    refine take_run (i := 4) (v := ?_) rfl (by kernel_rfl) (by kernel_rfl) (by kernel_rfl) (fun _ _ _ h => h) (by kernel_rfl) ?_ (by assumption) ?_
    rotate_left
    · (intro w5 hSw; obtain ⟨s0, s1, s2⟩ := hSw; go_simp); all_goals with_reducible rfl
    try simp only [Act.put, List.setIfInBounds_toArray, List.set_cons_zero, List.set_cons_succ]
    refine take_run (i := 5) (v := ?_) rfl (by kernel_rfl) (by kernel_rfl) (by kernel_rfl) (fun _ _ _ h => h) (by kernel_rfl) ?_ (by assumption) ?_
    rotate_left
    · (intro w5 hSw; obtain ⟨s0, s1, s2⟩ := hSw; go_simp); all_goals with_reducible rfl
    try simp only [Act.put, List.setIfInBounds_toArray, List.set_cons_zero, List.set_cons_succ]
    refine take_run (i := 6) (v := ?_) rfl (by kernel_rfl) (by kernel_rfl) (by kernel_rfl) (fun _ _ _ h => h) (by kernel_rfl) ?_ (by assumption) ?_
    rotate_left
    · (intro w5 hSw; obtain ⟨s0, s1, s2⟩ := hSw; go_simp); all_goals with_reducible rfl
    try simp only [Act.put, List.setIfInBounds_toArray, List.set_cons_zero, List.set_cons_succ]
    refine take_run (i := 7) (v := ?_) rfl (by kernel_rfl) (by kernel_rfl) (by kernel_rfl) (fun _ _ _ h => h) (by kernel_rfl) ?_ (by assumption) ?_
    rotate_left
    · (intro w5 hSw; obtain ⟨s0, s1, s2⟩ := hSw; go_simp); all_goals with_reducible rfl
    try simp only [Act.put, List.setIfInBounds_toArray, List.set_cons_zero, List.set_cons_succ]
    refine take_run (i := 8) (v := ?_) rfl (by kernel_rfl) (by kernel_rfl) (by kernel_rfl) (fun _ _ _ h => h) (by kernel_rfl) ?_ (by assumption) ?_
    rotate_left
    · (intro w5 hSw; obtain ⟨s0, s1, s2⟩ := hSw; go_simp); all_goals with_reducible rfl
    try simp only [Act.put, List.setIfInBounds_toArray, List.set_cons_zero, List.set_cons_succ]
    refine take_run (i := 10) (v := ?_) rfl (by kernel_rfl) (by kernel_rfl) (by kernel_rfl) (fun _ _ _ h => h) (by kernel_rfl) ?_ (by assumption) ?_
    rotate_left
    · (intro w5 hSw; obtain ⟨s0, s1, s2⟩ := hSw; go_simp); all_goals with_reducible rfl
    try simp only [Act.put, List.setIfInBounds_toArray, List.set_cons_zero, List.set_cons_succ]
    refine take_call (i := 9) rfl (by kernel_rfl) (by kernel_rfl) (fun K hK => ?_)
    go_simp; refine HN.out.mono ?_; rintro r w1 ⟨rfl, b1⟩; have M1 := HX.out.below b1
    go_wp2_with fail
    clear hHeld
    refine hK.out _ _ ?_ (fun hHeld => ?_)
    · exact M1.s
    clear hK K
    try simp only [Act.put, List.setIfInBounds_toArray, List.set_cons_zero, List.set_cons_succ]
    refine take_call (i := 11) rfl (by kernel_rfl) (by kernel_rfl) (fun K hK => ?_)
    go_simp; refine (HS.out w1 M1.disk).mono ?_; rintro r w2 ⟨rfl, m2⟩; have O2 := M1.moves m2; obtain ⟨F2, M2, g2, t2⟩ := id O2
    go_wp2_with fail
    clear hHeld
    refine hK.out _ _ ?_ (fun hHeld => ?_)
    · exact M2.s
    clear hK K
    try simp only [Act.put, List.setIfInBounds_toArray, List.set_cons_zero, List.set_cons_succ]
    refine take_run (i := 12) (v := ?_) rfl (by kernel_rfl) (by kernel_rfl) (by kernel_rfl) (fun _ _ _ h => h) (by kernel_rfl) ?_ (by assumption) ?_
    rotate_left
    · (intro w5 hSw; obtain ⟨s0, s1, s2⟩ := hSw; go_simp); all_goals with_reducible rfl
    try simp only [Act.put, List.setIfInBounds_toArray, List.set_cons_zero, List.set_cons_succ]
    refine wpAnyH_done (by kernel_rfl) ?_ _
    have c1 := M2.c1
    have c2 := M2.c2
    have f1 := M2.frozen 1
    have f2 := M2.frozen 2
    have HM2 := Lib.hid M2
    go_wp2
    go_ret
    exact ⟨rfl, _, _, LogOut.before HM.out (((Below.refl _ w).drew).trans b1) (LogOut.trans (d1 := d2) (last1 := last) (count1 := count) g2 t2 M1.lt (LogOut.more HM2.out)), fun _ => e3⟩
  · go_enter Tryz.func58, Tryz.ntmps58
    go_upto_region 1 with fail
    refine wp_region_held_drew (S := LogS xb p last count) (by kernel_rfl) (HX.out.s) (fun hHeld => ?_)
    refine take_run (i := 0) (v := ?_) rfl (by kernel_rfl) (by kernel_rfl) (by kernel_rfl) (fun _ _ _ h => h) (by kernel_rfl) ?_ (by assumption) ?_
    rotate_left
    · (intro w5 hSw; obtain ⟨s0, s1, s2⟩ := hSw; go_simp); all_goals with_reducible rfl
    try simp only [Act.put, List.setIfInBounds_toArray, List.set_cons_zero, List.set_cons_succ]
    refine take_run (i := 1) (v := ?_) rfl (by kernel_rfl) (by kernel_rfl) (by kernel_rfl) (fun _ _ _ h => h) (by kernel_rfl) ?_ (by assumption) ?_
    rotate_left
    · (intro w5 hSw; obtain ⟨s0, s1, s2⟩ := hSw; go_simp); all_goals with_reducible rfl
    try simp only [Act.put, List.setIfInBounds_toArray, List.set_cons_zero, List.set_cons_succ]
    refine take_run (i := 2) (v := ?_) rfl (by kernel_rfl) (by kernel_rfl) (by kernel_rfl) (fun _ _ _ h => h) (by kernel_rfl) ?_ (by assumption) ?_
    rotate_left
    · (intro w5 hSw; obtain ⟨s0, s1, s2⟩ := hSw; go_simp); all_goals with_reducible rfl
    try simp only [Act.put, List.setIfInBounds_toArray, List.set_cons_zero, List.set_cons_succ]
    refine take_run (i := 3) (v := ?_) rfl (by kernel_rfl) (by kernel_rfl) (by kernel_rfl) (fun _ _ _ h => h) (by kernel_rfl) ?_ (by assumption) ?_
    rotate_left
    · (intro w5 hSw; obtain ⟨s0, s1, s2⟩ := hSw; go_simp); all_goals with_reducible rfl
    try simp only [Act.put, List.setIfInBounds_toArray, List.set_cons_zero, List.set_cons_succ]
    refine take_run (i := 4) (v := ?_) rfl (by kernel_rfl) (by kernel_rfl) (by kernel_rfl) (fun _ _ _ h => h) (by kernel_rfl) ?_ (by assumption) ?_
    rotate_left
    · (intro w5 hSw; obtain ⟨s0, s1, s2⟩ := hSw; go_simp); all_goals with_reducible rfl
    try simp only [Act.put, List.setIfInBounds_toArray, List.set_cons_zero, List.set_cons_succ]
    refine take_run (i := 5) (v := ?_) rfl (by kernel_rfl) (by kernel_rfl) (by kernel_rfl) (fun _ _ _ h => h) (by kernel_rfl) ?_ (by assumption) ?_
    rotate_left
    · (intro w5 hSw; obtain ⟨s0, s1, s2⟩ := hSw; go_simp); all_goals with_reducible rfl
    try simp only [Act.put, List.setIfInBounds_toArray, List.set_cons_zero, List.set_cons_succ]
    refine take_run (i := 6) (v := ?_) rfl (by kernel_rfl) (by kernel_rfl) (by kernel_rfl) (fun _ _ _ h => h) (by kernel_rfl) ?_ (by assumption) ?_
    rotate_left
    · (intro w5 hSw; obtain ⟨s0, s1, s2⟩ := hSw; go_simp); all_goals with_reducible rfl
    try simp only [Act.put, List.setIfInBounds_toArray, List.set_cons_zero, List.set_cons_succ]
    refine take_run (i := 7) (v := ?_) rfl (by kernel_rfl) (by kernel_rfl) (by kernel_rfl) (fun _ _ _ h => h) (by kernel_rfl) ?_ (by assumption) ?_
    rotate_left
    · (intro w5 hSw; obtain ⟨s0, s1, s2⟩ := hSw; go_simp); all_goals with_reducible rfl
    try simp only [Act.put, List.setIfInBounds_toArray, List.set_cons_zero, List.set_cons_succ]
    refine take_run (i := 8) (v := ?_) rfl (by kernel_rfl) (by kernel_rfl) (by kernel_rfl) (fun _ _ _ h => h) (by kernel_rfl) ?_ (by assumption) ?_
    rotate_left
    · (intro w5 hSw; obtain ⟨s0, s1, s2⟩ := hSw; go_simp); all_goals with_reducible rfl
    try simp only [Act.put, List.setIfInBounds_toArray, List.set_cons_zero, List.set_cons_succ]
    refine take_run (i := 10) (v := ?_) rfl (by kernel_rfl) (by kernel_rfl) (by kernel_rfl) (fun _ _ _ h => h) (by kernel_rfl) ?_ (by assumption) ?_
    rotate_left
    · (intro w5 hSw; obtain ⟨s0, s1, s2⟩ := hSw; go_simp); all_goals with_reducible rfl
    try simp only [Act.put, List.setIfInBounds_toArray, List.set_cons_zero, List.set_cons_succ]
    refine take_call (i := 9) rfl (by kernel_rfl) (by kernel_rfl) (fun K hK => ?_)
    go_simp; refine HN.out.mono ?_; rintro r w1 ⟨rfl, b1⟩; have M1 := HX.out.below b1
    go_wp2_with fail
    clear hHeld
    refine hK.out _ _ ?_ (fun hHeld => ?_)
    · exact M1.s
    clear hK K
    try simp only [Act.put, List.setIfInBounds_toArray, List.set_cons_zero, List.set_cons_succ]
    refine take_call (i := 11) rfl (by kernel_rfl) (by kernel_rfl) (fun K hK => ?_)
    go_simp; refine (HS.out w1 M1.disk).mono ?_; rintro r w2 ⟨rfl, m2⟩; have O2 := M1.moves m2; obtain ⟨F2, M2, g2, t2⟩ := id O2
    go_wp2_with fail
    clear hHeld
    refine hK.out _ _ ?_ (fun hHeld => ?_)
    · exact M2.s
    clear hK K
    try simp only [Act.put, List.setIfInBounds_toArray, List.set_cons_zero, List.set_cons_succ]
    refine take_run (i := 12) (v := ?_) rfl (by kernel_rfl) (by kernel_rfl) (by kernel_rfl) (fun _ _ _ h => h) (by kernel_rfl) ?_ (by assumption) ?_
    rotate_left
    · (intro w5 hSw; obtain ⟨s0, s1, s2⟩ := hSw; go_simp); all_goals with_reducible rfl
    try simp only [Act.put, List.setIfInBounds_toArray, List.set_cons_zero, List.set_cons_succ]
    refine wpAnyH_done (by kernel_rfl) ?_ _
    have c1 := M2.c1
    have c2 := M2.c2
    have f1 := M2.frozen 1
    have f2 := M2.frozen 2
    have HM2 := Lib.hid M2
    go_wp2
    go_ret
    exact ⟨rfl, _, _, LogOut.before HM.out (((Below.refl _ w).drew).trans b1) (LogOut.trans (d1 := d2) (last1 := last) (count1 := count) g2 t2 M1.lt (LogOut.more HM2.out)), fun _ => e3⟩

end Go.Proofs.YtjidadolfpjdeaaGreatDoor

namespace Go.Proofs.YtjidadolfpjdeaaGreatDoor
open Go.RowKit
set_option linter.unusedVariables false

variable {w w' : World} {xb p last count : Nat} {d : PD} {F : Nat → Prop}

theorem LogM.setOther (h : LogM w xb p d F last count) {n : Nat} (hn : xb ≠ n) (u v z : Value) : LogS xb p last count (((w.setCell ⟨n, 0, none⟩ u).setCell ⟨n, 1, none⟩ v).setCell ⟨n, 2, none⟩ z) := by
  have e : (((w.setCell ⟨n, 0, none⟩ u).setCell ⟨n, 1, none⟩ v).setCell ⟨n, 2, none⟩ z).heap[xb]? = w.heap[xb]? := by
    rw [heap_setCell_other _ _ xb _ hn, heap_setCell_other _ _ xb _ hn, heap_setCell_other _ _ xb _ hn]
  exact ⟨(World.cell?_of_block (a := ⟨xb, 0, none⟩) e).trans h.c0, (World.cell?_of_block (a := ⟨xb, 1, none⟩) e).trans h.c1, (World.cell?_of_block (a := ⟨xb, 2, none⟩) e).trans h.c2⟩

set_option maxRecDepth 100000 in
set_option maxHeartbeats 8000000 in
theorem lastSize_any (h : LogM w xb p d F last count) (hmax : last ≤ 99999999) (hd : d.dead = false) {f : PF} (hf : d.find (nameL last) = some f) (hlen : f.bytes.length ≤ 4194304) :
    Calls Tryz.prog 55 #[.pointer (some ⟨xb, 0, none⟩)] w fun r w' => r = .returned (.int .i64 f.bytes.length) ∧ Below w.heap.size w w' := by
  have hx := h.drew
  have hnn := fun (X : World) (M : LogM X xb p d F last count) => name_any M.env hmax
  have hrd := fun (X : World) (M : LogM X xb p d F last count) => readf_any M.disk (nameL last) (by rw [name_length]; decide) hd hf
  have HN := Lib.hid hnn
  have HR := Lib.hid hrd
  have HX := Lib.hid hx
  clear hnn hrd hx h
  go_enter Tryz.func55, Tryz.ntmps55
  go_upto_region 1 with fail
  refine wp_region_held_drew (S := LogS xb p last count) (by kernel_rfl) (HX.out.s) (fun hHeld => ?_)
  refine take_run (i := 0) (v := ?_) rfl (by kernel_rfl) (by kernel_rfl) (by kernel_rfl) (fun _ _ _ h => h) (by kernel_rfl) ?_ (by assumption) ?_
  rotate_left
  · (intro w5 hSw; obtain ⟨s0, s1, s2⟩ := hSw; go_simp); all_goals with_reducible rfl
  try simp only [Act.put, List.setIfInBounds_toArray, List.set_cons_zero, List.set_cons_succ]
  refine take_run (i := 1) (v := ?_) rfl (by kernel_rfl) (by kernel_rfl) (by kernel_rfl) (fun _ _ _ h => h) (by kernel_rfl) ?_ (by assumption) ?_
  rotate_left
  · (intro w5 hSw; obtain ⟨s0, s1, s2⟩ := hSw; go_simp); all_goals with_reducible rfl
  try simp only [Act.put, List.setIfInBounds_toArray, List.set_cons_zero, List.set_cons_succ]
  refine take_run (i := 2) (v := ?_) rfl (by kernel_rfl) (by kernel_rfl) (by kernel_rfl) (fun _ _ _ h => h) (by kernel_rfl) ?_ (by assumption) ?_
  rotate_left
  · (intro w5 hSw; obtain ⟨s0, s1, s2⟩ := hSw; go_simp); all_goals with_reducible rfl
  try simp only [Act.put, List.setIfInBounds_toArray, List.set_cons_zero, List.set_cons_succ]
  refine take_run (i := 3) (v := ?_) rfl (by kernel_rfl) (by kernel_rfl) (by kernel_rfl) (fun _ _ _ h => h) (by kernel_rfl) ?_ (by assumption) ?_
  rotate_left
  · (intro w5 hSw; obtain ⟨s0, s1, s2⟩ := hSw; go_simp); all_goals with_reducible rfl
  try simp only [Act.put, List.setIfInBounds_toArray, List.set_cons_zero, List.set_cons_succ]
  refine take_run (i := 4) (v := ?_) rfl (by kernel_rfl) (by kernel_rfl) (by kernel_rfl) (fun _ _ _ h => h) (by kernel_rfl) ?_ (by assumption) ?_
  rotate_left
  · (intro w5 hSw; obtain ⟨s0, s1, s2⟩ := hSw; go_simp); all_goals with_reducible rfl
  try simp only [Act.put, List.setIfInBounds_toArray, List.set_cons_zero, List.set_cons_succ]
  refine take_run (i := 5) (v := ?_) rfl (by kernel_rfl) (by kernel_rfl) (by kernel_rfl) (fun _ _ _ h => h) (by kernel_rfl) ?_ (by assumption) ?_
  rotate_left
  · (intro w5 hSw; obtain ⟨s0, s1, s2⟩ := hSw; go_simp); all_goals with_reducible rfl
  try simp only [Act.put, List.setIfInBounds_toArray, List.set_cons_zero, List.set_cons_succ]
  refine take_run (i := 6) (v := ?_) rfl (by kernel_rfl) (by kernel_rfl) (by kernel_rfl) (fun _ _ _ h => h) (by kernel_rfl) ?_ (by assumption) ?_
  rotate_left
  · (intro w5 hSw; obtain ⟨s0, s1, s2⟩ := hSw; go_simp); all_goals with_reducible rfl
  try simp only [Act.put, List.setIfInBounds_toArray, List.set_cons_zero, List.set_cons_succ]
  refine take_run (i := 7) (v := ?_) rfl (by kernel_rfl) (by kernel_rfl) (by kernel_rfl) (fun _ _ _ h => h) (by kernel_rfl) ?_ (by assumption) ?_
  rotate_left
  · (intro w5 hSw; obtain ⟨s0, s1, s2⟩ := hSw; go_simp); all_goals with_reducible rfl
  try simp only [Act.put, List.setIfInBounds_toArray, List.set_cons_zero, List.set_cons_succ]
  refine wpAnyH_ready (rs := [8, 13]) (by kernel_rfl) (by simp) ?_
  refine AllReadyH.cons rfl (fun K hK => ?_) ?_
  · rw [if_pos (by kernel_rfl)]
    (try go_simp)
    refine HN.out _ HX.out |>.mono ?_
    rintro r w1 ⟨rfl, b1⟩
    have M1 := HX.out.below b1
    skip
    go_wp2_with fail
    clear hHeld
    refine hK.out _ _ M1.s (fun hHeld => ?_)
    clear hK K
    try simp only [Act.put, List.setIfInBounds_toArray, List.set_cons_zero, List.set_cons_succ]
    refine wpAnyH_ready (rs := [9, 13]) (by kernel_rfl) (by simp) ?_
    refine AllReadyH.cons rfl (fun K hK => ?_) ?_
    · rw [if_pos (by kernel_rfl)]
      (try go_simp)
      refine HR.out _ M1 |>.mono ?_
      rintro r w2 ⟨rfl, b2⟩
      have M2 := M1.below b2
      skip
      unfold fileV
      go_wp2_with fail
      clear hHeld
      refine hK.out _ _ M2.s (fun hHeld => ?_)
      clear hK K
      try simp only [Act.put, List.setIfInBounds_toArray, List.set_cons_zero, List.set_cons_succ]
      refine take_run (i := 10) (v := ?_) rfl (by kernel_rfl) (by kernel_rfl) (by kernel_rfl) (fun _ _ _ h => h) (by kernel_rfl) ?_ (by assumption) ?_
      rotate_left
      · (intro w5 hSw; obtain ⟨s0, s1, s2⟩ := hSw; go_simp); all_goals with_reducible rfl
      try simp only [Act.put, List.setIfInBounds_toArray, List.set_cons_zero, List.set_cons_succ]
      refine take_run (i := 11) (v := ?_) rfl (by kernel_rfl) (by kernel_rfl) (by kernel_rfl) (fun _ _ _ h => h) (by kernel_rfl) ?_ (by assumption) ?_
      rotate_left
      · (intro w5 hSw; obtain ⟨s0, s1, s2⟩ := hSw; go_simp); all_goals with_reducible rfl
      try simp only [Act.put, List.setIfInBounds_toArray, List.set_cons_zero, List.set_cons_succ]
      refine take_run (i := 12) (v := ?_) rfl (by kernel_rfl) (by kernel_rfl) (by kernel_rfl) (fun _ _ _ h => h) (by kernel_rfl) ?_ (by assumption) ?_
      rotate_left
      · (intro w5 hSw; obtain ⟨s0, s1, s2⟩ := hSw; go_simp); all_goals with_reducible rfl
      try simp only [Act.put, List.setIfInBounds_toArray, List.set_cons_zero, List.set_cons_succ]
      refine take_call (i := 13) rfl (by kernel_rfl) (by kernel_rfl) (fun K hK => ?_)
      (try go_simp)
      refine hK.out _ _ (M2.below ((Below.refl _ w2).alloc (Nat.le_refl _) (.cells #[.string ⟨#[]⟩, .string ⟨#[]⟩, .int .i64 0] 43))).s (fun hHeld => ?_)
      clear hK K
      try simp only [Act.put, List.setIfInBounds_toArray, List.set_cons_zero, List.set_cons_succ]
      refine take_call (i := 14) rfl (by kernel_rfl) (by kernel_rfl) (fun K hK => ?_)
      (try go_simp)
      refine hK.out _ _ (M2.below ((Below.refl _ w2).alloc (Nat.le_refl _) _)).s (fun hHeld => ?_)
      clear hK K
      try simp only [Act.put, List.setIfInBounds_toArray, List.set_cons_zero, List.set_cons_succ]
      refine take_run (i := 15) (v := ?_) rfl (by kernel_rfl) (by kernel_rfl) (by kernel_rfl) (fun _ _ _ h => h) (by kernel_rfl) ?_ (by assumption) ?_
      rotate_left
      · (intro w5 hSw; obtain ⟨s0, s1, s2⟩ := hSw; go_simp); all_goals with_reducible rfl
      try simp only [Act.put, List.setIfInBounds_toArray, List.set_cons_zero, List.set_cons_succ]
      refine wpAnyH_done (by kernel_rfl) ?_ _
      go_wp2
      go_ret
      exact ⟨rfl, (((Below.refl _ w).drew).trans (b1.trans (b2.mono b1.size))).alloc (by have := b1.size; have := b2.size; simp at *; omega) _⟩
    refine AllReadyH.cons rfl (fun K hK => ?_) ?_
    · rw [if_pos (by kernel_rfl)]
      (try go_simp)
      refine hK.out _ _ (M1.below ((Below.refl _ w1).alloc (Nat.le_refl _) (.cells #[.string ⟨#[]⟩, .string ⟨#[]⟩, .int .i64 0] 43))).s (fun hHeld => ?_)
      clear hK K
      try simp only [Act.put, List.setIfInBounds_toArray, List.set_cons_zero, List.set_cons_succ]
      have MA := M1.below ((Below.refl _ w1).alloc (Nat.le_refl _) (.cells #[.string ⟨#[]⟩, .string ⟨#[]⟩, .int .i64 0] 43))
      have KA : FileB w1.heap.size noFile (w1.alloc (.cells #[.string ⟨#[]⟩, .string ⟨#[]⟩, .int .i64 0] 43)) := heap_alloc_new w1 _
      have sA := b1.size
      refine take_call (i := 9) rfl (by kernel_rfl) (by kernel_rfl) (fun K hK => ?_)
      (try go_simp)
      refine HR.out _ MA |>.mono ?_
      rintro r w2 ⟨rfl, b2⟩
      have M2 := MA.below b2
      have K2 := b2.fileB KA (by simp)
      obtain ⟨g0, g1, g2, z0, z1, z2⟩ := K2.cells
      have hnx : xb ≠ w1.heap.size := by have := M1.lt; omega
      have hnge : w.heap.size ≤ w1.heap.size := sA
      unfold fileV
      go_wp2_with fail
      clear hHeld
      refine hK.out _ _ M2.s (fun hHeld => ?_)
      clear hK K
      try simp only [Act.put, List.setIfInBounds_toArray, List.set_cons_zero, List.set_cons_succ]
      refine take_run (i := 10) (v := ?_) rfl (by kernel_rfl) (by kernel_rfl) (by kernel_rfl) (fun _ _ _ h => h) (by kernel_rfl) ?_ (by assumption) ?_
      rotate_left
      · (intro w5 hSw; obtain ⟨s0, s1, s2⟩ := hSw; go_simp); all_goals with_reducible rfl
      try simp only [Act.put, List.setIfInBounds_toArray, List.set_cons_zero, List.set_cons_succ]
      refine take_run (i := 11) (v := ?_) rfl (by kernel_rfl) (by kernel_rfl) (by kernel_rfl) (fun _ _ _ h => h) (by kernel_rfl) ?_ (by assumption) ?_
      rotate_left
      · (intro w5 hSw; obtain ⟨s0, s1, s2⟩ := hSw; go_simp); all_goals with_reducible rfl
      try simp only [Act.put, List.setIfInBounds_toArray, List.set_cons_zero, List.set_cons_succ]
      refine take_run (i := 12) (v := ?_) rfl (by kernel_rfl) (by kernel_rfl) (by kernel_rfl) (fun _ _ _ h => h) (by kernel_rfl) ?_ (by assumption) ?_
      rotate_left
      · (intro w5 hSw; obtain ⟨s0, s1, s2⟩ := hSw; go_simp); all_goals with_reducible rfl
      try simp only [Act.put, List.setIfInBounds_toArray, List.set_cons_zero, List.set_cons_succ]
      refine take_call (i := 14) rfl (by kernel_rfl) (by kernel_rfl) (fun K hK => ?_)
      (try go_simp)
      refine hK.out _ _ (M2.setOther hnx _ _ _) (fun hHeld => ?_)
      clear hK K
      try simp only [Act.put, List.setIfInBounds_toArray, List.set_cons_zero, List.set_cons_succ]
      refine take_run (i := 15) (v := ?_) rfl (by kernel_rfl) (by kernel_rfl) (by kernel_rfl) (fun _ _ _ h => h) (by kernel_rfl) ?_ (by assumption) ?_
      rotate_left
      · (intro w5 hSw; obtain ⟨s0, s1, s2⟩ := hSw; go_simp); all_goals with_reducible rfl
      try simp only [Act.put, List.setIfInBounds_toArray, List.set_cons_zero, List.set_cons_succ]
      refine wpAnyH_done (by kernel_rfl) ?_ _
      have k5 := K2.store f
      obtain ⟨v0, v1, v2⟩ := k5.vals
      go_wp2
      go_ret
      have hQQ : Below w.heap.size w w2 := ((Below.refl _ w).drew).trans ((b1.alloc b1.size _).trans (b2.mono (by simp; exact Nat.le_trans b1.size (Nat.le_succ _))))
      exact ⟨rfl, ((hQQ.setCell hnge _).setCell hnge _).setCell hnge _⟩
    exact AllReadyH.nil
  refine AllReadyH.cons rfl (fun K hK => ?_) ?_
  · rw [if_pos (by kernel_rfl)]
    (try go_simp)
    refine hK.out _ _ (HX.out.below ((Below.refl _ w.drew).alloc (Nat.le_refl _) (.cells #[.string ⟨#[]⟩, .string ⟨#[]⟩, .int .i64 0] 43))).s (fun hHeld => ?_)
    clear hK K
    try simp only [Act.put, List.setIfInBounds_toArray, List.set_cons_zero, List.set_cons_succ]
    have MA := HX.out.below ((Below.refl _ w.drew).alloc (Nat.le_refl _) (.cells #[.string ⟨#[]⟩, .string ⟨#[]⟩, .int .i64 0] 43))
    have KA : FileB w.heap.size noFile (w.drew.alloc (.cells #[.string ⟨#[]⟩, .string ⟨#[]⟩, .int .i64 0] 43)) := heap_alloc_new w.drew _
    refine take_call (i := 8) rfl (by kernel_rfl) (by kernel_rfl) (fun K hK => ?_)
    (try go_simp)
    refine HN.out _ MA |>.mono ?_
    rintro r w1 ⟨rfl, b1⟩
    have M1 := MA.below b1
    have K1 := b1.fileB KA (by simp)
    have sA : w.heap.size < w1.heap.size := by have := b1.size; simp at this; omega
    go_wp2_with fail
    clear hHeld
    refine hK.out _ _ M1.s (fun hHeld => ?_)
    clear hK K
    try simp only [Act.put, List.setIfInBounds_toArray, List.set_cons_zero, List.set_cons_succ]
    refine take_call (i := 9) rfl (by kernel_rfl) (by kernel_rfl) (fun K hK => ?_)
    (try go_simp)
    refine HR.out _ M1 |>.mono ?_
    rintro r w2 ⟨rfl, b2⟩
    have M2 := M1.below b2
    have K2 := b2.fileB K1 sA
    obtain ⟨g0, g1, g2, z0, z1, z2⟩ := K2.cells
    have hnx : xb ≠ w.heap.size := by have := HX.out.lt; simp at this; omega
    have hnge : w.heap.size ≤ w.heap.size := Nat.le_refl _
    unfold fileV
    go_wp2_with fail
    clear hHeld
    refine hK.out _ _ M2.s (fun hHeld => ?_)
    clear hK K
    try simp only [Act.put, List.setIfInBounds_toArray, List.set_cons_zero, List.set_cons_succ]
    refine take_run (i := 10) (v := ?_) rfl (by kernel_rfl) (by kernel_rfl) (by kernel_rfl) (fun _ _ _ h => h) (by kernel_rfl) ?_ (by assumption) ?_
    rotate_left
    · (intro w5 hSw; obtain ⟨s0, s1, s2⟩ := hSw; go_simp); all_goals with_reducible rfl
    try simp only [Act.put, List.setIfInBounds_toArray, List.set_cons_zero, List.set_cons_succ]
    refine take_run (i := 11) (v := ?_) rfl (by kernel_rfl) (by kernel_rfl) (by kernel_rfl) (fun _ _ _ h => h) (by kernel_rfl) ?_ (by assumption) ?_
    rotate_left
    · (intro w5 hSw; obtain ⟨s0, s1, s2⟩ := hSw; go_simp); all_goals with_reducible rfl
    try simp only [Act.put, List.setIfInBounds_toArray, List.set_cons_zero, List.set_cons_succ]
    refine take_run (i := 12) (v := ?_) rfl (by kernel_rfl) (by kernel_rfl) (by kernel_rfl) (fun _ _ _ h => h) (by kernel_rfl) ?_ (by assumption) ?_
    rotate_left
    · (intro w5 hSw; obtain ⟨s0, s1, s2⟩ := hSw; go_simp); all_goals with_reducible rfl
    try simp only [Act.put, List.setIfInBounds_toArray, List.set_cons_zero, List.set_cons_succ]
    refine take_call (i := 14) rfl (by kernel_rfl) (by kernel_rfl) (fun K hK => ?_)
    (try go_simp)
    refine hK.out _ _ (M2.setOther hnx _ _ _) (fun hHeld => ?_)
    clear hK K
    try simp only [Act.put, List.setIfInBounds_toArray, List.set_cons_zero, List.set_cons_succ]
    refine take_run (i := 15) (v := ?_) rfl (by kernel_rfl) (by kernel_rfl) (by kernel_rfl) (fun _ _ _ h => h) (by kernel_rfl) ?_ (by assumption) ?_
    rotate_left
    · (intro w5 hSw; obtain ⟨s0, s1, s2⟩ := hSw; go_simp); all_goals with_reducible rfl
    try simp only [Act.put, List.setIfInBounds_toArray, List.set_cons_zero, List.set_cons_succ]
    refine wpAnyH_done (by kernel_rfl) ?_ _
    have k5 := K2.store f
    obtain ⟨v0, v1, v2⟩ := k5.vals
    go_wp2
    go_ret
    have hQQ : Below w.heap.size w w2 := ((Below.refl _ w).drew).trans (((Below.refl _ w.drew).alloc (Nat.le_refl _) _).trans ((b1.trans (b2.mono b1.size)).mono (by simp)))
    exact ⟨rfl, ((hQQ.setCell hnge _).setCell hnge _).setCell hnge _⟩
  exact AllReadyH.nil

end Go.Proofs.YtjidadolfpjdeaaGreatDoor

namespace Go.Proofs.YtjidadolfpjdeaaGreatDoor
open Go.RowKit
set_option linter.unusedVariables false

variable {w w' : World} {xb p last count : Nat} {d : PD} {F : Nat → Prop}

set_option maxRecDepth 100000 in
theorem takes_any (h : LogM w xb p d F last count) (hmax : last ≤ 99999999) (hd : d.dead = false) {f : PF} (h0 : 0 < count) (hf : d.find (nameL last) = some f) (hlen : f.bytes.length ≤ 4194304) :
    Calls Tryz.prog 31 #[.pointer (some ⟨xb, 0, none⟩)] w fun r w' => r = .returned (.bool (decide (f.bytes.length < 1024))) ∧ Below w.heap.size w w' := by
  have c2 := h.c2
  have hl := lastSize_any h hmax hd hf hlen
  have h0' : (0 : Int) < (count : Int) := by omega
  have e : decide ((f.bytes.length : Int) < 1024) = decide (f.bytes.length < 1024) := decide_eq_decide.2 (by omega)
  have HL := Lib.hid hl
  clear hl h
  go_enter Tryz.func31, Tryz.ntmps31
  by_cases hc : f.bytes.length < 1024
  · have hc' : (f.bytes.length : Int) < 1024 := by omega
    go_wp2_with (go_at_call 55; refine HL.out.mono ?_; rintro r w1 ⟨rfl, b1⟩)
    go_ret
    exact ⟨by simp [hc], b1⟩
  · have hc' : ¬ (f.bytes.length : Int) < 1024 := by omega
    go_wp2_with (go_at_call 55; refine HL.out.mono ?_; rintro r w1 ⟨rfl, b1⟩)
    go_ret
    exact ⟨by simp [hc], b1⟩
set_option maxRecDepth 100000 in
theorem takes_none (h : LogM w xb p d F last 0) :
    Calls Tryz.prog 31 #[.pointer (some ⟨xb, 0, none⟩)] w fun r w' => r = .returned (.bool false) ∧ Below w.heap.size w w' := by
  have c2 := h.c2
  clear h
  go_enter Tryz.func31, Tryz.ntmps31
  go_wp2
  go_ret
  exact ⟨rfl, Below.refl _ _⟩

/-! ### begin -/
theorem begin1_any {n : Nat} {fr : List UInt8} (h : LogM w xb p d F last count) (b1 : Boxed w n 22 (.pointer (some ⟨xb, 0, none⟩))) (b2 : Boxed w (n + 1) 9 (.string (B fr)))
    (hs : Calls Tryz.prog 58 #[.pointer (some ⟨xb, 0, none⟩), .string (B fr)] w fun r w' => r = .returned (.int .i64 (d.append (nameL (last + 1)) fr).2) ∧ NextOut w xb p F (d.append (nameL (last + 1)) fr) w') :
    Calls Tryz.prog 57 #[.pointer (some ⟨n, 0, none⟩), .pointer (some ⟨n + 1, 0, none⟩)] w fun r w' => r = .returned (.int .i64 (d.append (nameL (last + 1)) fr).2) ∧ NextOut w xb p F (d.append (nameL (last + 1)) fr) w' := by
  have k1 := b1.cell
  have k2 := b2.cell
  have HS := Lib.hid hs
  clear hs b1 b2 h
  go_enter Tryz.func57, Tryz.ntmps57
  go_wp2_with (go_at_call 58; refine HS.out.mono ?_; rintro r w' ⟨rfl, h⟩; have H := Lib.hid h; clear h)
  go_ret
  exact ⟨rfl, H.out⟩

/-- begin's steps. -/
def bgS (xb n : Nat) : Nat → Nat × Array Value × Array Value
  | 0 => (10, #[.pointer (some ⟨xb, 0, none⟩)], #[])
  | _ => (57, #[], #[.pointer (some ⟨n, 0, none⟩), .pointer (some ⟨n + 1, 0, none⟩)])
/-- What holds ahead of each. -/
def bgI (W : World) (xb p : Nat) (F : Nat → Prop) (d1 : PD) (last count : Nat) (q : PD × Int) : Nat → World → Prop
  | 0, X => X = W
  | 1, X => LogOut W xb p F d1 last count X
  | _, X => q.2 = 0 ∧ NextOut W xb p F q X

theorem bgI_turned {W X : World} {d1 : PD} {q : PD × Int} {i : Nat} (h : bgI W xb p F d1 last count q i X) : Turned (fun k => F k ∨ k = xb) W X := by
  match i, h with
  | 0, h => exact h ▸ Turned.refl _ _
  | 1, ⟨_, _, _, h⟩ => exact h
  | n + 2, ⟨_, _, _, ⟨_, _, _, h⟩, _⟩ => exact h

theorem NextOut.trans {w1 : World} {last1 count1 : Nat} {d1 : PD} {F1 : Nat → Prop} {q : PD × Int} (h1 : ∀ k, F1 k → F k ∨ w.heap.size ≤ k) (ht : Turned (fun k => F k ∨ k = xb) w w1) (hx : xb < w.heap.size) (h : NextOut w1 xb p F1 q w') : NextOut w xb p F q w' := by
  obtain ⟨l, c, g1, g2⟩ := h
  exact ⟨l, c, LogOut.trans (d1 := d1) (last1 := last1) (count1 := count1) h1 ht hx g1, g2⟩

set_option maxRecDepth 100000 in
set_option maxHeartbeats 2000000 in
theorem begin_any (h : LogM w xb p d F last count) (ha : LogAt d last count) (hd : d.dead = false) (hb : Bnd d) (fr : List UInt8) (hfr : fr.length ≤ 69206016000000) :
    Calls Tryz.prog 33 #[.pointer (some ⟨xb, 0, none⟩), .string (B fr)] w fun r w' => r = .returned (.int .i64 (nextL d last fr).2) ∧ NextOut w xb p F (nextL d last fr) w' := by
  obtain ⟨W0, hW0⟩ : ∃ W0, (w.alloc (.cells #[.pointer (some ⟨xb, 0, none⟩)] 22)).alloc (.cells #[.string (B fr)] 9) = W0 := ⟨_, rfl⟩
  have hb0 : Below w.heap.size w W0 := by rw [← hW0]; exact ((Below.refl _ w).alloc (Nat.le_refl _) _).alloc (by simp) _
  have b1 : Boxed W0 w.heap.size 22 (.pointer (some ⟨xb, 0, none⟩)) := by rw [← hW0]; exact (Boxed.new w _ _).alloc _
  have b2 : Boxed W0 (w.heap.size + 1) 9 (.string (B fr)) := by rw [← hW0]; have := Boxed.new (w.alloc (.cells #[.pointer (some ⟨xb, 0, none⟩)] 22)) 9 (.string (B fr)); simpa using this
  have s0 : W0.heap.size = w.heap.size + 2 := by rw [← hW0]; simp
  have h0 := h.below hb0
  have k1 := b1.cell
  have c1 := h0.c1
  have hmx := ha.max
  by_cases hl : last = 99999999
  · have e : nextL d last fr = (d, 7) := by unfold nextL; rw [if_pos hl]
    rw [e]
    have hl' : (last : Int) = 99999999 := by omega
    have hl2 : ((last : Int) == 99999999) = true := by simpa using hl'
    have HM := Lib.hid h
    have HA := Lib.hid ha
    have HB := Lib.hid hb0
    clear h h0 hl ha
    go_enter Tryz.func33, Tryz.ntmps33
    go_wp2
    go_ret
    exact ⟨rfl, _, _, HM.out.of_below HB.out, fun _ => HA.out⟩
  · have e : nextL d last fr = (syncL d).1.append (nameL (last + 1)) fr := by unfold nextL; rw [if_neg hl]
    rw [e]
    have hl' : ¬ (last : Int) = 99999999 := by omega
    have hl2 : ((last : Int) == 99999999) = false := by simpa using hl'
    obtain ⟨y1, y2, y3, y4, y5, y6, _, _⟩ := syncL_at ha h.disk.srt hd
    have ha1 := ha.same y3
    have hb1 := hb.same y4 y5 y6
    have hF : ∀ k, w.heap.size ≤ k → ¬ F k := fun k hk => h.disk.nil_free hk
    have hxl := h.lt
    have hsl : (W0.alloc (.cells #[.func (.func 10) #[.pointer (some ⟨xb, 0, none⟩)] #[], .func (.func 57) #[] #[.pointer (some ⟨w.heap.size, 0, none⟩), .pointer (some ⟨w.heap.size + 1, 0, none⟩)]] 28)).heap[w.heap.size + 2]? = some (.cells #[.func (.func 10) #[.pointer (some ⟨xb, 0, none⟩)] #[], .func (.func 57) #[] #[.pointer (some ⟨w.heap.size, 0, none⟩), .pointer (some ⟨w.heap.size + 1, 0, none⟩)]] 28 (0, 0)) := by
      have := heap_alloc_new W0 (.cells #[.func (.func 10) #[.pointer (some ⟨xb, 0, none⟩)] #[], .func (.func 57) #[] #[.pointer (some ⟨w.heap.size, 0, none⟩), .pointer (some ⟨w.heap.size + 1, 0, none⟩)]] 28)
      rw [s0] at this
      exact this
    generalize hW1 : W0.alloc (.cells #[.func (.func 10) #[.pointer (some ⟨xb, 0, none⟩)] #[], .func (.func 57) #[] #[.pointer (some ⟨w.heap.size, 0, none⟩), .pointer (some ⟨w.heap.size + 1, 0, none⟩)]] 28) = W1 at hsl
    have bb1 : Below W0.heap.size W0 W1 := by rw [← hW1]; exact (Below.refl _ _).alloc (Nat.le_refl _) _
    have h1 := h0.below bb1
    have s1 : w.heap.size + 3 = W1.heap.size := by rw [← hW1]; simp; omega
    have keep : ∀ {X : World}, Turned (fun k => F k ∨ k = xb) W1 X → ∀ k, w.heap.size ≤ k → k < W1.heap.size → X.heap[k]? = W1.heap[k]? := fun ht k hk hk2 => ht.block k hk2 (fun hh => by
      rcases hh with hh | rfl
      · exact hF k hk hh
      · omega)
    have ht := inTurn_any (w := W1) (q := w.heap.size + 2) (n := 2) (c := 2) (I := bgI W1 xb p F (syncL d).1 last count ((syncL d).1.append (nameL (last + 1)) fr)) (O := fun e X => e = ((syncL d).1.append (nameL (last + 1)) fr).2 ∧ NextOut W1 xb p F ((syncL d).1.append (nameL (last + 1)) fr) X) (bgS xb w.heap.size)
      (by
        intro i X hI j hj
        have hk := keep (bgI_turned hI) (w.heap.size + 2) (by omega) (by omega)
        rw [hsl] at hk
        rw [cell_of_row X (w.heap.size + 2) j _ _ _ hk]
        match j, hj with
        | 0, _ => rfl
        | 1, _ => rfl)
      (by
        intro i hi
        match i, hi with
        | 0, _ => exact enters_of Tryz.func10 (by kernel_rfl) rfl
        | 1, _ => exact enters_of Tryz.func57 (by kernel_rfl) rfl)
      (by
        intro i X hi hI
        match i, hi, hI with
        | 0, _, hI =>
          obtain rfl : X = W1 := hI
          refine (lsync_any h1 ha hd).mono ?_
          rintro r X' ⟨rfl, ho⟩
          exact ⟨0, rfl, .inl ⟨rfl, ho⟩⟩
        | 1, _, hI =>
          obtain ⟨F1, g1, g2, g3⟩ := id hI
          have q1 : Boxed X w.heap.size 22 (.pointer (some ⟨xb, 0, none⟩)) := (keep g3 w.heap.size (Nat.le_refl _) (by omega)).trans ((bb1.block _ (by omega)).trans b1)
          have q2 : Boxed X (w.heap.size + 1) 9 (.string (B fr)) := (keep g3 (w.heap.size + 1) (by omega) (by omega)).trans ((bb1.block _ (by omega)).trans b2)
          refine (begin1_any g1 q1 q2 (writeNext_any g1 ha1 y2 hb1 (by omega) fr hfr)).mono ?_
          rintro r X' ⟨rfl, ho⟩
          have ho2 : NextOut W1 xb p F ((syncL d).1.append (nameL (last + 1)) fr) X' := NextOut.trans (d1 := d) (last1 := last) (count1 := count) g2 g3 h1.lt ho
          refine ⟨_, rfl, ?_⟩
          by_cases he : ((syncL d).1.append (nameL (last + 1)) fr).2 = 0
          · exact .inl ⟨he, he, ho2⟩
          · exact .inr ⟨he, rfl, ho2⟩)
      (by decide) rfl
    have HM := Lib.hid h
    have HT := Lib.hid ht
    have HB := Lib.hid (hb0.trans (bb1.mono hb0.size))
    clear h h0 hl ha ht keep h1 hsl b1 b2 e hF
    go_enter Tryz.func33, Tryz.ntmps33
    go_wp2_with (go_at_call 29; (try rw [hW0]); (try rw [hW1]); refine HT.out.mono ?_; rintro r w' ⟨ee, rfl, hR⟩; have HR := Lib.hid hR; clear hR)
    go_ret

    rcases HR.out with ⟨rfl, he, ho⟩ | ⟨_, rfl, ho⟩
    · exact ⟨by rw [he]; rfl, NextOut.trans (d1 := d) (last1 := last) (count1 := count) (fun _ hk => .inl hk) (Turned.of_below HB.out) HM.out.lt ho⟩
    · exact ⟨rfl, NextOut.trans (d1 := d) (last1 := last) (count1 := count) (fun _ hk => .inl hk) (Turned.of_below HB.out) HM.out.lt ho⟩

/-! ### removeElder -/
theorem segs_dropLast {d : PD} {last : Nat} (h : LogAt d last 1) : (segsL d.files).dropLast = [] := by
  have := h.len
  cases hs : segsL d.files with
  | nil => rfl
  | cons x r =>
    rw [hs] at this
    have : r = [] := List.eq_nil_of_length_eq_zero (by simpa using this)
    rw [this]
    rfl
theorem removeAll_step {d : PD} {last count : Nat} (h : LogAt d last count) (hs : Srt d) (hd : d.dead = false) (h1 : 1 < count) :
    ∃ d', d.remove (nameL (last + 1 - count)) = (d', 0) ∧ LogAt d' last (count - 1) ∧ Srt d' ∧ d'.dead = false ∧ (Bnd d → Bnd d') ∧ removeAll d (segsL d.files).dropLast = removeAll d' (segsL d'.files).dropLast := by
  obtain ⟨f, d', r1, r2, r3, r4, r5, r6, r7, r8, r9, r10, r11⟩ := h.removed hs hd h1
  obtain ⟨f2, rr, e1, e2, e3⟩ := h.first (by omega)
  refine ⟨d', r2, r3, r4, r5, fun hb => ⟨Int.le_trans hb.room0 r11, by rw [r8]; exact hb.room1, by rw [r7]; exact hb.fuse0, by rw [r7]; exact hb.fuse1⟩, ?_⟩
  have hne : rr ≠ [] := by
    intro e
    have := h.len
    rw [e1, e] at this
    simp at this
    omega
  rw [r6, e1, List.tail_cons, List.dropLast_cons_of_ne_nil hne, removeAll, e3, r2, if_neg (by simp)]

/-- How many segments a log's block says. -/
def logCount (xb : Nat) (w : World) : Nat := match w.cell? ⟨xb, 2, none⟩ with
  | some (.int _ n) => n.toNat
  | _ => 0
theorem LogM.cnt (h : LogM w xb p d F last count) : logCount xb w = count := by
  unfold logCount
  rw [h.c2]
  simp
/-- Between two rounds. -/
def ReI (w : World) (xb p : Nat) (F : Nat → Prop) (d : PD) (last count : Nat) (wr : World) : Prop :=
  ∃ (d1 : PD) (c : Nat) (F1 : Nat → Prop), 1 ≤ c ∧ c ≤ count ∧ LogM wr xb p d1 F1 last c ∧ (∀ k, F1 k → F k ∨ w.heap.size ≤ k) ∧ Turned (fun k => F k ∨ k = xb) w wr ∧ LogAt d1 last c ∧ d1.dead = false ∧ Bnd d1 ∧ removeAll d (segsL d.files).dropLast = removeAll d1 (segsL d1.files).dropLast

theorem LogOut.less (h : LogM w xb p d F last count) {n : Nat} (hn : (count : Int) - 1 = (n : Int)) : LogOut w xb p F d last n (w.setCell ⟨xb, 2, none⟩ (.int .i64 ((count : Int) - 1))) := by
  rw [hn]
  exact h.set2 n

set_option maxRecDepth 100000 in
set_option maxHeartbeats 4000000 in
theorem removeElder_any (h : LogM w xb p d F last count) (ha : LogAt d last count) (hd : d.dead = false) (hb : Bnd d) (h0 : 1 ≤ count) :
    Calls Tryz.prog 36 #[.pointer (some ⟨xb, 0, none⟩)] w fun r w' => r = .returned (.int .i64 0) ∧ LogOut w xb p F (removeAll d (segsL d.files).dropLast).1 last 1 w' ∧ (removeAll d (segsL d.files).dropLast).2 = 0 ∧ LogAt (removeAll d (segsL d.files).dropLast).1 last 1 ∧ (removeAll d (segsL d.files).dropLast).1.dead = false := by
  have hxl := h.lt
  have hmx := ha.max
  have hi : ReI w xb p F d last count w := ⟨d, count, F, h0, Nat.le_refl _, h, fun _ hk => .inl hk, Turned.refl _ _, ha, hd, hb, rfl⟩
  have HI := Lib.hid hi
  clear hi h ha hd hb
  go_enter Tryz.func36, Tryz.ntmps36
  go_wp2
  go_loopw [3] (fun _ wr => ReI w xb p F d last count wr) (fun _ wr => logCount xb wr)
  case atStart => exact HI.out
  case round =>
    obtain ⟨d1, c, F1, q1, q2, M, g2, g3, la, hd1, hb1, hrem⟩ := hrel
    have c2 := M.c2
    have hle := la.le
    by_cases hc : 1 < c
    · have hc' : (1 : Int) < (c : Int) := by omega
      obtain ⟨d2, r1, r2, r3, r4, r5, r6⟩ := removeAll_step la M.disk.srt hd1 hc
      have hx := M.drew
      have rr0 := hb1.room0
      have rr1 := hb1.room1
      have hn := name_any (n := last + 1 - c) hx.env (by omega)
      rw [show ((last + 1 - c : Nat) : Int) = (last : Int) - c + 1 from by omega] at hn
      have hs := fun (X : World) (D : DiskOf X p d1 F1) => remove_any D (nameL (last + 1 - c)) (name_small _) hb1.room0 (by omega)
      rw [r1] at hs
      have hw1 : IntKind.i64.wrap ((last : Int) - c) = (last : Int) - c := by rw [IntKind.wrap_i64]; omega
      have hw2 : IntKind.i64.wrap ((last : Int) - c + 1) = (last : Int) - c + 1 := by rw [IntKind.wrap_i64]; omega
      have hw3 : IntKind.i64.wrap ((c : Int) - 1) = (c : Int) - 1 := by rw [IntKind.wrap_i64]; omega
      have HN := Lib.hid hn
      have HS := Lib.hid hs
      have HX := Lib.hid hx
      have HM := Lib.hid M
      have HREM := Lib.hid hrem
      clear hn hs hx M hrem
      go_upto_region 2 with fail
      refine wp_region_held_drew (S := LogS xb p last c) (by kernel_rfl) (HX.out.s) (fun hHeld => ?_)
      refine take_run (i := 0) (v := ?_) rfl (by kernel_rfl) (by kernel_rfl) (by kernel_rfl) (fun _ _ _ h => h) (by kernel_rfl) ?_ (by assumption) ?_
      rotate_left
      · (intro w5 hSw; obtain ⟨s0, s1, s2⟩ := hSw; go_simp); all_goals with_reducible rfl
      try simp only [Act.put, List.setIfInBounds_toArray, List.set_cons_zero, List.set_cons_succ]
      refine take_run (i := 1) (v := ?_) rfl (by kernel_rfl) (by kernel_rfl) (by kernel_rfl) (fun _ _ _ h => h) (by kernel_rfl) ?_ (by assumption) ?_
      rotate_left
      · (intro w5 hSw; obtain ⟨s0, s1, s2⟩ := hSw; go_simp); all_goals with_reducible rfl
      try simp only [Act.put, List.setIfInBounds_toArray, List.set_cons_zero, List.set_cons_succ]
      refine take_run (i := 2) (v := ?_) rfl (by kernel_rfl) (by kernel_rfl) (by kernel_rfl) (fun _ _ _ h => h) (by kernel_rfl) ?_ (by assumption) ?_
      rotate_left
      · (intro w5 hSw; obtain ⟨s0, s1, s2⟩ := hSw; go_simp); all_goals with_reducible rfl
      try simp only [Act.put, List.setIfInBounds_toArray, List.set_cons_zero, List.set_cons_succ]
      refine take_run (i := 3) (v := ?_) rfl (by kernel_rfl) (by kernel_rfl) (by kernel_rfl) (fun _ _ _ h => h) (by kernel_rfl) ?_ (by assumption) ?_
      rotate_left
      · (intro w5 hSw; obtain ⟨s0, s1, s2⟩ := hSw; go_simp); all_goals with_reducible rfl
      try simp only [Act.put, List.setIfInBounds_toArray, List.set_cons_zero, List.set_cons_succ]
      refine take_run (i := 4) (v := ?_) rfl (by kernel_rfl) (by kernel_rfl) (by kernel_rfl) (fun _ _ _ h => h) (by kernel_rfl) ?_ (by assumption) ?_
      rotate_left
      · (intro w5 hSw; obtain ⟨s0, s1, s2⟩ := hSw; go_simp); all_goals with_reducible rfl
      try simp only [Act.put, List.setIfInBounds_toArray, List.set_cons_zero, List.set_cons_succ]
      refine take_run (i := 5) (v := ?_) rfl (by kernel_rfl) (by kernel_rfl) (by kernel_rfl) (fun _ _ _ h => h) (by kernel_rfl) ?_ (by assumption) ?_
      rotate_left
      · (intro w5 hSw; obtain ⟨s0, s1, s2⟩ := hSw; go_simp); all_goals with_reducible rfl
      try simp only [Act.put, List.setIfInBounds_toArray, List.set_cons_zero, List.set_cons_succ]
      refine take_run (i := 6) (v := ?_) rfl (by kernel_rfl) (by kernel_rfl) (by kernel_rfl) (fun _ _ _ h => h) (by kernel_rfl) ?_ (by assumption) ?_
      rotate_left
      · (intro w5 hSw; obtain ⟨s0, s1, s2⟩ := hSw; go_simp); all_goals with_reducible rfl
      try simp only [Act.put, List.setIfInBounds_toArray, List.set_cons_zero, List.set_cons_succ]
      refine take_run (i := 7) (v := ?_) rfl (by kernel_rfl) (by kernel_rfl) (by kernel_rfl) (fun _ _ _ h => h) (by kernel_rfl) ?_ (by assumption) ?_
      rotate_left
      · (intro w5 hSw; obtain ⟨s0, s1, s2⟩ := hSw; go_simp); all_goals with_reducible rfl
      try simp only [Act.put, List.setIfInBounds_toArray, List.set_cons_zero, List.set_cons_succ]
      refine take_run (i := 8) (v := ?_) rfl (by kernel_rfl) (by kernel_rfl) (by kernel_rfl) (fun _ _ _ h => h) (by kernel_rfl) ?_ (by assumption) ?_
      rotate_left
      · (intro w5 hSw; obtain ⟨s0, s1, s2⟩ := hSw; go_simp); all_goals with_reducible rfl
      try simp only [Act.put, List.setIfInBounds_toArray, List.set_cons_zero, List.set_cons_succ]
      refine take_run (i := 9) (v := ?_) rfl (by kernel_rfl) (by kernel_rfl) (by kernel_rfl) (fun _ _ _ h => h) (by kernel_rfl) ?_ (by assumption) ?_
      rotate_left
      · (intro w5 hSw; obtain ⟨s0, s1, s2⟩ := hSw; go_simp); all_goals with_reducible rfl
      try simp only [Act.put, List.setIfInBounds_toArray, List.set_cons_zero, List.set_cons_succ]
      refine take_run (i := 10) (v := ?_) rfl (by kernel_rfl) (by kernel_rfl) (by kernel_rfl) (fun _ _ _ h => h) (by kernel_rfl) ?_ (by assumption) ?_
      rotate_left
      · (intro w5 hSw; obtain ⟨s0, s1, s2⟩ := hSw; go_simp); all_goals with_reducible rfl
      try simp only [Act.put, List.setIfInBounds_toArray, List.set_cons_zero, List.set_cons_succ]
      refine take_run (i := 11) (v := ?_) rfl (by kernel_rfl) (by kernel_rfl) (by kernel_rfl) (fun _ _ _ h => h) (by kernel_rfl) ?_ (by assumption) ?_
      rotate_left
      · (intro w5 hSw; obtain ⟨s0, s1, s2⟩ := hSw; go_simp); all_goals with_reducible rfl
      try simp only [Act.put, List.setIfInBounds_toArray, List.set_cons_zero, List.set_cons_succ]
      refine take_run (i := 12) (v := ?_) rfl (by kernel_rfl) (by kernel_rfl) (by kernel_rfl) (fun _ _ _ h => h) (by kernel_rfl) ?_ (by assumption) ?_
      rotate_left
      · (intro w5 hSw; obtain ⟨s0, s1, s2⟩ := hSw; go_simp); all_goals with_reducible rfl
      try simp only [Act.put, List.setIfInBounds_toArray, List.set_cons_zero, List.set_cons_succ]
      refine take_run (i := 13) (v := ?_) rfl (by kernel_rfl) (by kernel_rfl) (by kernel_rfl) (fun _ _ _ h => h) (by kernel_rfl) ?_ (by assumption) ?_
      rotate_left
      · (intro w5 hSw; obtain ⟨s0, s1, s2⟩ := hSw; go_simp); all_goals with_reducible rfl
      try simp only [Act.put, List.setIfInBounds_toArray, List.set_cons_zero, List.set_cons_succ]
      refine take_call (i := 14) rfl (by kernel_rfl) (by kernel_rfl) (fun K hK => ?_)
      go_simp; refine HN.out.mono ?_; rintro r w1 ⟨rfl, b1⟩; have M1 := HX.out.below b1
      go_wp2_with fail
      clear hHeld
      refine hK.out _ _ ?_ (fun hHeld => ?_)
      · exact M1.s
      clear hK K
      try simp only [Act.put, List.setIfInBounds_toArray, List.set_cons_zero, List.set_cons_succ]
      refine take_call (i := 15) rfl (by kernel_rfl) (by kernel_rfl) (fun K hK => ?_)
      go_simp; refine (HS.out w1 M1.disk).mono ?_; rintro r w2 ⟨rfl, m2⟩; have O2 := M1.moves m2; obtain ⟨F2, M2, k2, t2⟩ := id O2
      go_wp2_with fail
      clear hHeld
      refine hK.out _ _ ?_ (fun hHeld => ?_)
      · exact M2.s
      clear hK K
      try simp only [Act.put, List.setIfInBounds_toArray, List.set_cons_zero, List.set_cons_succ]
      refine take_run (i := 16) (v := ?_) rfl (by kernel_rfl) (by kernel_rfl) (by kernel_rfl) (fun _ _ _ h => h) (by kernel_rfl) ?_ (by assumption) ?_
      rotate_left
      · (intro w5 hSw; obtain ⟨s0, s1, s2⟩ := hSw; go_simp); all_goals with_reducible rfl
      try simp only [Act.put, List.setIfInBounds_toArray, List.set_cons_zero, List.set_cons_succ]
      refine wpAnyH_done (by kernel_rfl) ?_ _
      have cc := M2.c2
      have ff := M2.frozen 2
      have HM2 := Lib.hid M2
      go_wp2
      have o3 := LogOut.less HM2.out (show (c : Int) - 1 = ((c - 1 : Nat) : Int) from by omega)
      have o4 := LogOut.before HM.out (((Below.refl _ _).drew).trans b1) (LogOut.trans (d1 := d2) (last1 := last) (count1 := c) k2 t2 M1.lt o3)
      obtain ⟨F4, M4, k4, t4⟩ := LogOut.trans (d1 := d1) (last1 := last) (count1 := c) g2 g3 hxl o4
      go_roundw
      case rel => exact ⟨d2, c - 1, F4, by omega, by omega, M4, k4, t4, r2, r4, r5 hb1, HREM.out.trans r6⟩
      case measure => rw [M4.cnt, HM.out.cnt]; omega
    · obtain rfl : c = 1 := by omega
      have hrem2 : removeAll d (segsL d.files).dropLast = (d1, 0) := by rw [hrem, segs_dropLast la]; rfl
      have hc' : ¬ (1 : Int) < (1 : Int) := by decide
      have HM := Lib.hid M
      have HR2 := Lib.hid hrem2
      clear M hrem hrem2
      go_wp2
      go_ret
      rw [HR2.out]
      exact ⟨rfl, ⟨F1, HM.out, g2, g3⟩, rfl, la, hd1⟩

end Go.Proofs.YtjidadolfpjdeaaGreatDoor

namespace Go.Proofs.YtjidadolfpjdeaaGreatDoor
open Go.RowKit
set_option linter.unusedVariables false

variable {w w' : World} {xb p last count : Nat} {d : PD} {F : Nat → Prop}

/-! ### on no log -/
theorem ladd_nil (w : World) (r : ByteArray) : Calls Tryz.prog 9 #[.pointer none, .string r] w fun e w' => e = .returned (.int .i64 1) ∧ Below w.heap.size w w' := by
  go_enter Tryz.func9, Tryz.ntmps9
  go_wp2
  go_ret
  exact ⟨rfl, Below.refl _ _⟩
theorem lsync_nil (w : World) : Calls Tryz.prog 10 #[.pointer none] w fun e w' => e = .returned (.int .i64 1) ∧ Below w.heap.size w w' := by
  go_enter Tryz.func10, Tryz.ntmps10
  go_wp2
  go_ret
  exact ⟨rfl, Below.refl _ _⟩
theorem lrenew_nil (w : World) (a : Option Addr) (n c : Nat) : Calls Tryz.prog 11 #[.pointer none, .slice a n c] w fun e w' => e = .returned (.int .i64 1) ∧ Below w.heap.size w w' := by
  go_enter Tryz.func11, Tryz.ntmps11
  go_wp2
  go_ret
  exact ⟨rfl, (Below.refl _ _).alloc (Nat.le_refl _) _⟩
theorem lsegments_nil (w : World) : Calls Tryz.prog 12 #[.pointer none] w fun e w' => e = .returned (.int .i64 0) ∧ Below w.heap.size w w' := by
  go_enter Tryz.func12, Tryz.ntmps12
  go_wp2
  go_ret
  exact ⟨rfl, Below.refl _ _⟩
theorem lopen_nil (w : World) : Calls Tryz.prog 8 #[.pointer none] w fun r w' => ∃ a c, r = .returned (.tuple #[.pointer none, .slice a 0 c, .int .i64 1]) ∧ Below w.heap.size w w' := by
  go_enter Tryz.func8, Tryz.ntmps8
  go_wp2
  go_ret3
  exact ⟨none, 0, rfl, Below.refl _ _⟩

theorem lsegments_any (h : LogM w xb p d F last count) : Calls Tryz.prog 12 #[.pointer (some ⟨xb, 0, none⟩)] w fun e w' => e = .returned (.int .i64 count) ∧ Below w.heap.size w w' := by
  have c2 := h.c2
  clear h
  go_enter Tryz.func12, Tryz.ntmps12
  go_wp2
  go_ret
  exact ⟨rfl, Below.refl _ _⟩

/-! ### Add -/
theorem putL_none (h : LogAt d last 0) (hs : Srt d) (hd : d.dead = false) (fr : List UInt8) : putL d fr false = nextL d last fr := by
  rw [← putL_next h hs hd fr true (.inl rfl)]
  unfold putL
  rw [h.none]
  rfl

theorem fit_one {r : Rec} : Fit [r] ↔ 1 ≤ r.length ∧ r.length ≤ 65536 :=
  ⟨fun h => h r (by simp), fun h x hx => by obtain rfl : x = r := by simpa using hx
                                            exact h⟩
theorem row_one (r : Rec) : rowL [r] = frameL r := by rw [rowL_cons, rowL_nil, List.append_nil]

set_option maxRecDepth 100000 in
set_option maxHeartbeats 4000000 in
theorem ladd_any (h : LogM w xb p d F last count) (ha : LogAt d last count) (hd : d.dead = false) (hb : Bnd d) (r : Rec) (hr : r.length ≤ 100000) :
    Calls Tryz.prog 9 #[.pointer (some ⟨xb, 0, none⟩), .string (B r)] w fun e w' => e = .returned (.int .i64 (addL d r).2) ∧ NextOut w xb p F (addL d r) w' := by
  have htx : Txt (w.alloc (.cells #[.string (B r)] 9)) (some ⟨w.heap.size, 0, none⟩) 1 [r] := by
    refine ⟨rfl, fun j hj => ⟨w.heap.size, 0, rfl, ?_⟩⟩
    obtain rfl : j = 0 := by simpa using hj
    rw [cell_of_row _ w.heap.size (0 + 0) _ _ _ (heap_alloc_new w _)]
    rfl
  have hfr := lframes_any (c := 1) htx (by decide)
  have hal : Below w.heap.size w (w.alloc (.cells #[.string (B r)] 9)) := (Below.refl _ w).alloc (Nat.le_refl _) _
  by_cases hfit : 1 ≤ r.length ∧ r.length ≤ 65536
  · have e1 : addL d r = putL d (frameL r) false := by unfold addL; rw [if_neg (by omega)]
    have hfr2 : Calls Tryz.prog 30 #[.slice (some ⟨w.heap.size, 0, none⟩) 1 1] (w.alloc (.cells #[.string (B r)] 9)) fun e w' => e = .returned (.tuple #[.string (B (frameL r)), .int .i64 0]) ∧ Below (w.alloc (.cells #[.string (B r)] 9)).heap.size (w.alloc (.cells #[.string (B r)] 9)) w' := by
      refine hfr.mono ?_
      rintro e w' ⟨hb, ⟨h1, rfl⟩ | ⟨h1, rfl⟩⟩
      · rw [row_one]; exact ⟨rfl, hb⟩
      · exact absurd (fit_one.2 hfit) h1
    have hlen := frame_most hfit.2
    have HF := Lib.hid hfr2
    have HM := Lib.hid h
    have HA := Lib.hid ha
    have hmx := ha.max
    have hsrt := h.disk.srt
    rw [e1]
    -- the last segment, if there is one
    by_cases h0 : count = 0
    · subst h0
      have e2 := putL_none ha hsrt hd (frameL r)
      rw [e2]
      have ht := fun (X : World) (M : LogM X xb p d F last 0) => takes_none M
      have hg := fun (X : World) (M : LogM X xb p d F last 0) => begin_any M ha hd hb (frameL r) (by omega)
      have HT := Lib.hid ht
      have HG := Lib.hid hg
      clear hfr htx hfr2 h ha ht hg e1 e2
      go_enter Tryz.func9, Tryz.ntmps9
      go_wp2_with (first
        | (go_at_call 30; refine HF.out.mono ?_; rintro e w1 ⟨rfl, b1⟩; have B1 := hal.trans (b1.mono hal.size); have M1 := HM.out.below B1)
        | (go_at_call 31; refine (HT.out _ M1).mono ?_; rintro e w2 ⟨rfl, b2⟩; have M2 := M1.below b2; have B2 := B1.trans (b2.mono B1.size))
        | (go_at_call 33; refine (HG.out _ M2).mono ?_; rintro e w3 ⟨rfl, o3⟩; have O3 := Lib.hid o3; clear o3))
      go_ret
      exact ⟨rfl, NextOut.trans (d1 := d) (last1 := last) (count1 := 0) (fun _ hk => .inl hk) (Turned.of_below B2) HM.out.lt O3.out⟩
    · obtain ⟨f, f1, f2, f3, f4⟩ := ha.last hsrt (by omega)
      have hfl : f.bytes.length ≤ 4194304 := by
        have := hb.room0
        have := hb.room1
        have h5 : f.bytes.length ≤ totF d.files := le_sum (List.mem_map_of_mem (f := fun f : PF => f.bytes.length) f2)
        omega
      have ht := fun (X : World) (M : LogM X xb p d F last count) => takes_any M hmx hd (by omega) f4 hfl
      by_cases hc : f.bytes.length < 1024
      · have e2 := putL_behind ha hsrt (by omega) f4 hc (frameL r)
        rw [e2]
        have hbd := append_behind hd f4 (frameL r)
        have r0 := hb.room0
        have r1 := hb.room1
        have htf : totF d.files ≤ 4194304 := by omega
        have hs := fun (w1 : World) (D : DiskOf w1 p d F) => append_any D (nameL last) (frameL r) (by rw [name_length]; decide) (by omega) hb.room0 (by omega) hb.fuse0 hb.fuse1
        have hnm := fun (X : World) (M : LogM X xb p d F last count) => name_any M.env hmx
        simp only [decide_eq_true hc] at ht
        have HBD := Lib.hid hbd
        have HT := Lib.hid ht
        have HS := Lib.hid hs
        have HN := Lib.hid hnm
        clear hfr htx hfr2 h ha ht hs hnm e1 e2 hbd
        generalize d.append (nameL last) (frameL r) = q at HBD HS
        go_enter Tryz.func9, Tryz.ntmps9
        go_upto_region 7 with (first
          | (go_at_call 30; refine HF.out.mono ?_; rintro e w1 ⟨rfl, b1⟩; have B1 := hal.trans (b1.mono hal.size); have M1 := HM.out.below B1)
          | (go_at_call 31; refine (HT.out _ M1).mono ?_; rintro e w2 ⟨rfl, b2⟩; have M2 := M1.below b2; have B2 := B1.trans (b2.mono B1.size)))
        refine wp_region_held_drew (S := LogS xb p last count) (by kernel_rfl) (M2.drew.s) (fun hHeld => ?_)
        refine take_run (i := 0) (v := ?_) rfl (by kernel_rfl) (by kernel_rfl) (by kernel_rfl) (fun _ _ _ h => h) (by kernel_rfl) ?_ (by assumption) ?_
        rotate_left
        · (intro w5 hSw; obtain ⟨s0, s1, s2⟩ := hSw; go_simp); all_goals with_reducible rfl
        try simp only [Act.put, List.setIfInBounds_toArray, List.set_cons_zero, List.set_cons_succ]
        refine take_run (i := 1) (v := ?_) rfl (by kernel_rfl) (by kernel_rfl) (by kernel_rfl) (fun _ _ _ h => h) (by kernel_rfl) ?_ (by assumption) ?_
        rotate_left
        · (intro w5 hSw; obtain ⟨s0, s1, s2⟩ := hSw; go_simp); all_goals with_reducible rfl
        try simp only [Act.put, List.setIfInBounds_toArray, List.set_cons_zero, List.set_cons_succ]
        refine take_run (i := 2) (v := ?_) rfl (by kernel_rfl) (by kernel_rfl) (by kernel_rfl) (fun _ _ _ h => h) (by kernel_rfl) ?_ (by assumption) ?_
        rotate_left
        · (intro w5 hSw; obtain ⟨s0, s1, s2⟩ := hSw; go_simp); all_goals with_reducible rfl
        try simp only [Act.put, List.setIfInBounds_toArray, List.set_cons_zero, List.set_cons_succ]
        refine take_run (i := 3) (v := ?_) rfl (by kernel_rfl) (by kernel_rfl) (by kernel_rfl) (fun _ _ _ h => h) (by kernel_rfl) ?_ (by assumption) ?_
        rotate_left
        · (intro w5 hSw; obtain ⟨s0, s1, s2⟩ := hSw; go_simp); all_goals with_reducible rfl
        try simp only [Act.put, List.setIfInBounds_toArray, List.set_cons_zero, List.set_cons_succ]
        refine take_run (i := 4) (v := ?_) rfl (by kernel_rfl) (by kernel_rfl) (by kernel_rfl) (fun _ _ _ h => h) (by kernel_rfl) ?_ (by assumption) ?_
        rotate_left
        · (intro w5 hSw; obtain ⟨s0, s1, s2⟩ := hSw; go_simp); all_goals with_reducible rfl
        try simp only [Act.put, List.setIfInBounds_toArray, List.set_cons_zero, List.set_cons_succ]
        refine take_run (i := 5) (v := ?_) rfl (by kernel_rfl) (by kernel_rfl) (by kernel_rfl) (fun _ _ _ h => h) (by kernel_rfl) ?_ (by assumption) ?_
        rotate_left
        · (intro w5 hSw; obtain ⟨s0, s1, s2⟩ := hSw; go_simp); all_goals with_reducible rfl
        try simp only [Act.put, List.setIfInBounds_toArray, List.set_cons_zero, List.set_cons_succ]
        refine take_run (i := 6) (v := ?_) rfl (by kernel_rfl) (by kernel_rfl) (by kernel_rfl) (fun _ _ _ h => h) (by kernel_rfl) ?_ (by assumption) ?_
        rotate_left
        · (intro w5 hSw; obtain ⟨s0, s1, s2⟩ := hSw; go_simp); all_goals with_reducible rfl
        try simp only [Act.put, List.setIfInBounds_toArray, List.set_cons_zero, List.set_cons_succ]
        refine take_run (i := 7) (v := ?_) rfl (by kernel_rfl) (by kernel_rfl) (by kernel_rfl) (fun _ _ _ h => h) (by kernel_rfl) ?_ (by assumption) ?_
        rotate_left
        · (intro w5 hSw; obtain ⟨s0, s1, s2⟩ := hSw; go_simp); all_goals with_reducible rfl
        try simp only [Act.put, List.setIfInBounds_toArray, List.set_cons_zero, List.set_cons_succ]
        refine take_run (i := 9) (v := ?_) rfl (by kernel_rfl) (by kernel_rfl) (by kernel_rfl) (fun _ _ _ h => h) (by kernel_rfl) ?_ (by assumption) ?_
        rotate_left
        · (intro w5 hSw; obtain ⟨s0, s1, s2⟩ := hSw; go_simp); all_goals with_reducible rfl
        try simp only [Act.put, List.setIfInBounds_toArray, List.set_cons_zero, List.set_cons_succ]
        refine take_call (i := 8) rfl (by kernel_rfl) (by kernel_rfl) (fun K hK => ?_)
        go_simp; refine (HN.out _ M2.drew).mono ?_; rintro e w3 ⟨rfl, b3⟩; have M3 := M2.drew.below b3
        go_wp2_with fail
        clear hHeld
        refine hK.out _ _ ?_ (fun hHeld => ?_)
        · exact M3.s
        clear hK K
        try simp only [Act.put, List.setIfInBounds_toArray, List.set_cons_zero, List.set_cons_succ]
        refine take_call (i := 10) rfl (by kernel_rfl) (by kernel_rfl) (fun K hK => ?_)
        go_simp; refine (HS.out w3 M3.disk).mono ?_; rintro e w4 ⟨rfl, m4⟩; have O4 := M3.moves m4; obtain ⟨F4, M4, k4, t4⟩ := id O4
        go_wp2_with fail
        clear hHeld
        refine hK.out _ _ ?_ (fun hHeld => ?_)
        · exact M4.s
        clear hK K
        try simp only [Act.put, List.setIfInBounds_toArray, List.set_cons_zero, List.set_cons_succ]
        refine take_run (i := 11) (v := ?_) rfl (by kernel_rfl) (by kernel_rfl) (by kernel_rfl) (fun _ _ _ h => h) (by kernel_rfl) ?_ (by assumption) ?_
        rotate_left
        · (intro w5 hSw; obtain ⟨s0, s1, s2⟩ := hSw; go_simp); all_goals with_reducible rfl
        try simp only [Act.put, List.setIfInBounds_toArray, List.set_cons_zero, List.set_cons_succ]
        refine wpAnyH_done (by kernel_rfl) ?_ _
        go_wp2
        go_ret
        have B3 : Below w.heap.size w w3 := (B2.drew).trans (b3.mono B2.size)
        refine ⟨rfl, last, count, LogOut.before HM.out B3 O4, fun _ => HA.out.same HBD.out.1⟩
      · have e2 := putL_next ha hsrt hd (frameL r) false (.inr (fun g hg => by rw [f4] at hg; cases hg; omega))
        rw [e2]
        have hg := fun (X : World) (M : LogM X xb p d F last count) => begin_any M ha hd hb (frameL r) (by omega)
        simp only [decide_eq_false hc] at ht
        have HT := Lib.hid ht
        have HG := Lib.hid hg
        clear hfr htx hfr2 h ha ht hg e1 e2
        go_enter Tryz.func9, Tryz.ntmps9
        go_wp2_with (first
          | (go_at_call 30; refine HF.out.mono ?_; rintro e w1 ⟨rfl, b1⟩; have B1 := hal.trans (b1.mono hal.size); have M1 := HM.out.below B1)
          | (go_at_call 31; refine (HT.out _ M1).mono ?_; rintro e w2 ⟨rfl, b2⟩; have M2 := M1.below b2; have B2 := B1.trans (b2.mono B1.size))
          | (go_at_call 33; refine (HG.out _ M2).mono ?_; rintro e w3 ⟨rfl, o3⟩; have O3 := Lib.hid o3; clear o3))
        go_ret
        exact ⟨rfl, NextOut.trans (d1 := d) (last1 := last) (count1 := count) (fun _ hk => .inl hk) (Turned.of_below B2) HM.out.lt O3.out⟩
  · have e1 : addL d r = (d, 6) := by unfold addL; rw [if_pos (by omega)]
    have hfr2 : Calls Tryz.prog 30 #[.slice (some ⟨w.heap.size, 0, none⟩) 1 1] (w.alloc (.cells #[.string (B r)] 9)) fun e w' => e = .returned (.tuple #[.string (B []), .int .i64 6]) ∧ Below (w.alloc (.cells #[.string (B r)] 9)).heap.size (w.alloc (.cells #[.string (B r)] 9)) w' := by
      refine hfr.mono ?_
      rintro e w' ⟨hb, ⟨h1, rfl⟩ | ⟨h1, rfl⟩⟩
      · exact absurd (fit_one.1 h1) hfit
      · exact ⟨rfl, hb⟩
    rw [e1]
    have HF := Lib.hid hfr2
    have HM := Lib.hid h
    have HA := Lib.hid ha
    clear hfr htx hfr2 h ha e1
    go_enter Tryz.func9, Tryz.ntmps9
    go_wp2_with (go_at_call 30; refine HF.out.mono ?_; rintro e w1 ⟨rfl, b1⟩; have B1 := hal.trans (b1.mono hal.size))
    go_ret
    exact ⟨rfl, _, _, HM.out.of_below B1, fun _ => HA.out⟩

end Go.Proofs.YtjidadolfpjdeaaGreatDoor

namespace Go.Proofs.YtjidadolfpjdeaaGreatDoor
open Go.RowKit
set_option linter.unusedVariables false

variable {w w' : World} {xb p last count : Nat} {d : PD} {F : Nat → Prop}

theorem nextL_ok (ha : LogAt d last count) (hs : Srt d) (hd : d.dead = false) (hb : Bnd d) (fr : List UInt8) (h : (nextL d last fr).2 = 0) :
    (nextL d last fr).1.dead = false ∧ LogAt (nextL d last fr).1 (last + 1) (count + 1) ∧ Bnd (nextL d last fr).1 ∧ Srt (nextL d last fr).1 := by
  have hmx := ha.max
  by_cases hl : last = 99999999
  · exfalso
    unfold nextL at h
    rw [if_pos hl] at h
    exact absurd (show (7 : Int) = 0 from h) (by decide)
  · have e : nextL d last fr = (syncL d).1.append (nameL (last + 1)) fr := by unfold nextL; rw [if_neg hl]
    rw [e] at h ⊢
    obtain ⟨y1, y2, y3, y4, y5, y6, _, _⟩ := syncL_at ha hs hd
    have ha1 := ha.same y3
    have hb1 := hb.same y4 y5 y6
    have hs1 := hs.same y3
    rcases append_next ha1 hs1 y2 (by omega) fr with ⟨e1, _, _⟩ | ⟨(⟨_, e2⟩ | ⟨e2, _⟩), e3, e4⟩
    · exact absurd h e1
    · exact ⟨e2, e3, append_bnd hb1 hs1 _ _, e4⟩
    · rw [h] at e2
      exact absurd e2 (by decide)

theorem renew1_any {n m : Nat} {fr : List UInt8} (b1 : Boxed w n 22 (.pointer (some ⟨xb, 0, none⟩))) (b2 : Boxed w m 9 (.string (B fr))) {q : PD × Int}
    (hs : Calls Tryz.prog 33 #[.pointer (some ⟨xb, 0, none⟩), .string (B fr)] w fun r w' => r = .returned (.int .i64 q.2) ∧ NextOut w xb p F q w') :
    Calls Tryz.prog 35 #[.pointer (some ⟨n, 0, none⟩), .pointer (some ⟨m, 0, none⟩)] w fun r w' => r = .returned (.int .i64 q.2) ∧ NextOut w xb p F q w' := by
  have k1 := b1.cell
  have k2 := b2.cell
  have HS := Lib.hid hs
  clear hs b1 b2
  go_enter Tryz.func35, Tryz.ntmps35
  go_wp2_with (go_at_call 33; refine HS.out.mono ?_; rintro r w' ⟨rfl, h⟩; have H := Lib.hid h; clear h)
  go_ret
  exact ⟨rfl, H.out⟩

/-- Renew's steps. -/
def rnS (xb n m : Nat) : Nat → Nat × Array Value × Array Value
  | 0 => (35, #[], #[.pointer (some ⟨n, 0, none⟩), .pointer (some ⟨m, 0, none⟩)])
  | 1 => (10, #[.pointer (some ⟨xb, 0, none⟩)], #[])
  | _ => (36, #[.pointer (some ⟨xb, 0, none⟩)], #[])
/-- What holds ahead of each. -/
def rnI (W : World) (xb p : Nat) (F : Nat → Prop) (q : PD × Int) (q3 : PD × Int) : Nat → World → Prop
  | 0, X => X = W
  | 1, X => q.2 = 0 ∧ NextOut W xb p F q X
  | 2, X => q.2 = 0 ∧ NextOut W xb p F ((syncL q.1).1, 0) X
  | _, X => q3.2 = 0 ∧ NextOut W xb p F q3 X
theorem NextOut.turned {q : PD × Int} (h : NextOut w xb p F q w') : Turned (fun k => F k ∨ k = xb) w w' := by
  obtain ⟨_, _, ⟨_, _, _, h⟩, _⟩ := h
  exact h
theorem rnI_turned {W X : World} {q q3 : PD × Int} {i : Nat} (h : rnI W xb p F q q3 i X) : Turned (fun k => F k ∨ k = xb) W X := by
  match i, h with
  | 0, h => exact h ▸ Turned.refl _ _
  | 1, h => exact h.2.turned
  | 2, h => exact h.2.turned
  | n + 3, h => exact h.2.turned
theorem rnI_lt {W X : World} {q q3 : PD × Int} {i : Nat} (h : rnI W xb p F q q3 i X) : W.heap.size ≤ X.heap.size := (rnI_turned h).size

def renewQ (d : PD) (last : Nat) (fr : List UInt8) : PD × Int :=
  if (nextL d last fr).2 ≠ 0 then nextL d last fr else removeAll (syncL (nextL d last fr).1).1 (segsL (syncL (nextL d last fr).1).1.files).dropLast

set_option maxRecDepth 100000 in
set_option maxHeartbeats 2000000 in
theorem renew_turn {n m qb : Nat} {fr : List UInt8} (h : LogM w xb p d F last count) (ha : LogAt d last count) (hd : d.dead = false) (hb : Bnd d) (hfr : fr.length ≤ 69206016000000)
    (b1 : Boxed w n 22 (.pointer (some ⟨xb, 0, none⟩))) (b2 : Boxed w m 9 (.string (B fr))) (n1 : ¬ F n) (n2 : n ≠ xb) (m1 : ¬ F m) (m2 : m ≠ xb) (q1 : ¬ F qb) (q2 : qb ≠ xb)
    (hsl : w.heap[qb]? = some (.cells #[.func (.func 35) #[] #[.pointer (some ⟨n, 0, none⟩), .pointer (some ⟨m, 0, none⟩)], .func (.func 10) #[.pointer (some ⟨xb, 0, none⟩)] #[], .func (.func 36) #[.pointer (some ⟨xb, 0, none⟩)] #[]] 28 (0, 0))) :
    Calls Tryz.prog 29 #[.slice (some ⟨qb, 0, none⟩) 3 3] w fun r w' => r = .returned (.int .i64 (renewQ d last fr).2) ∧ NextOut w xb p F (renewQ d last fr) w' := by
  have hsrt := h.disk.srt
  have keep : ∀ {X : World}, Turned (fun k => F k ∨ k = xb) w X → ∀ k, ¬ F k → k ≠ xb → k < w.heap.size → X.heap[k]? = w.heap[k]? := fun ht k hk hk2 hk3 => ht.block k hk3 (fun hh => by
    rcases hh with hh | hh
    · exact hk hh
    · exact hk2 hh)
  have ln := (Array.getElem?_eq_some_iff.1 b1).1
  have lm := (Array.getElem?_eq_some_iff.1 b2).1
  have lq := (Array.getElem?_eq_some_iff.1 hsl).1
  have hok := nextL_ok ha hsrt hd hb fr
  refine (inTurn_any (w := w) (q := qb) (n := 3) (c := 3) (I := rnI w xb p F (nextL d last fr) (renewQ d last fr)) (O := fun e X => e = (nextL d last fr).2 ∧ NextOut w xb p F (nextL d last fr) X) (rnS xb n m)
      (by
        intro i X hI j hj
        have hk := keep (rnI_turned hI) qb q1 q2 lq
        rw [hsl] at hk
        rw [cell_of_row X qb j _ _ _ hk]
        match j, hj with
        | 0, _ => rfl
        | 1, _ => rfl
        | 2, _ => rfl)
      (by
        intro i hi
        match i, hi with
        | 0, _ => exact enters_of Tryz.func35 (by kernel_rfl) rfl
        | 1, _ => exact enters_of Tryz.func10 (by kernel_rfl) rfl
        | 2, _ => exact enters_of Tryz.func36 (by kernel_rfl) rfl)
      (by
        intro i X hi hI
        match i, hi, hI with
        | 0, _, hI =>
          obtain rfl : X = w := hI
          refine (renew1_any b1 b2 (begin_any h ha hd hb fr hfr)).mono ?_
          rintro r X' ⟨rfl, ho⟩
          refine ⟨_, rfl, ?_⟩
          by_cases he : (nextL d last fr).2 = 0
          · exact .inl ⟨he, he, ho⟩
          · exact .inr ⟨he, rfl, ho⟩
        | 1, _, hI =>
          obtain ⟨hq, l1, c1, ho, hla⟩ := hI
          obtain ⟨k1, k2, k3, k4⟩ := hok hq
          obtain ⟨F1, M1, g2, g3⟩ := ho
          have la := hla k1
          refine (lsync_any M1 la k1).mono ?_
          rintro r X' ⟨rfl, ho2⟩
          obtain ⟨y1, y2, y3, y4, y5, y6, _, _⟩ := syncL_at la k4 k1
          exact ⟨0, rfl, .inl ⟨rfl, hq, l1, c1, LogOut.trans (d1 := d) (last1 := last) (count1 := count) g2 g3 h.lt ho2, fun _ => la.same y3⟩⟩
        | 2, _, hI =>
          obtain ⟨hq, l1, c1, ho, hla⟩ := hI
          obtain ⟨k1, k2, k3, k4⟩ := hok hq
          obtain ⟨F1, M1, g2, g3⟩ := ho
          obtain ⟨y1, y2, y3, y4, y5, y6, _, _⟩ := syncL_at k2 k4 k1
          have la := hla y2
          have hc1 : 1 ≤ c1 := by
            have e1 := la.len
            have e2 := (k2.same y3).len
            simp only at e1
            omega
          refine (removeElder_any M1 la y2 (k3.same y4 y5 y6) hc1).mono ?_
          rintro r X' ⟨rfl, ho2, z1, z2, z3⟩
          have e1 : renewQ d last fr = removeAll (syncL (nextL d last fr).1).1 (segsL (syncL (nextL d last fr).1).1.files).dropLast := by unfold renewQ; rw [if_neg (by rw [hq]; simp)]
          refine ⟨0, rfl, .inl ⟨rfl, ?_⟩⟩
          show (renewQ d last fr).2 = 0 ∧ NextOut w xb p F (renewQ d last fr) X'
          rw [e1]
          exact ⟨z1, l1, 1, LogOut.trans (d1 := d) (last1 := last) (count1 := count) g2 g3 h.lt ho2, fun _ => z2⟩)
      (by decide) rfl).mono ?_
  rintro r w' ⟨e, rfl, ⟨rfl, h1, h2⟩ | ⟨h1, rfl, h2⟩⟩
  · exact ⟨by rw [h1], h2⟩
  · have e1 : renewQ d last fr = nextL d last fr := by unfold renewQ; rw [if_pos h1]
    rw [e1]
    exact ⟨rfl, h2⟩

theorem renewL_fit (ha : LogAt d last count) (hs : Srt d) (hd : d.dead = false) {rs : List Rec} (hf : Fit rs) : renewL d rs = renewQ d last (rowL rs) := by
  unfold renewL renewQ
  rw [if_neg, putL_next ha hs hd (rowL rs) true (.inl rfl)]
  intro h
  obtain ⟨r, hr, hr2⟩ := List.any_eq_true.1 h
  have := hf r hr
  simp only [decide_eq_true_eq] at hr2
  omega
theorem renewL_not {rs : List Rec} (hf : ¬ Fit rs) : renewL d rs = (d, 6) := by
  unfold renewL
  rw [if_pos]
  refine List.any_eq_true.2 ?_
  unfold Fit at hf
  have : ∃ r, r ∈ rs ∧ ¬ (1 ≤ r.length ∧ r.length ≤ 65536) := by
    refine Classical.byContradiction fun h => hf fun x hx => Classical.byContradiction fun h2 => h ⟨x, hx, h2⟩
  obtain ⟨r, h1, h2⟩ := this
  exact ⟨r, h1, by simp only [decide_eq_true_eq]; omega⟩
theorem row_most : ∀ {ls : List Rec}, Fit ls → (rowL ls).length ≤ 65600 * ls.length
  | [], _ => by simp [rowL]
  | x :: r, h => by
    have h1 := row_most (ls := r) (fun y hy => h y (by simp [hy]))
    have h2 := frame_most (h x (by simp)).2
    rw [rowL_cons, List.length_append, List.length_cons]
    omega

set_option maxRecDepth 100000 in
set_option maxHeartbeats 4000000 in
theorem lrenew_any {a : Option Addr} {n c : Nat} {rs : List Rec} (h : LogM w xb p d F last count) (ha : LogAt d last count) (hd : d.dead = false) (hb : Bnd d) (ht : Txt w a n rs) (hn : n ≤ 1000) :
    Calls Tryz.prog 11 #[.pointer (some ⟨xb, 0, none⟩), .slice a n c] w fun e w' => e = .returned (.int .i64 (renewL d rs).2) ∧ NextOut w xb p F (renewL d rs) w' := by
  have hal : Below w.heap.size w (w.alloc (.cells #[.pointer (some ⟨xb, 0, none⟩)] 22)) := (Below.refl _ w).alloc (Nat.le_refl _) _
  have bx : Boxed (w.alloc (.cells #[.pointer (some ⟨xb, 0, none⟩)] 22)) w.heap.size 22 (.pointer (some ⟨xb, 0, none⟩)) := Boxed.new w _ _
  have hfr := lframes_any (c := c) (ht.below hal) hn
  have hx := h.lt
  have hnf : ∀ k, w.heap.size ≤ k → ¬ F k := fun k hk => h.disk.nil_free hk
  by_cases hfit : Fit rs
  · have hfr2 : Calls Tryz.prog 30 #[.slice a n c] (w.alloc (.cells #[.pointer (some ⟨xb, 0, none⟩)] 22)) fun e w' => e = .returned (.tuple #[.string (B (rowL rs)), .int .i64 0]) ∧ Below (w.alloc (.cells #[.pointer (some ⟨xb, 0, none⟩)] 22)).heap.size (w.alloc (.cells #[.pointer (some ⟨xb, 0, none⟩)] 22)) w' := by
      refine hfr.mono ?_
      rintro e w' ⟨hb, ⟨h1, rfl⟩ | ⟨h1, rfl⟩⟩
      · exact ⟨rfl, hb⟩
      · exact absurd hfit h1
    have hlen := row_most hfit
    have hl := ht.len
    rw [renewL_fit ha h.disk.srt hd hfit]
    have hturn := fun (W1 : World) (b1 : Below (w.alloc (.cells #[.pointer (some ⟨xb, 0, none⟩)] 22)).heap.size (w.alloc (.cells #[.pointer (some ⟨xb, 0, none⟩)] 22)) W1) => by
      have B1 := hal.trans (b1.mono hal.size)
      have B2 : Below w.heap.size w (W1.alloc (.cells #[.string (B (rowL rs))] 9)) := B1.alloc B1.size _
      have B3 : Below w.heap.size w ((W1.alloc (.cells #[.string (B (rowL rs))] 9)).alloc (.cells #[.func (.func 35) #[] #[.pointer (some ⟨w.heap.size, 0, none⟩), .pointer (some ⟨W1.heap.size, 0, none⟩)], .func (.func 10) #[.pointer (some ⟨xb, 0, none⟩)] #[], .func (.func 36) #[.pointer (some ⟨xb, 0, none⟩)] #[]] 28)) := B2.alloc B2.size _
      have s1 : w.heap.size < W1.heap.size := by have := b1.size; simp at this; omega
      have x1 : Boxed W1 w.heap.size 22 (.pointer (some ⟨xb, 0, none⟩)) := (b1.block _ (by simp)).trans bx
      have x2 := (x1.alloc (.cells #[.string (B (rowL rs))] 9)).alloc (.cells #[.func (.func 35) #[] #[.pointer (some ⟨w.heap.size, 0, none⟩), .pointer (some ⟨W1.heap.size, 0, none⟩)], .func (.func 10) #[.pointer (some ⟨xb, 0, none⟩)] #[], .func (.func 36) #[.pointer (some ⟨xb, 0, none⟩)] #[]] 28)
      have x3 := (Boxed.new W1 9 (.string (B (rowL rs)))).alloc (.cells #[.func (.func 35) #[] #[.pointer (some ⟨w.heap.size, 0, none⟩), .pointer (some ⟨W1.heap.size, 0, none⟩)], .func (.func 10) #[.pointer (some ⟨xb, 0, none⟩)] #[], .func (.func 36) #[.pointer (some ⟨xb, 0, none⟩)] #[]] 28)
      have x4 := heap_alloc_new (W1.alloc (.cells #[.string (B (rowL rs))] 9)) (.cells #[.func (.func 35) #[] #[.pointer (some ⟨w.heap.size, 0, none⟩), .pointer (some ⟨W1.heap.size, 0, none⟩)], .func (.func 10) #[.pointer (some ⟨xb, 0, none⟩)] #[], .func (.func 36) #[.pointer (some ⟨xb, 0, none⟩)] #[]] 28)
      rw [show (W1.alloc (.cells #[.string (B (rowL rs))] 9)).heap.size = W1.heap.size + 1 from by simp] at x4
      have := renew_turn (h.below B3) ha hd hb (by omega) x2 x3 (hnf _ (Nat.le_refl _)) (by omega) (hnf _ (by omega)) (by omega) (hnf (W1.heap.size + 1) (by omega)) (by omega) x4
      exact (⟨this, B3⟩ : _ ∧ _)
    have HF := Lib.hid hfr2
    have HT := Lib.hid hturn
    have HX := Lib.hid hx
    clear hfr hfr2 hturn ht bx hal
    go_enter Tryz.func11, Tryz.ntmps11
    go_wp2_with (first
      | (go_at_call 30; refine HF.out.mono ?_; rintro e w1 ⟨rfl, b1⟩; have TT := HT.out w1 b1; have kk : ∀ o, (w1.alloc o).cell? ⟨w.heap.size, 0, none⟩ = some (.pointer (some ⟨xb, 0, none⟩)) := (fun o => by have x1 : Boxed w1 w.heap.size 22 (.pointer (some ⟨xb, 0, none⟩)) := (b1.block _ (by simp)).trans (Boxed.new w _ _); exact (x1.alloc o).cell); have TH := Lib.hid TT; clear TT)
      | (go_at_call 29; refine TH.out.1.mono ?_; rintro e w2 ⟨rfl, o2⟩; have O2 := Lib.hid o2; clear o2))
    go_ret
    exact ⟨rfl, NextOut.trans (d1 := d) (last1 := last) (count1 := count) (fun _ hk => .inl hk) (Turned.of_below TH.out.2) HX.out O2.out⟩
  · have hfr2 : Calls Tryz.prog 30 #[.slice a n c] (w.alloc (.cells #[.pointer (some ⟨xb, 0, none⟩)] 22)) fun e w' => e = .returned (.tuple #[.string (B []), .int .i64 6]) ∧ Below (w.alloc (.cells #[.pointer (some ⟨xb, 0, none⟩)] 22)).heap.size (w.alloc (.cells #[.pointer (some ⟨xb, 0, none⟩)] 22)) w' := by
      refine hfr.mono ?_
      rintro e w' ⟨hb, ⟨h1, rfl⟩ | ⟨h1, rfl⟩⟩
      · exact absurd h1 hfit
      · exact ⟨rfl, hb⟩
    rw [renewL_not hfit]
    have HF := Lib.hid hfr2
    have HM := Lib.hid h
    have HA := Lib.hid ha
    clear hfr hfr2 h ha ht bx
    go_enter Tryz.func11, Tryz.ntmps11
    go_wp2_with (go_at_call 30; refine HF.out.mono ?_; rintro e w1 ⟨rfl, b1⟩; have B1 := hal.trans (b1.mono hal.size))
    go_ret
    exact ⟨rfl, _, _, HM.out.of_below (B1.alloc B1.size _), fun _ => HA.out⟩

end Go.Proofs.YtjidadolfpjdeaaGreatDoor
