/-
  Package disk over this translation: a content's file; Files.
-/
import Derived.Test.YthpamdjgkmaleaaGreatDoorMh
import Derived.Test.YthpamdjgkmaleaaGreatDoorMb
import Derived.Test.YthpamdjgkmaleaaGreatDoorMi
import Derived.Test.YthpamdjgkmaleaaGreatDoorRound
import Derived.Test.YthpamdjgkmaleaaGreatDoorSeqB
import Derived.Maps.AppendAt
import Derived.RangeFuncBox
namespace Go.Proofs.YthpamdjgkmaleaaGreatDoor
open Go.RowKit Go.Shelf
set_option linter.unusedVariables false

attribute [local go_sem] Oper.semAt_some

variable {w : World} {p mb : Nat} {G : List Ent}

/-- A file as a value. -/
def fileV (f : PF) : Value := .agg #[.string (B f.name), .string (B f.bytes), .int .i64 f.synced]

theorem file_size : (Tryz.prog.info? 44).map (·.size) = some 3 := by kernel_rfl

set_option maxHeartbeats 1000000 in
theorem file_any {e : Ent} (h : e.at w) :
    Calls Tryz.prog 33 #[.pointer (some ⟨e.blk, 0, none⟩), .string (B e.pf.name)] w fun r w' => r = .returned (fileV e.pf) ∧ Below w.heap.size w w' := by
  obtain ⟨a, c, hv, hsrc⟩ := src_of_owns h.2
  have hb : e.blk < w.heap.size := (Array.getElem?_eq_some_iff.1 h.1).1
  have k0 := h.c0
  have k1 := h.c1
  rw [hv] at k0
  have hs := ((hsrc.below ((Below.refl _ w).alloc (Nat.le_refl _) (.cells #[.string ⟨#[]⟩, .string ⟨#[]⟩, .int .i64 0] 44))).drew).string
  go_enter Tryz.func33, Tryz.ntmps33
  go_wp2
  go_region
  go_wp2
  exact bodyPost_ret (v := fileV e.pf) (results_cell_row rfl _ _ w.heap.size 44 #[.string (B e.pf.name), .string (B e.pf.bytes), .int .i64 e.pf.synced] (0, 0) _ rfl (heap_alloc_new w _) Tryz.underlying44 rfl file_size) rfl ⟨rfl, ((Below.refl _ w).alloc (Nat.le_refl _) _).drew⟩

/-! ### Files -/
/-- A file as cells. -/
def fileCells (f : PF) : List Value := [.string (B f.name), .string (B f.bytes), .int .i64 f.synced]
theorem info_file : (Tryz.prog.info? 44).map (fun i => (i.zero, i.size, i.bytes)) = some (some (.agg #[.string ⟨#[]⟩, .string ⟨#[]⟩, .int .i64 0]), 3, 40) := by kernel_rfl

theorem files_nil (w : World) : Calls Tryz.prog 16 #[.pointer none] w fun r w' => r = .returned (.slice none 0 0) ∧ w = w' := by
  go_enter Tryz.func16, Tryz.ntmps16
  go_wp2
  go_ret
  exact ⟨rfl, rfl⟩

theorem new_file (f : PF) (w7 : World) : ∀ j u, (fileCells f)[j]? = some u → (w7.alloc (.cells #[.string (B f.name), .string (B f.bytes), .int .i64 f.synced] 44)).cell? ((⟨w7.heap.size, 0, none⟩ : Addr).add j) = some u := by
  intro j u hj
  rw [Addr.add_lit, Nat.zero_add, cell_of_row _ w7.heap.size j _ _ _ (heap_alloc_new w7 _)]
  rw [← hj]
  unfold fileCells
  simp

theorem owns_shape3 {w : World} {b : Nat} {e : TypeId} {size : Nat} {v : Value} {k : Nat} {xs : List Value} (h : w.ownsRow b e size v k xs) : ∃ a c, v = .slice a k c := by
  rcases h.2 with ⟨rfl, rfl⟩ | ⟨g, cap, cur, he, hg, rest⟩
  · exact ⟨none, 0, rfl⟩
  · exact ⟨_, _, he⟩

/-- Between two rounds: the box bx has the files so far. -/
def FlI (w : World) (bx p : Nat) (pre : List Ent) (W : World) : Prop :=
  (∃ v, Boxed W bx 39 v ∧ W.ownsRow w.heap.size 44 3 v pre.length (pre.flatMap fun e => fileCells e.pf) ∧ True) ∧ Boxed W (bx + 1) 33 (.pointer (some ⟨p, 0, none⟩)) ∧ Below w.heap.size w W

theorem flI_own (w : World) (bx p B : Nat) (hB : w.heap.size ≤ B) : OwnFrom B (FlI w bx p) := by
  rintro pre X Y row ⟨h1, h3, h2⟩ hg hr
  exact ⟨holdsRow_own w.heap.size bx 39 44 3 (fun (p : List Ent) => p.length) (fun p => p.flatMap fun e => fileCells e.pf) (fun _ _ => True) pre X Y row h1 hg (fun r e => (hr r e).2), boxed_own _ _ (fun (_ : Unit) => _) () X Y row h3 hg (fun r e => (hr r e).2), ownFrom_below (Nat.le_refl _) hB () X Y row h2 hg hr⟩

set_option maxRecDepth 100000 in
set_option maxHeartbeats 4000000 in
theorem files_at {room fuse : Int} {dead : Bool} (h : DiskAt w p mb G room fuse dead) (hl : G.length ≤ 100000) (hln : ∀ e ∈ G, e.pf.name.length ≤ 1000000) :
    Calls Tryz.prog 16 #[.pointer (some ⟨p, 0, none⟩)] w fun r w' => ∃ v, r = .returned v ∧ w'.ownsRow w.heap.size 44 3 v G.length (G.flatMap fun e => fileCells e.pf) ∧ Below w.heap.size w w' := by
  have hlen := fun ty => h.map.len ty
  have c0 := h.c0
  obtain ⟨ti, hi, hz, hs1, hby⟩ := info_parts info_file
  have hp : p < w.heap.size := h.lt (.inl rfl)
  have hmb : mb < w.heap.size := h.lt (.inr (.inl rfl))
  refine (callsIn_wide (n := 9)).1 ?_
  refine callsIn_of_wp_marks Tryz.func16 rfl trivial ?_ rfl
  simp only [Tryz.ntmps16, List.size_toArray, List.length_cons, List.length_nil, Nat.reduceAdd, Nat.reduceSub, Array.replicate_succ, Array.replicate_zero, List.push_toArray, List.append_toArray, List.nil_append, List.cons_append]
  gi_wp2_with (first
    | (gi_at_make; refine wpListIn_make_own _ rfl _ _ 39 rfl w.heap.size 44 ti (.agg #[.string ⟨#[]⟩, .string ⟨#[]⟩, .int .i64 0]) 3 Tryz.underlying39 hi hz hs1 .i64 .i64 G.length G.length rfl rfl rfl (by rw [hby]; omega) (by unfold maxLen; omega) (Nat.le_refl _) ?_; intro w1 hown1 hgrow1)
    | (refine ⟨trivial, ?_⟩; gi_at_call 30; refine (callsIn_wide.2 (inOrder_any _ _)).mono ?_; rintro r w2 ⟨rfl, rfl⟩))
  have hb1 : Below w.heap.size w w1 := (Below.refl _ w).grown hgrow1 (Nat.le_refl _) (by simp)
  have sw1 : w.heap.size + 1 ≤ w1.heap.size := by
    rcases hown1.2 with ⟨h1, _⟩ | ⟨g, cap, cur, h1, _, h2, _⟩
    · cases h1
    · cases h1
      have := (Array.getElem?_eq_some_iff.1 h2).1
      omega
  obtain ⟨W0, hW0⟩ : ∃ W0, ((w1.alloc (.cells #[.slice (some ⟨w.heap.size, 0, none⟩) 0 G.length] 39)).alloc (.cells #[.pointer (some ⟨p, 0, none⟩)] 33)) = W0 := ⟨_, rfl⟩
  obtain ⟨bx, hbx⟩ : ∃ bx, w1.heap.size = bx := ⟨_, rfl⟩
  have sW0 : W0.heap.size = bx + 2 := by rw [← hW0]; simp [hbx]
  have bW0 : Below w.heap.size w W0 := by rw [← hW0]; exact (hb1.alloc hb1.size _).alloc (by simp; exact Nat.le_trans hb1.size (Nat.le_succ _)) _
  have bo : Boxed W0 (bx + 1) 33 (.pointer (some ⟨p, 0, none⟩)) := by rw [← hW0, ← hbx]; have := Boxed.new (w1.alloc (.cells #[.slice (some ⟨w.heap.size, 0, none⟩) 0 G.length] 39)) 33 (.pointer (some ⟨p, 0, none⟩)); simpa using this
  have i0 : FlI w bx p [] W0 := by
    refine ⟨⟨.slice (some ⟨w.heap.size, 0, none⟩) 0 G.length, ?_, ?_, trivial⟩, bo, bW0⟩
    · rw [← hW0, ← hbx]; exact (Boxed.new w1 39 _).alloc _
    · rw [← hW0]; exact (hown1.alloc _).alloc _
  have hdk : DiskAt W0 p mb G room fuse dead := h.kept (fun k hk => bW0.block k (h.lt hk))
  have htell := inOrder_tells (p := p) (mb := mb) (G := G) (bx + 1) W0 bo hdk.c0 (hdk.lt (.inl rfl)) hdk.map hdk.names (by omega) hln
  have HB := Lib.hid bW0
  have HS := Lib.hid sW0
  have HLT := Lib.hid (show w.heap.size + 1 ≤ bx from by omega)
  have HD := Lib.hid h
  have HTI := Lib.hid (And.intro hi (And.intro hz (And.intro hs1 hby)))
  rw [hW0, hbx]
  clear hW0 hown1 hgrow1 hb1 hlen c0 hdk h hbx sw1 bW0 bo hi hz hs1 hby
  refine range_plain (gf := 49) (lb := #[.pointer (some ⟨bx + 1, 0, none⟩)]) rfl (enters_of Tryz.func49 (by kernel_rfl) rfl)
    htell (Below.refl _ _) (fun _ => rfl)
    (fun V W => ⟨rfl, rfl, rfl, fun _ _ _ => rfl⟩)
    (fun V {X Y Z} h k => h.trans k)
    (fun V W l o' h1 h2 h3 => KpD.put (by omega) (by have := HLT.out; omega) (by have := HLT.out; omega) h3)
    (FlI w bx p) (fun _ _ _ => False) (flI_own _ _ _ _ (by have := HLT.out; omega)) (fun _ _ _ _ _ h _ _ => h) i0
    (fun x t => (t.setIfInBounds 4 (.string (B x.pf.name))).setIfInBounds 5 (.pointer (some ⟨x.blk, 0, none⟩)))
    ?assign ?body ?done ?stop
  case assign =>
    intro m lp x W K hK
    simp [roundAct, encD, go_sem] at hK
    unfold encD
    gi_wp2
    exact hK
  case body =>
    rintro m lp V pre x W sV ⟨⟨v, h1, h2, _⟩, h4, h3⟩ hx
    have hmem : x ∈ G := hx.subset (by simp)
    have hpl : pre.length + 1 ≤ 100000 := by have := hx.length_le; simp at this; omega
    have hat : x.at W := (HD.out.ents x hmem).kept (h3.block _ (HD.out.lt (.inr (.inr ⟨x, hmem, .inl rfl⟩)))) (fun k hk => h3.block k (HD.out.lt (.inr (.inr ⟨x, hmem, .inr hk⟩))))
    have cv := h1.cell
    have fv := h1.frozen
    have hvs : ∃ a n c, v = .slice a n c := by
      rcases h2.2 with ⟨h, _⟩ | ⟨g, cap, cur, h, _⟩
      · exact ⟨_, _, _, h⟩
      · exact ⟨_, _, _, h⟩
    have hblt := h1.lt
    have hfile := file_any (w := W.drew) (e := x) (hat.kept rfl (fun _ _ => rfl))
    -- behind the call: the new file laid, appended, stored
    have hstep : ∀ w7, Below W.drew.heap.size W.drew w7 → w7.cell? ⟨bx, 0, none⟩ = some v ∧ (w7.alloc (.cells #[.string (B x.pf.name), .string (B x.pf.bytes), .int .i64 x.pf.synced] 44)).cell? ⟨bx, 0, none⟩ = some v ∧
        (w7.alloc (.cells #[.string (B x.pf.name), .string (B x.pf.bytes), .int .i64 x.pf.synced] 44)).ownsRow w.heap.size 44 3 v pre.length (pre.flatMap fun e => fileCells e.pf) ∧
        w.heap.size ≤ (w7.alloc (.cells #[.string (B x.pf.name), .string (B x.pf.bytes), .int .i64 x.pf.synced] 44)).heap.size ∧
        ∀ v' w8, w8.ownsRow w.heap.size 44 3 v' (pre.length + 1) ((pre.flatMap fun e => fileCells e.pf) ++ fileCells x.pf) → (w7.alloc (.cells #[.string (B x.pf.name), .string (B x.pf.bytes), .int .i64 x.pf.synced] 44)).grownBy w8 v.ownBlock →
          w8.cell? ⟨bx, 0, none⟩ = some v ∧ w8.frozen? ⟨bx, 0, none⟩ = false ∧ (w8.setCell ⟨bx, 0, none⟩ v').cell? ⟨bx, 0, none⟩ = some v' ∧
          (KeepsFrom W0.heap.size W (w8.setCell ⟨bx, 0, none⟩ v') ∧ KpD (bx + 1) p mb V W (w8.setCell ⟨bx, 0, none⟩ v') ∧ FlI w bx p (pre ++ [x]) (w8.setCell ⟨bx, 0, none⟩ v')) := by
      intro w7 hb7
      have b7 : Below W.heap.size W w7 := ⟨hb7.os, hb7.tape, hb7.output, hb7.size, hb7.block⟩
      have g1 : Boxed w7 bx 39 v := (b7.block _ hblt).trans h1
      have g2 := g1.alloc (.cells #[.string (B x.pf.name), .string (B x.pf.bytes), .int .i64 x.pf.synced] 44)
      have hr7 : w7.ownsRow w.heap.size 44 3 v pre.length (pre.flatMap fun e => fileCells e.pf) := ownsRow_same h2 (fun k hk => b7.block k (h2.lt k hk).2)
      have hr8 := hr7.alloc (.cells #[.string (B x.pf.name), .string (B x.pf.bytes), .int .i64 x.pf.synced] 44)
      refine ⟨g1.cell, g2.cell, hr8, (by have := h3.size; have := b7.size; simp; omega), fun v' w8 hown hg => ?_⟩
      have g3 := g2.kept hg (g2.not_row (by decide) hr8)
      have g4 := g3.set v'
      refine ⟨g3.cell, g3.frozen, g4.cell, ?_⟩
      -- what is not the box and not the row is as it was
      have hkeep : ∀ k, k < W.heap.size → k ≠ bx → some k ≠ v.ownBlock → (w8.setCell ⟨bx, 0, none⟩ v').heap[k]? = W.heap[k]? := by
        intro k hk hne hno
        rw [Below.heap_setCell _ _ _ _ hne, hg.block k (by simp; have := b7.size; omega) hno, Below.heap_alloc _ _ _ (by have := b7.size; omega)]
        exact b7.block k hk
      have hsz : W.heap.size ≤ (w8.setCell ⟨bx, 0, none⟩ v').heap.size := by
        have q1 := b7.size
        have q2 := hg.size
        simp [World.setCell] at q2 ⊢
        omega
      have rowT : ∀ k, some k = v.ownBlock → w.heap.size ≤ k ∧ ∃ cur, W.heap[k]? = some (.cells cur 44 (0, 0)) := by
        intro k hk
        rcases h2.2 with ⟨hv, _⟩ | ⟨g, cap, cur, hv, hb, hc, _⟩
        · rw [hv] at hk; simp [Value.ownBlock] at hk
        · rw [hv] at hk
          obtain rfl : k = g := by simpa [Value.ownBlock] using hk
          exact ⟨hb, cur, hc⟩
      have hwp : w.heap.size ≤ W.heap.size := h3.size
      have hkO : (w8.setCell ⟨bx, 0, none⟩ v').heap[bx + 1]? = W.heap[bx + 1]? := by
        refine hkeep _ h4.lt (by omega) (fun e => ?_)
        obtain ⟨_, cur, hcur⟩ := rowT _ e
        rw [show W.heap[bx + 1]? = _ from h4] at hcur; simp at hcur
      refine ⟨⟨hsz, fun k o hk ho hc => ?_⟩, ⟨?_, ?_, ?_, ?_⟩, ⟨v', g4, ?_, trivial⟩, hkO.trans h4, ?_⟩
      · refine (hkeep k (Array.getElem?_eq_some_iff.1 ho).1 (fun e => ?_) (fun e => ?_)).trans ho
        · subst e; rw [show W.heap[k]? = _ from h1] at ho; cases ho; cases hc
        · obtain ⟨_, cur, hcur⟩ := rowT k e; rw [hcur] at ho; cases ho; cases hc
      · exact hkO
      · refine World.cell?_of_block (a := ⟨p, 0, none⟩) (hkeep p (by omega) (by have := HLT.out; omega) (fun e => ?_))
        have := (rowT p e).1; omega
      · refine hkeep mb (by omega) (by have := HLT.out; omega) (fun e => ?_)
        have := (rowT mb e).1; omega
      · intro k xs hk
        refine hkeep k (Array.getElem?_eq_some_iff.1 hk).1 (fun e => ?_) (fun e => ?_)
        · subst e; rw [show W.heap[k]? = _ from h1] at hk; simp at hk
        · obtain ⟨_, cur, hcur⟩ := rowT k e; rw [hcur] at hk; simp at hk
      · rw [List.length_append, List.flatMap_append]
        have := hown.kept (grownBy_setCell' w8 bx v') (.inr (g3.not_row (by decide) hown).symm)
        simpa using this
      · refine ((h3.trans (b7.mono hwp)).alloc (Nat.le_trans hwp b7.size) _ |>.grown hg (by simp; have := b7.size; omega) (fun j hj => (rowT j hj.symm).1)).setCell (p := ⟨bx, 0, none⟩) (by show w.heap.size ≤ bx; have := HLT.out; omega) v'
    have mixed : Tryz.prog.follows .mixedOrders = true := by kernel_rfl
    have HF := Lib.hid hfile
    have HST := Lib.hid hstep
    have cvd : W.drew.cell? ⟨bx, 0, none⟩ = some v := cv
    obtain ⟨va, vn, vc, rfl⟩ := hvs
    have HNEW := Lib.hid (new_file x.pf)
    clear hfile hstep hat h1 h2 h3 h4 hx
    unfold roundAct encD
    gi_wp2_with fail
    refine region_round (S := fun w' => ∃ u, w'.cell? ⟨bx, 0, none⟩ = some u) (by rintro ⟨a, w, h⟩; exact h) (by kernel_rfl) mixed ⟨_, cvd⟩ (fun hHeld => ?_)
    try simp only [Act.put, List.setIfInBounds_toArray, List.set_cons_zero, List.set_cons_succ]
    refine take_run (i := 1) (v := ?_) rfl (by kernel_rfl) (by kernel_rfl) (by kernel_rfl) (fun _ _ _ h => h) (by kernel_rfl) ?_ (by assumption) ?_
    rotate_left
    · (intro w hSw; (try dsimp only at hSw); go_simp); all_goals with_reducible rfl
    try simp only [Act.put, List.setIfInBounds_toArray, List.set_cons_zero, List.set_cons_succ]
    refine take_run (i := 2) (v := ?_) rfl (by kernel_rfl) (by kernel_rfl) (by kernel_rfl) (fun _ _ _ h => h) (by kernel_rfl) ?_ (by assumption) ?_
    rotate_left
    · (intro w hSw; (try dsimp only at hSw); go_simp); all_goals with_reducible rfl
    try simp only [Act.put, List.setIfInBounds_toArray, List.set_cons_zero, List.set_cons_succ]
    refine wpAnyH_ready (rs := [0, 3]) (by kernel_rfl) (by simp) ?_
    refine AllReadyH.cons rfl (fun K hK => ?_) ?_
    · rw [if_pos (by kernel_rfl)]
      go_simp
      refine hK.out _ _ ⟨_, cvd⟩ (fun hHeld => ?_)
      clear hK K
      try simp only [Act.put, List.setIfInBounds_toArray, List.set_cons_zero, List.set_cons_succ]
      refine take_call (i := 3) rfl (by kernel_rfl) (by kernel_rfl) (fun K hK => ?_)
      go_simp; refine HF.out.mono ?_; rintro r w7 ⟨rfl, b7⟩; obtain ⟨q1, q2, q3, q5, q4⟩ := HST.out w7 b7; have Q4 := Lib.hid q4; clear q4; unfold fileV
      go_wp2_with fail
      clear hHeld
      refine hK.out _ _ ⟨_, q1⟩ (fun hHeld => ?_)
      clear hK K
      try simp only [Act.put, List.setIfInBounds_toArray, List.set_cons_zero, List.set_cons_succ]
      refine take_call (i := 4) rfl (by kernel_rfl) (by kernel_rfl) (fun K hK => ?_)
      go_simp
      refine hK.out _ _ ⟨_, q2⟩ (fun hHeld => ?_)
      clear hK K
      try simp only [Act.put, List.setIfInBounds_toArray, List.set_cons_zero, List.set_cons_succ]
      refine take_call (i := 5) rfl (by kernel_rfl) (by kernel_rfl) (fun K hK => ?_)
      refine wp_append_own _ _ _ 39 rfl w.heap.size 44 ti (.agg #[.string ⟨#[]⟩, .string ⟨#[]⟩, .int .i64 0]) 3 40 Tryz.underlying39 HTI.out.1 HTI.out.2.1 HTI.out.2.2.1 HTI.out.2.2.2 rfl (by decide) _ pre.length _ rfl q3 ⟨w7.heap.size, 0, none⟩ 1 1 (fileCells x.pf) rfl rfl (HNEW.out w7) (by simp [fileCells, Value.oneCell']) (by unfold maxLen; omega) (by omega) q5 ?_
      intro v' w8 hown hg _
      obtain ⟨a', c', rfl⟩ := owns_shape3 hown
      obtain ⟨z1, z2, z3, z4⟩ := Q4.out _ w8 hown hg
      have Z4 := Lib.hid z4
      clear z4
      refine hK.out _ _ ⟨_, z1⟩ (fun hHeld => ?_)
      clear hK K
      try simp only [Act.put, List.setIfInBounds_toArray, List.set_cons_zero, List.set_cons_succ]
      refine take_call (i := 6) rfl (by kernel_rfl) (by kernel_rfl) (fun K hK => ?_)
      go_simp
      refine hK.out _ _ ⟨_, z3⟩ (fun hHeld => ?_)
      clear hK K
      refine wpAnyH_done (by kernel_rfl) ?_ _
      gi_wp2
      exact Z4.out
    refine AllReadyH.cons rfl (fun K hK => ?_) ?_
    · rw [if_pos (by kernel_rfl)]
      go_simp; refine HF.out.mono ?_; rintro r w7 ⟨rfl, b7⟩; obtain ⟨q1, q2, q3, q5, q4⟩ := HST.out w7 b7; have Q4 := Lib.hid q4; clear q4; unfold fileV
      go_wp2_with fail
      clear hHeld
      refine hK.out _ _ ⟨_, q1⟩ (fun hHeld => ?_)
      clear hK K
      try simp only [Act.put, List.setIfInBounds_toArray, List.set_cons_zero, List.set_cons_succ]
      refine wpAnyH_ready (rs := [0, 4]) (by kernel_rfl) (by simp) ?_
      refine AllReadyH.cons rfl (fun K hK => ?_) ?_
      · rw [if_pos (by kernel_rfl)]
        go_simp
        refine hK.out _ _ ⟨_, q1⟩ (fun hHeld => ?_)
        clear hK K
        try simp only [Act.put, List.setIfInBounds_toArray, List.set_cons_zero, List.set_cons_succ]
        refine take_call (i := 4) rfl (by kernel_rfl) (by kernel_rfl) (fun K hK => ?_)
        go_simp
        refine hK.out _ _ ⟨_, q2⟩ (fun hHeld => ?_)
        clear hK K
        try simp only [Act.put, List.setIfInBounds_toArray, List.set_cons_zero, List.set_cons_succ]
        refine take_call (i := 5) rfl (by kernel_rfl) (by kernel_rfl) (fun K hK => ?_)
        refine wp_append_own _ _ _ 39 rfl w.heap.size 44 ti (.agg #[.string ⟨#[]⟩, .string ⟨#[]⟩, .int .i64 0]) 3 40 Tryz.underlying39 HTI.out.1 HTI.out.2.1 HTI.out.2.2.1 HTI.out.2.2.2 rfl (by decide) _ pre.length _ rfl q3 ⟨w7.heap.size, 0, none⟩ 1 1 (fileCells x.pf) rfl rfl (HNEW.out w7) (by simp [fileCells, Value.oneCell']) (by unfold maxLen; omega) (by omega) q5 ?_
        intro v' w8 hown hg _
        obtain ⟨a', c', rfl⟩ := owns_shape3 hown
        obtain ⟨z1, z2, z3, z4⟩ := Q4.out _ w8 hown hg
        have Z4 := Lib.hid z4
        clear z4
        refine hK.out _ _ ⟨_, z1⟩ (fun hHeld => ?_)
        clear hK K
        try simp only [Act.put, List.setIfInBounds_toArray, List.set_cons_zero, List.set_cons_succ]
        refine take_call (i := 6) rfl (by kernel_rfl) (by kernel_rfl) (fun K hK => ?_)
        go_simp
        refine hK.out _ _ ⟨_, z3⟩ (fun hHeld => ?_)
        clear hK K
        refine wpAnyH_done (by kernel_rfl) ?_ _
        gi_wp2
        exact Z4.out
      refine AllReadyH.cons rfl (fun K hK => ?_) ?_
      · rw [if_pos (by kernel_rfl)]
        go_simp
        refine hK.out _ _ ⟨_, q2⟩ (fun hHeld => ?_)
        clear hK K
        try simp only [Act.put, List.setIfInBounds_toArray, List.set_cons_zero, List.set_cons_succ]
        refine take_call (i := 0) rfl (by kernel_rfl) (by kernel_rfl) (fun K hK => ?_)
        go_simp
        refine hK.out _ _ ⟨_, q2⟩ (fun hHeld => ?_)
        clear hK K
        try simp only [Act.put, List.setIfInBounds_toArray, List.set_cons_zero, List.set_cons_succ]
        refine take_call (i := 5) rfl (by kernel_rfl) (by kernel_rfl) (fun K hK => ?_)
        refine wp_append_own _ _ _ 39 rfl w.heap.size 44 ti (.agg #[.string ⟨#[]⟩, .string ⟨#[]⟩, .int .i64 0]) 3 40 Tryz.underlying39 HTI.out.1 HTI.out.2.1 HTI.out.2.2.1 HTI.out.2.2.2 rfl (by decide) _ pre.length _ rfl q3 ⟨w7.heap.size, 0, none⟩ 1 1 (fileCells x.pf) rfl rfl (HNEW.out w7) (by simp [fileCells, Value.oneCell']) (by unfold maxLen; omega) (by omega) q5 ?_
        intro v' w8 hown hg _
        obtain ⟨a', c', rfl⟩ := owns_shape3 hown
        obtain ⟨z1, z2, z3, z4⟩ := Q4.out _ w8 hown hg
        have Z4 := Lib.hid z4
        clear z4
        refine hK.out _ _ ⟨_, z1⟩ (fun hHeld => ?_)
        clear hK K
        try simp only [Act.put, List.setIfInBounds_toArray, List.set_cons_zero, List.set_cons_succ]
        refine take_call (i := 6) rfl (by kernel_rfl) (by kernel_rfl) (fun K hK => ?_)
        go_simp
        refine hK.out _ _ ⟨_, z3⟩ (fun hHeld => ?_)
        clear hK K
        refine wpAnyH_done (by kernel_rfl) ?_ _
        gi_wp2
        exact Z4.out
      exact AllReadyH.nil
    exact AllReadyH.nil
  case done =>
    rintro D W hD hI hK
    obtain ⟨⟨v2, b1, row2, _⟩, _, hb2⟩ := flI_own w bx p W0.heap.size (by have := HLT.out; omega) G W _ _ hI (grownBy_putObj' W D (.deferred none)) (fun r e => by cases e; exact ⟨hD, _, hK, rfl⟩)
    obtain ⟨⟨v, h1, h2, _⟩, h4, h3⟩ := hI
    obtain ⟨va, vc, rfl⟩ := owns_shape3 h2
    have hv2 : v2 = .slice va G.length vc := by
      have e1 : (W.putObj D (.deferred none)).heap[bx]? = W.heap[bx]? := World.putObj_heap_other (by have := HLT.out; have := HS.out; omega)
      have e2 := (show (W.putObj D (.deferred none)).heap[bx]? = _ from b1).symm.trans (e1.trans h1)
      simpa using e2
    subst hv2
    have cv := h1.cell
    have ROW := Lib.hid row2
    have HB2 := Lib.hid hb2
    clear row2 hb2 b1 h1 h2 h3 h4
    gi_wp2
    refine ⟨by simp, .inl ⟨_, _, rfl, run_takeDeferred hK, .slice va G.length vc, by simp [results, Tryz.f16, go_sem], _, rfl, ROW.out, HB2.out⟩⟩
  case stop =>
    rintro D c pre W _ _ h _
    exact h.elim

theorem files_any {d : PD} {F : Nat → Prop} (h : DiskOf w p d F) (hl : d.files.length ≤ 100000) (hln : ∀ f ∈ d.files, f.name.length ≤ 1000000) :
    Calls Tryz.prog 16 #[.pointer (some ⟨p, 0, none⟩)] w fun r w' => ∃ v, r = .returned v ∧ w'.ownsRow w.heap.size 44 3 v d.files.length (d.files.flatMap fileCells) ∧ Below w.heap.size w w' := by
  obtain ⟨h1, mb, G, h2, h3, h4⟩ := h
  have hlen : d.files.length = G.length := by rw [← h3]; simp
  refine (files_at h2 (by omega) (fun e he => hln _ (by rw [← h3]; exact List.mem_map_of_mem he))).mono ?_
  rintro r w' ⟨v, rfl, hr, hb⟩
  refine ⟨v, rfl, ?_, hb⟩
  rw [hlen, ← h3, List.flatMap_map]
  exact hr

end Go.Proofs.YthpamdjgkmaleaaGreatDoor
