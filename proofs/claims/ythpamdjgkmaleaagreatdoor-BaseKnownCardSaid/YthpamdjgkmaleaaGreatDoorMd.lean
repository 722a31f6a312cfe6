/-
Package disk over this translation: Crash.
Package disk over this translation: Crash, by what the plain disk is then.
Package disk over this translation: Turn.
-/
import Derived.Test.YthpamdjgkmaleaaGreatDoorDkFile
import Derived.Test.YthpamdjgkmaleaaGreatDoorMa
import Derived.Test.YthpamdjgkmaleaaGreatDoorMc
import Derived.Laws.BitsAllLaws
namespace Go.Proofs.YthpamdjgkmaleaaGreatDoor
open Go.RowKit Go.Shelf
set_option linter.unusedVariables false

attribute [local go_sem] Oper.semAt_some

variable {w : World} {p mb : Nat} {G : List Ent} {room fuse : Int} {dead : Bool}

/-- Between two rounds: the files met so far are cut, the others as they were. -/
def CrI (w : World) (bl bd p mb : Nat) (G : List Ent) (room fuse : Int) (k0 : Nat) (pre : List Ent) (W : World) : Prop :=
  ∃ H : List Ent, Boxed W bl 3 (.int .i64 (leftN k0 (pre.map Ent.pf))) ∧ DiskAt W p mb (H ++ G.drop pre.length) (room + ((totF (pre.map Ent.pf) : Int) - totF (crL k0 (pre.map Ent.pf)))) fuse false ∧ H.map Ent.pf = crL k0 (pre.map Ent.pf) ∧
    (∀ k, Foot p mb (H ++ G.drop pre.length) k → Foot p mb G k) ∧ Boxed W (bl + 1) 33 (.pointer (some ⟨p, 0, none⟩)) ∧ Turned (Foot p mb G) w W

theorem crI_own (bl bd k0 B : Nat) (h : DiskAt w p mb G room fuse false) (hB : w.heap.size ≤ B) : OwnFrom B (CrI w bl bd p mb G room fuse k0) := by
  rintro pre X Y row ⟨H, h1, h2, h3, h4, h5, h6⟩ hg hr
  have hr' : ∀ r, row = some r → ∃ o : Obj, X.heap[r]? = some o ∧ o.isCells = false := fun r e => (hr r e).2
  have keep : ∀ k, Foot p mb G k → Y.heap[k]? = X.heap[k]? := fun k hk => hg.block k (by have := h.lt hk; have := h6.size; omega) (fun e => by have := (hr k e.symm).1; have := h.lt hk; omega)
  refine ⟨H, boxed_own _ _ (fun (_ : Unit) => _) () X Y row h1 hg hr', h2.kept (fun k hk => keep k (h4 k hk)), h3, h4, boxed_own _ _ (fun (_ : Unit) => _) () X Y row h5 hg hr', ?_⟩
  exact ⟨hg.os.trans h6.os, hg.tape.trans h6.tape, hg.output.trans h6.output, Nat.le_trans h6.size hg.size, fun k hk hn => (hg.block k (by have := h6.size; omega) (fun e => by have := (hr k e.symm).1; omega)).trans (h6.block k hk hn)⟩

theorem upd_mid {x e' : Ent} {H R : List Ent} (hn : ((H ++ x :: R).map fun e => e.pf.name).Nodup) (he : e'.pf.name = x.pf.name) : updE e' (H ++ x :: R) = H ++ e' :: R := by
  have hother : ∀ y, y ∈ H ∨ y ∈ R → ¬ y.pf.name = e'.pf.name := by
    intro y hy e
    rw [he] at e
    rw [List.map_append, List.map_cons, List.nodup_append] at hn
    obtain ⟨_, h2, h3⟩ := hn
    rw [List.nodup_cons] at h2
    rcases hy with hy | hy
    · exact h3 _ (List.mem_map_of_mem hy) _ (List.mem_cons_self ..) e
    · exact h2.1 (e ▸ List.mem_map_of_mem hy)
  unfold updE
  rw [List.map_append, List.map_cons, if_pos he.symm]
  congr 1
  · conv => rhs; rw [← List.map_id H]
    exact List.map_congr_left fun y hy => if_neg (hother y (.inl hy))
  · congr 1
    conv => rhs; rw [← List.map_id R]
    exact List.map_congr_left fun y hy => if_neg (hother y (.inr hy))

set_option maxRecDepth 100000 in
set_option maxHeartbeats 4000000 in
theorem crash_pos {F : Nat → Prop} {bk bd : Nat} {keep : Int} (h : DiskAt w p mb G room fuse false) (hF : ∀ k, Foot p mb G k → F k) (hF1 : ∀ k, F k → k < w.heap.size) (hbk : Boxed w bk 3 (.int .i64 keep)) (hbd : Boxed w bd 33 (.pointer (some ⟨p, 0, none⟩))) (hnd : ¬ F bd)
    (hl : G.length ≤ 100000) (hln : ∀ e ∈ G, e.pf.name.length ≤ 1000000) (hsy : ∀ e ∈ G, e.pf.synced ≤ e.pf.bytes.length) (hr0 : 0 ≤ room) (hr1 : room + totF (G.map Ent.pf) ≤ 4611686018427387904) (hk1 : keep ≤ 9223372036854775807) (hk : ¬ keep < 0) :
    Calls Tryz.prog 29 #[.pointer (some ⟨bk, 0, none⟩), .pointer (some ⟨bd, 0, none⟩)] w fun r w' => r = .returned (.int .i64 0) ∧
      Moves w p F { files := crL (keepN keep) (G.map Ent.pf), room := room + ((totF (G.map Ent.pf) : Int) - totF (crL (keepN keep) (G.map Ent.pf))), fuse := -1, dead := true } w' := by
  obtain ⟨k0, hk0⟩ : ∃ k0, keepN keep = k0 := ⟨_, rfl⟩
  rw [hk0]
  have hkv : keep = (k0 : Int) := by rw [← hk0]; unfold keepN; rw [if_neg hk]; omega
  have hkm : k0 ≤ 9223372036854775807 := by rw [← hk0]; unfold keepN; split <;> omega
  have j1 := hbk.cell
  have j2 := hbd.cell
  have hdec : decide (keep < 0) = false := by simpa using hk
  have hbdl := hbd.lt
  have j4 : ∀ o, (w.alloc o).cell? ⟨bk, 0, none⟩ = some (.int .i64 keep) := fun o => (hbk.alloc o).cell
  have HKV := Lib.hid hkv
  clear hkv
  have j3 : ∀ o, (w.alloc o).cell? ⟨bd, 0, none⟩ = some (.pointer (some ⟨p, 0, none⟩)) := fun o => (hbd.alloc o).cell
  refine (callsIn_wide (n := 9)).1 ?_
  refine callsIn_of_wp_marks Tryz.func29 rfl trivial ?_ rfl
  simp only [Tryz.ntmps29, List.size_toArray, List.length_cons, List.length_nil, Nat.reduceAdd, Nat.reduceSub, Array.replicate_succ, Array.replicate_zero, List.push_toArray, List.append_toArray, List.nil_append, List.cons_append]
  gi_wp2_with (refine ⟨trivial, ?_⟩; gi_at_call 30; refine (callsIn_wide.2 (inOrder_any _ _)).mono ?_; rintro r w2 ⟨rfl, rfl⟩)
  obtain ⟨bl, hbl⟩ : ∃ bl, w.heap.size = bl := ⟨_, rfl⟩
  have hXV : keep = (k0 : Int) := HKV.out
  obtain ⟨W0, hW0⟩ : ∃ W0, ((w.alloc (.cells #[.int .i64 keep] 3)).alloc (.cells #[.pointer (some ⟨p, 0, none⟩)] 33)) = W0 := ⟨_, rfl⟩
  have sW0 : W0.heap.size = bl + 2 := by rw [← hW0, ← hbl]; simp
  have bW0 : Below w.heap.size w W0 := by rw [← hW0]; exact ((Below.refl _ w).alloc (Nat.le_refl _) _).alloc (by simp) _
  have bo : Boxed W0 (bl + 1) 33 (.pointer (some ⟨p, 0, none⟩)) := by rw [← hW0, ← hbl]; have := Boxed.new (w.alloc (.cells #[.int .i64 keep] 3)) 33 (.pointer (some ⟨p, 0, none⟩)); simpa using this
  have bL : Boxed W0 bl 3 (.int .i64 k0) := by rw [← hW0, ← hbl, ← hXV]; exact (Boxed.new w 3 _).alloc _
  have hdk : DiskAt W0 p mb G room fuse false := h.kept (fun k hk => bW0.block k (h.lt hk))
  have i0 : CrI w bl bd p mb G room fuse k0 [] W0 := by
    refine ⟨[], bL, ?_, rfl, fun k hk => hk, bo, Turned.of_below bW0⟩
    have e1 : room + ((totF (([] : List Ent).map Ent.pf) : Int) - totF (crL k0 (([] : List Ent).map Ent.pf))) = room := by simp [totF, crL]
    rw [e1]
    exact hdk
  have htell := inOrder_tells (p := p) (mb := mb) (G := G) (bl + 1) W0 bo hdk.c0 (hdk.lt (.inl rfl)) hdk.map hdk.names (by omega) hln
  have hp : p < bl := by rw [← hbl]; exact h.lt (.inl rfl)
  have hmb : mb < bl := by rw [← hbl]; exact h.lt (.inr (.inl rfl))
  have hbd2 : bd < bl := by rw [← hbl]; exact hbdl
  have HS := Lib.hid sW0
  have HD := Lib.hid h
  have HBL := Lib.hid hbl
  have HBD := Lib.hid hbd
  rw [hW0, hbl]
  clear hXV hW0 bW0 bo bL hdk h sW0 j1 j2 j3 j4 hbd hbk hbl hbdl hdec
  refine range_plain (gf := 49) (lb := #[.pointer (some ⟨bl + 1, 0, none⟩)]) rfl (enters_of Tryz.func49 (by kernel_rfl) rfl)
    htell (Below.refl _ _) (fun _ => rfl)
    (fun V W => ⟨rfl, rfl, rfl, fun _ _ _ => rfl⟩)
    (fun V {X Y Z} h k => h.trans k)
    (fun V W l o' h1 h2 h3 => KpD.put (by have := HS.out; omega) (by have := HS.out; omega) (by have := HS.out; omega) h3)
    (CrI w bl bd p mb G room fuse k0) (fun _ _ _ => False) (crI_own bl bd k0 _ HD.out (by have := HS.out; have := HBL.out; omega)) (fun _ _ _ _ _ h _ _ => h) i0
    (fun x t => t.setIfInBounds 5 (.pointer (some ⟨x.blk, 0, none⟩)))
    ?assign ?body ?done ?stop
  case assign =>
    intro m lp x W K hK
    simp [roundAct, encD, go_sem] at hK
    unfold encD
    gi_wp2
    exact hK
  case body =>
    rintro m lp V pre x W sV ⟨H, h1, h2, h3, h4, h5, h6⟩ hx
    obtain ⟨R, hG⟩ := hx
    have hdrop : G.drop pre.length = x :: R := by rw [← hG]; simp
    have hdrop2 : G.drop (pre ++ [x]).length = R := by rw [← hG, List.drop_left]
    have hmem : x ∈ G := by rw [← hG]; simp
    rw [hdrop] at h2 h4
    have hxm : x ∈ H ++ x :: R := by simp
    have hat := h2.ents x hxm
    obtain ⟨va, vc, hv, _, _, _, _⟩ := owns_slice hat
    have hsx := hsy x hmem
    have htot : totF (pre.map Ent.pf) + x.pf.bytes.length ≤ totF (G.map Ent.pf) := by
      rw [← hG, List.map_append, List.map_append, totF_append, totF_append]
      simp only [List.map_cons, List.map_nil, totF_one]
      omega
    have hcl := crL_le (pre.map Ent.pf) k0
    have hleft := leftN_le (pre.map Ent.pf) k0
    have hls := leftN_snoc x.pf (pre.map Ent.pf) k0
    have hcs := crL_snoc x.pf (pre.map Ent.pf) k0
    obtain ⟨L, hL⟩ : ∃ L, leftN k0 (pre.map Ent.pf) = L := ⟨_, rfl⟩
    obtain ⟨st, hst⟩ : ∃ st, stayF L x.pf = st := ⟨_, rfl⟩
    rw [hL] at h1 hleft hls hcs
    rw [hst] at hls hcs
    have hst1 : st ≤ x.pf.bytes.length - x.pf.synced := by rw [← hst]; exact Nat.min_le_right _ _
    have hst2 : st ≤ L := by rw [← hst]; exact Nat.min_le_left _ _
    have hnl : (cutF (x.pf.synced + st) x.pf).bytes.length = x.pf.synced + st := by rw [← hst]; exact cutF_length hsx L
    obtain ⟨room1, hroom1⟩ : ∃ r, room + ((totF (pre.map Ent.pf) : Int) - totF (crL k0 (pre.map Ent.pf))) = r := ⟨_, rfl⟩
    rw [hroom1] at h2
    have hr1b : 0 ≤ room1 ∧ room1 + x.pf.bytes.length ≤ 4611686018427387904 := by omega
    have hs := shorten_any (h2.kept (w' := W.drew.drew) (fun _ _ => rfl)) hxm (x.pf.synced + st) (by omega) hr1b.1 hr1b.2
    have hcast : (((x.pf.synced + st : Nat)) : Int) = (x.pf.synced : Int) + (st : Int) := by omega
    have cL := h1.cell
    have cx0 := hat.c0
    rw [hv] at cx0
    have cx1 := hat.c1
    have bdW : Boxed W bd 33 (.pointer (some ⟨p, 0, none⟩)) := (h6.block bd (by have := HBL.out; omega) (fun hf => hnd (hF bd hf))).trans HBD.out
    have cbd := bdW.cell
    have hw1 : IntKind.i64.wrap ((x.pf.bytes.length : Int) - (x.pf.synced : Int)) = (x.pf.bytes.length : Int) - (x.pf.synced : Int) := by rw [IntKind.wrap_i64]; omega
    have hmin : min (L : Int) ((x.pf.bytes.length : Int) - (x.pf.synced : Int)) = (st : Int) := by rw [← hst]; unfold stayF; omega
    have hw2 : IntKind.i64.wrap ((x.pf.synced : Int) + (st : Int)) = (x.pf.synced : Int) + (st : Int) := by rw [IntKind.wrap_i64]; omega
    have hw3 : IntKind.i64.wrap ((L : Int) - (st : Int)) = (L : Int) - (st : Int) := by rw [IntKind.wrap_i64]; omega
    have hblne : bl ≠ p ∧ bl ≠ x.blk := ⟨by omega, fun e => by have e1 := hat.1; rw [← e, show W.heap[bl]? = _ from h1] at e1; simp at e1⟩
    have hbdne : bd ≠ p ∧ bd ≠ x.blk := ⟨fun e => by have e1 := h2.cell; rw [← e, show W.heap[bd]? = _ from bdW] at e1; simp at e1, fun e => by have e1 := hat.1; rw [← e, show W.heap[bd]? = _ from bdW] at e1; simp at e1⟩
    have hstep : ∀ w3 v', v'.ownBlock = x.v.ownBlock → DiskAt w3 p mb (updE (x.cut (x.pf.synced + st) v') (H ++ x :: R)) (room1 + (x.pf.bytes.length - (x.pf.synced + st : Nat))) fuse false → Turned (fun k => k = p ∨ k = x.blk) W.drew.drew w3 →
        w3.cell? ⟨bl, 0, none⟩ = some (.int .i64 L) ∧ w3.frozen? ⟨bl, 0, none⟩ = false ∧ w3.cell? ⟨bd, 0, none⟩ = some (.pointer (some ⟨p, 0, none⟩)) ∧ w3.cell? ⟨x.blk, 1, none⟩ = some (.int .i64 x.pf.synced) ∧
        (KeepsFrom W0.heap.size W (w3.setCell ⟨bl, 0, none⟩ (.int .i64 ((L : Int) - st))) ∧ KpD (bl + 1) p mb V W (w3.setCell ⟨bl, 0, none⟩ (.int .i64 ((L : Int) - st))) ∧ CrI w bl bd p mb G room fuse k0 (pre ++ [x]) (w3.setCell ⟨bl, 0, none⟩ (.int .i64 ((L : Int) - st)))) := by
      intro w3 v' q1 q2 q3
      have t3 : Turned (fun k => k = p ∨ k = x.blk) W w3 := ⟨q3.os, q3.tape, q3.output, q3.size, q3.block⟩
      have keep : ∀ k, k < W.heap.size → k ≠ p → k ≠ x.blk → w3.heap[k]? = W.heap[k]? := fun k hk n1 n2 => t3.block k hk (by rintro (e | e); exact n1 e; exact n2 e)
      have g1 : Boxed w3 bl 3 (.int .i64 L) := (keep bl h1.lt hblne.1 hblne.2).trans h1
      have g2 : Boxed w3 bd 33 (.pointer (some ⟨p, 0, none⟩)) := (keep bd bdW.lt hbdne.1 hbdne.2).trans bdW
      have hblo : bl + 1 ≠ x.blk := fun e => by have e1 := hat.1; rw [← e, show W.heap[bl + 1]? = _ from h5] at e1; simp at e1
      have g3 : Boxed w3 (bl + 1) 33 (.pointer (some ⟨p, 0, none⟩)) := (keep _ h5.lt (by omega) hblo).trans h5
      have hu : updE (x.cut (x.pf.synced + st) v') (H ++ x :: R) = H ++ x.cut (x.pf.synced + st) v' :: R := upd_mid (sortedN_nodup h2.names) rfl
      rw [hu] at q2
      have hx1 := (q2.ents (x.cut (x.pf.synced + st) v') (by simp)).c1
      refine ⟨g1.cell, g1.frozen, g2.cell, hx1, ?_⟩
      have keep2 : ∀ k, k < W.heap.size → k ≠ p → k ≠ x.blk → k ≠ bl → (w3.setCell ⟨bl, 0, none⟩ (.int .i64 ((L : Int) - st))).heap[k]? = W.heap[k]? := fun k hk n1 n2 n3 => (heap_setCell_other w3 _ k _ n3).trans (keep k hk n1 n2)
      have hcells : ∀ k o, W.heap[k]? = some o → o.isCells = false → k ≠ p ∧ k ≠ x.blk ∧ k ≠ bl := by
        intro k o hk hc
        refine ⟨fun e => ?_, fun e => ?_, fun e => ?_⟩
        · subst e; rw [h2.cell] at hk; cases hk; cases hc
        · subst e; rw [hat.1] at hk; cases hk; cases hc
        · subst e; rw [show W.heap[k]? = _ from h1] at hk; cases hk; cases hc
      have hsz : W.heap.size ≤ (w3.setCell ⟨bl, 0, none⟩ (.int .i64 ((L : Int) - st))).heap.size := by have := t3.size; simpa [World.setCell] using this
      refine ⟨⟨hsz, fun k o _ hk hc => ?_⟩, ⟨?_, ?_, ?_, ?_⟩, H ++ [x.cut (x.pf.synced + st) v'], ?_, ?_, ?_, ?_, ?_, ?_⟩
      · obtain ⟨n1, n2, n3⟩ := hcells k o hk hc
        exact (keep2 k (Array.getElem?_eq_some_iff.1 hk).1 n1 n2 n3).trans hk
      · exact keep2 _ h5.lt (by omega) hblo (by omega)
      · have e1 : (w3.setCell ⟨bl, 0, none⟩ (.int .i64 ((L : Int) - st))).cell? ⟨p, 0, none⟩ = w3.cell? ⟨p, 0, none⟩ := World.cell?_of_block (a := ⟨p, 0, none⟩) (heap_setCell_other w3 _ p _ (by show p ≠ bl; omega))
        rw [e1, q2.c0, h2.c0]
      · obtain ⟨es, clock, hm⟩ := h2.map.isMap
        obtain ⟨n1, n2, n3⟩ := hcells mb _ hm rfl
        exact keep2 mb (Array.getElem?_eq_some_iff.1 hm).1 n1 n2 n3
      · intro k xs hk
        refine keep2 k (Array.getElem?_eq_some_iff.1 hk).1 (fun e => ?_) (fun e => ?_) (fun e => ?_)
        · subst e; rw [h2.cell] at hk; simp at hk
        · subst e; rw [hat.1] at hk; simp at hk
        · subst e; rw [show W.heap[k]? = _ from h1] at hk; simp at hk
      · have := g1.set (.int .i64 ((L : Int) - st))
        rw [List.map_append, List.map_cons, List.map_nil, hls]
        rw [show ((L - st : Nat) : Int) = (L : Int) - (st : Int) from by omega]
        exact this
      · rw [hdrop2, List.append_assoc]
        have e1 : room + ((totF ((pre ++ [x]).map Ent.pf) : Int) - totF (crL k0 ((pre ++ [x]).map Ent.pf))) = room1 + (x.pf.bytes.length - (x.pf.synced + st : Nat)) := by
          rw [List.map_append, List.map_cons, List.map_nil, hcs, totF_append, totF_append, totF_one, totF_one, hnl, ← hroom1]
          omega
        rw [e1]
        exact q2.kept (fun k hk => heap_setCell_other w3 _ k _ (fun e => by
          have e2 : k = bl := e
          have h7 := h4 k (by
            rcases hk with hk | hk | ⟨y, hy, hk⟩
            · exact .inl hk
            · exact .inr (.inl hk)
            · rcases List.mem_append.1 hy with hy | hy
              · exact .inr (.inr ⟨y, List.mem_append_left _ hy, hk⟩)
              · rcases List.mem_cons.1 hy with rfl | hy
                · refine .inr (.inr ⟨x, by simp, ?_⟩)
                  rcases hk with hk | hk
                  · exact .inl hk
                  · exact .inr (q1 ▸ hk)
                · exact .inr (.inr ⟨y, List.mem_append_right _ (List.mem_cons_of_mem _ hy), hk⟩))
          have := HD.out.lt h7
          have := HBL.out
          omega))
      · rw [List.map_append, List.map_append, h3, List.map_cons, List.map_nil, List.map_cons, List.map_nil, hcs]
        rfl
      · intro k hk
        rw [hdrop2, List.append_assoc] at hk
        refine h4 k ?_
        rcases hk with hk | hk | ⟨y, hy, hk⟩
        · exact .inl hk
        · exact .inr (.inl hk)
        · rcases List.mem_append.1 hy with hy | hy
          · exact .inr (.inr ⟨y, List.mem_append_left _ hy, hk⟩)
          · rcases List.mem_cons.1 hy with rfl | hy
            · refine .inr (.inr ⟨x, by simp, ?_⟩)
              rcases hk with hk | hk
              · exact .inl hk
              · exact .inr (q1 ▸ hk)
            · exact .inr (.inr ⟨y, List.mem_append_right _ (List.mem_cons_of_mem _ hy), hk⟩)
      · exact g3.other (by omega) _
      · refine ⟨t3.os.trans h6.os, t3.tape.trans h6.tape, t3.output.trans h6.output, Nat.le_trans h6.size hsz, fun k hk hn => ?_⟩
        have hb := HBL.out
        refine (keep2 k (by have := h6.size; omega) (fun e => hn (e ▸ .inl rfl)) (fun e => hn (.inr (.inr ⟨x, hmem, .inl e⟩))) (by omega)).trans (h6.block k hk hn)
    have mixed : Tryz.prog.follows .mixedOrders = true := by kernel_rfl
    rw [hcast] at hs
    have HSH := Lib.hid hs
    have HST := Lib.hid hstep
    have cLd : W.drew.cell? ⟨bl, 0, none⟩ = some (.int .i64 L) := cL
    have cx0d : W.drew.cell? ⟨x.blk, 0, none⟩ = some (.slice va x.pf.bytes.length vc) := cx0
    have cx1d : W.drew.cell? ⟨x.blk, 1, none⟩ = some (.int .i64 x.pf.synced) := cx1
    have cbdd : W.drew.drew.cell? ⟨bd, 0, none⟩ = some (.pointer (some ⟨p, 0, none⟩)) := cbd
    have cx1dd : W.drew.drew.cell? ⟨x.blk, 1, none⟩ = some (.int .i64 x.pf.synced) := cx1
    clear hs hstep hat h1 h2 h3 h4 h5 h6 hG hdrop hdrop2 hcl hls hcs hroom1 hr1b hcast bdW hL hst hnl htot hblne hbdne hst1 hst2 hleft
    unfold roundAct encD
    gi_wp2_with fail
    refine region_round (S := fun w' => w'.cell? ⟨bl, 0, none⟩ = some (.int .i64 L) ∧ w'.cell? ⟨x.blk, 0, none⟩ = some (.slice va x.pf.bytes.length vc) ∧ w'.cell? ⟨x.blk, 1, none⟩ = some (.int .i64 x.pf.synced)) (by rintro ⟨a, w, h⟩; exact h) (by kernel_rfl) mixed ⟨cLd, cx0d, cx1d⟩ (fun hHeld => ?_)
    try simp only [Act.put, List.setIfInBounds_toArray, List.set_cons_zero, List.set_cons_succ]
    refine take_run (i := 0) (v := ?_) rfl (by kernel_rfl) (by kernel_rfl) (by kernel_rfl) (fun _ _ _ h => h) (by kernel_rfl) ?_ (by assumption) ?_
    rotate_left
    · (intro w hSw; (try dsimp only at hSw); go_simp); all_goals with_reducible rfl
    try simp only [Act.put, List.setIfInBounds_toArray, List.set_cons_zero, List.set_cons_succ]
    refine take_run (i := 1) (v := ?_) rfl (by kernel_rfl) (by kernel_rfl) (by kernel_rfl) (fun _ _ _ h => h) (by kernel_rfl) ?_ (by assumption) ?_
    rotate_left
    · (intro w hSw; (try dsimp only at hSw); go_simp); all_goals with_reducible rfl
    try simp only [Act.put, List.setIfInBounds_toArray, List.set_cons_zero, List.set_cons_succ]
    refine take_run (i := 2) (v := ?_) rfl (by kernel_rfl) (by kernel_rfl) (by kernel_rfl) (fun _ _ _ h => h) (by kernel_rfl) ?_ (by assumption) ?_
    rotate_left
    · (intro w hSw; (try dsimp only at hSw); go_simp); all_goals with_reducible rfl
    try simp only [Act.put, List.setIfInBounds_toArray, List.set_cons_zero, List.set_cons_succ]
    refine take_run (i := 3) (v := ?_) rfl (by kernel_rfl) (by kernel_rfl) (by kernel_rfl) (fun _ _ _ h => h) (by kernel_rfl) ?_ (by assumption) ?_
    rotate_left
    · (intro w hSw; (try dsimp only at hSw); go_simp); all_goals with_reducible rfl
    try simp only [Act.put, List.setIfInBounds_toArray, List.set_cons_zero, List.set_cons_succ]
    refine take_run (i := 4) (v := ?_) rfl (by kernel_rfl) (by kernel_rfl) (by kernel_rfl) (fun _ _ _ h => h) (by kernel_rfl) ?_ (by assumption) ?_
    rotate_left
    · (intro w hSw; (try dsimp only at hSw); go_simp); all_goals with_reducible rfl
    try simp only [Act.put, List.setIfInBounds_toArray, List.set_cons_zero, List.set_cons_succ]
    refine take_run (i := 5) (v := ?_) rfl (by kernel_rfl) (by kernel_rfl) (by kernel_rfl) (fun _ _ _ h => h) (by kernel_rfl) ?_ (by assumption) ?_
    rotate_left
    · (intro w hSw; (try dsimp only at hSw); go_simp); all_goals with_reducible rfl
    try simp only [Act.put, List.setIfInBounds_toArray, List.set_cons_zero, List.set_cons_succ]
    refine take_run (i := 6) (v := ?_) rfl (by kernel_rfl) (by kernel_rfl) (by kernel_rfl) (fun _ _ _ h => h) (by kernel_rfl) ?_ (by assumption) ?_
    rotate_left
    · (intro w hSw; (try dsimp only at hSw); go_simp); all_goals with_reducible rfl
    try simp only [Act.put, List.setIfInBounds_toArray, List.set_cons_zero, List.set_cons_succ]
    refine take_run (i := 7) (v := ?_) rfl (by kernel_rfl) (by kernel_rfl) (by kernel_rfl) (fun _ _ _ h => h) (by kernel_rfl) ?_ (by assumption) ?_
    rotate_left
    · (intro w hSw; (try dsimp only at hSw); go_simp); all_goals with_reducible rfl
    try simp only [Act.put, List.setIfInBounds_toArray, List.set_cons_zero, List.set_cons_succ]
    refine take_run (i := 8) (v := ?_) rfl (by kernel_rfl) (by kernel_rfl) (by kernel_rfl) (fun _ _ _ h => h) (by kernel_rfl) ?_ (by assumption) ?_
    rotate_left
    · (intro w hSw; (try dsimp only at hSw); go_simp); all_goals with_reducible rfl
    try simp only [Act.put, List.setIfInBounds_toArray, List.set_cons_zero, List.set_cons_succ]
    refine take_run (i := 9) (v := ?_) rfl (by kernel_rfl) (by kernel_rfl) (by kernel_rfl) (fun _ _ _ h => h) (by kernel_rfl) ?_ (by assumption) ?_
    rotate_left
    · (intro w hSw; (try dsimp only at hSw); go_simp); all_goals with_reducible rfl
    try simp only [Act.put, List.setIfInBounds_toArray, List.set_cons_zero, List.set_cons_succ]
    refine take_run (i := 10) (v := ?_) rfl (by kernel_rfl) (by kernel_rfl) (by kernel_rfl) (fun _ _ _ h => h) (by kernel_rfl) ?_ (by assumption) ?_
    rotate_left
    · (intro w hSw; (try dsimp only at hSw); go_simp); all_goals with_reducible rfl
    try simp only [Act.put, List.setIfInBounds_toArray, List.set_cons_zero, List.set_cons_succ]
    refine take_run (i := 11) (v := ?_) rfl (by kernel_rfl) (by kernel_rfl) (by kernel_rfl) (fun _ _ _ h => h) (by kernel_rfl) ?_ (by assumption) ?_
    rotate_left
    · (intro w hSw; (try dsimp only at hSw); go_simp); all_goals with_reducible rfl
    try simp only [Act.put, List.setIfInBounds_toArray, List.set_cons_zero, List.set_cons_succ]
    refine take_run (i := 12) (v := ?_) rfl (by kernel_rfl) (by kernel_rfl) (by kernel_rfl) (fun _ _ _ h => h) (by kernel_rfl) ?_ (by assumption) ?_
    rotate_left
    · (intro w hSw; (try dsimp only at hSw); go_simp); all_goals with_reducible rfl
    try simp only [Act.put, List.setIfInBounds_toArray, List.set_cons_zero, List.set_cons_succ]
    refine wpAnyH_done (by kernel_rfl) ?_ _
    clear hHeld
    gi_wp2_with fail
    refine region_round (S := fun w' => w'.cell? ⟨bd, 0, none⟩ = some (.pointer (some ⟨p, 0, none⟩)) ∧ w'.cell? ⟨x.blk, 1, none⟩ = some (.int .i64 x.pf.synced)) (by rintro ⟨a, w, h⟩; exact h) (by kernel_rfl) mixed ⟨cbdd, cx1dd⟩ (fun hHeld => ?_)
    try simp only [Act.put, List.setIfInBounds_toArray, List.set_cons_zero, List.set_cons_succ]
    refine take_run (i := 0) (v := ?_) rfl (by kernel_rfl) (by kernel_rfl) (by kernel_rfl) (fun _ _ _ h => h) (by kernel_rfl) ?_ (by assumption) ?_
    rotate_left
    · (intro w hSw; (try dsimp only at hSw); go_simp); all_goals with_reducible rfl
    try simp only [Act.put, List.setIfInBounds_toArray, List.set_cons_zero, List.set_cons_succ]
    refine take_run (i := 1) (v := ?_) rfl (by kernel_rfl) (by kernel_rfl) (by kernel_rfl) (fun _ _ _ h => h) (by kernel_rfl) ?_ (by assumption) ?_
    rotate_left
    · (intro w hSw; (try dsimp only at hSw); go_simp); all_goals with_reducible rfl
    try simp only [Act.put, List.setIfInBounds_toArray, List.set_cons_zero, List.set_cons_succ]
    refine take_run (i := 2) (v := ?_) rfl (by kernel_rfl) (by kernel_rfl) (by kernel_rfl) (fun _ _ _ h => h) (by kernel_rfl) ?_ (by assumption) ?_
    rotate_left
    · (intro w hSw; (try dsimp only at hSw); go_simp); all_goals with_reducible rfl
    try simp only [Act.put, List.setIfInBounds_toArray, List.set_cons_zero, List.set_cons_succ]
    refine take_run (i := 3) (v := ?_) rfl (by kernel_rfl) (by kernel_rfl) (by kernel_rfl) (fun _ _ _ h => h) (by kernel_rfl) ?_ (by assumption) ?_
    rotate_left
    · (intro w hSw; (try dsimp only at hSw); go_simp); all_goals with_reducible rfl
    try simp only [Act.put, List.setIfInBounds_toArray, List.set_cons_zero, List.set_cons_succ]
    refine take_run (i := 4) (v := ?_) rfl (by kernel_rfl) (by kernel_rfl) (by kernel_rfl) (fun _ _ _ h => h) (by kernel_rfl) ?_ (by assumption) ?_
    rotate_left
    · (intro w hSw; (try dsimp only at hSw); go_simp); all_goals with_reducible rfl
    try simp only [Act.put, List.setIfInBounds_toArray, List.set_cons_zero, List.set_cons_succ]
    refine take_run (i := 5) (v := ?_) rfl (by kernel_rfl) (by kernel_rfl) (by kernel_rfl) (fun _ _ _ h => h) (by kernel_rfl) ?_ (by assumption) ?_
    rotate_left
    · (intro w hSw; (try dsimp only at hSw); go_simp); all_goals with_reducible rfl
    try simp only [Act.put, List.setIfInBounds_toArray, List.set_cons_zero, List.set_cons_succ]
    refine take_run (i := 6) (v := ?_) rfl (by kernel_rfl) (by kernel_rfl) (by kernel_rfl) (fun _ _ _ h => h) (by kernel_rfl) ?_ (by assumption) ?_
    rotate_left
    · (intro w hSw; (try dsimp only at hSw); go_simp); all_goals with_reducible rfl
    try simp only [Act.put, List.setIfInBounds_toArray, List.set_cons_zero, List.set_cons_succ]
    refine take_run (i := 7) (v := ?_) rfl (by kernel_rfl) (by kernel_rfl) (by kernel_rfl) (fun _ _ _ h => h) (by kernel_rfl) ?_ (by assumption) ?_
    rotate_left
    · (intro w hSw; (try dsimp only at hSw); go_simp); all_goals with_reducible rfl
    try simp only [Act.put, List.setIfInBounds_toArray, List.set_cons_zero, List.set_cons_succ]
    refine take_call (i := 8) rfl (by kernel_rfl) (by kernel_rfl) (fun K hK => ?_)
    go_simp; refine HSH.out.mono ?_; rintro r w3 ⟨⟨u, rfl⟩, v', q1, q2, q3⟩; obtain ⟨z1, z2, z3, z4, z5⟩ := HST.out w3 v' q1 q2 q3; have Z5 := Lib.hid z5; clear z5 q1 q2 q3
    go_wp2_with fail
    clear hHeld
    refine hK.out _ _ ⟨z3, z4⟩ (fun hHeld => ?_)
    clear hK K
    try simp only [Act.put, List.setIfInBounds_toArray, List.set_cons_zero, List.set_cons_succ]
    refine wpAnyH_done (by kernel_rfl) ?_ _
    clear hHeld
    gi_wp2
    exact Z5.out
  case done =>
    rintro D W hD ⟨H, h1, h2, h3, h4, h5, h6⟩ hK
    have hb := HBL.out
    have hs0 := HS.out
    rw [List.drop_length, List.append_nil] at h2 h4
    have hpo := powerOff_any h2
    have bdW : Boxed W bd 33 (.pointer (some ⟨p, 0, none⟩)) := (h6.block bd (by omega) (fun hf => hnd (hF bd hf))).trans HBD.out
    have cbd := bdW.cell
    have hDp : D ≠ p := by omega
    have hfin : ∀ w3, DiskAt w3 p mb H (room + ((totF (G.map Ent.pf) : Int) - totF (crL k0 (G.map Ent.pf)))) (-1) true → W.grownBy w3 (some p) → w3.heap[D]? = some (.deferred (some [])) ∧
        Moves w p F { files := crL k0 (G.map Ent.pf), room := room + ((totF (G.map Ent.pf) : Int) - totF (crL k0 (G.map Ent.pf))), fuse := -1, dead := true } (w3.putObj D (.deferred none)) := by
      intro w3 q1 q2
      have hK3 : w3.heap[D]? = some (.deferred (some [])) := (q2.block D (Array.getElem?_eq_some_iff.1 hK).1 (fun e => hDp (by simpa using e))).trans hK
      refine ⟨hK3, ?_⟩
      have q3 : DiskAt (w3.putObj D (.deferred none)) p mb H (room + ((totF (G.map Ent.pf) : Int) - totF (crL k0 (G.map Ent.pf)))) (-1) true := q1.kept (fun k hk => World.putObj_heap_other (fun e => by have := HD.out.lt (h4 k hk); omega))
      have t3 : Turned F w w3 := ((Turned.refl F w).trans h6 (fun k hk => .inl (hF k hk))).trans (Turned.of_grown (F := F) q2 (fun k hk => by cases hk; exact hF _ (.inl rfl))) (fun _ h => .inl h)
      have hm := moves_of hF1 q3 (fun k hk => .inl (hF k (h4 k hk))) (t3.trans (Turned.of_grown (F := fun k => k = D) (grownBy_putObj' w3 D (.deferred none)) (fun k hk => by cases hk; rfl)) (fun k hk => .inr (by have : k = D := hk; omega)))
      rw [h3] at hm
      exact hm
    have HPO := Lib.hid hpo
    have HFIN := Lib.hid hfin
    clear hpo hfin h1 h2 h3 h4 h5 h6 bdW hK
    gi_wp2_with (refine ⟨trivial, ?_⟩; gi_at_call 32; refine (callsIn_wide.2 HPO.out).mono ?_; rintro r w3 ⟨⟨u, rfl⟩, q1, q2⟩; obtain ⟨z1, z2⟩ := HFIN.out w3 q1 q2; have Z1 := Lib.hid z1; have Z2 := Lib.hid z2; clear z1 z2 q1 q2)
    refine ⟨by simp, .inl ⟨_, _, rfl, run_takeDeferred Z1.out, .int .i64 0, by simp [results, Tryz.f29, go_sem], rfl, Z2.out⟩⟩
  case stop =>
    rintro D c pre W _ _ h _
    exact h.elim

set_option maxRecDepth 100000 in
set_option maxHeartbeats 4000000 in
theorem crash_neg {F : Nat → Prop} {bk bd : Nat} {keep : Int} (h : DiskAt w p mb G room fuse false) (hF : ∀ k, Foot p mb G k → F k) (hF1 : ∀ k, F k → k < w.heap.size) (hbk : Boxed w bk 3 (.int .i64 keep)) (hbd : Boxed w bd 33 (.pointer (some ⟨p, 0, none⟩))) (hnd : ¬ F bd)
    (hl : G.length ≤ 100000) (hln : ∀ e ∈ G, e.pf.name.length ≤ 1000000) (hsy : ∀ e ∈ G, e.pf.synced ≤ e.pf.bytes.length) (hr0 : 0 ≤ room) (hr1 : room + totF (G.map Ent.pf) ≤ 4611686018427387904) (hk1 : keep ≤ 9223372036854775807) (hk : keep < 0) :
    Calls Tryz.prog 29 #[.pointer (some ⟨bk, 0, none⟩), .pointer (some ⟨bd, 0, none⟩)] w fun r w' => r = .returned (.int .i64 0) ∧
      Moves w p F { files := crL (keepN keep) (G.map Ent.pf), room := room + ((totF (G.map Ent.pf) : Int) - totF (crL (keepN keep) (G.map Ent.pf))), fuse := -1, dead := true } w' := by
  obtain ⟨k0, hk0⟩ : ∃ k0, keepN keep = k0 := ⟨_, rfl⟩
  rw [hk0]
  have hkv : k0 = 9223372036854775807 := by rw [← hk0]; unfold keepN; rw [if_pos hk]
  have hkm : k0 ≤ 9223372036854775807 := by rw [← hk0]; unfold keepN; split <;> omega
  have j1 := hbk.cell
  have j2 := hbd.cell
  have hdec : decide (keep < 0) = true := by simpa using hk
  have hbdl := hbd.lt
  have j4 : ∀ o, (w.alloc o).cell? ⟨bk, 0, none⟩ = some (.int .i64 keep) := fun o => (hbk.alloc o).cell
  have HKV := Lib.hid hkv
  clear hkv
  have j3 : ∀ o, (w.alloc o).cell? ⟨bd, 0, none⟩ = some (.pointer (some ⟨p, 0, none⟩)) := fun o => (hbd.alloc o).cell
  refine (callsIn_wide (n := 9)).1 ?_
  refine callsIn_of_wp_marks Tryz.func29 rfl trivial ?_ rfl
  simp only [Tryz.ntmps29, List.size_toArray, List.length_cons, List.length_nil, Nat.reduceAdd, Nat.reduceSub, Array.replicate_succ, Array.replicate_zero, List.push_toArray, List.append_toArray, List.nil_append, List.cons_append]
  gi_wp2_with (refine ⟨trivial, ?_⟩; gi_at_call 30; refine (callsIn_wide.2 (inOrder_any _ _)).mono ?_; rintro r w2 ⟨rfl, rfl⟩)
  obtain ⟨bl, hbl⟩ : ∃ bl, w.heap.size = bl := ⟨_, rfl⟩
  have hXV : (9223372036854775807 : Int) = (k0 : Int) := by have := HKV.out; omega
  obtain ⟨W0, hW0⟩ : ∃ W0, ((w.alloc (.cells #[.int .i64 (9223372036854775807 : Int)] 3)).alloc (.cells #[.pointer (some ⟨p, 0, none⟩)] 33)) = W0 := ⟨_, rfl⟩
  have sW0 : W0.heap.size = bl + 2 := by rw [← hW0, ← hbl]; simp
  have bW0 : Below w.heap.size w W0 := by rw [← hW0]; exact ((Below.refl _ w).alloc (Nat.le_refl _) _).alloc (by simp) _
  have bo : Boxed W0 (bl + 1) 33 (.pointer (some ⟨p, 0, none⟩)) := by rw [← hW0, ← hbl]; have := Boxed.new (w.alloc (.cells #[.int .i64 (9223372036854775807 : Int)] 3)) 33 (.pointer (some ⟨p, 0, none⟩)); simpa using this
  have bL : Boxed W0 bl 3 (.int .i64 k0) := by rw [← hW0, ← hbl, ← hXV]; exact (Boxed.new w 3 _).alloc _
  have hdk : DiskAt W0 p mb G room fuse false := h.kept (fun k hk => bW0.block k (h.lt hk))
  have i0 : CrI w bl bd p mb G room fuse k0 [] W0 := by
    refine ⟨[], bL, ?_, rfl, fun k hk => hk, bo, Turned.of_below bW0⟩
    have e1 : room + ((totF (([] : List Ent).map Ent.pf) : Int) - totF (crL k0 (([] : List Ent).map Ent.pf))) = room := by simp [totF, crL]
    rw [e1]
    exact hdk
  have htell := inOrder_tells (p := p) (mb := mb) (G := G) (bl + 1) W0 bo hdk.c0 (hdk.lt (.inl rfl)) hdk.map hdk.names (by omega) hln
  have hp : p < bl := by rw [← hbl]; exact h.lt (.inl rfl)
  have hmb : mb < bl := by rw [← hbl]; exact h.lt (.inr (.inl rfl))
  have hbd2 : bd < bl := by rw [← hbl]; exact hbdl
  have HS := Lib.hid sW0
  have HD := Lib.hid h
  have HBL := Lib.hid hbl
  have HBD := Lib.hid hbd
  rw [hW0, hbl]
  clear hXV hW0 bW0 bo bL hdk h sW0 j1 j2 j3 j4 hbd hbk hbl hbdl hdec
  refine range_plain (gf := 49) (lb := #[.pointer (some ⟨bl + 1, 0, none⟩)]) rfl (enters_of Tryz.func49 (by kernel_rfl) rfl)
    htell (Below.refl _ _) (fun _ => rfl)
    (fun V W => ⟨rfl, rfl, rfl, fun _ _ _ => rfl⟩)
    (fun V {X Y Z} h k => h.trans k)
    (fun V W l o' h1 h2 h3 => KpD.put (by have := HS.out; omega) (by have := HS.out; omega) (by have := HS.out; omega) h3)
    (CrI w bl bd p mb G room fuse k0) (fun _ _ _ => False) (crI_own bl bd k0 _ HD.out (by have := HS.out; have := HBL.out; omega)) (fun _ _ _ _ _ h _ _ => h) i0
    (fun x t => t.setIfInBounds 5 (.pointer (some ⟨x.blk, 0, none⟩)))
    ?assign ?body ?done ?stop
  case assign =>
    intro m lp x W K hK
    simp [roundAct, encD, go_sem] at hK
    unfold encD
    gi_wp2
    exact hK
  case body =>
    rintro m lp V pre x W sV ⟨H, h1, h2, h3, h4, h5, h6⟩ hx
    obtain ⟨R, hG⟩ := hx
    have hdrop : G.drop pre.length = x :: R := by rw [← hG]; simp
    have hdrop2 : G.drop (pre ++ [x]).length = R := by rw [← hG, List.drop_left]
    have hmem : x ∈ G := by rw [← hG]; simp
    rw [hdrop] at h2 h4
    have hxm : x ∈ H ++ x :: R := by simp
    have hat := h2.ents x hxm
    obtain ⟨va, vc, hv, _, _, _, _⟩ := owns_slice hat
    have hsx := hsy x hmem
    have htot : totF (pre.map Ent.pf) + x.pf.bytes.length ≤ totF (G.map Ent.pf) := by
      rw [← hG, List.map_append, List.map_append, totF_append, totF_append]
      simp only [List.map_cons, List.map_nil, totF_one]
      omega
    have hcl := crL_le (pre.map Ent.pf) k0
    have hleft := leftN_le (pre.map Ent.pf) k0
    have hls := leftN_snoc x.pf (pre.map Ent.pf) k0
    have hcs := crL_snoc x.pf (pre.map Ent.pf) k0
    obtain ⟨L, hL⟩ : ∃ L, leftN k0 (pre.map Ent.pf) = L := ⟨_, rfl⟩
    obtain ⟨st, hst⟩ : ∃ st, stayF L x.pf = st := ⟨_, rfl⟩
    rw [hL] at h1 hleft hls hcs
    rw [hst] at hls hcs
    have hst1 : st ≤ x.pf.bytes.length - x.pf.synced := by rw [← hst]; exact Nat.min_le_right _ _
    have hst2 : st ≤ L := by rw [← hst]; exact Nat.min_le_left _ _
    have hnl : (cutF (x.pf.synced + st) x.pf).bytes.length = x.pf.synced + st := by rw [← hst]; exact cutF_length hsx L
    obtain ⟨room1, hroom1⟩ : ∃ r, room + ((totF (pre.map Ent.pf) : Int) - totF (crL k0 (pre.map Ent.pf))) = r := ⟨_, rfl⟩
    rw [hroom1] at h2
    have hr1b : 0 ≤ room1 ∧ room1 + x.pf.bytes.length ≤ 4611686018427387904 := by omega
    have hs := shorten_any (h2.kept (w' := W.drew.drew) (fun _ _ => rfl)) hxm (x.pf.synced + st) (by omega) hr1b.1 hr1b.2
    have hcast : (((x.pf.synced + st : Nat)) : Int) = (x.pf.synced : Int) + (st : Int) := by omega
    have cL := h1.cell
    have cx0 := hat.c0
    rw [hv] at cx0
    have cx1 := hat.c1
    have bdW : Boxed W bd 33 (.pointer (some ⟨p, 0, none⟩)) := (h6.block bd (by have := HBL.out; omega) (fun hf => hnd (hF bd hf))).trans HBD.out
    have cbd := bdW.cell
    have hw1 : IntKind.i64.wrap ((x.pf.bytes.length : Int) - (x.pf.synced : Int)) = (x.pf.bytes.length : Int) - (x.pf.synced : Int) := by rw [IntKind.wrap_i64]; omega
    have hmin : min (L : Int) ((x.pf.bytes.length : Int) - (x.pf.synced : Int)) = (st : Int) := by rw [← hst]; unfold stayF; omega
    have hw2 : IntKind.i64.wrap ((x.pf.synced : Int) + (st : Int)) = (x.pf.synced : Int) + (st : Int) := by rw [IntKind.wrap_i64]; omega
    have hw3 : IntKind.i64.wrap ((L : Int) - (st : Int)) = (L : Int) - (st : Int) := by rw [IntKind.wrap_i64]; omega
    have hblne : bl ≠ p ∧ bl ≠ x.blk := ⟨by omega, fun e => by have e1 := hat.1; rw [← e, show W.heap[bl]? = _ from h1] at e1; simp at e1⟩
    have hbdne : bd ≠ p ∧ bd ≠ x.blk := ⟨fun e => by have e1 := h2.cell; rw [← e, show W.heap[bd]? = _ from bdW] at e1; simp at e1, fun e => by have e1 := hat.1; rw [← e, show W.heap[bd]? = _ from bdW] at e1; simp at e1⟩
    have hstep : ∀ w3 v', v'.ownBlock = x.v.ownBlock → DiskAt w3 p mb (updE (x.cut (x.pf.synced + st) v') (H ++ x :: R)) (room1 + (x.pf.bytes.length - (x.pf.synced + st : Nat))) fuse false → Turned (fun k => k = p ∨ k = x.blk) W.drew.drew w3 →
        w3.cell? ⟨bl, 0, none⟩ = some (.int .i64 L) ∧ w3.frozen? ⟨bl, 0, none⟩ = false ∧ w3.cell? ⟨bd, 0, none⟩ = some (.pointer (some ⟨p, 0, none⟩)) ∧ w3.cell? ⟨x.blk, 1, none⟩ = some (.int .i64 x.pf.synced) ∧
        (KeepsFrom W0.heap.size W (w3.setCell ⟨bl, 0, none⟩ (.int .i64 ((L : Int) - st))) ∧ KpD (bl + 1) p mb V W (w3.setCell ⟨bl, 0, none⟩ (.int .i64 ((L : Int) - st))) ∧ CrI w bl bd p mb G room fuse k0 (pre ++ [x]) (w3.setCell ⟨bl, 0, none⟩ (.int .i64 ((L : Int) - st)))) := by
      intro w3 v' q1 q2 q3
      have t3 : Turned (fun k => k = p ∨ k = x.blk) W w3 := ⟨q3.os, q3.tape, q3.output, q3.size, q3.block⟩
      have keep : ∀ k, k < W.heap.size → k ≠ p → k ≠ x.blk → w3.heap[k]? = W.heap[k]? := fun k hk n1 n2 => t3.block k hk (by rintro (e | e); exact n1 e; exact n2 e)
      have g1 : Boxed w3 bl 3 (.int .i64 L) := (keep bl h1.lt hblne.1 hblne.2).trans h1
      have g2 : Boxed w3 bd 33 (.pointer (some ⟨p, 0, none⟩)) := (keep bd bdW.lt hbdne.1 hbdne.2).trans bdW
      have hblo : bl + 1 ≠ x.blk := fun e => by have e1 := hat.1; rw [← e, show W.heap[bl + 1]? = _ from h5] at e1; simp at e1
      have g3 : Boxed w3 (bl + 1) 33 (.pointer (some ⟨p, 0, none⟩)) := (keep _ h5.lt (by omega) hblo).trans h5
      have hu : updE (x.cut (x.pf.synced + st) v') (H ++ x :: R) = H ++ x.cut (x.pf.synced + st) v' :: R := upd_mid (sortedN_nodup h2.names) rfl
      rw [hu] at q2
      have hx1 := (q2.ents (x.cut (x.pf.synced + st) v') (by simp)).c1
      refine ⟨g1.cell, g1.frozen, g2.cell, hx1, ?_⟩
      have keep2 : ∀ k, k < W.heap.size → k ≠ p → k ≠ x.blk → k ≠ bl → (w3.setCell ⟨bl, 0, none⟩ (.int .i64 ((L : Int) - st))).heap[k]? = W.heap[k]? := fun k hk n1 n2 n3 => (heap_setCell_other w3 _ k _ n3).trans (keep k hk n1 n2)
      have hcells : ∀ k o, W.heap[k]? = some o → o.isCells = false → k ≠ p ∧ k ≠ x.blk ∧ k ≠ bl := by
        intro k o hk hc
        refine ⟨fun e => ?_, fun e => ?_, fun e => ?_⟩
        · subst e; rw [h2.cell] at hk; cases hk; cases hc
        · subst e; rw [hat.1] at hk; cases hk; cases hc
        · subst e; rw [show W.heap[k]? = _ from h1] at hk; cases hk; cases hc
      have hsz : W.heap.size ≤ (w3.setCell ⟨bl, 0, none⟩ (.int .i64 ((L : Int) - st))).heap.size := by have := t3.size; simpa [World.setCell] using this
      refine ⟨⟨hsz, fun k o _ hk hc => ?_⟩, ⟨?_, ?_, ?_, ?_⟩, H ++ [x.cut (x.pf.synced + st) v'], ?_, ?_, ?_, ?_, ?_, ?_⟩
      · obtain ⟨n1, n2, n3⟩ := hcells k o hk hc
        exact (keep2 k (Array.getElem?_eq_some_iff.1 hk).1 n1 n2 n3).trans hk
      · exact keep2 _ h5.lt (by omega) hblo (by omega)
      · have e1 : (w3.setCell ⟨bl, 0, none⟩ (.int .i64 ((L : Int) - st))).cell? ⟨p, 0, none⟩ = w3.cell? ⟨p, 0, none⟩ := World.cell?_of_block (a := ⟨p, 0, none⟩) (heap_setCell_other w3 _ p _ (by show p ≠ bl; omega))
        rw [e1, q2.c0, h2.c0]
      · obtain ⟨es, clock, hm⟩ := h2.map.isMap
        obtain ⟨n1, n2, n3⟩ := hcells mb _ hm rfl
        exact keep2 mb (Array.getElem?_eq_some_iff.1 hm).1 n1 n2 n3
      · intro k xs hk
        refine keep2 k (Array.getElem?_eq_some_iff.1 hk).1 (fun e => ?_) (fun e => ?_) (fun e => ?_)
        · subst e; rw [h2.cell] at hk; simp at hk
        · subst e; rw [hat.1] at hk; simp at hk
        · subst e; rw [show W.heap[k]? = _ from h1] at hk; simp at hk
      · have := g1.set (.int .i64 ((L : Int) - st))
        rw [List.map_append, List.map_cons, List.map_nil, hls]
        rw [show ((L - st : Nat) : Int) = (L : Int) - (st : Int) from by omega]
        exact this
      · rw [hdrop2, List.append_assoc]
        have e1 : room + ((totF ((pre ++ [x]).map Ent.pf) : Int) - totF (crL k0 ((pre ++ [x]).map Ent.pf))) = room1 + (x.pf.bytes.length - (x.pf.synced + st : Nat)) := by
          rw [List.map_append, List.map_cons, List.map_nil, hcs, totF_append, totF_append, totF_one, totF_one, hnl, ← hroom1]
          omega
        rw [e1]
        exact q2.kept (fun k hk => heap_setCell_other w3 _ k _ (fun e => by
          have e2 : k = bl := e
          have h7 := h4 k (by
            rcases hk with hk | hk | ⟨y, hy, hk⟩
            · exact .inl hk
            · exact .inr (.inl hk)
            · rcases List.mem_append.1 hy with hy | hy
              · exact .inr (.inr ⟨y, List.mem_append_left _ hy, hk⟩)
              · rcases List.mem_cons.1 hy with rfl | hy
                · refine .inr (.inr ⟨x, by simp, ?_⟩)
                  rcases hk with hk | hk
                  · exact .inl hk
                  · exact .inr (q1 ▸ hk)
                · exact .inr (.inr ⟨y, List.mem_append_right _ (List.mem_cons_of_mem _ hy), hk⟩))
          have := HD.out.lt h7
          have := HBL.out
          omega))
      · rw [List.map_append, List.map_append, h3, List.map_cons, List.map_nil, List.map_cons, List.map_nil, hcs]
        rfl
      · intro k hk
        rw [hdrop2, List.append_assoc] at hk
        refine h4 k ?_
        rcases hk with hk | hk | ⟨y, hy, hk⟩
        · exact .inl hk
        · exact .inr (.inl hk)
        · rcases List.mem_append.1 hy with hy | hy
          · exact .inr (.inr ⟨y, List.mem_append_left _ hy, hk⟩)
          · rcases List.mem_cons.1 hy with rfl | hy
            · refine .inr (.inr ⟨x, by simp, ?_⟩)
              rcases hk with hk | hk
              · exact .inl hk
              · exact .inr (q1 ▸ hk)
            · exact .inr (.inr ⟨y, List.mem_append_right _ (List.mem_cons_of_mem _ hy), hk⟩)
      · exact g3.other (by omega) _
      · refine ⟨t3.os.trans h6.os, t3.tape.trans h6.tape, t3.output.trans h6.output, Nat.le_trans h6.size hsz, fun k hk hn => ?_⟩
        have hb := HBL.out
        refine (keep2 k (by have := h6.size; omega) (fun e => hn (e ▸ .inl rfl)) (fun e => hn (.inr (.inr ⟨x, hmem, .inl e⟩))) (by omega)).trans (h6.block k hk hn)
    have mixed : Tryz.prog.follows .mixedOrders = true := by kernel_rfl
    rw [hcast] at hs
    have HSH := Lib.hid hs
    have HST := Lib.hid hstep
    have cLd : W.drew.cell? ⟨bl, 0, none⟩ = some (.int .i64 L) := cL
    have cx0d : W.drew.cell? ⟨x.blk, 0, none⟩ = some (.slice va x.pf.bytes.length vc) := cx0
    have cx1d : W.drew.cell? ⟨x.blk, 1, none⟩ = some (.int .i64 x.pf.synced) := cx1
    have cbdd : W.drew.drew.cell? ⟨bd, 0, none⟩ = some (.pointer (some ⟨p, 0, none⟩)) := cbd
    have cx1dd : W.drew.drew.cell? ⟨x.blk, 1, none⟩ = some (.int .i64 x.pf.synced) := cx1
    clear hs hstep hat h1 h2 h3 h4 h5 h6 hG hdrop hdrop2 hcl hls hcs hroom1 hr1b hcast bdW hL hst hnl htot hblne hbdne hst1 hst2 hleft
    unfold roundAct encD
    gi_wp2_with fail
    refine region_round (S := fun w' => w'.cell? ⟨bl, 0, none⟩ = some (.int .i64 L) ∧ w'.cell? ⟨x.blk, 0, none⟩ = some (.slice va x.pf.bytes.length vc) ∧ w'.cell? ⟨x.blk, 1, none⟩ = some (.int .i64 x.pf.synced)) (by rintro ⟨a, w, h⟩; exact h) (by kernel_rfl) mixed ⟨cLd, cx0d, cx1d⟩ (fun hHeld => ?_)
    try simp only [Act.put, List.setIfInBounds_toArray, List.set_cons_zero, List.set_cons_succ]
    refine take_run (i := 0) (v := ?_) rfl (by kernel_rfl) (by kernel_rfl) (by kernel_rfl) (fun _ _ _ h => h) (by kernel_rfl) ?_ (by assumption) ?_
    rotate_left
    · (intro w hSw; (try dsimp only at hSw); go_simp); all_goals with_reducible rfl
    try simp only [Act.put, List.setIfInBounds_toArray, List.set_cons_zero, List.set_cons_succ]
    refine take_run (i := 1) (v := ?_) rfl (by kernel_rfl) (by kernel_rfl) (by kernel_rfl) (fun _ _ _ h => h) (by kernel_rfl) ?_ (by assumption) ?_
    rotate_left
    · (intro w hSw; (try dsimp only at hSw); go_simp); all_goals with_reducible rfl
    try simp only [Act.put, List.setIfInBounds_toArray, List.set_cons_zero, List.set_cons_succ]
    refine take_run (i := 2) (v := ?_) rfl (by kernel_rfl) (by kernel_rfl) (by kernel_rfl) (fun _ _ _ h => h) (by kernel_rfl) ?_ (by assumption) ?_
    rotate_left
    · (intro w hSw; (try dsimp only at hSw); go_simp); all_goals with_reducible rfl
    try simp only [Act.put, List.setIfInBounds_toArray, List.set_cons_zero, List.set_cons_succ]
    refine take_run (i := 3) (v := ?_) rfl (by kernel_rfl) (by kernel_rfl) (by kernel_rfl) (fun _ _ _ h => h) (by kernel_rfl) ?_ (by assumption) ?_
    rotate_left
    · (intro w hSw; (try dsimp only at hSw); go_simp); all_goals with_reducible rfl
    try simp only [Act.put, List.setIfInBounds_toArray, List.set_cons_zero, List.set_cons_succ]
    refine take_run (i := 4) (v := ?_) rfl (by kernel_rfl) (by kernel_rfl) (by kernel_rfl) (fun _ _ _ h => h) (by kernel_rfl) ?_ (by assumption) ?_
    rotate_left
    · (intro w hSw; (try dsimp only at hSw); go_simp); all_goals with_reducible rfl
    try simp only [Act.put, List.setIfInBounds_toArray, List.set_cons_zero, List.set_cons_succ]
    refine take_run (i := 5) (v := ?_) rfl (by kernel_rfl) (by kernel_rfl) (by kernel_rfl) (fun _ _ _ h => h) (by kernel_rfl) ?_ (by assumption) ?_
    rotate_left
    · (intro w hSw; (try dsimp only at hSw); go_simp); all_goals with_reducible rfl
    try simp only [Act.put, List.setIfInBounds_toArray, List.set_cons_zero, List.set_cons_succ]
    refine take_run (i := 6) (v := ?_) rfl (by kernel_rfl) (by kernel_rfl) (by kernel_rfl) (fun _ _ _ h => h) (by kernel_rfl) ?_ (by assumption) ?_
    rotate_left
    · (intro w hSw; (try dsimp only at hSw); go_simp); all_goals with_reducible rfl
    try simp only [Act.put, List.setIfInBounds_toArray, List.set_cons_zero, List.set_cons_succ]
    refine take_run (i := 7) (v := ?_) rfl (by kernel_rfl) (by kernel_rfl) (by kernel_rfl) (fun _ _ _ h => h) (by kernel_rfl) ?_ (by assumption) ?_
    rotate_left
    · (intro w hSw; (try dsimp only at hSw); go_simp); all_goals with_reducible rfl
    try simp only [Act.put, List.setIfInBounds_toArray, List.set_cons_zero, List.set_cons_succ]
    refine take_run (i := 8) (v := ?_) rfl (by kernel_rfl) (by kernel_rfl) (by kernel_rfl) (fun _ _ _ h => h) (by kernel_rfl) ?_ (by assumption) ?_
    rotate_left
    · (intro w hSw; (try dsimp only at hSw); go_simp); all_goals with_reducible rfl
    try simp only [Act.put, List.setIfInBounds_toArray, List.set_cons_zero, List.set_cons_succ]
    refine take_run (i := 9) (v := ?_) rfl (by kernel_rfl) (by kernel_rfl) (by kernel_rfl) (fun _ _ _ h => h) (by kernel_rfl) ?_ (by assumption) ?_
    rotate_left
    · (intro w hSw; (try dsimp only at hSw); go_simp); all_goals with_reducible rfl
    try simp only [Act.put, List.setIfInBounds_toArray, List.set_cons_zero, List.set_cons_succ]
    refine take_run (i := 10) (v := ?_) rfl (by kernel_rfl) (by kernel_rfl) (by kernel_rfl) (fun _ _ _ h => h) (by kernel_rfl) ?_ (by assumption) ?_
    rotate_left
    · (intro w hSw; (try dsimp only at hSw); go_simp); all_goals with_reducible rfl
    try simp only [Act.put, List.setIfInBounds_toArray, List.set_cons_zero, List.set_cons_succ]
    refine take_run (i := 11) (v := ?_) rfl (by kernel_rfl) (by kernel_rfl) (by kernel_rfl) (fun _ _ _ h => h) (by kernel_rfl) ?_ (by assumption) ?_
    rotate_left
    · (intro w hSw; (try dsimp only at hSw); go_simp); all_goals with_reducible rfl
    try simp only [Act.put, List.setIfInBounds_toArray, List.set_cons_zero, List.set_cons_succ]
    refine take_run (i := 12) (v := ?_) rfl (by kernel_rfl) (by kernel_rfl) (by kernel_rfl) (fun _ _ _ h => h) (by kernel_rfl) ?_ (by assumption) ?_
    rotate_left
    · (intro w hSw; (try dsimp only at hSw); go_simp); all_goals with_reducible rfl
    try simp only [Act.put, List.setIfInBounds_toArray, List.set_cons_zero, List.set_cons_succ]
    refine wpAnyH_done (by kernel_rfl) ?_ _
    clear hHeld
    gi_wp2_with fail
    refine region_round (S := fun w' => w'.cell? ⟨bd, 0, none⟩ = some (.pointer (some ⟨p, 0, none⟩)) ∧ w'.cell? ⟨x.blk, 1, none⟩ = some (.int .i64 x.pf.synced)) (by rintro ⟨a, w, h⟩; exact h) (by kernel_rfl) mixed ⟨cbdd, cx1dd⟩ (fun hHeld => ?_)
    try simp only [Act.put, List.setIfInBounds_toArray, List.set_cons_zero, List.set_cons_succ]
    refine take_run (i := 0) (v := ?_) rfl (by kernel_rfl) (by kernel_rfl) (by kernel_rfl) (fun _ _ _ h => h) (by kernel_rfl) ?_ (by assumption) ?_
    rotate_left
    · (intro w hSw; (try dsimp only at hSw); go_simp); all_goals with_reducible rfl
    try simp only [Act.put, List.setIfInBounds_toArray, List.set_cons_zero, List.set_cons_succ]
    refine take_run (i := 1) (v := ?_) rfl (by kernel_rfl) (by kernel_rfl) (by kernel_rfl) (fun _ _ _ h => h) (by kernel_rfl) ?_ (by assumption) ?_
    rotate_left
    · (intro w hSw; (try dsimp only at hSw); go_simp); all_goals with_reducible rfl
    try simp only [Act.put, List.setIfInBounds_toArray, List.set_cons_zero, List.set_cons_succ]
    refine take_run (i := 2) (v := ?_) rfl (by kernel_rfl) (by kernel_rfl) (by kernel_rfl) (fun _ _ _ h => h) (by kernel_rfl) ?_ (by assumption) ?_
    rotate_left
    · (intro w hSw; (try dsimp only at hSw); go_simp); all_goals with_reducible rfl
    try simp only [Act.put, List.setIfInBounds_toArray, List.set_cons_zero, List.set_cons_succ]
    refine take_run (i := 3) (v := ?_) rfl (by kernel_rfl) (by kernel_rfl) (by kernel_rfl) (fun _ _ _ h => h) (by kernel_rfl) ?_ (by assumption) ?_
    rotate_left
    · (intro w hSw; (try dsimp only at hSw); go_simp); all_goals with_reducible rfl
    try simp only [Act.put, List.setIfInBounds_toArray, List.set_cons_zero, List.set_cons_succ]
    refine take_run (i := 4) (v := ?_) rfl (by kernel_rfl) (by kernel_rfl) (by kernel_rfl) (fun _ _ _ h => h) (by kernel_rfl) ?_ (by assumption) ?_
    rotate_left
    · (intro w hSw; (try dsimp only at hSw); go_simp); all_goals with_reducible rfl
    try simp only [Act.put, List.setIfInBounds_toArray, List.set_cons_zero, List.set_cons_succ]
    refine take_run (i := 5) (v := ?_) rfl (by kernel_rfl) (by kernel_rfl) (by kernel_rfl) (fun _ _ _ h => h) (by kernel_rfl) ?_ (by assumption) ?_
    rotate_left
    · (intro w hSw; (try dsimp only at hSw); go_simp); all_goals with_reducible rfl
    try simp only [Act.put, List.setIfInBounds_toArray, List.set_cons_zero, List.set_cons_succ]
    refine take_run (i := 6) (v := ?_) rfl (by kernel_rfl) (by kernel_rfl) (by kernel_rfl) (fun _ _ _ h => h) (by kernel_rfl) ?_ (by assumption) ?_
    rotate_left
    · (intro w hSw; (try dsimp only at hSw); go_simp); all_goals with_reducible rfl
    try simp only [Act.put, List.setIfInBounds_toArray, List.set_cons_zero, List.set_cons_succ]
    refine take_run (i := 7) (v := ?_) rfl (by kernel_rfl) (by kernel_rfl) (by kernel_rfl) (fun _ _ _ h => h) (by kernel_rfl) ?_ (by assumption) ?_
    rotate_left
    · (intro w hSw; (try dsimp only at hSw); go_simp); all_goals with_reducible rfl
    try simp only [Act.put, List.setIfInBounds_toArray, List.set_cons_zero, List.set_cons_succ]
    refine take_call (i := 8) rfl (by kernel_rfl) (by kernel_rfl) (fun K hK => ?_)
    go_simp; refine HSH.out.mono ?_; rintro r w3 ⟨⟨u, rfl⟩, v', q1, q2, q3⟩; obtain ⟨z1, z2, z3, z4, z5⟩ := HST.out w3 v' q1 q2 q3; have Z5 := Lib.hid z5; clear z5 q1 q2 q3
    go_wp2_with fail
    clear hHeld
    refine hK.out _ _ ⟨z3, z4⟩ (fun hHeld => ?_)
    clear hK K
    try simp only [Act.put, List.setIfInBounds_toArray, List.set_cons_zero, List.set_cons_succ]
    refine wpAnyH_done (by kernel_rfl) ?_ _
    clear hHeld
    gi_wp2
    exact Z5.out
  case done =>
    rintro D W hD ⟨H, h1, h2, h3, h4, h5, h6⟩ hK
    have hb := HBL.out
    have hs0 := HS.out
    rw [List.drop_length, List.append_nil] at h2 h4
    have hpo := powerOff_any h2
    have bdW : Boxed W bd 33 (.pointer (some ⟨p, 0, none⟩)) := (h6.block bd (by omega) (fun hf => hnd (hF bd hf))).trans HBD.out
    have cbd := bdW.cell
    have hDp : D ≠ p := by omega
    have hfin : ∀ w3, DiskAt w3 p mb H (room + ((totF (G.map Ent.pf) : Int) - totF (crL k0 (G.map Ent.pf)))) (-1) true → W.grownBy w3 (some p) → w3.heap[D]? = some (.deferred (some [])) ∧
        Moves w p F { files := crL k0 (G.map Ent.pf), room := room + ((totF (G.map Ent.pf) : Int) - totF (crL k0 (G.map Ent.pf))), fuse := -1, dead := true } (w3.putObj D (.deferred none)) := by
      intro w3 q1 q2
      have hK3 : w3.heap[D]? = some (.deferred (some [])) := (q2.block D (Array.getElem?_eq_some_iff.1 hK).1 (fun e => hDp (by simpa using e))).trans hK
      refine ⟨hK3, ?_⟩
      have q3 : DiskAt (w3.putObj D (.deferred none)) p mb H (room + ((totF (G.map Ent.pf) : Int) - totF (crL k0 (G.map Ent.pf)))) (-1) true := q1.kept (fun k hk => World.putObj_heap_other (fun e => by have := HD.out.lt (h4 k hk); omega))
      have t3 : Turned F w w3 := ((Turned.refl F w).trans h6 (fun k hk => .inl (hF k hk))).trans (Turned.of_grown (F := F) q2 (fun k hk => by cases hk; exact hF _ (.inl rfl))) (fun _ h => .inl h)
      have hm := moves_of hF1 q3 (fun k hk => .inl (hF k (h4 k hk))) (t3.trans (Turned.of_grown (F := fun k => k = D) (grownBy_putObj' w3 D (.deferred none)) (fun k hk => by cases hk; rfl)) (fun k hk => .inr (by have : k = D := hk; omega)))
      rw [h3] at hm
      exact hm
    have HPO := Lib.hid hpo
    have HFIN := Lib.hid hfin
    clear hpo hfin h1 h2 h3 h4 h5 h6 bdW hK
    gi_wp2_with (refine ⟨trivial, ?_⟩; gi_at_call 32; refine (callsIn_wide.2 HPO.out).mono ?_; rintro r w3 ⟨⟨u, rfl⟩, q1, q2⟩; obtain ⟨z1, z2⟩ := HFIN.out w3 q1 q2; have Z1 := Lib.hid z1; have Z2 := Lib.hid z2; clear z1 z2 q1 q2)
    refine ⟨by simp, .inl ⟨_, _, rfl, run_takeDeferred Z1.out, .int .i64 0, by simp [results, Tryz.f29, go_sem], rfl, Z2.out⟩⟩
  case stop =>
    rintro D c pre W _ _ h _
    exact h.elim

end Go.Proofs.YthpamdjgkmaleaaGreatDoor

namespace Go.Proofs.YthpamdjgkmaleaaGreatDoor
open Go.RowKit Go.Shelf
set_option linter.unusedVariables false

attribute [local go_sem] Oper.semAt_some

variable {w : World} {p : Nat} {d : PD} {F : Nat → Prop}

theorem crash_any (h : DiskOf w p d F) (keep : Int) (hk1 : keep ≤ 9223372036854775807) (hl : d.files.length ≤ 100000) (hln : ∀ f ∈ d.files, f.name.length ≤ 1000000) (hsy : ∀ f ∈ d.files, f.synced ≤ f.bytes.length) (hr0 : 0 ≤ d.room) (hr1 : d.room + totF d.files ≤ 4611686018427387904) :
    Calls Tryz.prog 14 #[.pointer (some ⟨p, 0, none⟩), .int .i64 keep] w fun r w' => r = .returned (.int .i64 (d.crash keep).2) ∧ Moves w p F (d.crash keep).1 w' := by
  obtain ⟨W0, hW0⟩ : ∃ W0, (w.alloc (.cells #[.pointer (some ⟨p, 0, none⟩)] 33)).alloc (.cells #[.int .i64 keep] 3) = W0 := ⟨_, rfl⟩
  have hd0 : DiskOf W0 p d F := by rw [← hW0]; exact (h.alloc _).alloc _
  have hb0 : Below w.heap.size w W0 := by rw [← hW0]; exact ((Below.refl _ w).alloc (Nat.le_refl _) _).alloc (by simp) _
  have b1 : Boxed W0 w.heap.size 33 (.pointer (some ⟨p, 0, none⟩)) := by rw [← hW0]; exact (Boxed.new w _ _).alloc _
  have b2 : Boxed W0 (w.heap.size + 1) 3 (.int .i64 keep) := by rw [← hW0]; have := Boxed.new (w.alloc (.cells #[.pointer (some ⟨p, 0, none⟩)] 33)) 3 (.int .i64 keep); simpa using this
  have hfin : Calls Tryz.prog 27 #[.pointer (some ⟨p, 0, none⟩), .func (.func 29) #[] #[.pointer (some ⟨w.heap.size + 1, 0, none⟩), .pointer (some ⟨w.heap.size, 0, none⟩)]] W0 fun r w' => ∃ e, r = .returned (.int .i64 e) ∧ (e = (d.crash keep).2 ∧ Moves W0 p F (d.crash keep).1 w') := by
    by_cases hdead : d.dead = true
    · refine (powered_dead hd0 hdead).mono ?_
      rintro r w' ⟨rfl, rfl⟩
      exact ⟨8, rfl, by simp [PD.crash, hdead], by simpa [PD.crash, hdead] using Moves.refl hd0⟩
    · have hdead : d.dead = false := by simpa using hdead
      refine powered_ok hd0 hdead (enters_of Tryz.func29 (by kernel_rfl) rfl) ?_
      obtain ⟨h1, mb, G, h2, h3, h4⟩ := id hd0
      rw [hdead] at h2
      have hset : d.crash keep = ({ files := crL (keepN keep) (G.map Ent.pf), room := d.room + ((totF (G.map Ent.pf) : Int) - totF (crL (keepN keep) (G.map Ent.pf))), fuse := -1, dead := true }, 0) := by
        unfold PD.crash
        rw [if_neg (by simp [hdead]), crash_keep d.files keep hsy (by omega), h3]
      rw [hset]
      have hlen : G.length = d.files.length := by rw [← h3]; simp
      have mem : ∀ e ∈ G, e.pf ∈ d.files := fun e he => by rw [← h3]; exact List.mem_map_of_mem he
      have fin : Calls Tryz.prog 29 #[.pointer (some ⟨w.heap.size + 1, 0, none⟩), .pointer (some ⟨w.heap.size, 0, none⟩)] W0 fun r w' => r = .returned (.int .i64 0) ∧
          Moves W0 p F { files := crL (keepN keep) (G.map Ent.pf), room := d.room + ((totF (G.map Ent.pf) : Int) - totF (crL (keepN keep) (G.map Ent.pf))), fuse := -1, dead := true } w' := by
        by_cases hk : keep < 0
        · exact crash_neg h2 h4 h1 b2 b1 (h.nil_free (Nat.le_refl _)) (by omega) (fun e he => hln _ (mem e he)) (fun e he => hsy _ (mem e he)) hr0 (by rw [h3]; exact hr1) hk1 hk
        · exact crash_pos h2 h4 h1 b2 b1 (h.nil_free (Nat.le_refl _)) (by omega) (fun e he => hln _ (mem e he)) (fun e he => hsy _ (mem e he)) hr0 (by rw [h3]; exact hr1) hk1 hk
      refine fin.mono ?_
      rintro r w' ⟨rfl, hm⟩
      exact ⟨_, rfl, rfl, hm⟩
  have k1 := b1.cell
  have HF := Lib.hid hfin
  have HB := Lib.hid hb0
  clear hfin hb0 b1 b2 hd0 h
  go_enter Tryz.func14, Tryz.ntmps14
  go_wp2_with (go_at_call 27; (try rw [hW0]); refine HF.out.mono ?_; rintro r w' ⟨e, rfl, rfl, hm⟩; have HM := Lib.hid (hm.before HB.out); clear hm)
  go_ret
  exact ⟨rfl, HM.out⟩

end Go.Proofs.YthpamdjgkmaleaaGreatDoor

namespace Go.Proofs.YthpamdjgkmaleaaGreatDoor
open Go.RowKit Go.Shelf
set_option linter.unusedVariables false

attribute [local go_sem] Oper.semAt_some

variable {w : World} {p mb : Nat} {G : List Ent} {room fuse : Int} {dead : Bool}

/-- A bit of a byte turned. -/
def bitX (k : Nat) (b : UInt8) : UInt8 := b ^^^ UInt8.ofNat (2 ^ k)
def PD.turn (d : PD) (bit : Int) : PD × Int :=
  if d.dead = false ∨ bit < 0 then (d, 2)
  else match turnF (bit.toNat / 8) (bitX (bit.toNat % 8)) d.files with
    | none => (d, 2)
    | some l => ({ d with files := l }, 0)
def turnP (k : Nat) (g : UInt8 → UInt8) (f : PF) : PF := { f with bytes := f.bytes.set k (g (f.bytes.getD k 0)) }

theorem turnF_none (g : UInt8 → UInt8) : ∀ (l : List PF) (a : Nat), totF l ≤ a → turnF a g l = none
  | [], a, _ => rfl
  | f :: r, a, h => by
    rw [totF_cons] at h
    rw [turnF, if_neg (by omega), turnF_none g r _ (by omega)]
    rfl
theorem turnF_mid (g : UInt8 → UInt8) (x : PF) (R : List PF) : ∀ (pre : List PF) (a : Nat), totF pre ≤ a → a - totF pre < x.bytes.length → turnF a g (pre ++ x :: R) = some (pre ++ turnP (a - totF pre) g x :: R)
  | [], a, _, h => by
    simp only [totF, List.map_nil, List.sum_nil, Nat.sub_zero] at h ⊢
    rw [List.nil_append, turnF, if_pos h]
    rfl
  | f :: r, a, h, h2 => by
    rw [totF_cons] at h h2 ⊢
    rw [List.cons_append, turnF, if_neg (by omega), turnF_mid g x R r (a - f.bytes.length) (by omega) (by rw [Nat.sub_sub]; exact h2)]
    rw [Nat.sub_sub]
    rfl

theorem turn_bad1 (h : DiskAt w p mb G room fuse false) (bit : Int) :
    Calls Tryz.prog 17 #[.pointer (some ⟨p, 0, none⟩), .int .i64 bit] w fun r w' => r = .returned (.int .i64 2) ∧ Below w.heap.size w w' := by
  have c3 := h.c3
  have hp : p < w.heap.size := h.lt (.inl rfl)
  have j3 : ∀ o o', ((w.alloc o).alloc o').cell? ⟨p, 3, none⟩ = some (.bool false) := fun o o' => by
    have hd : DiskAt ((w.alloc o).alloc o') p mb G room fuse false := h.kept (fun k hk => by rw [Below.heap_alloc _ _ _ (by simp; have := h.lt hk; omega), Below.heap_alloc _ _ _ (h.lt hk)])
    exact hd.c3
  clear h
  refine (callsIn_wide (n := 9)).1 ?_
  refine callsIn_of_wp_marks Tryz.func17 rfl trivial ?_ rfl
  simp only [Tryz.ntmps17, List.size_toArray, List.length_cons, List.length_nil, Nat.reduceAdd, Nat.reduceSub, Array.replicate_succ, Array.replicate_zero, List.push_toArray, List.append_toArray, List.nil_append, List.cons_append]
  gi_wp2
  exact ⟨.int .i64 2, by simp [results, Tryz.f17, go_sem], rfl, ((Below.refl _ w).alloc (Nat.le_refl _) _).alloc (by simp) _⟩

theorem turn_bad2 (h : DiskAt w p mb G room fuse true) (bit : Int) (hneg : bit < 0) :
    Calls Tryz.prog 17 #[.pointer (some ⟨p, 0, none⟩), .int .i64 bit] w fun r w' => r = .returned (.int .i64 2) ∧ Below w.heap.size w w' := by
  have j3 : ∀ o o', ((w.alloc o).alloc o').cell? ⟨p, 3, none⟩ = some (.bool true) := fun o o' => by
    have hd : DiskAt ((w.alloc o).alloc o') p mb G room fuse true := h.kept (fun k hk => by rw [Below.heap_alloc _ _ _ (by simp; have := h.lt hk; omega), Below.heap_alloc _ _ _ (h.lt hk)])
    exact hd.c3
  have hdec : decide (bit < 0) = true := by simpa using hneg
  clear h
  refine (callsIn_wide (n := 9)).1 ?_
  refine callsIn_of_wp_marks Tryz.func17 rfl trivial ?_ rfl
  simp only [Tryz.ntmps17, List.size_toArray, List.length_cons, List.length_nil, Nat.reduceAdd, Nat.reduceSub, Array.replicate_succ, Array.replicate_zero, List.push_toArray, List.append_toArray, List.nil_append, List.cons_append]
  gi_wp2
  exact ⟨.int .i64 2, by simp [results, Tryz.f17, go_sem], rfl, ((Below.refl _ w).alloc (Nat.le_refl _) _).alloc (by simp) _⟩

/-! ### the byte's turn -/
theorem xor_byte (k : Nat) (hk : k < 8) (b : UInt8) : bits .xor .u8 (b.toNat : Int) (IntKind.u8.wrap ((2 : Int) ^ k)) = ((bitX k b).toNat : Int) := by
  have h : IntKind.u8.wrap ((2 : Int) ^ k) = ((2 ^ k : Nat) : Int) := by
    match k, hk with
    | 0, _ | 1, _ | 2, _ | 3, _ | 4, _ | 5, _ | 6, _ | 7, _ => decide
  have h2 : 2 ^ k < 256 := by
    match k, hk with
    | 0, _ | 1, _ | 2, _ | 3, _ | 4, _ | 5, _ | 6, _ | 7, _ => decide
  rw [h, u8_xor_nat _ _ b.toNat_lt h2]
  unfold bitX
  rw [UInt8.toNat_xor, UInt8.toNat_ofNat', Nat.mod_eq_of_lt h2]

theorem owns_set {w : World} {base g n c k : Nat} {l : List UInt8} (h : w.ownsRow base 5 1 (.slice (some ⟨g, 0, none⟩) n c) n (Lib.byteCells l)) (hk : k < n) (x : UInt8) :
    (w.setCell ⟨g, k, none⟩ (.int .u8 x.toNat)).ownsRow base 5 1 (.slice (some ⟨g, 0, none⟩) n c) n (Lib.byteCells (l.set k x)) := by
  refine ⟨by have := h.1; simpa [Lib.byteCells_length] using this, .inr ?_⟩
  rcases h.2 with ⟨hv, _⟩ | ⟨g', cap, cur, hv, hb, hg, h1, h2, h3, h4⟩
  · cases hv
  · cases hv
    refine ⟨g, c, cur.setIfInBounds k (.int .u8 x.toNat), rfl, hb, heap_setCell_same w g k _ _ _ hg, h1, h2, by simpa using h3, ?_⟩
    simp only [Nat.mul_one] at h4 ⊢
    rw [Array.toList_setIfInBounds, List.take_set, h4]
    simp [Lib.byteCells, List.map_set]

/-- A file with a byte turned. -/
def Ent.turned (e : Ent) (k : Nat) (g : UInt8 → UInt8) : Ent := { pf := turnP k g e.pf, blk := e.blk, v := e.v }

theorem DiskAt.turn_at (h : DiskAt w p mb G room fuse dead) {e : Ent} (he : e ∈ G) {g0 c : Nat} (hv : e.v = .slice (some ⟨g0, 0, none⟩) e.pf.bytes.length c) {k : Nat} (hk : k < e.pf.bytes.length) (g : UInt8 → UInt8) :
    DiskAt (w.setCell ⟨g0, k, none⟩ (.int .u8 (g (e.pf.bytes.getD k 0)).toNat)) p mb (updE (e.turned k g) G) room fuse dead := by
  have hat := h.ents e he
  have hown : e.v.ownBlock = some g0 := by rw [hv]; rfl
  have hne := h.ne_row he hown
  refine h.upd he (e.turned k g) rfl rfl (fun i _ _ hr => heap_setCell_other w _ i _ (fun e2 => hr (by rw [hown]; congr 1; exact e2.symm))) ⟨?_, ?_⟩ (fun i hi => .inl hi)
  · exact (heap_setCell_other w _ e.blk _ (hne.2.2 e he)).trans hat.1
  · have hrow := hat.2
    rw [hv] at hrow
    show World.ownsRow _ 0 5 1 e.v (e.pf.bytes.set k (g (e.pf.bytes.getD k 0))).length (Lib.byteCells (e.pf.bytes.set k (g (e.pf.bytes.getD k 0))))
    rw [List.length_set, hv]
    exact owns_set hrow hk _

/-- Between two rounds: nothing is turned yet. -/
def TuI (w : World) (bl : Nat) (p : Nat) (a bit : Nat) (pre : List Ent) (W : World) : Prop :=
  totF (pre.map Ent.pf) ≤ a ∧ Boxed W bl 3 (.int .i64 bit) ∧ Boxed W (bl + 1) 24 (.int .i64 0) ∧ Boxed W (bl + 2) 3 (.int .i64 ((a : Int) - totF (pre.map Ent.pf))) ∧ Boxed W (bl + 3) 33 (.pointer (some ⟨p, 0, none⟩)) ∧ Below w.heap.size w W
/-- The byte was met. -/
def TuX (w : World) (bl p mb : Nat) (G : List Ent) (room fuse : Int) (a bit : Nat) (c : Code) (pre : List Ent) (W : World) : Prop :=
  c = .ret ∧ Boxed W (bl + 1) 24 (.int .i64 0) ∧ ∃ G', DiskAt W p mb G' room fuse true ∧ turnF a (bitX (bit % 8)) (G.map Ent.pf) = some (G'.map Ent.pf) ∧ (∀ k, Foot p mb G' k → Foot p mb G k) ∧ Turned (Foot p mb G) w W

theorem tuI_own (bl a bit B : Nat) (hB : w.heap.size ≤ B) : OwnFrom B (TuI w bl p a bit) := by
  rintro pre X Y row ⟨h0, h1, h2, h3, h4, h5⟩ hg hr
  have hr' : ∀ r, row = some r → ∃ o : Obj, X.heap[r]? = some o ∧ o.isCells = false := fun r e => (hr r e).2
  exact ⟨h0, boxed_own _ _ (fun (_ : Unit) => _) () X Y row h1 hg hr', boxed_own _ _ (fun (_ : Unit) => _) () X Y row h2 hg hr', boxed_own _ _ (fun (_ : Unit) => _) () X Y row h3 hg hr', boxed_own _ _ (fun (_ : Unit) => _) () X Y row h4 hg hr', ownFrom_below (Nat.le_refl _) hB () X Y row h5 hg hr⟩
theorem tuX_own (bl a bit B : Nat) (h : DiskAt w p mb G room fuse true) (hB : w.heap.size ≤ B) (c : Code) : OwnFrom B (TuX w bl p mb G room fuse a bit c) := by
  rintro pre X Y row ⟨h0, h1, G', h2, h3, h4, h6⟩ hg hr
  have hr' : ∀ r, row = some r → ∃ o : Obj, X.heap[r]? = some o ∧ o.isCells = false := fun r e => (hr r e).2
  have keep : ∀ k, Foot p mb G k → Y.heap[k]? = X.heap[k]? := fun k hk => hg.block k (by have := h.lt hk; have := h6.size; omega) (fun e => by have := (hr k e.symm).1; have := h.lt hk; omega)
  refine ⟨h0, boxed_own _ _ (fun (_ : Unit) => _) () X Y row h1 hg hr', G', h2.kept (fun k hk => keep k (h4 k hk)), h3, h4, ?_⟩
  exact ⟨hg.os.trans h6.os, hg.tape.trans h6.tape, hg.output.trans h6.output, Nat.le_trans h6.size hg.size, fun k hk hn => (hg.block k (by have := h6.size; omega) (fun e => by have := (hr k e.symm).1; omega)).trans (h6.block k hk hn)⟩

set_option maxRecDepth 100000 in
set_option maxHeartbeats 4000000 in
theorem turn_at {F : Nat → Prop} (h : DiskAt w p mb G room fuse true) (hF : ∀ k, Foot p mb G k → F k) (hF1 : ∀ k, F k → k < w.heap.size) (bit : Nat) (hl : G.length ≤ 100000) (hln : ∀ e ∈ G, e.pf.name.length ≤ 1000000) (hb1 : bit ≤ 9223372036854775807) (htl : totF (G.map Ent.pf) ≤ 4611686018427387904) :
    Calls Tryz.prog 17 #[.pointer (some ⟨p, 0, none⟩), .int .i64 bit] w fun r w' => r = .returned (.int .i64 (PD.turn ⟨G.map Ent.pf, room, fuse, true⟩ bit).2) ∧ Moves w p F (PD.turn ⟨G.map Ent.pf, room, fuse, true⟩ bit).1 w' := by
  have hturn : PD.turn ⟨G.map Ent.pf, room, fuse, true⟩ bit = match turnF (bit / 8) (bitX (bit % 8)) (G.map Ent.pf) with
      | none => (⟨G.map Ent.pf, room, fuse, true⟩, 2)
      | some l => (⟨l, room, fuse, true⟩, 0) := by
    unfold PD.turn
    rw [if_neg (by simp), Int.toNat_natCast]
  rw [hturn]
  obtain ⟨a, ha⟩ : ∃ a, bit / 8 = a := ⟨_, rfl⟩
  rw [ha]
  obtain ⟨k, hkb⟩ : ∃ k, bit % 8 = k := ⟨_, rfl⟩
  have hk8 : k < 8 := by omega
  have hrem : (bit : Int).tmod 8 = (k : Int) := by rw [Int.tmod_eq_emod_of_nonneg (by omega)]; omega
  rw [hkb]
  obtain ⟨res, hres⟩ : ∃ res, (match turnF a (bitX k) (G.map Ent.pf) with
      | none => ((⟨G.map Ent.pf, room, fuse, true⟩ : PD), (2 : Int))
      | some l => (⟨l, room, fuse, true⟩, 0)) = res := ⟨_, rfl⟩
  rw [hres]
  have j3 : ∀ o o', ((w.alloc o).alloc o').cell? ⟨p, 3, none⟩ = some (.bool true) := fun o o' => by
    have hd : DiskAt ((w.alloc o).alloc o') p mb G room fuse true := h.kept (fun k hk => by rw [Below.heap_alloc _ _ _ (by simp; have := h.lt hk; omega), Below.heap_alloc _ _ _ (h.lt hk)])
    exact hd.c3
  refine (callsIn_wide (n := 9)).1 ?_
  refine callsIn_of_wp_marks Tryz.func17 rfl trivial ?_ rfl
  simp only [Tryz.ntmps17, List.size_toArray, List.length_cons, List.length_nil, Nat.reduceAdd, Nat.reduceSub, Array.replicate_succ, Array.replicate_zero, List.push_toArray, List.append_toArray, List.nil_append, List.cons_append]
  gi_wp2_with (refine ⟨trivial, ?_⟩; gi_at_call 30; refine (callsIn_wide.2 (inOrder_any _ _)).mono ?_; rintro r w2 ⟨rfl, rfl⟩)
  obtain ⟨bl, hbl⟩ : ∃ bl, w.heap.size = bl := ⟨_, rfl⟩
  have hXV : (bit : Int) / 8 = (a : Int) := by omega
  obtain ⟨W0, hW0⟩ : ∃ W0, ((((w.alloc (.cells #[.int .i64 bit] 3)).alloc (.cells #[.int .i64 0] 24)).alloc (.cells #[.int .i64 ((bit : Int) / 8)] 3)).alloc (.cells #[.pointer (some ⟨p, 0, none⟩)] 33)) = W0 := ⟨_, rfl⟩
  have sW0 : W0.heap.size = bl + 4 := by rw [← hW0, ← hbl]; simp
  have bW0 : Below w.heap.size w W0 := by rw [← hW0]; exact ((((Below.refl _ w).alloc (Nat.le_refl _) _).alloc (by simp) _).alloc (by simp; omega) _).alloc (by simp; omega) _
  have i0 : TuI w bl p a bit [] W0 := by
    refine ⟨by simp [totF], ?_, ?_, ?_, ?_, bW0⟩
    · rw [← hW0, ← hbl]; exact (((Boxed.new w 3 _).alloc _).alloc _).alloc _
    · rw [← hW0, ← hbl]; have := ((Boxed.new (w.alloc (.cells #[.int .i64 bit] 3)) 24 (.int .i64 0)).alloc (.cells #[.int .i64 ((bit : Int) / 8)] 3)).alloc (.cells #[.pointer (some ⟨p, 0, none⟩)] 33); simpa using this
    · rw [← hW0, ← hbl]; have := (Boxed.new ((w.alloc (.cells #[.int .i64 bit] 3)).alloc (.cells #[.int .i64 0] 24)) 3 (.int .i64 ((bit : Int) / 8))).alloc (.cells #[.pointer (some ⟨p, 0, none⟩)] 33); simpa [totF, hXV] using this
    · rw [← hW0, ← hbl]; have := Boxed.new (((w.alloc (.cells #[.int .i64 bit] 3)).alloc (.cells #[.int .i64 0] 24)).alloc (.cells #[.int .i64 ((bit : Int) / 8)] 3)) 33 (.pointer (some ⟨p, 0, none⟩)); simpa using this
  have hdk : DiskAt W0 p mb G room fuse true := h.kept (fun k hk => bW0.block k (h.lt hk))
  have htell := inOrder_tells (p := p) (mb := mb) (G := G) (bl + 3) W0 i0.2.2.2.2.1 hdk.c0 (hdk.lt (.inl rfl)) hdk.map hdk.names (by omega) hln
  have hp : p < bl := by rw [← hbl]; exact h.lt (.inl rfl)
  have hmb : mb < bl := by rw [← hbl]; exact h.lt (.inr (.inl rfl))
  have HS := Lib.hid sW0
  have HD := Lib.hid h
  have HBL := Lib.hid hbl
  have HA := Lib.hid ha
  have HKB := Lib.hid hkb
  have HRES := Lib.hid hres
  have HTU := Lib.hid hturn
  rw [hW0, hbl]
  clear hXV hW0 bW0 hdk h sW0 j3 hbl ha hkb hres hturn
  refine range_plain (gf := 49) (lb := #[.pointer (some ⟨bl + 1 + 1 + 1, 0, none⟩)]) rfl (enters_of Tryz.func49 (by kernel_rfl) rfl)
    htell (Below.refl _ _) (fun _ => rfl)
    (fun V W => ⟨rfl, rfl, rfl, fun _ _ _ => rfl⟩)
    (fun V {X Y Z} h k => h.trans k)
    (fun V W l o' h1 h2 h3 => KpD.put (by have := HS.out; omega) (by have := HS.out; omega) (by have := HS.out; omega) h3)
    (TuI w bl p a bit) (TuX w bl p mb G room fuse a bit) (tuI_own bl a bit _ (by have := HS.out; have := HBL.out; omega)) (fun c => tuX_own bl a bit _ HD.out (by have := HS.out; have := HBL.out; omega) c) i0
    (fun x t => t.setIfInBounds 7 (.pointer (some ⟨x.blk, 0, none⟩)))
    ?assign ?body ?done ?stop
  case assign =>
    intro m lp x W K hK
    simp [roundAct, encD, go_sem] at hK
    unfold encD
    gi_wp2
    exact hK
  case body =>
    rintro m lp V pre x W sV ⟨h0, h1, h2, h3, h4, h5⟩ hx
    obtain ⟨R, hG⟩ := hx
    have hmem : x ∈ G := by rw [← hG]; simp
    have hb := HBL.out
    have h6 : DiskAt W p mb G room fuse true := HD.out.kept (fun k hk => h5.block k (HD.out.lt hk))
    have hat := h6.ents x hmem
    obtain ⟨q, hq⟩ : ∃ q, a - totF (pre.map Ent.pf) = q := ⟨_, rfl⟩
    have hqi : (a : Int) - totF (pre.map Ent.pf) = (q : Int) := by omega
    rw [hqi] at h3
    obtain ⟨va, vc, hv, hva, hvn, _, _⟩ := owns_slice hat
    have cx0 := hat.c0
    rw [hv] at cx0
    have cat := h3.cell
    have mixed : Tryz.prog.follows .mixedOrders = true := by kernel_rfl
    have catd : W.drew.cell? ⟨bl + 1 + 1, 0, none⟩ = some (.int .i64 q) := cat
    have cx0d : W.drew.cell? ⟨x.blk, 0, none⟩ = some (.slice va x.pf.bytes.length vc) := cx0
    by_cases hlt : q < x.pf.bytes.length
    · obtain ⟨b, hbv⟩ : ∃ b, x.pf.bytes.getD q 0 = b := ⟨_, rfl⟩
      obtain ⟨g, rfl⟩ : ∃ g, va = some ⟨g, 0, none⟩ := by
        rcases hva with e | e
        · have := (hvn e).1; omega
        · exact e
      have hrow := hat.2
      rw [hv] at hrow
      have hbyte : W.cell? ⟨g, q, none⟩ = some (.int .u8 (x.pf.bytes.getD q 0).toNat) := by
        have := hrow.cells (g := g) rfl q (.int .u8 (x.pf.bytes.getD q 0).toNat) (by simp [Lib.byteCells, hlt])
        rw [Addr.add_lit, Nat.zero_add] at this
        exact this
      rw [hbv] at hbyte
      have hfz : W.frozen? ⟨g, q, none⟩ = false := by
        obtain ⟨cur, hc⟩ := hat.row (k := g) (by rw [hv]; rfl)
        exact frozen_of_row W g q cur _ hc
      have d1 : decide ((q : Int) < (x.pf.bytes.length : Int)) = true := by simpa using hlt
      have d2 : decide (q < x.pf.bytes.length) = true := by simpa using hlt
      have cbit := h1.cell
      have cbitd : W.drew.drew.cell? ⟨bl, 0, none⟩ = some (.int .i64 bit) := cbit
      have catdd : W.drew.drew.cell? ⟨bl + 1 + 1, 0, none⟩ = some (.int .i64 q) := cat
      have cx0dd : W.drew.drew.cell? ⟨x.blk, 0, none⟩ = some (.slice (some ⟨g, 0, none⟩) x.pf.bytes.length vc) := cx0
      have cbydd : W.drew.drew.cell? ⟨g, q, none⟩ = some (.int .u8 b.toNat) := hbyte
      have cfzdd : W.drew.drew.frozen? ⟨g, q, none⟩ = false := hfz
      have hxor := xor_byte k hk8 b
      have hGne : ∀ i t v, Boxed W i t v → t ≠ 5 → i ≠ g := by
        intro i t v hb ht e
        obtain ⟨cur, hc⟩ := hat.row (k := g) (by rw [hv]; rfl)
        rw [← e, show W.heap[i]? = _ from hb] at hc
        simp at hc
        exact ht hc.2
      have hxg : x.blk ≠ g := fun e => by
        obtain ⟨cur, hc⟩ := hat.row (k := g) (by rw [hv]; rfl)
        have e1 := hat.1
        rw [e, hc] at e1
        simp at e1
      have n1 := hGne _ _ _ h1 (by decide)
      have n2 := hGne _ _ _ h2 (by decide)
      have n3 := hGne _ _ _ h3 (by decide)
      have n4 := hGne _ _ _ h4 (by decide)
      have hx1 : (W.setCell ⟨g, q, none⟩ (.int .u8 (bitX k b).toNat)).drew.drew.cell? ⟨bl + 1 + 1, 0, none⟩ = some (.int .i64 q) := ((show Boxed (W.setCell ⟨g, q, none⟩ (.int .u8 (bitX k b).toNat)) (bl + 2) _ _ from (heap_setCell_other W _ (bl + 2) _ n3).trans h3)).cell
      have hx2 : (W.setCell ⟨g, q, none⟩ (.int .u8 (bitX k b).toNat)).drew.drew.cell? ⟨x.blk, 0, none⟩ = some (.slice (some ⟨g, 0, none⟩) x.pf.bytes.length vc) := by
        have e1 : (W.setCell ⟨g, q, none⟩ (.int .u8 (bitX k b).toNat)).cell? ⟨x.blk, 0, none⟩ = W.cell? ⟨x.blk, 0, none⟩ := World.cell?_of_block (a := ⟨x.blk, 0, none⟩) (heap_setCell_other W _ x.blk _ hxg)
        exact e1.trans cx0
      have hx3 : (W.setCell ⟨g, q, none⟩ (.int .u8 (bitX k b).toNat)).drew.drew.cell? ⟨bl, 0, none⟩ = some (.int .i64 bit) := ((show Boxed (W.setCell ⟨g, q, none⟩ (.int .u8 (bitX k b).toNat)) bl _ _ from (heap_setCell_other W _ bl _ n1).trans h1)).cell
      have hx4 : Boxed (W.setCell ⟨g, q, none⟩ (.int .u8 (bitX k b).toNat)) (bl + 1) 24 (.int .i64 0) := (heap_setCell_other W _ (bl + 1) _ n2).trans h2
      have hr4 := hx4.cell
      have fr4 := hx4.frozen
      have hfin : KeepsFrom W0.heap.size W ((W.setCell ⟨g, q, none⟩ (.int .u8 (bitX k b).toNat)).setCell ⟨bl + 1, 0, none⟩ (.int .i64 0)).drew.drew ∧ KpD (bl + 3) p mb V W ((W.setCell ⟨g, q, none⟩ (.int .u8 (bitX k b).toNat)).setCell ⟨bl + 1, 0, none⟩ (.int .i64 0)).drew.drew ∧
          TuX w bl p mb G room fuse a bit .ret (pre ++ [x]) ((W.setCell ⟨g, q, none⟩ (.int .u8 (bitX k b).toNat)).setCell ⟨bl + 1, 0, none⟩ (.int .i64 0)).drew.drew := by
        obtain ⟨W2, hW2⟩ : ∃ W2, ((W.setCell ⟨g, q, none⟩ (.int .u8 (bitX k b).toNat)).setCell ⟨bl + 1, 0, none⟩ (.int .i64 0)).drew.drew = W2 := ⟨_, rfl⟩
        have keep : ∀ i, i ≠ g → i ≠ bl + 1 → W2.heap[i]? = W.heap[i]? := fun i e1 e2 => by
          rw [← hW2]
          exact (heap_setCell_other (W.setCell ⟨g, q, none⟩ (.int .u8 (bitX k b).toNat)) ⟨bl + 1, 0, none⟩ i (.int .i64 0) e2).trans (heap_setCell_other W _ i _ e1)
        have hsz : W2.heap.size = W.heap.size := by rw [← hW2]; simp [World.setCell, World.drew]
        have hgrow : ∃ cur, W.heap[g]? = some (.cells cur 5 (0, 0)) := hat.row (k := g) (by rw [hv]; rfl)
        obtain ⟨cur, hgc⟩ := hgrow
        have hcells : ∀ i o, W.heap[i]? = some o → o.isCells = false → i ≠ g ∧ i ≠ bl + 1 := by
          intro i o hi hc
          refine ⟨fun e => ?_, fun e => ?_⟩
          · subst e; rw [hgc] at hi; cases hi; cases hc
          · subst e; rw [show W.heap[bl + 1]? = _ from h2] at hi; cases hi; cases hc
        have hp2 : p ≠ g := (h6.ne_row hmem (k := g) (by rw [hv]; rfl)).1
        have htd := h6.turn_at hmem hv hlt (bitX k)
        rw [hbv] at htd
        have hmid : updE (x.turned q (bitX k)) G = pre ++ x.turned q (bitX k) :: R := by
          have e1 : G = pre ++ x :: R := by rw [← hG]; simp
          have hnd := sortedN_nodup h6.names
          rw [e1] at hnd
          rw [e1]
          exact upd_mid hnd rfl
        rw [hW2]
        refine ⟨⟨by omega, fun i o _ hi hc => (keep i (hcells i o hi hc).1 (hcells i o hi hc).2).trans hi⟩, ⟨keep _ n4 (by omega), World.cell?_of_block (a := ⟨p, 0, none⟩) (keep p hp2 (by omega)), ?_, ?_⟩, rfl, ?_, updE (x.turned q (bitX k)) G, ?_, ?_, ?_, ?_⟩
        · obtain ⟨es, clock, hm⟩ := h6.map.isMap
          exact keep mb (hcells mb _ hm rfl).1 (hcells mb _ hm rfl).2
        · intro i xs hi
          refine keep i (fun e => ?_) (fun e => ?_)
          · subst e; rw [hgc] at hi; simp at hi
          · subst e; rw [show W.heap[bl + 1]? = _ from h2] at hi; simp at hi
        · rw [← hW2]
          exact hx4.set (.int .i64 0)
        · rw [← hW2]
          refine htd.kept (fun i hi => heap_setCell_other (W.setCell ⟨g, q, none⟩ (.int .u8 (bitX k b).toNat)) ⟨bl + 1, 0, none⟩ i (.int .i64 0) (fun e => ?_))
          have e2 : i = bl + 1 := e
          rcases foot_upd (e' := x.turned q (bitX k)) hmem rfl hi with hi | hi
          · have := HD.out.lt hi; omega
          · have e3 : x.v.ownBlock = some i := hi
            have := HD.out.lt (.inr (.inr ⟨x, hmem, .inr e3⟩)); omega
        · rw [HKB.out, hmid]
          have e1 : G.map Ent.pf = pre.map Ent.pf ++ x.pf :: R.map Ent.pf := by rw [← hG]; simp
          rw [e1, turnF_mid (bitX k) x.pf (R.map Ent.pf) (pre.map Ent.pf) a h0 (by rw [hq]; exact hlt), hq]
          simp [Ent.turned]
        · intro i hi
          rcases foot_upd (e' := x.turned q (bitX k)) hmem rfl hi with hi | hi
          · exact hi
          · exact .inr (.inr ⟨x, hmem, .inr hi⟩)
        · have hos : W2.os = W.os ∧ W2.tape = W.tape ∧ W2.output = W.output := by rw [← hW2]; exact ⟨rfl, rfl, rfl⟩
          refine ⟨hos.1.trans h5.os, hos.2.1.trans h5.tape, hos.2.2.trans h5.output, by have := h5.size; omega, fun i hi hn => ?_⟩
          exact (keep i (fun e => hn (.inr (.inr ⟨x, hmem, .inr (by rw [hv, e]; rfl)⟩))) (by omega)).trans (h5.block i hi)
      have HFIN := Lib.hid hfin
      clear hfin hat h6 h1 h2 h3 h4 h5 hx4 hGne hrow hbyte hfz hG
      unfold roundAct encD
      gi_wp2_with fail
      refine region_round (S := fun w' => w'.cell? ⟨bl + 1 + 1, 0, none⟩ = some (.int .i64 q) ∧ w'.cell? ⟨x.blk, 0, none⟩ = some (.slice (some ⟨g, 0, none⟩) x.pf.bytes.length vc)) (by rintro ⟨a, w, h⟩; exact h) (by kernel_rfl) mixed ⟨catd, cx0d⟩ (fun hHeld => ?_)
      try simp only [Act.put, List.setIfInBounds_toArray, List.set_cons_zero, List.set_cons_succ]
      refine take_run (i := 0) (v := ?_) rfl (by kernel_rfl) (by kernel_rfl) (by kernel_rfl) (fun _ _ _ h => h) (by kernel_rfl) ?_ (by assumption) ?_
      rotate_left
      · (intro w hSw; (try dsimp only at hSw); go_simp); all_goals with_reducible rfl
      try simp only [Act.put, List.setIfInBounds_toArray, List.set_cons_zero, List.set_cons_succ]
      refine take_run (i := 1) (v := ?_) rfl (by kernel_rfl) (by kernel_rfl) (by kernel_rfl) (fun _ _ _ h => h) (by kernel_rfl) ?_ (by assumption) ?_
      rotate_left
      · (intro w hSw; (try dsimp only at hSw); go_simp); all_goals with_reducible rfl
      try simp only [Act.put, List.setIfInBounds_toArray, List.set_cons_zero, List.set_cons_succ]
      refine take_run (i := 2) (v := ?_) rfl (by kernel_rfl) (by kernel_rfl) (by kernel_rfl) (fun _ _ _ h => h) (by kernel_rfl) ?_ (by assumption) ?_
      rotate_left
      · (intro w hSw; (try dsimp only at hSw); go_simp); all_goals with_reducible rfl
      try simp only [Act.put, List.setIfInBounds_toArray, List.set_cons_zero, List.set_cons_succ]
      refine take_run (i := 3) (v := ?_) rfl (by kernel_rfl) (by kernel_rfl) (by kernel_rfl) (fun _ _ _ h => h) (by kernel_rfl) ?_ (by assumption) ?_
      rotate_left
      · (intro w hSw; (try dsimp only at hSw); go_simp); all_goals with_reducible rfl
      try simp only [Act.put, List.setIfInBounds_toArray, List.set_cons_zero, List.set_cons_succ]
      refine take_run (i := 4) (v := ?_) rfl (by kernel_rfl) (by kernel_rfl) (by kernel_rfl) (fun _ _ _ h => h) (by kernel_rfl) ?_ (by assumption) ?_
      rotate_left
      · (intro w hSw; (try dsimp only at hSw); go_simp); all_goals with_reducible rfl
      try simp only [Act.put, List.setIfInBounds_toArray, List.set_cons_zero, List.set_cons_succ]
      refine take_run (i := 5) (v := ?_) rfl (by kernel_rfl) (by kernel_rfl) (by kernel_rfl) (fun _ _ _ h => h) (by kernel_rfl) ?_ (by assumption) ?_
      rotate_left
      · (intro w hSw; (try dsimp only at hSw); go_simp); all_goals with_reducible rfl
      try simp only [Act.put, List.setIfInBounds_toArray, List.set_cons_zero, List.set_cons_succ]
      refine take_run (i := 6) (v := ?_) rfl (by kernel_rfl) (by kernel_rfl) (by kernel_rfl) (fun _ _ _ h => h) (by kernel_rfl) ?_ (by assumption) ?_
      rotate_left
      · (intro w hSw; (try dsimp only at hSw); go_simp); all_goals with_reducible rfl
      try simp only [Act.put, List.setIfInBounds_toArray, List.set_cons_zero, List.set_cons_succ]
      refine wpAnyH_done (by kernel_rfl) ?_ _
      clear hHeld
      gi_wp2_with fail
      refine region_round (S := fun w' => w'.cell? ⟨bl + 1 + 1, 0, none⟩ = some (.int .i64 q) ∧ w'.cell? ⟨x.blk, 0, none⟩ = some (.slice (some ⟨g, 0, none⟩) x.pf.bytes.length vc) ∧ w'.cell? ⟨bl, 0, none⟩ = some (.int .i64 bit)) (by rintro ⟨a, w, h⟩; exact h) (by kernel_rfl) mixed ⟨catdd, cx0dd, cbitd⟩ (fun hHeld => ?_)
      try simp only [Act.put, List.setIfInBounds_toArray, List.set_cons_zero, List.set_cons_succ]
      refine take_run (i := 0) (v := ?_) rfl (by kernel_rfl) (by kernel_rfl) (by kernel_rfl) (fun _ _ _ h => h) (by kernel_rfl) ?_ (by assumption) ?_
      rotate_left
      · (intro w hSw; (try dsimp only at hSw); go_simp); all_goals with_reducible rfl
      try simp only [Act.put, List.setIfInBounds_toArray, List.set_cons_zero, List.set_cons_succ]
      refine take_run (i := 1) (v := ?_) rfl (by kernel_rfl) (by kernel_rfl) (by kernel_rfl) (fun _ _ _ h => h) (by kernel_rfl) ?_ (by assumption) ?_
      rotate_left
      · (intro w hSw; (try dsimp only at hSw); go_simp); all_goals with_reducible rfl
      try simp only [Act.put, List.setIfInBounds_toArray, List.set_cons_zero, List.set_cons_succ]
      refine take_run (i := 2) (v := ?_) rfl (by kernel_rfl) (by kernel_rfl) (by kernel_rfl) (fun _ _ _ h => h) (by kernel_rfl) ?_ (by assumption) ?_
      rotate_left
      · (intro w hSw; (try dsimp only at hSw); go_simp); all_goals with_reducible rfl
      try simp only [Act.put, List.setIfInBounds_toArray, List.set_cons_zero, List.set_cons_succ]
      refine take_run (i := 3) (v := ?_) rfl (by kernel_rfl) (by kernel_rfl) (by kernel_rfl) (fun _ _ _ h => h) (by kernel_rfl) ?_ (by assumption) ?_
      rotate_left
      · (intro w hSw; (try dsimp only at hSw); go_simp); all_goals with_reducible rfl
      try simp only [Act.put, List.setIfInBounds_toArray, List.set_cons_zero, List.set_cons_succ]
      refine take_run (i := 4) (v := ?_) rfl (by kernel_rfl) (by kernel_rfl) (by kernel_rfl) (fun _ _ _ h => h) (by kernel_rfl) ?_ (by assumption) ?_
      rotate_left
      · (intro w hSw; (try dsimp only at hSw); go_simp); all_goals with_reducible rfl
      try simp only [Act.put, List.setIfInBounds_toArray, List.set_cons_zero, List.set_cons_succ]
      refine take_run (i := 5) (v := ?_) rfl (by kernel_rfl) (by kernel_rfl) (by kernel_rfl) (fun _ _ _ h => h) (by kernel_rfl) ?_ (by assumption) ?_
      rotate_left
      · (intro w hSw; (try dsimp only at hSw); go_simp); all_goals with_reducible rfl
      try simp only [Act.put, List.setIfInBounds_toArray, List.set_cons_zero, List.set_cons_succ]
      refine take_run (i := 7) (v := ?_) rfl (by kernel_rfl) (by kernel_rfl) (by kernel_rfl) (fun _ _ _ h => h) (by kernel_rfl) ?_ (by assumption) ?_
      rotate_left
      · (intro w hSw; (try dsimp only at hSw); go_simp); all_goals with_reducible rfl
      try simp only [Act.put, List.setIfInBounds_toArray, List.set_cons_zero, List.set_cons_succ]
      refine take_run (i := 8) (v := ?_) rfl (by kernel_rfl) (by kernel_rfl) (by kernel_rfl) (fun _ _ _ h => h) (by kernel_rfl) ?_ (by assumption) ?_
      rotate_left
      · (intro w hSw; (try dsimp only at hSw); go_simp); all_goals with_reducible rfl
      try simp only [Act.put, List.setIfInBounds_toArray, List.set_cons_zero, List.set_cons_succ]
      refine take_run (i := 9) (v := ?_) rfl (by kernel_rfl) (by kernel_rfl) (by kernel_rfl) (fun _ _ _ h => h) (by kernel_rfl) ?_ (by assumption) ?_
      rotate_left
      · (intro w hSw; (try dsimp only at hSw); go_simp); all_goals with_reducible rfl
      try simp only [Act.put, List.setIfInBounds_toArray, List.set_cons_zero, List.set_cons_succ]
      refine take_call (i := 6) rfl (by kernel_rfl) (by kernel_rfl) (fun K hK => ?_)
      go_simp
      refine hK.out _ _ ⟨catdd, cx0dd, cbitd⟩ (fun hHeld => ?_)
      clear hK K
      try simp only [Act.put, List.setIfInBounds_toArray, List.set_cons_zero, List.set_cons_succ]
      refine take_run (i := 10) (v := ?_) rfl (by kernel_rfl) (by kernel_rfl) (by kernel_rfl) (fun _ _ _ h => h) (by kernel_rfl) ?_ (by assumption) ?_
      rotate_left
      · (intro w hSw; (try dsimp only at hSw); go_simp); all_goals with_reducible rfl
      try simp only [Act.put, List.setIfInBounds_toArray, List.set_cons_zero, List.set_cons_succ]
      refine take_run (i := 11) (v := ?_) rfl (by kernel_rfl) (by kernel_rfl) (by kernel_rfl) (fun _ _ _ h => h) (by kernel_rfl) ?_ (by assumption) ?_
      rotate_left
      · (intro w hSw; (try dsimp only at hSw); go_simp); all_goals with_reducible rfl
      try simp only [Act.put, List.setIfInBounds_toArray, List.set_cons_zero, List.set_cons_succ]
      refine take_call (i := 12) rfl (by kernel_rfl) (by kernel_rfl) (fun K hK => ?_)
      go_simp
      try rw [hxor]
      refine hK.out _ _ ⟨hx1, hx2, hx3⟩ (fun hHeld => ?_)
      clear hK K
      refine wpAnyH_done (by kernel_rfl) ?_ _
      clear hHeld
      gi_wp2
      exact HFIN.out
    · have d1 : decide ((q : Int) < (x.pf.bytes.length : Int)) = false := by simpa using hlt
      have d2 : decide (q < x.pf.bytes.length) = false := by simpa using hlt
      have catdd : W.drew.drew.cell? ⟨bl + 1 + 1, 0, none⟩ = some (.int .i64 q) := cat
      have cx0dd : W.drew.drew.cell? ⟨x.blk, 0, none⟩ = some (.slice va x.pf.bytes.length vc) := cx0
      have htot : totF ((pre ++ [x]).map Ent.pf) ≤ a := by rw [List.map_append, totF_append]; simp only [List.map_cons, List.map_nil, totF_one]; omega
      have htl2 : totF (pre.map Ent.pf) + x.pf.bytes.length ≤ totF (G.map Ent.pf) := by
        rw [← hG, List.map_append, List.map_append, totF_append, totF_append]
        simp only [List.map_cons, List.map_nil, totF_one]
        omega
      have hw3 : IntKind.i64.wrap ((q : Int) - (x.pf.bytes.length : Int)) = (q : Int) - (x.pf.bytes.length : Int) := by rw [IntKind.wrap_i64]; have := HA.out; omega
      have fat := h3.frozen
      have hxbl : x.blk ≠ bl + 2 := fun e => by have e1 := hat.1; rw [e, show W.heap[bl + 2]? = _ from h3] at e1; simp at e1
      have hx2 : (W.setCell ⟨bl + 1 + 1, 0, none⟩ (.int .i64 ((q : Int) - (x.pf.bytes.length : Int)))).drew.drew.cell? ⟨x.blk, 0, none⟩ = some (.slice va x.pf.bytes.length vc) :=
        (World.cell?_of_block (w := W) (w' := W.setCell ⟨bl + 1 + 1, 0, none⟩ (.int .i64 ((q : Int) - (x.pf.bytes.length : Int)))) (a := ⟨x.blk, 0, none⟩) (heap_setCell_other W _ x.blk _ hxbl)).trans cx0
      have hfin : KeepsFrom W0.heap.size W (W.setCell ⟨bl + 1 + 1, 0, none⟩ (.int .i64 ((q : Int) - (x.pf.bytes.length : Int)))).drew.drew ∧ KpD (bl + 3) p mb V W (W.setCell ⟨bl + 1 + 1, 0, none⟩ (.int .i64 ((q : Int) - (x.pf.bytes.length : Int)))).drew.drew ∧
          TuI w bl p a bit (pre ++ [x]) (W.setCell ⟨bl + 1 + 1, 0, none⟩ (.int .i64 ((q : Int) - (x.pf.bytes.length : Int)))).drew.drew := by
        obtain ⟨W2, hW2⟩ : ∃ W2, (W.setCell ⟨bl + 1 + 1, 0, none⟩ (.int .i64 ((q : Int) - (x.pf.bytes.length : Int)))).drew.drew = W2 := ⟨_, rfl⟩
        have keep : ∀ i, i ≠ bl + 2 → W2.heap[i]? = W.heap[i]? := fun i e1 => by rw [← hW2]; exact heap_setCell_other W _ i _ e1
        have hsz : W2.heap.size = W.heap.size := by rw [← hW2]; simp [World.setCell, World.drew]
        have hcells : ∀ i o, W.heap[i]? = some o → o.isCells = false → i ≠ bl + 2 := by
          intro i o hi hc e
          subst e; rw [show W.heap[bl + 2]? = _ from h3] at hi; cases hi; cases hc
        have g3 : Boxed W2 (bl + 2) 3 (.int .i64 ((q : Int) - (x.pf.bytes.length : Int))) := by rw [← hW2]; exact h3.set (.int .i64 ((q : Int) - (x.pf.bytes.length : Int)))
        have hos : W2.os = W.os ∧ W2.tape = W.tape ∧ W2.output = W.output := by rw [← hW2]; exact ⟨rfl, rfl, rfl⟩
        rw [hW2]
        refine ⟨⟨by omega, fun i o _ hi hc => (keep i (hcells i o hi hc)).trans hi⟩, ⟨keep _ (by omega), World.cell?_of_block (a := ⟨p, 0, none⟩) (keep p (by omega)), keep mb (by omega), ?_⟩, htot, (keep bl (by omega)).trans h1, (keep (bl + 1) (by omega)).trans h2, ?_, (keep (bl + 3) (by omega)).trans h4, ?_⟩
        · intro i xs hi
          refine keep i (fun e => ?_)
          subst e; rw [show W.heap[bl + 2]? = _ from h3] at hi; simp at hi
        · rw [List.map_append, totF_append]
          simp only [List.map_cons, List.map_nil, totF_one]
          rw [show (a : Int) - ((totF (pre.map Ent.pf) + x.pf.bytes.length : Nat) : Int) = (q : Int) - (x.pf.bytes.length : Int) from by omega]
          exact g3
        · exact ⟨hos.1.trans h5.os, hos.2.1.trans h5.tape, hos.2.2.trans h5.output, by have := h5.size; omega, fun i hi => (keep i (by omega)).trans (h5.block i hi)⟩
      have HFIN := Lib.hid hfin
      clear hfin hat h6 h1 h2 h3 h4 h5 hG htot htl2
      unfold roundAct encD
      gi_wp2_with fail
      refine region_round (S := fun w' => w'.cell? ⟨bl + 1 + 1, 0, none⟩ = some (.int .i64 q) ∧ w'.cell? ⟨x.blk, 0, none⟩ = some (.slice va x.pf.bytes.length vc)) (by rintro ⟨a, w, h⟩; exact h) (by kernel_rfl) mixed ⟨catd, cx0d⟩ (fun hHeld => ?_)
      try simp only [Act.put, List.setIfInBounds_toArray, List.set_cons_zero, List.set_cons_succ]
      refine take_run (i := 0) (v := ?_) rfl (by kernel_rfl) (by kernel_rfl) (by kernel_rfl) (fun _ _ _ h => h) (by kernel_rfl) ?_ (by assumption) ?_
      rotate_left
      · (intro w hSw; (try dsimp only at hSw); go_simp); all_goals with_reducible rfl
      try simp only [Act.put, List.setIfInBounds_toArray, List.set_cons_zero, List.set_cons_succ]
      refine take_run (i := 1) (v := ?_) rfl (by kernel_rfl) (by kernel_rfl) (by kernel_rfl) (fun _ _ _ h => h) (by kernel_rfl) ?_ (by assumption) ?_
      rotate_left
      · (intro w hSw; (try dsimp only at hSw); go_simp); all_goals with_reducible rfl
      try simp only [Act.put, List.setIfInBounds_toArray, List.set_cons_zero, List.set_cons_succ]
      refine take_run (i := 2) (v := ?_) rfl (by kernel_rfl) (by kernel_rfl) (by kernel_rfl) (fun _ _ _ h => h) (by kernel_rfl) ?_ (by assumption) ?_
      rotate_left
      · (intro w hSw; (try dsimp only at hSw); go_simp); all_goals with_reducible rfl
      try simp only [Act.put, List.setIfInBounds_toArray, List.set_cons_zero, List.set_cons_succ]
      refine take_run (i := 3) (v := ?_) rfl (by kernel_rfl) (by kernel_rfl) (by kernel_rfl) (fun _ _ _ h => h) (by kernel_rfl) ?_ (by assumption) ?_
      rotate_left
      · (intro w hSw; (try dsimp only at hSw); go_simp); all_goals with_reducible rfl
      try simp only [Act.put, List.setIfInBounds_toArray, List.set_cons_zero, List.set_cons_succ]
      refine take_run (i := 4) (v := ?_) rfl (by kernel_rfl) (by kernel_rfl) (by kernel_rfl) (fun _ _ _ h => h) (by kernel_rfl) ?_ (by assumption) ?_
      rotate_left
      · (intro w hSw; (try dsimp only at hSw); go_simp); all_goals with_reducible rfl
      try simp only [Act.put, List.setIfInBounds_toArray, List.set_cons_zero, List.set_cons_succ]
      refine take_run (i := 5) (v := ?_) rfl (by kernel_rfl) (by kernel_rfl) (by kernel_rfl) (fun _ _ _ h => h) (by kernel_rfl) ?_ (by assumption) ?_
      rotate_left
      · (intro w hSw; (try dsimp only at hSw); go_simp); all_goals with_reducible rfl
      try simp only [Act.put, List.setIfInBounds_toArray, List.set_cons_zero, List.set_cons_succ]
      refine take_run (i := 6) (v := ?_) rfl (by kernel_rfl) (by kernel_rfl) (by kernel_rfl) (fun _ _ _ h => h) (by kernel_rfl) ?_ (by assumption) ?_
      rotate_left
      · (intro w hSw; (try dsimp only at hSw); go_simp); all_goals with_reducible rfl
      try simp only [Act.put, List.setIfInBounds_toArray, List.set_cons_zero, List.set_cons_succ]
      refine wpAnyH_done (by kernel_rfl) ?_ _
      clear hHeld
      gi_wp2_with fail
      refine region_round (S := fun w' => w'.cell? ⟨x.blk, 0, none⟩ = some (.slice va x.pf.bytes.length vc)) (by rintro ⟨a, w, h⟩; exact h) (by kernel_rfl) mixed cx0dd (fun hHeld => ?_)
      try simp only [Act.put, List.setIfInBounds_toArray, List.set_cons_zero, List.set_cons_succ]
      refine take_run (i := 1) (v := ?_) rfl (by kernel_rfl) (by kernel_rfl) (by kernel_rfl) (fun _ _ _ h => h) (by kernel_rfl) ?_ (by assumption) ?_
      rotate_left
      · (intro w hSw; (try dsimp only at hSw); go_simp); all_goals with_reducible rfl
      try simp only [Act.put, List.setIfInBounds_toArray, List.set_cons_zero, List.set_cons_succ]
      refine take_run (i := 2) (v := ?_) rfl (by kernel_rfl) (by kernel_rfl) (by kernel_rfl) (fun _ _ _ h => h) (by kernel_rfl) ?_ (by assumption) ?_
      rotate_left
      · (intro w hSw; (try dsimp only at hSw); go_simp); all_goals with_reducible rfl
      try simp only [Act.put, List.setIfInBounds_toArray, List.set_cons_zero, List.set_cons_succ]
      refine take_run (i := 3) (v := ?_) rfl (by kernel_rfl) (by kernel_rfl) (by kernel_rfl) (fun _ _ _ h => h) (by kernel_rfl) ?_ (by assumption) ?_
      rotate_left
      · (intro w hSw; (try dsimp only at hSw); go_simp); all_goals with_reducible rfl
      try simp only [Act.put, List.setIfInBounds_toArray, List.set_cons_zero, List.set_cons_succ]
      refine take_run (i := 4) (v := ?_) rfl (by kernel_rfl) (by kernel_rfl) (by kernel_rfl) (fun _ _ _ h => h) (by kernel_rfl) ?_ (by assumption) ?_
      rotate_left
      · (intro w hSw; (try dsimp only at hSw); go_simp); all_goals with_reducible rfl
      try simp only [Act.put, List.setIfInBounds_toArray, List.set_cons_zero, List.set_cons_succ]
      refine take_run (i := 5) (v := ?_) rfl (by kernel_rfl) (by kernel_rfl) (by kernel_rfl) (fun _ _ _ h => h) (by kernel_rfl) ?_ (by assumption) ?_
      rotate_left
      · (intro w hSw; (try dsimp only at hSw); go_simp); all_goals with_reducible rfl
      try simp only [Act.put, List.setIfInBounds_toArray, List.set_cons_zero, List.set_cons_succ]
      refine take_call (i := 0) rfl (by kernel_rfl) (by kernel_rfl) (fun K hK => ?_)
      go_simp
      refine hK.out _ _ cx0dd (fun hHeld => ?_)
      clear hK K
      try simp only [Act.put, List.setIfInBounds_toArray, List.set_cons_zero, List.set_cons_succ]
      refine take_run (i := 6) (v := ?_) rfl (by kernel_rfl) (by kernel_rfl) (by kernel_rfl) (fun _ _ _ h => h) (by kernel_rfl) ?_ (by assumption) ?_
      rotate_left
      · (intro w hSw; (try dsimp only at hSw); go_simp); all_goals with_reducible rfl
      try simp only [Act.put, List.setIfInBounds_toArray, List.set_cons_zero, List.set_cons_succ]
      refine take_call (i := 7) rfl (by kernel_rfl) (by kernel_rfl) (fun K hK => ?_)
      go_simp
      refine hK.out _ _ hx2 (fun hHeld => ?_)
      clear hK K
      refine wpAnyH_done (by kernel_rfl) ?_ _
      clear hHeld
      gi_wp2
      exact HFIN.out
  case done =>
    rintro D W hD ⟨h0, h1, h2, h3, h4, h5⟩ hK
    have hb := HBL.out
    have hs0 := HS.out
    have hres : res = (⟨G.map Ent.pf, room, fuse, true⟩, 2) := by rw [← HRES.out, turnF_none _ _ _ h0]
    have cr := h2.cell
    have fr := h2.frozen
    have hDb : D ≠ bl + 1 := by omega
    have hK2 : (W.setCell ⟨bl + 1, 0, none⟩ (.int .i64 2)).heap[D]? = some (.deferred (some [])) := (heap_setCell_other W _ D _ hDb).trans hK
    have hm : Moves w p F ⟨G.map Ent.pf, room, fuse, true⟩ ((W.setCell ⟨bl + 1, 0, none⟩ (.int .i64 2)).putObj D (.deferred none)) := by
      have b2 : Below w.heap.size w ((W.setCell ⟨bl + 1, 0, none⟩ (.int .i64 2)).putObj D (.deferred none)) :=
        (h5.setCell (p := ⟨bl + 1, 0, none⟩) (by show w.heap.size ≤ bl + 1; omega) _).grown (grownBy_putObj' _ D (.deferred none)) (by have := h5.size; simpa [World.setCell] using this) (fun j hj => by cases hj; omega)
      exact Moves.of_below (d := ⟨G.map Ent.pf, room, fuse, true⟩) ⟨hF1, mb, G, HD.out, rfl, hF⟩ b2
    have c9 : ((W.setCell ⟨bl + 1, 0, none⟩ (.int .i64 2)).putObj D (.deferred none)).cell? ⟨bl + 1, 0, none⟩ = some (.int .i64 2) :=
      (World.cell?_of_block (a := ⟨bl + 1, 0, none⟩) (World.putObj_heap_other (w := W.setCell ⟨bl + 1, 0, none⟩ (.int .i64 2)) (by show bl + 1 ≠ D; omega))).trans (h2.set (.int .i64 2)).cell
    have HM := Lib.hid hm
    have HR := Lib.hid hres
    clear hm hres h0 h1 h2 h3 h4 h5
    gi_wp2
    refine ⟨by simp, .inl ⟨_, _, rfl, run_takeDeferred hK2, .int .i64 2, by simp [results, Tryz.f17, go_sem, c9], by rw [HR.out], by rw [HR.out]; exact HM.out⟩⟩
  case stop =>
    rintro D c pre W hD hpre ⟨rfl, h1, G', h2, h3, h4, h5⟩ hK
    have hb := HBL.out
    have hs0 := HS.out
    have hres : res = (⟨G'.map Ent.pf, room, fuse, true⟩, 0) := by rw [HKB.out] at h3; rw [← HRES.out, h3]
    have hm : Moves w p F ⟨G'.map Ent.pf, room, fuse, true⟩ (W.putObj D (.deferred none)) := by
      have q3 : DiskAt (W.putObj D (.deferred none)) p mb G' room fuse true := h2.kept (fun i hi => World.putObj_heap_other (fun e => by have := HD.out.lt (h4 i hi); omega))
      exact moves_of hF1 q3 (fun i hi => .inl (hF i (h4 i hi))) (((Turned.refl F w).trans h5 (fun i hi => .inl (hF i hi))).trans (Turned.of_grown (F := fun i => i = D) (grownBy_putObj' W D (.deferred none)) (fun i hi => by cases hi; rfl)) (fun i hi => .inr (by have : i = D := hi; omega)))
    have c9 : (W.putObj D (.deferred none)).cell? ⟨bl + 1, 0, none⟩ = some (.int .i64 0) :=
      (World.cell?_of_block (a := ⟨bl + 1, 0, none⟩) (World.putObj_heap_other (w := W) (by show bl + 1 ≠ D; omega))).trans h1.cell
    have HM := Lib.hid hm
    have HR := Lib.hid hres
    clear hm hres h1 h2 h3 h4 h5
    gi_wp2
    refine ⟨by simp, .inl ⟨_, _, rfl, run_takeDeferred hK, .int .i64 0, by simp [results, Tryz.f17, go_sem, c9], by rw [HR.out], by rw [HR.out]; exact HM.out⟩⟩

theorem turn_any {d : PD} {F : Nat → Prop} (h : DiskOf w p d F) (bit : Int) (hl : d.files.length ≤ 100000) (hln : ∀ f ∈ d.files, f.name.length ≤ 1000000) (hb1 : bit ≤ 9223372036854775807) (htl : totF d.files ≤ 4611686018427387904) :
    Calls Tryz.prog 17 #[.pointer (some ⟨p, 0, none⟩), .int .i64 bit] w fun r w' => r = .returned (.int .i64 (d.turn bit).2) ∧ Moves w p F (d.turn bit).1 w' := by
  obtain ⟨h1, mb, G, h2, h3, h4⟩ := id h
  by_cases hdead : d.dead = true
  · rw [hdead] at h2
    by_cases hneg : bit < 0
    · have ht : d.turn bit = (d, 2) := by unfold PD.turn; rw [if_pos (Or.inr hneg)]
      rw [ht]
      refine (turn_bad2 h2 bit hneg).mono ?_
      rintro r w' ⟨rfl, hb⟩
      exact ⟨rfl, Moves.of_below h hb⟩
    · obtain ⟨b, rfl⟩ : ∃ b : Nat, bit = b := ⟨bit.toNat, by omega⟩
      have hd : d = ⟨G.map Ent.pf, d.room, d.fuse, true⟩ := by cases d; simp only at h3 hdead; rw [← h3, hdead]
      have hlen : G.length = d.files.length := by rw [← h3]; simp
      have := turn_at h2 h4 h1 b (by omega) (fun e he => hln _ (by rw [← h3]; exact List.mem_map_of_mem he)) (by omega) (by rw [h3]; exact htl)
      rw [← hd] at this
      exact this
  · have hdead : d.dead = false := by simpa using hdead
    rw [hdead] at h2
    have ht : d.turn bit = (d, 2) := by unfold PD.turn; rw [if_pos (Or.inl hdead)]
    rw [ht]
    refine (turn_bad1 h2 bit).mono ?_
    rintro r w' ⟨rfl, hb⟩
    exact ⟨rfl, Moves.of_below h hb⟩

end Go.Proofs.YthpamdjgkmaleaaGreatDoor
