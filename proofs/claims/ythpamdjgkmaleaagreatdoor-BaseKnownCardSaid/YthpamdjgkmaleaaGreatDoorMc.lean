/-
Package disk over this translation: Remove.
Package disk over this translation: write.
Package disk over this translation: Append.
-/
import Derived.Test.YthpamdjgkmaleaaGreatDoorMb
import Derived.Test.YthpamdjgkmaleaaGreatDoorStr
import Derived.Test.YthpamdjgkmaleaaGreatDoorRegion
namespace Go.Proofs.YthpamdjgkmaleaaGreatDoor
open Go.RowKit Go.Shelf
set_option linter.unusedVariables false

attribute [local go_sem] Oper.semAt_some

variable {w w' : World} {p mb : Nat} {d : PD} {F : Nat → Prop} {G : List Ent} {room fuse : Int} {dead : Bool}

theorem setF_filter (nm : List UInt8) (g : PF → PF) (hg : ∀ f, (g f).name = f.name) : ∀ l : List PF, (setF nm g l).filter (fun f => f.name ≠ nm) = l.filter (fun f => f.name ≠ nm)
  | [] => rfl
  | x :: l => by
    have ih := setF_filter nm g hg l
    unfold setF at ih ⊢
    rw [List.map_cons]
    by_cases hx : x.name = nm
    · rw [if_pos hx, List.filter_cons_of_neg (by simp [hg, hx]), List.filter_cons_of_neg (by simp [hx])]
      exact ih
    · rw [if_neg hx, List.filter_cons_of_pos (by simp [hx]), List.filter_cons_of_pos (by simp [hx]), ih]

theorem mapTurned_turned {F : Nat → Prop} (h : w.mapTurned w' mb) (hF : F mb) : Turned F w w' := Turned.of_grown h.grown (fun k hk => by cases hk; exact hF)

theorem foot_del {nm : List UInt8} {k : Nat} (h : Foot p mb (delE nm G) k) : Foot p mb G k := by
  rcases h with h | h | ⟨x, hx, h⟩
  · exact .inl h
  · exact .inr (.inl h)
  · exact .inr (.inr ⟨x, (List.mem_filter.1 hx).1, h⟩)

set_option maxHeartbeats 1000000 in
theorem remove_any (h : DiskOf w p d F) (nm : List UInt8) (hl : nm.length ≤ maxLen) (hr0 : 0 ≤ d.room) (hr1 : d.room + totF d.files ≤ 4611686018427387904) :
    Calls Tryz.prog 22 #[.pointer (some ⟨p, 0, none⟩), .string (B nm)] w fun r w' => r = .returned (.int .i64 (d.remove nm).2) ∧ Moves w p F (d.remove nm).1 w' := by
  obtain ⟨W0, hW0⟩ : ∃ W0, (w.alloc (.cells #[.pointer (some ⟨p, 0, none⟩)] 33)).alloc (.cells #[.string (B nm)] 9) = W0 := ⟨_, rfl⟩
  have hb0 : Below w.heap.size w W0 := by rw [← hW0]; exact ((Below.refl _ w).alloc (Nat.le_refl _) _).alloc (by simp) _
  have b1 : Boxed W0 w.heap.size 33 (.pointer (some ⟨p, 0, none⟩)) := by rw [← hW0]; exact (Boxed.new w _ _).alloc _
  have b2 : Boxed W0 (w.heap.size + 1) 9 (.string (B nm)) := by rw [← hW0]; have := Boxed.new (w.alloc (.cells #[.pointer (some ⟨p, 0, none⟩)] 33)) 9 (.string (B nm)); simpa using this
  have hd0 := h.below hb0
  have hw : Calls Tryz.prog 34 #[.pointer (some ⟨p, 0, none⟩), .string (B nm), .func (.func 41) #[] #[.pointer (some ⟨w.heap.size, 0, none⟩), .pointer (some ⟨w.heap.size + 1, 0, none⟩)]] W0 fun r w' => r = .returned (.int .i64 (d.remove nm).2) ∧ Moves W0 p F (d.remove nm).1 w' := within_any (fa := 41) (caps := #[.pointer (some ⟨w.heap.size, 0, none⟩), .pointer (some ⟨w.heap.size + 1, 0, none⟩)]) hd0 nm hl (enters_of Tryz.func41 (by kernel_rfl) rfl)
    (fun f => ({ d with files := d.files.filter (fun g => g.name ≠ nm), room := d.room + f.bytes.length }, 0)) (by
    intro mb G e w1 hat hpf hF hF1 he hnm hdead hb
    have B1 : Boxed w1 w.heap.size 33 (.pointer (some ⟨p, 0, none⟩)) := (hb.block _ b1.lt).trans b1
    have B2 : Boxed w1 (w.heap.size + 1) 9 (.string (B nm)) := (hb.block _ b2.lt).trans b2
    have n1 : ¬ F w.heap.size := h.nil_free (Nat.le_refl _)
    have n2 : ¬ F (w.heap.size + 1) := h.nil_free (by omega)
    have j1 := B1.cell
    have j2 := B2.cell
    have htot : e.pf.bytes.length ≤ totF d.files := by
      rw [← hpf]
      unfold totF
      exact le_sum (List.mem_map_of_mem (f := fun f : PF => f.bytes.length) (List.mem_map_of_mem (f := Ent.pf) he))
    simp only [List.append_toArray, List.cons_append, List.nil_append]
    have hs := shorten_any hat he 0 (by omega) hr0 (by omega)
    have hmv : ∀ v' w2, v'.ownBlock = e.v.ownBlock → DiskAt w2 p mb (updE (e.cut 0 v') G) (d.room + (e.pf.bytes.length - (0 : Nat))) d.fuse d.dead → Turned (fun k => k = p ∨ k = e.blk) w1 w2 →
        w2.cell? ⟨w.heap.size, 0, none⟩ = some (.pointer (some ⟨p, 0, none⟩)) ∧ w2.cell? ⟨w.heap.size + 1, 0, none⟩ = some (.string (B nm)) ∧ w2.cell? ⟨p, 0, none⟩ = some (.map (some mb)) ∧
        ∃ w3, (Builtin.delete_ #[60, 9] 0 #[.map (some mb), .string (B nm)]).run Tryz.prog w2.drew = .ok (.tuple #[]) w3 ∧
          Moves w1 p F { d with files := d.files.filter (fun g => g.name ≠ nm), room := d.room + e.pf.bytes.length } w3 := by
      intro v' w2 q1 q2 q3
      have q4 : Turned F w1 w2 := (Turned.refl F w1).trans q3 (by rintro i (rfl | rfl); exact .inl (hF _ (.inl rfl)); exact .inl (hF _ (.inr (.inr ⟨e, he, .inl rfl⟩))))
      obtain ⟨w3, hrun, hturn, hfiles⟩ := q2.drew.map.drop (sortedN_nodup q2.names) nm hl 0
      have hdel := q2.drew.delete nm hfiles (fun k hk hne => hturn.grown.block k hk (fun e2 => hne (by simpa using e2)))
      have hm := moves_of hF1 hdel (fun k hk => .inl (by rcases foot_upd (e' := e.cut 0 v') he rfl (foot_del hk) with hk | hk; exact hF k hk; exact hF k (.inr (.inr ⟨e, he, .inr (q1 ▸ hk)⟩)))) (q4.drew.trans (mapTurned_turned (F := F) hturn (hF _ (.inr (.inl rfl)))) (fun _ h => .inl h))
      rw [delE_pf, updE_pf (e.cut 0 v') he rfl (sortedN_nodup hat.names) (g := fun f => { f with bytes := f.bytes.take 0 }) rfl, hpf, hnm] at hm
      have hfl := setF_filter nm (fun f => { f with bytes := f.bytes.take 0 }) (fun _ => rfl) d.files
      rw [hfl] at hm
      refine ⟨?_, ?_, q2.c0, w3, hrun, by simpa using hm⟩
      · exact (show Boxed w2 w.heap.size _ _ from (q4.block _ B1.lt n1).trans B1).cell
      · exact (show Boxed w2 (w.heap.size + 1) _ _ from (q4.block _ B2.lt n2).trans B2).cell
    have HS := Lib.hid hs
    have HV := Lib.hid hmv
    clear hs hmv hat B1 B2
    go_enter Tryz.func41, Tryz.ntmps41
    go_wp2_with (go_at_call 31; refine HS.out.mono ?_; rintro r w2 ⟨⟨v, rfl⟩, v', q1, q2, q3⟩; obtain ⟨m1, m2, m3, w3, m4, hm⟩ := HV.out v' w2 q1 q2 q3; have HM := Lib.hid hm; clear q1 q2 q3 hm)
    go_region
    go_wp2
    go_ret
    exact ⟨_, rfl, rfl, HM.out⟩)
  have k1 := b1.cell
  have k2 := b2.cell
  have HW := Lib.hid hw
  have HB := Lib.hid hb0
  clear hw hb0 b1 b2
  go_enter Tryz.func22, Tryz.ntmps22
  go_wp2_with (go_at_call 34; (try rw [hW0]); refine HW.out.mono ?_; rintro r w' ⟨rfl, hm⟩; have HM := Lib.hid (hm.before HB.out); clear hm)
  go_ret
  exact ⟨rfl, HM.out⟩

end Go.Proofs.YthpamdjgkmaleaaGreatDoor

namespace Go.Proofs.YthpamdjgkmaleaaGreatDoor
open Go.RowKit Go.Shelf
set_option linter.unusedVariables false

attribute [local go_sem] Oper.semAt_some

variable {w w' : World} {p mb : Nat} {d : PD} {F : Nat → Prop} {G : List Ent} {room fuse : Int} {dead : Bool}

theorem info_byte : (Tryz.prog.info? 5).map (fun i => (i.zero, i.size, i.bytes)) = some (some (.int .u8 0), 1, 1) := by kernel_rfl

theorem owns_base {w : World} {b b' : Nat} {e : TypeId} {size : Nat} {v : Value} {k : Nat} {xs : List Value} (h : w.ownsRow b e size v k xs) (hb : b' ≤ b) : w.ownsRow b' e size v k xs := by
  refine ⟨h.1, ?_⟩
  rcases h.2 with h' | ⟨g, cap, cur, he, hg, rest⟩
  · exact .inl h'
  · exact .inr ⟨g, cap, cur, he, Nat.le_trans hb hg, rest⟩

theorem owns_shape {w : World} {b : Nat} {e : TypeId} {size : Nat} {v : Value} {k : Nat} {xs : List Value} (h : w.ownsRow b e size v k xs) : ∃ a c, v = .slice a k c := by
  rcases h.2 with ⟨rfl, rfl⟩ | ⟨g, cap, cur, he, hg, rest⟩
  · exact ⟨none, 0, rfl⟩
  · exact ⟨_, _, he⟩

/-- Bytes of a text behind an owned row: what is answered lies in that row, or in a new block. -/
theorem append_text (w : World) (v : Value) (n : Nat) (xs l : List UInt8) (hown : w.ownsRow 0 5 1 v n (Lib.byteCells xs)) (hsz : n + l.length ≤ 70368744177664) (ty : TypeId) :
    ∃ v' w', (Builtin.append_ #[50, 9] ty #[v, .string (B l)]).run Tryz.prog w = .ok v' w' ∧ w'.ownsRow 0 5 1 v' (n + l.length) (Lib.byteCells (xs ++ l)) ∧ w.grownBy w' v.ownBlock ∧
      ∀ k, v'.ownBlock = some k → v.ownBlock = some k ∨ w.heap.size ≤ k := by
  obtain ⟨ti, hi, hz, hs1, hby⟩ := info_parts info_byte
  have hbs : (B l).size = l.length := B_size l
  have hcells : Lib.byteCells xs ++ Lib.strCells (B l) = Lib.byteCells (xs ++ l) := by rw [Lib.byteCells_append]; rfl
  have hxl : xs.length = n := by have := hown.1; simpa [Lib.byteCells_length] using this
  obtain ⟨v', w', hr, h2, h3, h4⟩ := Lib.run_append_own_string (P := Tryz.prog) w 0 50 9 ty 5 ti Tryz.underlying50 Tryz.underlying9 hi hz hs1 hby v n _ hown (B l) (by rw [hbs]; unfold maxLen; omega) (by rw [hbs]; omega) (Nat.zero_le _)
  rw [hbs, hcells] at h2
  refine ⟨v', w', hr, h2, h3, ?_⟩
  rcases hown.2 with ⟨rfl, rfl⟩ | ⟨g, cap, cur, rfl, hbg, hg, hnc, hcm, hcs, htake⟩
  · obtain rfl := List.eq_nil_of_length_eq_zero hxl
    obtain ⟨v2, w2, hr2, k2, _⟩ := Lib.run_append_own_string (P := Tryz.prog) w w.heap.size 50 9 ty 5 ti Tryz.underlying50 Tryz.underlying9 hi hz hs1 hby (.slice none 0 0) 0 [] (World.ownsRow_nil _ _ _ _) (B l) (by rw [hbs]; unfold maxLen; omega) (by rw [hbs]; omega) (Nat.le_refl _)
    rw [hr] at hr2
    obtain ⟨rfl, rfl⟩ : v' = v2 ∧ w' = w2 := by simpa using hr2
    exact fun k hk => .inr (k2.lt k hk).1
  · have hcs' : cur.size = cap := by simpa using hcs
    by_cases hroom : n + (B l).size ≤ cap
    · have hr2 := Lib.run_append_room_string (P := Tryz.prog) w 50 9 ty 5 ti Tryz.underlying50 Tryz.underlying9 hi hs1 g n cap cur hg (B l) hroom (by omega)
      rw [hr] at hr2
      obtain ⟨rfl, _⟩ : v' = _ ∧ w' = _ := by simpa using hr2
      exact fun k hk => .inl hk
    · have holds : ∀ j u, (Lib.byteCells xs)[j]? = some u → w.cell? ((⟨g, 0, none⟩ : Addr).add j) = some u := hown.cells (g := g) rfl
      have hr2 := Lib.run_append_grow_string (P := Tryz.prog) w 50 9 ty 5 ti (.int .u8 0) Tryz.underlying50 Tryz.underlying9 hi hz ⟨g, 0, none⟩ n cap (Lib.byteCells xs) (by rw [hs1, Lib.byteCells_length]; omega) holds (B l) (by omega) (by rw [hbs]; omega) (by rw [hby]; exact growslice_fits (by omega) (by rw [hbs]; omega))
      rw [hr] at hr2
      obtain ⟨rfl, _⟩ : v' = _ ∧ w' = _ := by simpa using hr2
      intro k hk
      right
      have : w.heap.size = k := by simpa [Value.ownBlock] using hk
      omega

theorem wpList_append_text (w : World) {ops : Array Oper} {rest : List Oper} {o : Oper} {a : Act} {Q : Exit → Act → World → Prop} (hgd : o.guard = none) (s x : Operand)
    (ho : o.op = .call { callee := .builtin .append, args := #[s, x], argTypes := #[50, 9] }) (v v' : Value) (w' : World) (t : ByteArray) (hv : a.eval s = v) (hx : a.eval x = .string t)
    (hr : (Builtin.append_ #[50, 9] o.type #[v, .string t]).run Tryz.prog w = .ok v' w') (h : wpList Tryz.prog ops Q rest (a.put o.dst v') w') : wpList Tryz.prog ops Q (o :: rest) a w := by
  refine wpList_plain hgd fun K hK => ?_
  unfold Oper.wp execOp
  simp only [ho, resolve, invoke, builtin, Sem.run_bind, Sem.run_pure, Result.andThen_ok, List.map_toArray, List.map_cons, List.map_nil, hv, hx, hr]
  exact hK _ _ h

/-- A file with more bytes. -/
def Ent.more (e : Ent) (t : List UInt8) (v : Value) : Ent := { pf := e.pf.more t, blk := e.blk, v := v }

theorem DiskAt.more_at (h : DiskAt w p mb G room fuse dead) {e : Ent} (he : e ∈ G) {t : List UInt8} {v' : Value} {w1 : World} (hg : w.grownBy w1 e.v.ownBlock) (hown : w1.ownsRow 0 5 1 v' (e.pf.bytes.length + t.length) (Lib.byteCells (e.pf.bytes ++ t)))
    (hloc : ∀ k, v'.ownBlock = some k → e.v.ownBlock = some k ∨ w.heap.size ≤ k) :
    w1.cell? ⟨e.blk, 0, none⟩ = some e.v ∧ w1.frozen? ⟨e.blk, 0, none⟩ = false ∧ DiskAt (w1.setCell ⟨e.blk, 0, none⟩ v') p mb (updE (e.more t v') G) room fuse dead := by
  have hat := h.ents e he
  have hblk : w1.heap[e.blk]? = w.heap[e.blk]? := hg.block e.blk (h.lt (.inr (.inr ⟨e, he, .inl rfl⟩))) (fun e2 => (h.ne_row he e2.symm).2.2 e he rfl)
  have hc := hblk.trans hat.1
  refine ⟨by rw [cell_of_row w1 e.blk 0 _ _ _ hc]; rfl, frozen_of_row w1 e.blk 0 _ _ hc, ?_⟩
  refine h.upd he (e.more t v') rfl rfl (fun k hf hk hr => (heap_setCell_other w1 _ k _ hk).trans (hg.block k (h.lt hf) (fun e2 => hr e2.symm))) ⟨?_, ?_⟩ hloc
  · have := heap_setCell_same w1 e.blk 0 _ _ v' hc
    simpa [Ent.more, PF.more] using this
  · show (w1.setCell ⟨e.blk, 0, none⟩ v').ownsRow 0 5 1 v' (e.pf.bytes ++ t).length (Lib.byteCells (e.pf.bytes ++ t))
    rw [List.length_append]
    refine ownsRow_same hown (fun k hk => heap_setCell_other w1 _ k _ (fun e2 => ?_))
    rcases hloc k hk with h1 | h1
    · exact (h.ne_row he h1).2.2 e he e2.symm
    · have := h.lt (.inr (.inr ⟨e, he, .inl rfl⟩))
      have e3 : k = e.blk := e2
      omega

/-- What of s is written. -/
def partOf (fuse : Int) (s : List UInt8) : List UInt8 := if 0 ≤ fuse ∧ fuse < s.length then s.take fuse.toNat else s
theorem partOf_le (fuse : Int) (s : List UInt8) : (partOf fuse s).length ≤ s.length := by unfold partOf; split <;> simp; omega

/-- What write leaves. -/
def Wrote (w : World) (p mb : Nat) (G : List Ent) (e : Ent) (t : List UInt8) (room fuse : Int) (dead : Bool) (w' : World) : Prop :=
  ∃ v', DiskAt w' p mb (updE (e.more t v') G) room fuse dead ∧ Turned (Foot p mb G) w w' ∧ ∀ k, v'.ownBlock = some k → e.v.ownBlock = some k ∨ w.heap.size ≤ k

set_option maxRecDepth 100000 in
set_option maxHeartbeats 1000000 in
theorem write_plain (h : DiskAt w p mb G room (-1) dead) {e : Ent} (he : e ∈ G) (s : List UInt8) (hsz : e.pf.bytes.length + s.length ≤ 70368744177664) (hr0 : 0 ≤ room) (hr1 : room ≤ 4611686018427387904) :
    Calls Tryz.prog 37 #[.pointer (some ⟨p, 0, none⟩), .pointer (some ⟨e.blk, 0, none⟩), .string (B s)] w fun r w' => r = .returned (.int .i64 0) ∧ Wrote w p mb G e s (room - s.length) (-1) dead w' := by
  obtain ⟨a, c, hv, ha, hnil, hc1, hc2⟩ := owns_slice (h.ents e he)
  have k0 := (h.ents e he).c0
  have f0 := (h.ents e he).frozen 0
  have c2 := h.c2
  have hblen : (B s).size = s.length := B_size s
  obtain ⟨v', w1, hrun, hown, hg, hloc⟩ := append_text w e.v e.pf.bytes.length e.pf.bytes s (h.ents e he).2 hsz 50
  obtain ⟨a', c', rfl⟩ := owns_shape hown
  obtain ⟨g0, g1, h2⟩ := h.more_at he hg hown hloc
  have d1 := h2.c1
  have d2 := h2.frozen 1
  have hw1 : IntKind.i64.wrap (room - (s.length : Int)) = room - (s.length : Int) := by rw [IntKind.wrap_i64]; omega
  have h3 := h2.setRoom (room - s.length)
  have hfin : Wrote w p mb G e s (room - s.length) (-1) dead ((w1.setCell ⟨e.blk, 0, none⟩ (.slice a' (e.pf.bytes.length + s.length) c')).setCell ⟨p, 1, none⟩ (.int .i64 (room - s.length))) :=
    ⟨_, h3, ((Turned.of_grown (F := Foot p mb G) hg (fun k hk => .inr (.inr ⟨e, he, .inr hk⟩))).setCell (.inr (.inr ⟨e, he, .inl rfl⟩)) _).setCell (.inl rfl) _, hloc⟩
  have HF := Lib.hid hfin
  rw [hv] at k0 hrun g0
  have HR := Lib.hid hrun
  clear hrun hfin h3 h2 hown hg hloc h
  go_enter Tryz.func37, Tryz.ntmps37
  go_wp2_with (at_builtin; refine wpList_append_text _ rfl _ _ rfl _ _ _ _ rfl rfl HR.out ?_)
  go_ret
  exact ⟨rfl, HF.out⟩

set_option maxRecDepth 100000 in
set_option maxHeartbeats 1000000 in
theorem write_fused (h : DiskAt w p mb G room fuse dead) {e : Ent} (he : e ∈ G) (s : List UInt8) (hsz : e.pf.bytes.length + s.length ≤ 70368744177664) (hr0 : 0 ≤ room) (hr1 : room ≤ 4611686018427387904) (hf0 : s.length ≤ fuse) (hf1 : fuse ≤ 9223372036854775807) :
    Calls Tryz.prog 37 #[.pointer (some ⟨p, 0, none⟩), .pointer (some ⟨e.blk, 0, none⟩), .string (B s)] w fun r w' => r = .returned (.int .i64 0) ∧ Wrote w p mb G e s (room - s.length) (fuse - s.length) dead w' := by
  have c2 := h.c2
  have f2 := h.frozen 2
  have h0 := h.setFuse (fuse - s.length)
  obtain ⟨W, hW⟩ : ∃ W, w.setCell ⟨p, 2, none⟩ (.int .i64 (fuse - s.length)) = W := ⟨_, rfl⟩
  rw [hW] at h0
  have ht0 : Turned (Foot p mb G) w W := by rw [← hW]; exact (Turned.refl _ w).setCell (.inl rfl) _
  have sW : W.heap.size = w.heap.size := by rw [← hW]; simp [World.setCell]
  obtain ⟨a, c, hv, ha, hnil, hc1, hc2⟩ := owns_slice (h0.ents e he)
  have k0 := (h0.ents e he).c0
  have f0 := (h0.ents e he).frozen 0
  have hblen : (B s).size = s.length := B_size s
  obtain ⟨v', w1, hrun, hown, hg, hloc⟩ := append_text W e.v e.pf.bytes.length e.pf.bytes s (h0.ents e he).2 hsz 50
  obtain ⟨a', c', rfl⟩ := owns_shape hown
  obtain ⟨g0, g1, h2⟩ := h0.more_at he hg hown hloc
  have d1 := h2.c1
  have d2 := h2.frozen 1
  have hw1 : IntKind.i64.wrap (room - (s.length : Int)) = room - (s.length : Int) := by rw [IntKind.wrap_i64]; omega
  have hw2 : IntKind.i64.wrap (fuse - (s.length : Int)) = fuse - (s.length : Int) := by rw [IntKind.wrap_i64]; omega
  have hmin : min fuse (s.length : Int) = (s.length : Int) := by omega
  have hne : ¬ fuse = -1 := by omega
  have hex : (B s).extract 0 s.length = B s := by rw [B_take, List.take_of_length_le (Nat.le_refl _)]
  have h3 := h2.setRoom (room - s.length)
  have hfin : Wrote w p mb G e s (room - s.length) (fuse - s.length) dead ((w1.setCell ⟨e.blk, 0, none⟩ (.slice a' (e.pf.bytes.length + s.length) c')).setCell ⟨p, 1, none⟩ (.int .i64 (room - s.length))) :=
    ⟨_, h3, ht0.trans (((Turned.of_grown (F := Foot p mb G) hg (fun k hk => .inr (.inr ⟨e, he, .inr hk⟩))).setCell (.inr (.inr ⟨e, he, .inl rfl⟩)) _).setCell (.inl rfl) _) (fun _ h => .inl h), fun k hk => by rw [← sW]; exact hloc k hk⟩
  have HF := Lib.hid hfin
  rw [hv] at k0 hrun g0
  have HR := Lib.hid hrun
  clear hrun hfin h3 h2 hown hg hloc h h0 ht0 sW
  go_enter Tryz.func37, Tryz.ntmps37
  go_wp2_with (at_builtin; refine wpList_append_text _ rfl _ _ rfl _ _ _ _ rfl rfl HR.out ?_)
  go_ret
  exact ⟨rfl, HF.out⟩

set_option maxRecDepth 100000 in
set_option maxHeartbeats 1000000 in
theorem write_torn (h : DiskAt w p mb G room fuse dead) {e : Ent} (he : e ∈ G) (s : List UInt8) (hsz : e.pf.bytes.length + s.length ≤ 70368744177664) (hr0 : 0 ≤ room) (hr1 : room ≤ 4611686018427387904) (f : Nat) (hff : fuse = f) (hf1 : f < s.length) :
    Calls Tryz.prog 37 #[.pointer (some ⟨p, 0, none⟩), .pointer (some ⟨e.blk, 0, none⟩), .string (B s)] w fun r w' => r = .returned (.int .i64 9) ∧ Wrote w p mb G e (s.take f) (room - f) (-1) true w' := by
  have c2 := h.c2
  have f2 := h.frozen 2
  rw [hff] at c2
  have h0 := h.setFuse 0
  obtain ⟨W, hW⟩ : ∃ W, w.setCell ⟨p, 2, none⟩ (.int .i64 0) = W := ⟨_, rfl⟩
  rw [hW] at h0
  have ht0 : Turned (Foot p mb G) w W := by rw [← hW]; exact (Turned.refl _ w).setCell (.inl rfl) _
  have sW : W.heap.size = w.heap.size := by rw [← hW]; simp [World.setCell]
  obtain ⟨a, c, hv, ha, hnil, hc1, hc2⟩ := owns_slice (h0.ents e he)
  have k0 := (h0.ents e he).c0
  have f0 := (h0.ents e he).frozen 0
  have hlen : (s.take f).length = f := by simp; omega
  have hblen : (B s).size = s.length := B_size s
  have hblen2 : (B (s.take f)).size = f := by rw [B_size, hlen]
  obtain ⟨v', w1, hrun, hown, hg, hloc⟩ := append_text W e.v e.pf.bytes.length e.pf.bytes (s.take f) (h0.ents e he).2 (by omega) 50
  obtain ⟨a', c', rfl⟩ := owns_shape hown
  obtain ⟨g0, g1, h2⟩ := h0.more_at he hg hown hloc
  have d1 := h2.c1
  have d2 := h2.frozen 1
  have hw1 : IntKind.i64.wrap (room - (f : Int)) = room - (f : Int) := by rw [IntKind.wrap_i64]; omega
  have hmin : min (f : Int) (s.length : Int) = (f : Int) := by omega
  have hne : ¬ (f : Int) = -1 := by omega
  have hex : (B s).extract 0 f = B (s.take f) := B_take s f
  have h3 := h2.setRoom (room - f)
  have ht1 : Turned (Foot p mb G) w ((w1.setCell ⟨e.blk, 0, none⟩ (.slice a' (e.pf.bytes.length + (s.take f).length) c')).setCell ⟨p, 1, none⟩ (.int .i64 (room - f))) := ht0.trans (((Turned.of_grown (F := Foot p mb G) hg (fun k hk => .inr (.inr ⟨e, he, .inr hk⟩))).setCell (.inr (.inr ⟨e, he, .inl rfl⟩)) _).setCell (.inl rfl) _) (fun _ h => .inl h)
  have hp := powerOff_any h3
  have hfin : ∀ w2, DiskAt w2 p mb (updE (e.more (s.take f) (.slice a' (e.pf.bytes.length + (s.take f).length) c')) G) (room - f) (-1) true → ((w1.setCell ⟨e.blk, 0, none⟩ (.slice a' (e.pf.bytes.length + (s.take f).length) c')).setCell ⟨p, 1, none⟩ (.int .i64 (room - f))).grownBy w2 (some p) →
      Wrote w p mb G e (s.take f) (room - f) (-1) true w2 := fun w2 q1 q2 => ⟨_, q1, ht1.trans (Turned.of_grown (F := Foot p mb G) q2 (fun k hk => by cases hk; exact .inl rfl)) (fun _ h => .inl h), fun k hk => by rw [← sW]; exact hloc k hk⟩
  have HF := Lib.hid hfin
  rw [hv] at k0 hrun g0
  rw [hlen] at hp HF d1 d2 hrun
  have HR := Lib.hid hrun
  have HP := Lib.hid hp
  clear hrun hfin h3 h2 hown hg hloc h h0 ht0 ht1 sW hp
  go_enter Tryz.func37, Tryz.ntmps37
  go_wp2_with (first | (at_builtin; refine wpList_append_text _ rfl _ _ rfl _ _ _ _ rfl rfl HR.out ?_) | (go_at_call 32; refine HP.out.mono ?_; rintro r w2 ⟨⟨v, rfl⟩, q1, q2⟩; have HM := Lib.hid (HF.out w2 q1 q2); clear q1 q2))
  go_ret
  exact ⟨rfl, HM.out⟩

end Go.Proofs.YthpamdjgkmaleaaGreatDoor

namespace Go.Proofs.YthpamdjgkmaleaaGreatDoor
open Go.RowKit Go.Shelf
set_option linter.unusedVariables false

attribute [local go_sem] Oper.semAt_some

variable {w w' : World} {p mb : Nat} {d : PD} {F : Nat → Prop} {G : List Ent} {room fuse : Int} {dead : Bool}

/-- What write leaves, by the plain disk. -/
theorem wrote_moves {e : Ent} {t : List UInt8} {r f : Int} {dd : Bool} (hat : DiskAt w p mb G room fuse dead) (he : e ∈ G) (hF : ∀ k, Foot p mb G k → F k) (hF1 : ∀ k, F k → k < w.heap.size) (h : Wrote w p mb G e t r f dd w') :
    Moves w p F { files := setF e.pf.name (fun f => f.more t) (G.map Ent.pf), room := r, fuse := f, dead := dd } w' := by
  obtain ⟨v', h1, h2, h3⟩ := h
  have hm := moves_of hF1 h1 (fun k hk => by
    rcases foot_upd (e' := e.more t v') he rfl hk with hk | hk
    · exact .inl (hF k hk)
    · exact (h3 k hk).imp (fun h => hF k (.inr (.inr ⟨e, he, .inr h⟩))) id) ((Turned.refl F w).trans h2 (fun k hk => .inl (hF k hk)))
  rw [updE_pf (e.more t v') he rfl (sortedN_nodup hat.names) (g := fun f => f.more t) rfl] at hm
  exact hm

theorem write_any (hat : DiskAt w p mb G room fuse dead) {e : Ent} (he : e ∈ G) (s : List UInt8) (hsz : e.pf.bytes.length + s.length ≤ 70368744177664) (hr0 : 0 ≤ room) (hr1 : room ≤ 4611686018427387904) (hf0 : -1 ≤ fuse) (hf1 : fuse ≤ 9223372036854775807)
    (hF : ∀ k, Foot p mb G k → F k) (hF1 : ∀ k, F k → k < w.heap.size) :
    Calls Tryz.prog 37 #[.pointer (some ⟨p, 0, none⟩), .pointer (some ⟨e.blk, 0, none⟩), .string (B s)] w fun r w' => r = .returned (.int .i64 (PD.write ⟨G.map Ent.pf, room, fuse, dead⟩ e.pf.name s).2) ∧ Moves w p F (PD.write ⟨G.map Ent.pf, room, fuse, dead⟩ e.pf.name s).1 w' := by
  by_cases h0 : 0 ≤ fuse
  · by_cases h1 : fuse < s.length
    · obtain ⟨f, rfl⟩ : ∃ f : Nat, fuse = f := ⟨fuse.toNat, by omega⟩
      refine (write_torn hat he s hsz hr0 hr1 f rfl (by omega)).mono ?_
      rintro r w' ⟨rfl, hw⟩
      have := wrote_moves hat he hF hF1 hw
      unfold PD.write
      rw [if_pos ⟨h0, h1⟩]
      exact ⟨rfl, by simpa using this⟩
    · refine (write_fused hat he s hsz hr0 hr1 (by omega) hf1).mono ?_
      rintro r w' ⟨rfl, hw⟩
      have := wrote_moves hat he hF hF1 hw
      unfold PD.write
      rw [if_neg (fun h => h1 h.2), if_pos h0]
      exact ⟨rfl, this⟩
  · obtain rfl : fuse = -1 := by omega
    refine (write_plain hat he s hsz hr0 hr1).mono ?_
    rintro r w' ⟨rfl, hw⟩
    have := wrote_moves hat he hF hF1 hw
    unfold PD.write
    rw [if_neg (fun h => h0 h.1), if_neg h0]
    exact ⟨rfl, this⟩

/-! ### the closure -/
/-- The closure's captured boxes, off the disk's blocks. -/
structure Caps (W : World) (p b : Nat) (nm s : List UInt8) (F : Nat → Prop) : Prop where
  bd : Boxed W b 33 (.pointer (some ⟨p, 0, none⟩))
  bn : Boxed W (b + 1) 9 (.string (B nm))
  bs : Boxed W (b + 2) 9 (.string (B s))
  nd : ¬ F b
  nn : ¬ F (b + 1)
  ns : ¬ F (b + 2)

abbrev capsV (b : Nat) : Array Value := #[.pointer (some ⟨b + 1, 0, none⟩), .pointer (some ⟨b, 0, none⟩), .pointer (some ⟨b + 2, 0, none⟩)]

theorem append_bad1 {b : Nat} {s : List UInt8} (hc : Caps w p b [] s F) : Calls Tryz.prog 36 (capsV b) w fun r w' => r = .returned (.int .i64 2) ∧ Below w.heap.size w w' := by
  have k1 := hc.bn.cell
  clear hc
  go_enter Tryz.func36, Tryz.ntmps36
  go_wp2
  go_ret
  exact ⟨rfl, Below.refl _ _⟩

theorem text_ne {nm : List UInt8} (h : nm ≠ []) : nm.isEmpty = false := by cases nm with
  | nil => exact absurd rfl h
  | cons x l => rfl

theorem append_bad2 {b : Nat} {nm s : List UInt8} (hc : Caps w p b nm s F) (h : 24 < nm.length) (h2 : nm.length ≤ 281474976710656) : Calls Tryz.prog 36 (capsV b) w fun r w' => r = .returned (.int .i64 2) ∧ Below w.heap.size w w' := by
  have k1 := hc.bn.cell
  have hne := text_ne (nm := nm) (by rintro rfl; simp at h)
  have hsz := B_size nm
  have hgt : decide (24 < nm.length) = true := by simpa using h
  clear hc
  go_enter Tryz.func36, Tryz.ntmps36
  go_wp2
  go_ret
  exact ⟨rfl, Below.refl _ _⟩

theorem append_full1 {b : Nat} {nm s : List UInt8} (hc : Caps w p b nm s F) (hd : DiskAt w p mb G room fuse dead) (hn0 : nm ≠ []) (hn1 : nm.length ≤ 24) (hs : room < s.length) :
    Calls Tryz.prog 36 (capsV b) w fun r w' => r = .returned (.int .i64 7) ∧ Below w.heap.size w w' := by
  have k1 := hc.bn.cell
  have k2 := hc.bd.cell
  have k3 := hc.bs.cell
  have hlook := fun n => (hd.map.drewN n).look nm (by unfold maxLen; omega)
  have c0 := hd.c0
  have c1 := hd.c1
  have hne := text_ne hn0
  have hsz := B_size nm
  have hss := B_size s
  have hgt : decide (24 < nm.length) = false := by simpa using hn1
  have hgt2 : decide (room < (s.length : Int)) = true := by simpa using hs
  generalize ptrOf (blkOf G nm) = pv at hlook
  clear hc hd
  go_enter Tryz.func36, Tryz.ntmps36
  go_wp2_with fail
  go_quiet (fail)
  go_wp2_with fail
  go_quiet (fail)
  go_wp2
  go_ret
  exact ⟨rfl, (bdrew _ _).trans ((bdrew _ _).mono (Nat.le_refl _))⟩

set_option maxRecDepth 100000 in
theorem append_full2 {b : Nat} {nm s : List UInt8} (hc : Caps w p b nm s F) (hd : DiskAt w p mb G room fuse dead) (hn0 : nm ≠ []) (hn1 : nm.length ≤ 24) (hs : s.length ≤ room) (hno : blkOf G nm = none) (hG : 1000 ≤ G.length) :
    Calls Tryz.prog 36 (capsV b) w fun r w' => r = .returned (.int .i64 7) ∧ Below w.heap.size w w' := by
  have k1 := hc.bn.cell
  have k2 := hc.bd.cell
  have k3 := hc.bs.cell
  have hlook := fun n => (hd.map.drewN n).look nm (by unfold maxLen; omega)
  have hlen := fun n ty => (hd.map.drewN n).len ty
  have c0 := hd.c0
  have c1 := hd.c1
  have hne := text_ne hn0
  have hsz := B_size nm
  have hss := B_size s
  have hgt : decide (24 < nm.length) = false := by simpa using hn1
  have hgt2 : decide (room < (s.length : Int)) = false := by simpa using hs
  have hgt3 : decide (1000 ≤ G.length) = true := by simpa using hG
  rw [hno] at hlook
  simp only [ptrOf] at hlook
  clear hc hd
  go_enter Tryz.func36, Tryz.ntmps36
  go_wp2_with fail
  go_quiet (fail)
  go_wp2_with fail
  go_quiet (fail)
  go_wp2
  go_ret
  exact ⟨rfl, (bdrew _ _).trans ((bdrew _ _).mono (Nat.le_refl _))⟩

set_option maxHeartbeats 1000000 in
theorem append_old {b : Nat} {nm s : List UInt8} (hc : Caps w p b nm s F) (hd : DiskAt w p mb G room fuse dead) (hF : ∀ k, Foot p mb G k → F k) (hF1 : ∀ k, F k → k < w.heap.size) (hn0 : nm ≠ []) (hn1 : nm.length ≤ 24) (hs : s.length ≤ room) {e : Ent} (he : e ∈ G) (hnm : e.pf.name = nm)
    (hsz : e.pf.bytes.length + s.length ≤ 70368744177664) (hr1 : room ≤ 4611686018427387904) (hf0 : -1 ≤ fuse) (hf1 : fuse ≤ 9223372036854775807) :
    Calls Tryz.prog 36 (capsV b) w fun r w' => r = .returned (.int .i64 (PD.write ⟨G.map Ent.pf, room, fuse, dead⟩ nm s).2) ∧ Moves w p F (PD.write ⟨G.map Ent.pf, room, fuse, dead⟩ nm s).1 w' := by
  have k1 := hc.bn.cell
  have k2 := hc.bd.cell
  have k3 := hc.bs.cell
  have hlook := fun n => (hd.map.drewN n).look nm (by unfold maxLen; omega)
  have c0 := hd.c0
  have c1 := hd.c1
  have hne := text_ne hn0
  have hsz1 := B_size nm
  have hss := B_size s
  have hgt : decide (24 < nm.length) = false := by simpa using hn1
  have hgt2 : decide (room < (s.length : Int)) = false := by simpa using hs
  have hno : blkOf G nm = some e.blk := by
    rw [blkOf_ent]
    cases hx : entOf G nm with
    | none => exact absurd hnm (entOf_none hx e he)
    | some e2 =>
      obtain ⟨m1, m2⟩ := entOf_mem hx
      rw [hd.same_name m1 he (m2.trans hnm.symm)]
      rfl
  rw [hno] at hlook
  simp only [ptrOf] at hlook
  have hw := fun n => write_any (F := F) ((hd.kept (w' := w.drewN n) (fun _ _ => rfl))) he s hsz (by omega) hr1 hf0 hf1 hF hF1
  rw [hnm] at hw
  have HW := Lib.hid hw
  clear hw hc hd
  go_enter Tryz.func36, Tryz.ntmps36
  go_wp2_with fail
  go_quiet (fail)
  go_wp2_with fail
  go_quiet (fail)
  go_wp2_with (go_at_call 37; refine (HW.out _).mono ?_; rintro r w2 ⟨rfl, hm⟩; have HM := Lib.hid hm; clear hm)
  go_ret
  exact ⟨rfl, HM.out.before (bdrew _ _)⟩

set_option maxRecDepth 100000 in
set_option maxHeartbeats 2000000 in
theorem append_new {b : Nat} {nm s : List UInt8} (hc : Caps w p b nm s F) (hd : DiskAt w p mb G room fuse dead) (hF : ∀ k, Foot p mb G k → F k) (hF1 : ∀ k, F k → k < w.heap.size) (hn0 : nm ≠ []) (hn1 : nm.length ≤ 24) (hs : s.length ≤ room) (hno : ∀ x ∈ G, x.pf.name ≠ nm) (hG : G.length < 1000)
    (hsz : s.length ≤ 70368744177664) (hr1 : room ≤ 4611686018427387904) (hf0 : -1 ≤ fuse) (hf1 : fuse ≤ 9223372036854775807) :
    Calls Tryz.prog 36 (capsV b) w fun r w' => r = .returned (.int .i64 (PD.write ⟨insF ⟨nm, [], 0⟩ (G.map Ent.pf), room, fuse, dead⟩ nm s).2) ∧ Moves w p F (PD.write ⟨insF ⟨nm, [], 0⟩ (G.map Ent.pf), room, fuse, dead⟩ nm s).1 w' := by
  have k1 := hc.bn.cell
  have k2 := hc.bd.cell
  have k3 := hc.bs.cell
  have hlook := fun n => (hd.map.drewN n).look nm (by unfold maxLen; omega)
  have hlen := fun n ty => (hd.map.drewN n).len ty
  have c0 := hd.c0
  have c1 := hd.c1
  have hne := text_ne hn0
  have hsz1 := B_size nm
  have hss := B_size s
  have hgt : decide (24 < nm.length) = false := by simpa using hn1
  have hgt2 : decide (room < (s.length : Int)) = false := by simpa using hs
  have hgt3 : decide (1000 ≤ G.length) = false := by simpa using hG
  have hno' : blkOf G nm = none := by
    rw [blkOf_ent]
    have : entOf G nm = none := List.find?_eq_none.2 (fun x hx => by simpa using hno x hx)
    rw [this]; rfl
  rw [hno'] at hlook
  simp only [ptrOf] at hlook
  -- behind the new content and the name's copy: the map written
  have hstep : ∀ n w5, Below (((w.drewN n).alloc (.cells #[.slice none 0 0, .int .i64 0] 69)).drew.heap.size) ((w.drewN n).alloc (.cells #[.slice none 0 0, .int .i64 0] 69)).drew w5 →
      w5.cell? ⟨b, 0, none⟩ = some (.pointer (some ⟨p, 0, none⟩)) ∧ w5.cell? ⟨b + 1, 0, none⟩ = some (.string (B nm)) ∧ w5.cell? ⟨p, 0, none⟩ = some (.map (some mb)) ∧
      ∃ w6, (Instr.mapUpdate 60 (.map (some mb)) (.string (B nm)) (.pointer (some ⟨w.heap.size, 0, none⟩))).run Tryz.prog w5 = .ok () w6 ∧
        w6.cell? ⟨b, 0, none⟩ = some (.pointer (some ⟨p, 0, none⟩)) ∧ w6.cell? ⟨b + 1, 0, none⟩ = some (.string (B nm)) ∧ w6.cell? ⟨b + 2, 0, none⟩ = some (.string (B s)) ∧ w6.cell? ⟨p, 0, none⟩ = some (.map (some mb)) ∧
        Calls Tryz.prog 37 #[.pointer (some ⟨p, 0, none⟩), .pointer (some ⟨w.heap.size, 0, none⟩), .string (B s)] w6 fun r w' => r = .returned (.int .i64 (PD.write ⟨insF ⟨nm, [], 0⟩ (G.map Ent.pf), room, fuse, dead⟩ nm s).2) ∧ Moves w p F (PD.write ⟨insF ⟨nm, [], 0⟩ (G.map Ent.pf), room, fuse, dead⟩ nm s).1 w' := by
    intro n w5 hb
    obtain ⟨W, hW⟩ : ∃ W, ((w.drewN n).alloc (.cells #[.slice none 0 0, .int .i64 0] 69)) = W := ⟨_, rfl⟩
    have bW : Below w.heap.size w W := by rw [← hW]; exact (bdrew w n).alloc (Nat.le_refl _) _
    have sW : W.heap.size = w.heap.size + 1 := by rw [← hW]; simp [World.drewN]
    have nW : W.heap[w.heap.size]? = some (.cells #[.slice none 0 0, .int .i64 0] 69 (0, 0)) := by
      rw [← hW]
      have := World.alloc_heap_new (w.drewN n) (.cells #[.slice none 0 0, .int .i64 0] 69)
      simpa [World.drewN] using this
    rw [hW] at hb
    have b5 : Below (w.heap.size + 1) W w5 := ((Below.refl (w.heap.size + 1) W).drew).trans (hb.mono (by show w.heap.size + 1 ≤ W.heap.size; omega))
    have b05 : Below w.heap.size w w5 := bW.trans (b5.mono (by omega))
    have d5 : DiskAt w5 p mb G room fuse dead := hd.kept (fun i hi => b05.block i (hd.lt hi))
    have n5 : w5.heap[w.heap.size]? = some (.cells #[.slice none 0 0, .int .i64 0] 69 (0, 0)) := (b5.block _ (by omega)).trans nW
    obtain ⟨w6, hrun, hturn, hfiles⟩ := d5.map.store { pf := { name := nm, bytes := [], synced := 0 }, blk := w.heap.size, v := .slice none 0 0 } (by show nm.length ≤ maxLen; unfold maxLen; omega) hno (by unfold maxLen; omega)
    have hmbF : F mb := hF mb (.inr (.inl rfl))
    have hmlt : mb < w.heap.size := hd.lt (.inr (.inl rfl))
    have keep : ∀ i, i < w5.heap.size → i ≠ mb → w6.heap[i]? = w5.heap[i]? := fun i hi hne => hturn.grown.block i hi (fun e2 => hne (by simpa using e2))
    have hlt5 : w.heap.size + 1 ≤ w5.heap.size := Nat.le_trans (by omega) b5.size
    have b6 : ∀ i t v, Boxed w i t v → ¬ F i → Boxed w6 i t v := fun i t v hx hnf => (keep i (by have := hx.lt; omega) (fun e2 => hnf (e2 ▸ hmbF))).trans ((b05.block i hx.lt).trans hx)
    have B5 : ∀ i t v, Boxed w i t v → Boxed w5 i t v := fun i t v hx => (b05.block i hx.lt).trans hx
    have hat6 : Ent.at w6 { pf := { name := nm, bytes := [], synced := 0 }, blk := w.heap.size, v := .slice none 0 0 } := ⟨(keep w.heap.size (by omega) (by omega)).trans n5, World.ownsRow_nil _ _ _ _⟩
    have d6 : DiskAt w6 p mb (insE { pf := { name := nm, bytes := [], synced := 0 }, blk := w.heap.size, v := .slice none 0 0 } G) room fuse dead := by
      refine DiskAt.insert (w := w) hd _ hno (Nat.le_refl _) rfl hat6 hfiles (fun i hi hne => (keep i (by omega) hne).trans (b05.block i hi))
    refine ⟨(B5 _ _ _ hc.bd).cell, (B5 _ _ _ hc.bn).cell, d5.c0, w6, hrun, (b6 _ _ _ hc.bd hc.nd).cell, (b6 _ _ _ hc.bn hc.nn).cell, (b6 _ _ _ hc.bs hc.ns).cell, d6.c0, ?_⟩
    have t06 : Turned F w w6 := (Turned.of_below b05).trans (mapTurned_turned (F := F) hturn hmbF) (fun _ h => .inl h)
    have hwr := write_any (F := fun i => F i ∨ i = w.heap.size) d6 (e := { pf := { name := nm, bytes := [], synced := 0 }, blk := w.heap.size, v := .slice none 0 0 }) ((insE_perm _ G).mem_iff.2 (List.mem_cons_self ..)) s (by simpa using hsz) (by omega) hr1 hf0 hf1
      (by
        rintro i (rfl | rfl | ⟨x, hx, hi⟩)
        · exact .inl (hF _ (.inl rfl))
        · exact .inl hmbF
        · rcases List.mem_cons.1 ((insE_perm _ G).mem_iff.1 hx) with rfl | hx'
          · rcases hi with rfl | hi
            · exact .inr rfl
            · simp [Value.ownBlock] at hi
          · exact .inl (hF i (.inr (.inr ⟨x, hx', hi⟩))))
      (by
        have := hturn.grown.size
        rintro i (hi | rfl)
        · have := hF1 i hi; omega
        · omega)
    rw [insE_pf] at hwr
    refine hwr.mono ?_
    rintro r w' ⟨rfl, F', g1, g2, g3⟩
    refine ⟨rfl, F', g1, fun i hi => ?_, t06.trans g3 (by rintro i (h | rfl); exact .inl h; exact .inr (Nat.le_refl _))⟩
    rcases g2 i hi with (h | rfl) | h
    · exact .inl h
    · exact .inr (Nat.le_refl _)
    · exact .inr (by have := t06.size; omega)
  have hS0 : ∀ n, ((w.drewN n).alloc (.cells #[.slice none 0 0, .int .i64 0] 69)).drew.cell? ⟨b, 0, none⟩ = some (.pointer (some ⟨p, 0, none⟩)) ∧ ((w.drewN n).alloc (.cells #[.slice none 0 0, .int .i64 0] 69)).drew.cell? ⟨b + 1, 0, none⟩ = some (.string (B nm)) ∧ ((w.drewN n).alloc (.cells #[.slice none 0 0, .int .i64 0] 69)).drew.cell? ⟨p, 0, none⟩ = some (.map (some mb)) :=
    fun n => ⟨(show Boxed ((w.drewN n).alloc (.cells #[.slice none 0 0, .int .i64 0] 69)) b _ _ from Boxed.alloc (W := w.drewN n) hc.bd _).cell, (show Boxed ((w.drewN n).alloc (.cells #[.slice none 0 0, .int .i64 0] 69)) (b + 1) _ _ from Boxed.alloc (W := w.drewN n) hc.bn _).cell,
      (show DiskAt ((w.drewN n).alloc (.cells #[.slice none 0 0, .int .i64 0] 69)) p mb G room fuse dead from hd.kept (fun i hi => Below.heap_alloc _ _ i (hd.lt hi))).c0⟩
  have hcl := fun w1 => clone_any (B nm) w1 (by rw [B_size]; omega)
  have HC := Lib.hid hcl
  have HS0 := Lib.hid hS0
  have HS := Lib.hid hstep
  clear hstep hc hd
  go_enter Tryz.func36, Tryz.ntmps36
  go_wp2_with fail
  go_quiet (fail)
  go_wp2_with fail
  go_quiet (fail)
  go_wp2_with fail
  refine wp_region_held_drew (S := fun w' => w'.cell? ⟨b, 0, none⟩ = some (.pointer (some ⟨p, 0, none⟩)) ∧ w'.cell? ⟨b + 1, 0, none⟩ = some (.string (B nm)) ∧ w'.cell? ⟨p, 0, none⟩ = some (.map (some mb))) (by kernel_rfl) (HS0.out _) (fun hHeld => ?_)
  refine take_run (i := 0) (v := ?_) rfl (by kernel_rfl) (by kernel_rfl) (by kernel_rfl) (fun _ _ _ h => h) (by kernel_rfl) ?_ (by assumption) ?_
  rotate_left
  · (intro w hSw; (try dsimp only at hSw); go_simp); all_goals with_reducible rfl
  try simp only [Act.put, List.setIfInBounds_toArray, List.set_cons_zero, List.set_cons_succ]
  refine take_run (i := 1) (v := ?_) rfl (by kernel_rfl) (by kernel_rfl) (by kernel_rfl) (fun _ _ _ h => h) (by kernel_rfl) ?_ (by assumption) ?_
  rotate_left
  · (intro w hSw; (try dsimp only at hSw); go_simp); all_goals with_reducible rfl
  try simp only [Act.put, List.setIfInBounds_toArray, List.set_cons_zero, List.set_cons_succ]
  refine take_run (i := 2) (v := ?_) rfl (by kernel_rfl) (by kernel_rfl) (by kernel_rfl) (fun _ _ _ h => h) (by kernel_rfl) ?_ (by assumption) ?_
  rotate_left
  · (intro w hSw; (try dsimp only at hSw); go_simp); all_goals with_reducible rfl
  try simp only [Act.put, List.setIfInBounds_toArray, List.set_cons_zero, List.set_cons_succ]
  refine take_run (i := 3) (v := ?_) rfl (by kernel_rfl) (by kernel_rfl) (by kernel_rfl) (fun _ _ _ h => h) (by kernel_rfl) ?_ (by assumption) ?_
  rotate_left
  · (intro w hSw; (try dsimp only at hSw); go_simp); all_goals with_reducible rfl
  try simp only [Act.put, List.setIfInBounds_toArray, List.set_cons_zero, List.set_cons_succ]
  refine take_run (i := 4) (v := ?_) rfl (by kernel_rfl) (by kernel_rfl) (by kernel_rfl) (fun _ _ _ h => h) (by kernel_rfl) ?_ (by assumption) ?_
  rotate_left
  · (intro w hSw; (try dsimp only at hSw); go_simp); all_goals with_reducible rfl
  try simp only [Act.put, List.setIfInBounds_toArray, List.set_cons_zero, List.set_cons_succ]
  refine take_run (i := 6) (v := ?_) rfl (by kernel_rfl) (by kernel_rfl) (by kernel_rfl) (fun _ _ _ h => h) (by kernel_rfl) ?_ (by assumption) ?_
  rotate_left
  · (intro w hSw; (try dsimp only at hSw); go_simp); all_goals with_reducible rfl
  try simp only [Act.put, List.setIfInBounds_toArray, List.set_cons_zero, List.set_cons_succ]
  refine take_call (i := 5) rfl (by kernel_rfl) (by kernel_rfl) (fun K hK => ?_)
  go_simp; refine (HC.out _).mono ?_; rintro r w5 ⟨rfl, q5⟩; obtain ⟨a1, a2, a3, w6, hrun, b1, b2, b3, b4, hcw⟩ := HS.out _ w5 q5; have HCW := Lib.hid hcw; clear hcw
  go_wp2_with fail
  clear hHeld
  refine hK.out _ _ ?_ (fun hHeld => ?_)
  · exact ⟨a1, a2, a3⟩
  clear hK K
  try simp only [Act.put, List.setIfInBounds_toArray, List.set_cons_zero, List.set_cons_succ]
  refine take_call (i := 7) rfl (by kernel_rfl) (by kernel_rfl) (fun K hK => ?_)
  go_simp
  refine hK.out _ _ ?_ (fun hHeld => ?_)
  · exact ⟨b1, b2, b4⟩
  clear hK K
  try simp only [Act.put, List.setIfInBounds_toArray, List.set_cons_zero, List.set_cons_succ]
  refine wpAnyH_done (by kernel_rfl) ?_ _
  go_wp2_with (go_at_call 37; refine HCW.out.mono ?_; rintro r w7 ⟨rfl, hm⟩; have HM := Lib.hid hm; clear hm)
  go_ret
  exact ⟨rfl, HM.out⟩

/-! ### Append -/
theorem append_boxes (w : World) (p : Nat) (nm s : List UInt8) : ∃ W0, ((w.alloc (.cells #[.pointer (some ⟨p, 0, none⟩)] 33)).alloc (.cells #[.string (B nm)] 9)).alloc (.cells #[.string (B s)] 9) = W0 ∧ Below w.heap.size w W0 ∧
    Boxed W0 w.heap.size 33 (.pointer (some ⟨p, 0, none⟩)) ∧ Boxed W0 (w.heap.size + 1) 9 (.string (B nm)) ∧ Boxed W0 (w.heap.size + 2) 9 (.string (B s)) := by
  refine ⟨_, rfl, ?_, ?_, ?_, ?_⟩
  · exact (((Below.refl _ w).alloc (Nat.le_refl _) _).alloc (by simp) _).alloc (by simp; omega) _
  · exact ((Boxed.new w _ _).alloc _).alloc _
  · have := (Boxed.new (w.alloc (.cells #[.pointer (some ⟨p, 0, none⟩)] 33)) 9 (.string (B nm))).alloc (.cells #[.string (B s)] 9)
    simpa using this
  · have := Boxed.new ((w.alloc (.cells #[.pointer (some ⟨p, 0, none⟩)] 33)).alloc (.cells #[.string (B nm)] 9)) 9 (.string (B s))
    simpa using this

theorem append_any (h : DiskOf w p d F) (nm s : List UInt8) (hl : nm.length ≤ 281474976710656) (hsz : totF d.files + s.length ≤ 70368744177664) (hr0 : 0 ≤ d.room) (hr1 : d.room ≤ 4611686018427387904) (hf0 : -1 ≤ d.fuse) (hf1 : d.fuse ≤ 9223372036854775807) :
    Calls Tryz.prog 19 #[.pointer (some ⟨p, 0, none⟩), .string (B nm), .string (B s)] w fun r w' => r = .returned (.int .i64 (d.append nm s).2) ∧ Moves w p F (d.append nm s).1 w' := by
  obtain ⟨W0, hW0, hb0, b1, b2, b3⟩ := append_boxes w p nm s
  have hd0 := h.below hb0
  have hc : Caps W0 p w.heap.size nm s F := ⟨b1, b2, b3, h.nil_free (Nat.le_refl _), h.nil_free (by omega), h.nil_free (by omega)⟩
  have hfin : Calls Tryz.prog 27 #[.pointer (some ⟨p, 0, none⟩), .func (.func 36) #[] (capsV w.heap.size)] W0 fun r w' => ∃ x, r = .returned (.int .i64 x) ∧ (x = (d.append nm s).2 ∧ Moves W0 p F (d.append nm s).1 w') := by
    by_cases hdead : d.dead = true
    · refine (powered_dead hd0 hdead).mono ?_
      rintro r w' ⟨rfl, rfl⟩
      exact ⟨8, rfl, by simp [PD.append, hdead], by simpa [PD.append, hdead] using Moves.refl hd0⟩
    · have hdead : d.dead = false := by simpa using hdead
      refine powered_ok hd0 hdead (enters_of Tryz.func36 (by kernel_rfl) rfl) ?_
      have same : ∀ x : Int, d.append nm s = (d, x) → (Calls Tryz.prog 36 (capsV w.heap.size) W0 fun r w' => r = .returned (.int .i64 x) ∧ Below W0.heap.size W0 w') →
          Calls Tryz.prog 36 (capsV w.heap.size) W0 fun r w' => ∃ x, r = .returned (.int .i64 x) ∧ (x = (d.append nm s).2 ∧ Moves W0 p F (d.append nm s).1 w') := by
        intro x hx hcall
        rw [hx]
        refine hcall.mono ?_
        rintro r w' ⟨rfl, hb⟩
        exact ⟨_, rfl, rfl, Moves.of_below hd0 hb⟩
      by_cases hn0 : nm = []
      · subst hn0
        exact same 2 (by simp [PD.append, hdead]) (append_bad1 hc)
      by_cases hn1 : 24 < nm.length
      · exact same 2 (by simp [PD.append, hdead, hn1]) (append_bad2 hc hn1 hl)
      have hbad : ¬ (nm = [] ∨ 24 < nm.length) := by simp [hn0]; omega
      obtain ⟨h1, mb, G, hat, hpf, hF⟩ := id hd0
      by_cases hs : d.room < s.length
      · exact same 7 (by unfold PD.append; rw [if_neg (by simp [hdead]), if_neg hbad, if_pos (Or.inl hs)]) (append_full1 hc hat hn0 (by omega) hs)
      have hlen : d.files.length = G.length := by rw [← hpf]; simp
      cases hen : entOf G nm with
      | none =>
        have hfn : d.find nm = none := by unfold PD.find; rw [← hpf, find_ent, hen]; rfl
        by_cases hG : 1000 ≤ G.length
        · exact same 7 (by unfold PD.append; rw [if_neg (by simp [hdead]), if_neg hbad, if_pos (Or.inr ⟨hfn, by omega⟩)]) (append_full2 hc hat hn0 (by omega) (by omega) (by rw [blkOf_ent, hen]; rfl) hG)
        · have happ : d.append nm s = PD.write ⟨insF ⟨nm, [], 0⟩ (G.map Ent.pf), d.room, d.fuse, d.dead⟩ nm s := by
            unfold PD.append
            rw [if_neg (by simp [hdead]), if_neg hbad, if_neg (by rintro (h | ⟨_, h⟩); exact hs h; omega)]
            unfold PD.withFile
            rw [hfn, hpf]
            rfl
          rw [happ]
          refine (append_new hc hat hF h1 hn0 (by omega) (by omega) (entOf_none hen) (by omega) (by omega) hr1 hf0 hf1).mono ?_
          rintro r w' ⟨rfl, hm⟩
          exact ⟨_, rfl, rfl, hm⟩
      | some e =>
        obtain ⟨m1, m2⟩ := entOf_mem hen
        have hfn : d.find nm = some e.pf := by unfold PD.find; rw [← hpf, find_ent, hen]; rfl
        have happ : d.append nm s = PD.write ⟨G.map Ent.pf, d.room, d.fuse, d.dead⟩ nm s := by
          unfold PD.append
          rw [if_neg (by simp [hdead]), if_neg hbad, if_neg (by rintro (h | ⟨h, _⟩); exact hs h; rw [hfn] at h; cases h)]
          unfold PD.withFile
          rw [hfn, hpf]
          rfl
        have htot : e.pf.bytes.length ≤ totF d.files := by
          rw [← hpf]
          unfold totF
          exact le_sum (List.mem_map_of_mem (f := fun f : PF => f.bytes.length) (List.mem_map_of_mem (f := Ent.pf) m1))
        rw [happ]
        refine (append_old hc hat hF h1 hn0 (by omega) (by omega) m1 m2 (by omega) hr1 hf0 hf1).mono ?_
        rintro r w' ⟨rfl, hm⟩
        exact ⟨_, rfl, rfl, hm⟩
  have k1 := b1.cell
  have HF := Lib.hid hfin
  have HB := Lib.hid hb0
  clear hfin hb0 b1 b2 b3 hc hd0 h
  go_enter Tryz.func19, Tryz.ntmps19
  go_wp2_with (go_at_call 27; (try rw [hW0]); refine HF.out.mono ?_; rintro r w' ⟨x, rfl, rfl, hm⟩; have HM := Lib.hid (hm.before HB.out); clear hm)
  go_ret
  exact ⟨rfl, HM.out⟩

end Go.Proofs.YthpamdjgkmaleaaGreatDoor
