/-
slices.Sorted(maps.Keys(files)) over this translation: the files' names, in order.
Package disk's inOrder over this translation, as a thing to range over: the files by their names.
-/
import Derived.Test.YthpamdjgkmaleaaGreatDoorIter
import Derived.Test.YthpamdjgkmaleaaGreatDoorMb
import Derived.Test.YthpamdjgkmaleaaGreatDoorSeq
import Derived.Sort.OwnSorted
import Derived.TacticsIn
import Derived.WalkKit
import Derived.OwnWalkIn
import Derived.TacticsInMore
import Derived.LoopNIn
import Derived.LoopIn
namespace Go.Proofs.YthpamdjgkmaleaaGreatDoor
open Go.RowKit Go.Shelf Go.Maps Go.Sort
set_option linter.unusedVariables false

variable {w : World} {mb : Nat} {G : List Ent}

theorem sort_two (m : Nat) : AnyZ.SortsIn Tryz.prog lsorted_ren Fence.wide m :=
  ⟨fun blk off cap ss W hH hblk hsz => callsIn_wide.2 (AnyM.slices_Sort_string lsort blk off cap ss W hH hblk hsz), fun p cap W => callsIn_wide.2 (AnyM.slices_Sort_string_none lsort p cap W)⟩

theorem keys_call (mb : Option Nat) (W : World) : CallsIn Fence.wide 5 Tryz.prog 51 #[.map mb] W fun e w' =>
    e = .returned (.func (.func 76) #[] #[.pointer (some ⟨W.heap.size, 0, none⟩)]) ∧ w' = W.alloc (.cells #[.map mb] 60) := AnyZ.keys_in lkeys Fence.wide 5 trivial rfl mb W

theorem names_keys {D : DataW Unit} {n : Nat} (hown : w.ownsMap Tryz.prog 9 ptrR mb n D) (hs : sortedN (G.map fun e => e.pf.name)) (hat : ∀ nm, Maps.has D (.string nm) = (blkOf G nm).isSome) : (G.map fun e => e.pf.name).Perm (strKeys D) := by
  obtain ⟨es, hD, hpw, _⟩ := hown.entries str_key
  obtain ⟨es', hD', hko⟩ := hown.keysOf
  obtain rfl : es = es' := by rw [hD] at hD'; simpa using hD'
  subst hD
  refine perm_strKeys hpw (fun p hp => by obtain ⟨v, hv⟩ := hko p hp; obtain ⟨x, _, hx, _⟩ := Maps.keyOf_str Tryz.underlying9 hv; exact ⟨x, hx⟩) (sortedN_nodup hs) (fun x => ?_)
  rw [hat x, blkOf_ent]
  constructor
  · intro hx
    obtain ⟨e, he, rfl⟩ := List.mem_map.1 hx
    cases hf : entOf G e.pf.name with
    | none => exact absurd rfl (entOf_none hf e he)
    | some e2 => rfl
  · intro hx
    cases hf : entOf G x with
    | none => rw [hf] at hx; cases hx
    | some e2 =>
      obtain ⟨m1, m2⟩ := entOf_mem hf
      exact List.mem_map.2 ⟨e2, m1, m2⟩

set_option maxHeartbeats 1000000 in
theorem sorted_call (h : FilesAt w mb G) (hs : sortedN (G.map fun e => e.pf.name)) (hl : G.length ≤ 1000000) :
    CallsIn Fence.wide 5 Tryz.prog 50 #[.func (.func 76) #[] #[.pointer (some ⟨w.heap.size, 0, none⟩)]] (w.alloc (.cells #[.map (some mb)] 60)) fun e w' =>
      ∃ v, e = .returned v ∧ w'.ownsRow (w.heap.size + 1) 9 1 v G.length (G.map fun e => .string (B e.pf.name)) ∧ Below (w.heap.size + 1) (w.alloc (.cells #[.map (some mb)] 60)) w' := by
  obtain ⟨D, hown, hsz, hat⟩ := h
  have hbl := hown.lt
  have hmax : Maps.size D ≤ maxLen := by rw [hsz]; unfold maxLen; omega
  have hbytes : Maps.size D * 16 ≤ 140737488355328 := by rw [hsz]; omega
  have hseq : SeqGives Fence.wide 2 Tryz.prog 76 #[.pointer (some ⟨w.heap.size, 0, none⟩)] encStr (fun ss => ss.Perm (strKeys D)) (Maps.size D) (w.alloc (.cells #[.map (some mb)] 60)) :=
    AnyZ.keys_gives (ρ := lkeys_ren) { lkeys with } Fence.wide _ trivial rfl (by omega) w.heap.size mb G.length D _ (by simp) (by simp) (by
      obtain ⟨es, clock, hb, Ft, hs, hD⟩ := hown
      exact ⟨es, clock, (Below.heap_alloc _ _ mb hbl).trans hb, Ft, hs, hD⟩)
  have c := AnyZ.sorted_in lsorted Fence.wide 5 trivial trivial trivial trivial rfl (by omega) (sort_two _) (enters_of Tryz.func75 (by kernel_rfl) rfl) 76 #[.pointer (some ⟨w.heap.size, 0, none⟩)] trivial (enters_of Tryz.func76 (by kernel_rfl) rfl) _ _ hmax hbytes _ hseq
  refine CallsIn.mono (show CallsIn Fence.wide 5 Tryz.prog 50 _ _ _ from c) ?_
  rintro e w' ⟨v, ss, rfl, hp, hrow, hnil, hb⟩
  have hnm := names_keys hown hs (fun nm => (hat nm).2)
  have hsort : ss.mergeSort (fun x y => decide (x ≤ y)) = G.map fun e => e.pf.name := sort_names hs (hp.trans hnm.symm)
  have hlen : ss.length = G.length := by rw [(hp.trans hnm.symm).length_eq]; simp
  rw [hsort, hlen, List.map_map] at hrow
  refine ⟨v, rfl, ?_, by simpa using hb⟩
  have e1 : (w.alloc (.cells #[.map (some mb)] 60)).heap.size = w.heap.size + 1 := by simp
  rw [← e1]
  exact hrow

end Go.Proofs.YthpamdjgkmaleaaGreatDoor

namespace Go.Proofs.YthpamdjgkmaleaaGreatDoor
open Go.RowKit Go.Shelf
set_option linter.unusedVariables false

attribute [local go_sem] Oper.semAt_some

variable {w : World} {p mb : Nat} {G : List Ent}

theorem keys_any (mb : Option Nat) (W : World) : Calls Tryz.prog 51 #[.map mb] W fun e w' =>
    e = .returned (.func (.func 76) #[] #[.pointer (some ⟨W.heap.size, 0, none⟩)]) ∧ w' = W.alloc (.cells #[.map mb] 60) := callsIn_wide.1 (keys_call mb W)
theorem sorted_any (h : FilesAt w mb G) (hs : sortedN (G.map fun e => e.pf.name)) (hl : G.length ≤ 1000000) :
    Calls Tryz.prog 50 #[.func (.func 76) #[] #[.pointer (some ⟨w.heap.size, 0, none⟩)]] (w.alloc (.cells #[.map (some mb)] 60)) fun e w' =>
      ∃ v, e = .returned v ∧ w'.ownsRow (w.heap.size + 1) 9 1 v G.length (G.map fun e => .string (B e.pf.name)) ∧ Below (w.heap.size + 1) (w.alloc (.cells #[.map (some mb)] 60)) w' := callsIn_wide.1 (sorted_call h hs hl)

theorem inOrder_any (p : Option Addr) (w : World) :
    Calls Tryz.prog 30 #[.pointer p] w fun r w' => r = .returned (.func (.func 49) #[] #[.pointer (some ⟨w.heap.size, 0, none⟩)]) ∧ w.alloc (.cells #[.pointer p] 33) = w' := by
  go_enter Tryz.func30, Tryz.ntmps30
  go_wp2
  go_ret
  exact ⟨rfl, rfl⟩

/-- What is handed to yield. -/
def encD (e : Ent) : Array Value := #[.string (B e.pf.name), .pointer (some ⟨e.blk, 0, none⟩)]

/-- What a round leaves as it was: the box, the disk's first cell, its map, all rows of texts. -/
def KpD (b p mb : Nat) (V W W' : World) : Prop :=
  W'.heap[b]? = W.heap[b]? ∧ W'.cell? ⟨p, 0, none⟩ = W.cell? ⟨p, 0, none⟩ ∧ W'.heap[mb]? = W.heap[mb]? ∧ ∀ (k : Nat) (xs : Array Value), W.heap[k]? = some (Obj.cells xs 9 (0, 0)) → W'.heap[k]? = W.heap[k]?

theorem KpD.trans {b p mb : Nat} {V X Y Z : World} (h : KpD b p mb V X Y) (k : KpD b p mb V Y Z) : KpD b p mb V X Z :=
  ⟨k.1.trans h.1, k.2.1.trans h.2.1, k.2.2.1.trans h.2.2.1, fun i xs hi => (k.2.2.2 i xs ((h.2.2.2 i xs hi).trans hi)).trans (h.2.2.2 i xs hi)⟩
theorem KpD.put {b p mb : Nat} {V W : World} {l : Nat} {o' : Obj} (hb : b ≠ l) (hp : p ≠ l) (hm : mb ≠ l) (hl : ∃ o : Obj, W.heap[l]? = some o ∧ o.isCells = false) : KpD b p mb V W (W.putObj l o') :=
  ⟨World.putObj_heap_other hb, World.cell?_of_block (a := ⟨p, 0, none⟩) (World.putObj_heap_other hp), World.putObj_heap_other hm, fun k xs hk => World.putObj_heap_other (fun e => by
    subst e
    obtain ⟨o, ho, hc⟩ := hl
    rw [hk] at ho
    cases ho
    cases hc)⟩

theorem ownsRow_kp {b p mb : Nat} {V W W' : World} {base n : Nat} {v : Value} {xs : List Value} (h : KpD b p mb V W W') (ho : W.ownsRow base 9 1 v n xs) : W'.ownsRow base 9 1 v n xs := by
  refine ⟨ho.1, ?_⟩
  rcases ho.2 with h' | ⟨g, cap, cur, rfl, hb, hg, rest⟩
  · exact .inl h'
  · exact .inr ⟨g, cap, cur, rfl, hb, (h.2.2.2 g _ hg).trans hg, rest⟩

set_option maxRecDepth 100000 in
set_option maxHeartbeats 2000000 in
theorem inOrder_tells (b : Nat) (w0 : World) (hb : Boxed w0 b 33 (.pointer (some ⟨p, 0, none⟩))) (hc0 : w0.cell? ⟨p, 0, none⟩ = some (.map (some mb))) (hp : p < w0.heap.size) (hf : FilesAt w0 mb G) (hs : sortedN (G.map fun e => e.pf.name)) (hl : G.length ≤ 1000000) (hln : ∀ e ∈ G, e.pf.name.length ≤ 1000000) :
    Tells Tryz.prog 49 #[.pointer (some ⟨b, 0, none⟩)] encD (KpD b p mb) G w0 := by
  intro lp J Jx V hV hlV hJ hJx hY h0
  have hmb : mb < w0.heap.size := by obtain ⟨es, clock, h⟩ := hf.isMap; exact (Array.getElem?_eq_some_iff.1 h).1
  have hbV : Boxed V b 33 (.pointer (some ⟨p, 0, none⟩)) := (hV.block b hb.lt).trans hb
  have hcV : V.cell? ⟨p, 0, none⟩ = some (.map (some mb)) := (hV.cell (p := ⟨p, 0, none⟩) hp).trans hc0
  have hfV : FilesAt V mb G := hf.kept (hV.block mb hmb)
  have hS := sorted_any hfV hs hl
  have c1 := hbV.cell
  refine (callsIn_wide (n := 9)).1 ?_
  refine callsIn_of_wp Tryz.func49 rfl trivial ?_ rfl
  simp only [Tryz.ntmps49, List.size_toArray, List.length_cons, List.length_nil, Nat.reduceAdd, Nat.reduceSub, Array.replicate_succ, Array.replicate_zero, List.push_toArray, List.append_toArray, List.nil_append, List.cons_append]
  have hsh : ∀ (v : Value) (w1 : World), w1.ownsRow (V.heap.size + 1) 9 1 v G.length (G.map fun e => .string (B e.pf.name)) → ∃ a c, v = .slice a G.length c := by
    intro v w1 h
    rcases h.2 with ⟨h1, h2⟩ | ⟨g, cap, cur, h1, _⟩
    · exact ⟨none, 0, by rw [h1, h2]⟩
    · exact ⟨_, _, h1⟩
  have HS := Lib.hid hS
  have HSH := Lib.hid hsh
  clear hS hsh
  gi_wp2_with (first
    | (refine ⟨trivial, ?_⟩; gi_at_call 51; refine (callsIn_wide.2 (keys_any _ _)).mono ?_; rintro r w1 ⟨rfl, rfl⟩)
    | (refine ⟨trivial, ?_⟩; gi_at_call 50; refine (callsIn_wide.2 HS.out).mono ?_; rintro r w1 ⟨v, rfl, hrow, hb1⟩; obtain ⟨a, c, rfl⟩ := HSH.out v w1 hrow))
  have hB1 : Below V.heap.size V w1 := ((Below.refl _ V).alloc (Nat.le_refl _) _).trans (hb1.mono (by omega))
  have j1 : J [] w1 := hJ [] V w1 none h0 (grown_of_below hB1) (by simp)
  have x1 : Boxed w1 b 33 (.pointer (some ⟨p, 0, none⟩)) := (hB1.block b hbV.lt).trans hbV
  have x2 : w1.cell? ⟨p, 0, none⟩ = some (.map (some mb)) := (hB1.cell (p := ⟨p, 0, none⟩) (by have := hV.size; show p < V.heap.size; omega)).trans hcV
  have x3 : FilesAt w1 mb G := hfV.kept (hB1.block mb (by have := hV.size; omega))
  clear hbV hcV hfV c1 hb1 hB1
  gi_loopw [12] (fun av wr => ∃ i : Nat, av = .int .i64 i ∧ i ≤ G.length ∧ J (G.take i) wr ∧ Boxed wr b 33 (.pointer (some ⟨p, 0, none⟩)) ∧ wr.cell? ⟨p, 0, none⟩ = some (.map (some mb)) ∧ FilesAt wr mb G ∧
    wr.ownsRow (V.heap.size + 1) 9 1 (.slice a G.length c) G.length (G.map fun e => .string (B e.pf.name))) (fun av _ => G.length - (intOf av).toNat)
  case atStart => exact ⟨0, rfl, Nat.zero_le _, by rw [List.take_zero]; exact j1, x1, x2, x3, hrow⟩
  case round =>
    obtain ⟨i, rfl, hi, hj, hbw, hcw, hfw, how⟩ := hrel
    by_cases hlt : i < G.length
    · have hgi : (G.map fun e => Value.string (B e.pf.name))[i]? = some (.string (B G[i].pf.name)) := by simp [hlt]
      obtain ⟨g, rfl, hcell⟩ : ∃ g, a = some ⟨g, 0, none⟩ ∧ wr.cell? ⟨g, i, none⟩ = some (.string (B G[i].pf.name)) := by
        rcases how.2 with ⟨_, h0⟩ | ⟨g, cap, cur, h1, _⟩
        · omega
        · cases h1
          refine ⟨g, rfl, ?_⟩
          have := how.cells (g := g) rfl i _ hgi
          rw [Addr.add_lit, Nat.zero_add] at this
          exact this
      have hmem : G[i] ∈ G := List.getElem_mem hlt
      have hlook := hfw.look G[i].pf.name (by have := hln _ hmem; unfold maxLen; omega)
      have hno : blkOf G G[i].pf.name = some G[i].blk := by
        rw [blkOf_ent]
        cases hx : entOf G G[i].pf.name with
        | none => exact absurd rfl (entOf_none hx _ hmem)
        | some e2 =>
          obtain ⟨m1, m2⟩ := entOf_mem hx
          obtain rfl := inj_of_nodup (sortedN_nodup hs) m1 hmem m2
          rfl
      rw [hno] at hlook
      simp only [ptrOf] at hlook
      have htk : G.take (i + 1) = G.take i ++ [G[i]] := by rw [List.take_add_one]; simp [hlt]
      have hpx : G.take i ++ [G[i]] <+: G := by rw [← htk]; exact List.take_prefix _ _
      obtain ⟨fn, tmps, assign, body, hy, hR⟩ := hY (G.take i) G[i] wr hj hpx
      dsimp only [encD] at hy
      have k1 := hbw.cell
      have HT := Lib.hid htk
      have HP := Lib.hid hpx
      have HR := Lib.hid hR
      have hrows : ∀ w2, KpD b p mb V wr w2 → Boxed w2 b 33 (.pointer (some ⟨p, 0, none⟩)) ∧ w2.cell? ⟨p, 0, none⟩ = some (.map (some mb)) ∧ FilesAt w2 mb G ∧ w2.ownsRow (V.heap.size + 1) 9 1 (.slice (some ⟨g, 0, none⟩) G.length c) G.length (G.map fun e => .string (B e.pf.name)) :=
        fun w2 hk => ⟨hk.1.trans hbw, hk.2.1.trans hcw, hfw.kept hk.2.2.1, ownsRow_kp hk how⟩
      have HRW := Lib.hid hrows
      clear htk hpx hR hrows hbw hfw how hgi
      gi_wp2
      refine (HR.out _).mono ?_
      rintro e2 w2 ⟨hk, ⟨rfl, hj2⟩ | ⟨rfl, hjx2⟩⟩
      · have HK := Lib.hid hk
        clear hk
        gi_wp2
        go_roundw
        case rel => exact ⟨i + 1, by go_num, by omega, by rw [HT.out]; exact hj2, (HRW.out _ HK.out).1, (HRW.out _ HK.out).2.1, (HRW.out _ HK.out).2.2.1, (HRW.out _ HK.out).2.2.2⟩
        case measure => simp [intOf]; omega
      · clear hk
        gi_wp2
        refine bodyPost_ret (results_none rfl _ _ _) rfl ?_
        exact ⟨⟨_, rfl⟩, .inr ⟨_, HP.out, hjx2⟩⟩
    · obtain rfl : i = G.length := by omega
      gi_wp2
      go_end0
      refine ⟨⟨_, rfl⟩, .inl ?_⟩
      rw [List.take_length] at hj
      exact hj

end Go.Proofs.YthpamdjgkmaleaaGreatDoor
