/-
  Package log's frames over this translation, and the builder that it puts them together in.
-/
import Derived.Test.YtjidadolfpjdeaaGreatDoorLgEnv
import Derived.Test.YtjidadolfpjdeaaGreatDoorMa
import Derived.Test.YtjidadolfpjdeaaGreatDoorFrPut
import Derived.Test.YtjidadolfpjdeaaGreatDoorFrSame
import Derived.Test.YtjidadolfpjdeaaGreatDoorMi
import Derived.Lib.Builder
namespace Go.Proofs.YtjidadolfpjdeaaGreatDoor
open Go.RowKit
set_option linter.unusedVariables false

theorem bform {w : World} {b : Nat} {e : TypeId} {sz : Nat} {v : Value} {m : Nat} {xs : List Value} (h : w.ownsRow b e sz v m xs) : ∃ a c, v = .slice a m c := by
  rcases h.2 with ⟨rfl, rfl⟩ | ⟨g, cap, cur, rfl, _⟩
  · exact ⟨_, _, rfl⟩
  · exact ⟨_, _, rfl⟩
theorem info_builder : (Tryz.prog.info? 82).map (·.size) = some 2 := by kernel_rfl
theorem lies_builder : liesAt Tryz.prog Tryz.prog.depth 82 (2 / Tryz.prog.cellsOf 82) 0 82 1 = true := by kernel_rfl

set_option maxHeartbeats 1000000 in
set_option maxRecDepth 100000 in
theorem check_used (b : Nat) (w : World) (h0 : w.cell? ⟨b, 0, none⟩ = some (.pointer (some ⟨b, 0, none⟩))) :
    Calls Tryz.prog 73 #[.pointer (some ⟨b, 0, none⟩)] w fun e w' => e = .returned (.tuple #[]) ∧ w' = w := by
  obtain ⟨j, hj, _⟩ := Option.map_eq_some_iff.1 info_builder
  go_enter Tryz.func73, Tryz.ntmps73
  go_wp2
  rw [Lib.run_neq_ptr_same w _ Tryz.underlying80 hj]
  go_wp2
  go_end0
  exact ⟨rfl, rfl⟩

set_option maxHeartbeats 1000000 in
set_option maxRecDepth 100000 in
theorem check_fresh (b : Nat) (w : World) (h0 : w.cell? ⟨b, 0, none⟩ = some (.pointer none)) (hsh : w.shape? b = some (82, 2)) (hfz : w.frozen? ⟨b, 0, none⟩ = false) :
    Calls Tryz.prog 73 #[.pointer (some ⟨b, 0, none⟩)] w fun e w' => e = .returned (.tuple #[]) ∧ w' = w.setCell ⟨b, 0, none⟩ (.pointer (some ⟨b, 0, none⟩)) := by
  obtain ⟨j, hj, hjs⟩ := Option.map_eq_some_iff.1 info_builder
  go_enter Tryz.func73, Tryz.ntmps73
  go_wp2
  rw [Lib.run_to_unsafe w ⟨b, 0, none⟩ Tryz.underlying80 Tryz.underlying121 hj (by rw [hjs]; decide) hsh (Nat.zero_lt_succ 1)]
  simp only [Result.andThen]
  rw [Oper.upon_value]
  go_wp2
  rw [run_callFunc_extern Tryz.func88 (by kernel_rfl) (by kernel_rfl) (by kernel_rfl) (e := Extern.AbiNoEscape.same) (by kernel_rfl)]
  rw [Lib.run_noEscape]
  simp only [Result.andThen]
  rw [Oper.upon_value]
  go_wp2
  rw [Lib.run_from_unsafe w ⟨b, 0, none⟩ Tryz.underlying121 Tryz.underlying80 hj hsh lies_builder]
  simp only [Result.andThen]
  rw [Oper.upon_value]
  go_wp2
  go_end0
  exact ⟨rfl, rfl⟩

theorem check_any (B b : Nat) (bs : List Value) (w : World) (h : Lib.IsBuilder 82 5 B b bs w) :
    Calls Tryz.prog 73 #[.pointer (some ⟨b, 0, none⟩)] w fun e w' => e = .returned (.tuple #[]) ∧ Lib.BuilderAt 82 5 B b (.pointer (some ⟨b, 0, none⟩)) bs w' ∧ Below B w w' ∧ ∀ k, k ≠ b → w'.heap[k]? = w.heap[k]? := by
  rcases h with h | h
  · refine (check_fresh b w h.cell0 h.shape h.frozen0).mono ?_
    rintro e w' ⟨rfl, rfl⟩
    exact ⟨rfl, h.used _, (Below.refl B w).setCell (p := ⟨b, 0, none⟩) h.1 _, fun k hk => Below.heap_setCell _ _ _ _ hk⟩
  · refine (check_used b w h.cell0).mono ?_
    rintro e w' ⟨rfl, rfl⟩
    exact ⟨rfl, h, Below.refl B _, fun _ _ => rfl⟩

theorem builder_kept {B b m : Nat} {q : Value} {bs : List Value} {w w' : World} (h : Lib.BuilderAt 82 5 B b q bs w) (hb : Below m w w') (hm : w.heap.size ≤ m) : Lib.BuilderAt 82 5 B b q bs w' := by
  obtain ⟨h1, v, h2, h3, h4⟩ := h
  have hlt := (Array.getElem?_eq_some_iff.1 h2).1
  refine ⟨h1, v, (hb.block b (by omega)).trans h2, ?_, h4⟩
  refine ⟨h3.1, ?_⟩
  rcases h3.2 with h' | ⟨g, cap, cur, rfl, hg, hgg, rest⟩
  · exact .inl h'
  · exact .inr ⟨g, cap, cur, rfl, hg, (hb.block g (by have := (Array.getElem?_eq_some_iff.1 hgg).1; omega)).trans hgg, rest⟩
theorem isBuilder_kept {B b m : Nat} {bs : List Value} {w w' : World} (h : Lib.IsBuilder 82 5 B b bs w) (hb : Below m w w') (hm : w.heap.size ≤ m) : Lib.IsBuilder 82 5 B b bs w' :=
  h.imp (fun h => builder_kept h hb hm) (fun h => builder_kept h hb hm)

theorem add_block (ad : Addr) (j : Nat) : (ad.add j).block = ad.block := by unfold Addr.add; split <;> rfl
theorem Src.same {w w' : World} {a : Option Addr} {n c : Nat} {l : List UInt8} (h : Src w a n c l) (hk : ∀ ad, a = some ad → w'.heap[ad.block]? = w.heap[ad.block]?) : Src w' a n c l := by
  refine ⟨h.len, h.nul, fun ad ha j u hu => ?_⟩
  have e : w'.heap[(ad.add j).block]? = w.heap[(ad.add j).block]? := by rw [add_block]; exact hk ad ha
  exact (World.cell?_of_block (a := ad.add j) e).trans (h.cell ad ha j u hu)

set_option maxHeartbeats 2000000 in
set_option maxRecDepth 100000 in
theorem bwrite_any (B b : Nat) (l t : List UInt8) (a : Option Addr) (n c : Nat) (w : World) (h : Lib.IsBuilder 82 5 B b (Lib.byteCells l) w) (hBw : B ≤ w.heap.size) (hs : Src w a n c t) (hab : ∀ ad, a = some ad → ad.block ≠ b) (hsz : l.length + n ≤ 140737488355328) :
    Calls Tryz.prog 53 #[.pointer (some ⟨b, 0, none⟩), .slice a n c] w fun e w' => (∃ r, e = .returned r) ∧ Lib.IsBuilder 82 5 B b (Lib.byteCells (l ++ t)) w' ∧ Below B w w' := by
  have hc := check_any B b (Lib.byteCells l) w h
  have HC := Lib.hid hc
  have HS := Lib.hid hs
  clear hc hs
  go_enter Tryz.func53, Tryz.ntmps53
  go_upto_region 2 with (go_at_call 73; refine HC.out.mono ?_; rintro e w1 ⟨rfl, hA, hb1, hoth⟩)
  obtain ⟨hB, v, hbk, hown, hne⟩ := id hA
  rw [Lib.byteCells_length] at hown
  have c1 : w1.cell? ⟨b, 1, none⟩ = some v := by rw [Lib.cell_of_heap hbk]; rfl
  have src := HS.out.same (w' := w1) (fun ad ha => hoth ad.block (hab ad ha))
  have hlt : b < w1.heap.size := (Array.getElem?_eq_some_iff.1 hbk).1
  go_wp2_with (at_builtin; refine wpList_append_src _ rfl _ _ rfl B v l.length l rfl hown a n c t rfl src hsz (Nat.le_trans hBw hb1.size) ?_; intro v2 w2 hown2 hg; obtain ⟨a2, c2, rfl⟩ := bform hown2; have hb2 : w2.heap[b]? = some (.cells #[.pointer (some ⟨b, 0, none⟩), v] 82 (0, 0)) := (hg.block b hlt (fun e => hne e.symm)).trans hbk; have d1 : w2.cell? ⟨b, 1, none⟩ = some v := (by rw [Lib.cell_of_heap hb2]; rfl); have f1 : w2.frozen? ⟨b, 1, none⟩ = false := Lib.frozen_of_heap hb2 1)
  go_ret2
  have hlen : l.length + n = (Lib.byteCells (l ++ t)).length := by rw [Lib.byteCells_length, List.length_append, src.len]
  have hown3 : w2.ownsRow B 5 1 (.slice a2 (l.length + n) c2) (Lib.byteCells (l ++ t)).length (Lib.byteCells (l ++ t)) := by rw [← hlen]; exact hown2
  exact ⟨⟨_, rfl⟩, .inr (Lib.BuilderAt.put (T := 82) (e := 5) hB hb2 (bs' := Lib.byteCells (l ++ t)) hown3 (by decide)), (hb1.grown hg (Nat.le_trans hBw hb1.size) (fun k hk => (hown.lt k hk).1)).setCell (p := ⟨b, 1, none⟩) hB _⟩

abbrev Rec0 := List UInt8
/-- What frames answers. -/
def FrEnd (ls : List Rec0) (w : World) (r : Ending) (w' : World) : Prop :=
  Below w.heap.size w w' ∧ ((Fit ls ∧ r = .returned (.tuple #[.string (B (rowL ls)), .int .i64 0])) ∨ (¬ Fit ls ∧ r = .returned (.tuple #[.string (B []), .int .i64 6])))

theorem frame_most {x : List UInt8} (h : x.length ≤ 65536) : (frameL x).length ≤ 65600 := by
  rw [frameL_length, enc_length]
  have h9 : nb x.length ≤ 8 := nb_le8 (by omega)
  omega
theorem fit_take {ls : List Rec0} {k : Nat} (hk : k < ls.length) : Fit (ls.take (k + 1)) ↔ Fit (ls.take k) ∧ 1 ≤ ls[k].length ∧ ls[k].length ≤ 65536 := by
  rw [List.take_succ_eq_append_getElem hk]
  constructor
  · exact fun h => ⟨h.left, h.right ls[k] (by simp)⟩
  · exact fun h => h.1.append (fun x hx => by
      obtain rfl : x = ls[k] := by simpa using hx
      exact h.2)

set_option maxRecDepth 100000 in
set_option maxHeartbeats 4000000 in
theorem lframes_any {w : World} {a : Option Addr} {n c : Nat} {ls : List Rec0} (h : Txt w a n ls) (hn : n ≤ 1000) :
    Calls Tryz.prog 30 #[.slice a n c] w fun r w' => FrEnd ls w r w' := by
  have hl := h.len
  obtain ⟨W0, hW0⟩ : ∃ W0, w.alloc (.cells #[.pointer none, .slice none 0 0] 82) = W0 := ⟨_, rfl⟩
  have hb0 : Below w.heap.size w W0 := by rw [← hW0]; exact (Below.refl _ w).alloc (Nat.le_refl _) _
  have s0 : W0.heap.size = w.heap.size + 1 := by rw [← hW0]; simp
  have hB0 : Lib.IsBuilder 82 5 w.heap.size w.heap.size (Lib.byteCells (rowL (ls.take 0))) W0 := by
    rw [← hW0]
    exact .inl ⟨Nat.le_refl _, .slice none 0 0, heap_alloc_new w _, World.ownsRow_nil _ _ _ _, by simp [Value.ownBlock]⟩
  have HB0 := Lib.hid hB0
  have HT := Lib.hid h
  clear hB0 h
  go_enter Tryz.func30, Tryz.ntmps30
  go_wp2
  go_loopw [11] (fun i wr => ∃ k : Nat, k ≤ n ∧ i = .int .i64 k ∧ Fit (ls.take k) ∧ (rowL (ls.take k)).length ≤ k * 65600 ∧ Lib.IsBuilder 82 5 w.heap.size w.heap.size (Lib.byteCells (rowL (ls.take k))) wr ∧ Below w.heap.size w wr ∧ w.heap.size ≤ wr.heap.size) (fun i _ => n - (intOf i).toNat)
  case atStart => exact ⟨0, Nat.zero_le _, rfl, Fit.nil, Nat.zero_le _, HB0.out, hb0, hb0.size⟩
  case round =>
    obtain ⟨k, hk, rfl, hfit, hlen, hbu, hb, hsz⟩ := hrel
    have hszl : w.heap.size < wr.heap.size := by
      have h1 : ∃ q, Lib.BuilderAt 82 5 w.heap.size w.heap.size q (Lib.byteCells (rowL (ls.take k))) wr := by
        rcases hbu with h | h
        · exact ⟨_, h⟩
        · exact ⟨_, h⟩
      obtain ⟨q, _, v, h2, _⟩ := h1
      exact (Array.getElem?_eq_some_iff.1 h2).1
    by_cases hlt : k < n
    · have hltI : (k : Int) < (n : Int) := by omega
      obtain ⟨tb, off, rfl, hc⟩ := HT.out.cell k (by omega)
      have hc1 := (hb.cell (p := ⟨tb, off + k, none⟩) (World.block_lt_of_cell? w _ hc)).trans hc
      have hft := fit_take (ls := ls) (k := k) (by omega)
      have hrow : rowL (ls.take (k + 1)) = rowL (ls.take k) ++ frameL (ls[k]'(by omega)) := rowL_take (by omega)
      generalize ls[k]'(by omega) = x at hc hc1 hft hrow
      clear hc
      have HBU := Lib.hid hbu
      clear hbu
      by_cases hx : 1 ≤ x.length ∧ x.length ≤ 65536
      · have hp := put_ok none 0 0 [] x wr (Src.nil wr) (by decide) (fun e => by rw [e] at hx; simp at hx) hx.2
        simp only [List.nil_append] at hp
        have hw := fun (w1 : World) (g n' c' : Nat) (b1 : Below wr.heap.size wr w1) (ho : Own w1 wr.heap.size g n' c' (frameL x)) => bwrite_any w.heap.size w.heap.size (rowL (ls.take k)) (frameL x) (some ⟨g, 0, none⟩) n' c' w1 (isBuilder_kept HBU.out b1 (Nat.le_refl _)) (Nat.le_trans hsz b1.size) (Src.of_own ho) (fun ad ha => by cases ha; have h9 : wr.heap.size ≤ g := (ho.lt g rfl).1; show g ≠ w.heap.size; omega) (by have := ho.len; have := frame_most hx.2; omega)
        have HP := Lib.hid hp
        have HW := Lib.hid hw
        clear hp hw
        go_wp2_with (first
          | (go_at_call 52; refine HP.out.mono ?_; rintro r w1 ⟨g, n', c', rfl, ho, b1⟩)
          | (go_at_call 53; refine (HW.out _ g n' c' b1 ho).mono ?_; rintro r w2 ⟨⟨v2, rfl⟩, hbu2, b2⟩))
        go_roundw
        case rel => exact ⟨k + 1, by omega, by go_num, hft.2 ⟨hfit, hx⟩, by rw [hrow, List.length_append]; have := frame_most hx.2; omega, by rw [hrow]; exact hbu2, (hb.trans (b1.mono hsz)).trans b2, Nat.le_trans hsz (Nat.le_trans b1.size b2.size)⟩
        case measure => simp [intOf]; omega
      · have hnf : ¬ Fit ls := fun hf => hx (hft.1 (fun y hy => hf y (List.mem_of_mem_take hy))).2
        have hp := put_long none 0 0 [] x wr (Src.nil wr) (by decide) (by
          by_cases h0 : x = []
          · exact .inl h0
          · right
            have : 1 ≤ x.length := List.length_pos_iff.2 h0
            omega)
        have HP := Lib.hid hp
        clear hp
        go_wp2_with (go_at_call 52; refine HP.out.mono ?_; rintro r w1 ⟨g, c', rfl, ho, b1⟩)
        go_ret2
        exact ⟨hb.trans (b1.mono hsz), .inr ⟨hnf, rfl⟩⟩
    · obtain rfl : k = n := by omega
      have hltI : ¬ (k : Int) < (k : Int) := by omega
      rw [List.take_of_length_le (by omega)] at hfit hlen hbu
      have hst := fun X (hB : Lib.IsBuilder 82 5 w.heap.size w.heap.size (Lib.byteCells (rowL ls)) X) (h2 : w.heap.size ≤ X.heap.size) => sh_Builder_String_any w.heap.size w.heap.size (rowL ls) X hB h2
      have HS := Lib.hid hst
      have HBU := Lib.hid hbu
      clear hst hbu
      go_wp2_with (go_at_call 54; refine (HS.out _ HBU.out hsz).mono ?_; rintro r w1 ⟨rfl, b1⟩)
      go_ret2
      exact ⟨hb.trans b1, .inl ⟨hfit, rfl⟩⟩

end Go.Proofs.YtjidadolfpjdeaaGreatDoor
