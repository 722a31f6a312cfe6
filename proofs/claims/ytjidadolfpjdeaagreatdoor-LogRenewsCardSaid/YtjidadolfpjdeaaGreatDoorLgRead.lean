/-
  Package log's read over this translation: the records of segments, or that they are spoilt.
-/
import Derived.Test.YtjidadolfpjdeaaGreatDoorMk
import Derived.Test.YtjidadolfpjdeaaGreatDoorRegion
import Derived.Deep.QuietTactic
import Derived.BigQuiet
namespace Go.Proofs.YtjidadolfpjdeaaGreatDoor
open Go.RowKit
set_option linter.unusedVariables false

theorem segV_cell : ∀ (l : List (Nat × PF)) (j k : Nat) (hj : j < l.length) (hk : k < 4), (segV l)[j * 4 + k]? = (segCells l[j])[k]?
  | f :: r, 0, k, _, hk => by
    unfold segV
    rw [List.flatMap_cons, List.getElem?_append_left (by simp [segCells]; omega)]
    simp
  | f :: r, j + 1, k, hj, hk => by
    have ih := segV_cell r j k (by simpa using hj) hk
    unfold segV at ih ⊢
    rw [List.flatMap_cons, List.getElem?_append_right (by simp [segCells]; omega)]
    have : (j + 1) * 4 + k - (segCells f).length = j * 4 + k := by simp [segCells]; omega
    rw [this, ih]
    simp

theorem le_sumN {n : Nat} : ∀ {l : List Nat}, n ∈ l → n ≤ l.sum
  | [], h => by cases h
  | a :: r, h => by
    rw [List.sum_cons]
    rcases List.mem_cons.1 h with rfl | h
    · omega
    · have := le_sumN h; omega
/-- Segments up to one are as Open asks. -/
def okTo (l : List (Nat × PF)) (k : Nat) : Prop := ∀ i (h : i < l.length), i < k → l[i].1 = (l[0]'(by omega)).1 + i ∧ goodSeg l[i].2 = true ∧ (i + 1 < l.length → l[i].2.bytes.length ≤ l[i].2.synced)
theorem okTo_all {l : List (Nat × PF)} : okTo l l.length ↔ okSegs l := ⟨fun h i hi => h i hi hi, fun h i hi _ => h i hi⟩
theorem okTo_next {l : List (Nat × PF)} {k : Nat} (hk : k < l.length) : okTo l (k + 1) ↔ okTo l k ∧ l[k].1 = (l[0]'(by omega)).1 + k ∧ goodSeg l[k].2 = true ∧ (k + 1 < l.length → l[k].2.bytes.length ≤ l[k].2.synced) := by
  constructor
  · exact fun h => ⟨fun i hi hik => h i hi (by omega), h k hk (by omega)⟩
  · intro ⟨h, h2⟩ i hi hik
    rcases Nat.lt_or_ge i k with h' | h'
    · exact h i hi h'
    · obtain rfl : i = k := by omega
      exact h2
def wholeOf (l : List (Nat × PF)) (k : Nat) : Nat := match k with
  | 0 => 0
  | k + 1 => match l[k]? with
    | none => 0
    | some x => (splitL x.2.bytes 0).2.1
def totS (l : List (Nat × PF)) : Nat := (l.map fun x => x.2.bytes.length).sum
theorem sizes_ge : ∀ ls : List (List UInt8), 9 * ls.length ≤ sizes ls
  | [] => Nat.zero_le _
  | x :: r => by
    have h1 := sizes_ge r
    have h2 := frame_pos x
    rw [sizes, List.length_cons]
    omega
theorem split_few (s : List UInt8) : 9 * (splitL s 0).1.length ≤ s.length := by
  have h1 := split_end s s.length 0 (by omega)
  have h2 := split_le s s.length 0 (by omega) (by omega)
  have h3 := sizes_ge (splitL s 0).1
  omega
theorem recs_few : ∀ l : List (Nat × PF), 9 * (recsOf l).length ≤ totS l
  | [] => Nat.zero_le _
  | x :: r => by
    have h1 := recs_few r
    have h2 := split_few x.2.bytes
    unfold recsOf totS at h1 ⊢
    rw [List.flatMap_cons, List.length_append, List.map_cons, List.sum_cons]
    omega
theorem totS_take (l : List (Nat × PF)) (k : Nat) : totS (l.take k) ≤ totS l := by
  conv => rhs; rw [← List.take_append_drop k l]
  unfold totS
  rw [List.map_append, List.sum_append]
  omega

/-- What the test of a segment reads. -/
def RdS (n q : Nat) (num num0 : Nat) (f : PF) (w : World) : Prop :=
  w.cell? ⟨n, 3, none⟩ = some (.int .i64 num) ∧ w.cell? ⟨q, 3, none⟩ = some (.int .i64 num0) ∧ w.cell? ⟨n, 2, none⟩ = some (.int .i64 f.synced) ∧ w.cell? ⟨n, 1, none⟩ = some (.string (B f.bytes))

theorem RdS.lt {n q num num0 : Nat} {f : PF} {w : World} (h : RdS n q num num0 f w) : n < w.heap.size ∧ q < w.heap.size := ⟨World.block_lt_of_cell? _ _ h.1, World.block_lt_of_cell? _ _ h.2.1⟩
theorem RdS.same {n q num num0 : Nat} {f : PF} {w w' : World} (h : RdS n q num num0 f w) (h1 : w'.heap[n]? = w.heap[n]?) (h2 : w'.heap[q]? = w.heap[q]?) : RdS n q num num0 f w' :=
  ⟨(World.cell?_of_block (a := ⟨n, 3, none⟩) h1).trans h.1, (World.cell?_of_block (a := ⟨q, 3, none⟩) h2).trans h.2.1, (World.cell?_of_block (a := ⟨n, 2, none⟩) h1).trans h.2.2.1, (World.cell?_of_block (a := ⟨n, 1, none⟩) h1).trans h.2.2.2⟩
theorem RdS.below {n q num num0 : Nat} {f : PF} {w w' : World} (h : RdS n q num num0 f w) (hb : Below w.heap.size w w') : RdS n q num num0 f w' := h.same (hb.block n h.lt.1) (hb.block q h.lt.2)
theorem row_nil {w : World} {b n m : Nat} {a : Option Addr} {c : Nat} {xs : List Value} {t : TypeId} {sz : Nat} (h : w.ownsRow b t sz (.slice a n c) m xs) : a = none → c = 0 := by
  intro ha
  rcases h.2 with ⟨e, _⟩ | ⟨g, cap, cur, e, _⟩
  · cases e; rfl
  · subst ha; cases e
theorem row_apart {w w' : World} {b m m' : Nat} {v v' : Value} {xs xs' : List Value} {t t' : TypeId} {sz sz' : Nat} (h : w.ownsRow b t sz v m xs) (h' : w'.ownsRow w.heap.size t' sz' v' m' xs') : v'.ownBlock = none ∨ v'.ownBlock ≠ v.ownBlock := by
  cases hv : v'.ownBlock with
  | none => exact .inl rfl
  | some k =>
    refine .inr fun e => ?_
    have h1 := (h'.lt k hv).1
    have h2 := (h.lt k e.symm).2
    omega
/-- A block of cells of another type is no row's. -/
theorem row_other {w : World} {b m k : Nat} {v : Value} {xs : List Value} {t t' : TypeId} {sz : Nat} {cs : Array Value} {fr : Nat × Nat} (h : w.ownsRow b t sz v m xs) (hk : w.heap[k]? = some (.cells cs t' fr)) (hne : t' ≠ t) : some k ≠ v.ownBlock := by
  rcases h.2 with ⟨rfl, _⟩ | ⟨g, cap, cur, rfl, _, hg, _⟩
  · simp [Value.ownBlock]
  · intro e
    obtain rfl : k = g := by simpa [Value.ownBlock] using e
    rw [hg] at hk
    simp at hk
    exact hne hk.2.1.symm

/-- The box of a segment. -/
def SegB (n num : Nat) (f : PF) (w : World) : Prop := w.heap[n]? = some (.cells #[.string (B f.name), .string (B f.bytes), .int .i64 f.synced, .int .i64 num] 54 (0, 0))
theorem SegB.lt {n num : Nat} {f : PF} {w : World} (h : SegB n num f w) : n < w.heap.size := (Array.getElem?_eq_some_iff.1 h).1
theorem SegB.below {n num : Nat} {f : PF} {w w' : World} (h : SegB n num f w) (hb : Below w.heap.size w w') : SegB n num f w' := (hb.block n h.lt).trans h
theorem SegB.grown {n num : Nat} {f : PF} {w w' : World} {b m : Nat} {v : Value} {xs : List Value} {sz : Nat} (h : SegB n num f w) (ho : w.ownsRow b 9 sz v m xs) (hg : w.grownBy w' v.ownBlock) : SegB n num f w' :=
  (hg.block n h.lt (row_other ho h (by decide))).trans h
theorem SegB.cell {n num : Nat} {f : PF} {w : World} (h : SegB n num f w) : w.cell? ⟨n, 2, none⟩ = some (.int .i64 f.synced) := by rw [cell_of_row w n 2 _ _ _ h]; rfl

/-- What read answers. -/
def ReadEnd (l : List (Nat × PF)) (w : World) (r : Ending) (w' : World) : Prop :=
  ∃ a c, Below w.heap.size w w' ∧
      ((okSegs l ∧ r = .returned (.tuple #[.slice a (recsOf l).length c, .int .i64 (wholeOf l l.length), .bool true]) ∧ w'.ownsRow w.heap.size 9 1 (.slice a (recsOf l).length c) (recsOf l).length (strV (recsOf l))) ∨
       (¬ okSegs l ∧ r = .returned (.tuple #[.slice none 0 0, .int .i64 0, .bool false])))
theorem bad_end {l : List (Nat × PF)} {w w' : World} (hb : Below w.heap.size w w') (hp : ¬ okSegs l) : ReadEnd l w (.returned (.tuple #[.slice none 0 0, .int .i64 0, .bool false])) w' := ⟨none, 0, hb, .inr ⟨hp, rfl⟩⟩

set_option maxRecDepth 100000 in
set_option maxHeartbeats 8000000 in
theorem read_any {w : World} {b : Nat} {v : Value} {l : List (Nat × PF)} (h : w.ownsRow b 54 4 v l.length (segV l)) (hn : l.length ≤ 1000) (hnum : ∀ x ∈ l, x.1 ≤ 99999999) (hsy : ∀ x ∈ l, x.2.synced ≤ x.2.bytes.length) (ht : totS l ≤ 4194304) :
    Calls Tryz.prog 26 #[v] w fun r w' => ReadEnd l w r w' := by
  obtain ⟨av, cv, rfl⟩ := row_form h
  go_enter Tryz.func26, Tryz.ntmps26
  go_wp2_with fail
  go_loopw [5, 6, 17] (fun v x i wr => ∃ k : Nat, k ≤ l.length ∧ i = .int .i64 k ∧ okTo l k ∧ x = .int .i64 (wholeOf l k) ∧ (∃ a c, v = .slice a (recsOf (l.take k)).length c) ∧ wr.ownsRow w.heap.size 9 1 v (recsOf (l.take k)).length (strV (recsOf (l.take k))) ∧ Below w.heap.size w wr) (fun _ _ i _ => l.length - (intOf i).toNat)
  case atStart => exact ⟨0, Nat.zero_le _, rfl, fun i _ hi => by omega, rfl, ⟨none, 0, rfl⟩, World.ownsRow_nil _ _ _ _, Below.refl _ _⟩
  case round =>
    obtain ⟨k, hk, rfl, hok, rfl, ⟨a, c, rfl⟩, hown, hb⟩ := hrel
    by_cases hlt : k < l.length
    · obtain ⟨q, c', hv, hq1, hq2, _, _, hcells⟩ := row_at h (by omega)
      obtain ⟨rfl, rfl⟩ : av = some ⟨q, 0, none⟩ ∧ cv = c' := by simpa using hv
      have cell : ∀ i j, i < l.length → j < 4 → (hi : i < l.length) → wr.cell? ⟨q, i * 4 + j, none⟩ = (segCells l[i])[j]? := by
        intro i j hi hj _
        rw [hb.cell (show q < w.heap.size from hq2), hcells _ (by omega), segV_cell l i j hi hj]
      have k0 := cell k 0 hlt (by decide) hlt
      have k1 := cell k 1 hlt (by decide) hlt
      have k2 := cell k 2 hlt (by decide) hlt
      have k3 := cell k 3 hlt (by decide) hlt
      have z3 := cell 0 3 (by omega) (by decide) (by omega)
      simp only [segCells, List.getElem?_cons_zero, List.getElem?_cons_succ, Nat.add_zero] at k0 k1 k2 k3 z3
      rw [show 0 * 4 + 3 = 3 from rfl] at z3
      have z3o : ∀ o, (wr.alloc o).cell? ⟨q, 3, none⟩ = wr.cell? ⟨q, 3, none⟩ := fun o => ((Below.refl _ wr).alloc (Nat.le_refl _) o).cell (p := ⟨q, 3, none⟩) (Nat.lt_of_lt_of_le hq2 hb.size)
      rw [z3] at z3o
      have hpos : (0 : Int) < (l.length : Int) := by omega
      have hpos2 : 0 < l.length := by omega
      have hpos3 : l ≠ [] := List.length_pos_iff.1 hpos2
      have hpos4 : (l = []) = False := eq_false hpos3
      have hltI : (k : Int) < (l.length : Int) := by omega
      have hn1 := hnum l[k] (List.getElem_mem hlt)
      have hn0 := hnum (l[0]'(by omega)) (List.getElem_mem (by omega))
      have hs1 := hsy l[k] (List.getElem_mem hlt)
      have hrec : recsOf (l.take (k + 1)) = recsOf (l.take k) ++ (splitL l[k].2.bytes 0).1 := by
        rw [List.take_succ_eq_append_getElem hlt]
        unfold recsOf
        rw [List.flatMap_append]
        simp
      have hwh : wholeOf l (k + 1) = (splitL l[k].2.bytes 0).2.1 := by unfold wholeOf; simp [hlt]
      have hokn := okTo_next hlt
      have hr1 := recs_few (l.take (k + 1))
      have hr2 := totS_take l (k + 1)
      rw [hrec, List.length_append] at hr1
      have hbl : l[k].2.bytes.length ≤ totS l := by
        have : ∀ (l : List (Nat × PF)) (x : Nat × PF), x ∈ l → x.2.bytes.length ≤ totS l := by
          intro l x hx
          unfold totS
          exact le_sumN (List.mem_map_of_mem (f := fun x : Nat × PF => x.2.bytes.length) hx)
        exact this l _ (List.getElem_mem hlt)
      clear cell hcells
      generalize l[k] = s at k0 k1 k2 k3 hn1 hs1 hrec hwh hokn hr1 hbl
      generalize l[0] = s0 at z3 z3o hn0 hokn
      obtain ⟨num, f⟩ := s
      obtain ⟨num0, f0⟩ := s0
      simp only at k0 k1 k2 k3 hn1 hs1 hrec hwh hokn hr1 hbl z3 z3o hn0
      have hwr : IntKind.i64.wrap ((num0 : Int) + k) = (num0 : Int) + k := by rw [IntKind.wrap_i64]; omega
      have hwr2 : IntKind.i64.wrap ((l.length : Int) - 1) = (l.length : Int) - 1 := by rw [IntKind.wrap_i64]; omega
      have hS0 : RdS wr.heap.size q num num0 f ((wr.alloc (.cells #[.string (B f.name), .string (B f.bytes), .int .i64 f.synced, .int .i64 num] 54)).drew) := by
        have hh := heap_alloc_new wr (.cells #[.string (B f.name), .string (B f.bytes), .int .i64 f.synced, .int .i64 num] 54)
        refine ⟨?_, z3o _, ?_, ?_⟩
        · show (wr.alloc _).cell? _ = _
          rw [cell_of_row _ wr.heap.size 3 _ _ _ hh]; rfl
        · show (wr.alloc _).cell? _ = _
          rw [cell_of_row _ wr.heap.size 2 _ _ _ hh]; rfl
        · show (wr.alloc _).cell? _ = _
          rw [cell_of_row _ wr.heap.size 1 _ _ _ hh]; rfl
      have b0 : Below w.heap.size w ((wr.alloc (.cells #[.string (B f.name), .string (B f.bytes), .int .i64 f.synced, .int .i64 num] 54)).drew) := (hb.alloc hb.size _).drew
      have h1 := fun X => split_any (f.bytes.take f.synced) X (by rw [List.length_take]; omega)
      have h2 := fun X => split_any (f.bytes.drop f.synced) X (by rw [List.length_drop]; omega)
      have hex1 : (B f.bytes).extract 0 f.synced = B (f.bytes.take f.synced) := B_take _ _
      have hex2 : (B f.bytes).extract f.synced f.bytes.length = B (f.bytes.drop f.synced) := by rw [B_extract, List.take_of_length_le (by simp)]
      have hs1I : (f.synced : Int) ≤ (f.bytes.length : Int) := by omega
      have hown0 : ((wr.alloc (.cells #[.string (B f.name), .string (B f.bytes), .int .i64 f.synced, .int .i64 num] 54)).drew).ownsRow w.heap.size 9 1 (.slice a (recsOf (l.take k)).length c) (recsOf (l.take k)).length (strV (recsOf (l.take k))) := (hown.alloc _)
      have H1 := Lib.hid h1
      have H2 := Lib.hid h2
      have HS0 := Lib.hid hS0
      have OWN0 := Lib.hid hown0
      have N0 := Lib.hid (show SegB wr.heap.size num f ((wr.alloc (.cells #[.string (B f.name), .string (B f.bytes), .int .i64 f.synced, .int .i64 num] 54)).drew) from heap_alloc_new wr _)
      clear h1 h2 hown0
      by_cases c1 : num = num0 + k
      · have C1 := Lib.hid c1
        have c2' : ((num : Int) != (num0 : Int) + k) = false := by
          have c1' : ((num : Int) = (num0 : Int) + k) := by omega
          simpa using c1'
        clear c1
        by_cases c3 : k + 1 < l.length
        · have c3' : (k : Int) < (l.length : Int) - 1 := by omega
          have d3' : decide ((k : Int) < (l.length : Int) - 1) = true := decide_eq_true c3'
          by_cases c4 : f.synced < f.bytes.length
          · have c4' : (f.synced : Int) < (f.bytes.length : Int) := by omega
            have d4' : decide ((f.synced : Int) < (f.bytes.length : Int)) = true := decide_eq_true c4'
            go_upto_region 6 with fail
            refine wp_region_held_drew (S := RdS wr.heap.size q num num0 f) (by kernel_rfl) hS0 (fun hHeld => ?_)
            refine take_run (i := 0) (v := ?_) rfl (by kernel_rfl) (by kernel_rfl) (by kernel_rfl) (fun _ _ _ h => h) (by kernel_rfl) ?_ (by assumption) ?_
            rotate_left
            · (intro w5 hSw; obtain ⟨s1, s2, s3, s4⟩ := hSw; go_simp); all_goals with_reducible rfl
            try simp only [Act.put, List.setIfInBounds_toArray, List.set_cons_zero, List.set_cons_succ]
            refine take_run (i := 1) (v := ?_) rfl (by kernel_rfl) (by kernel_rfl) (by kernel_rfl) (fun _ _ _ h => h) (by kernel_rfl) ?_ (by assumption) ?_
            rotate_left
            · (intro w5 hSw; obtain ⟨s1, s2, s3, s4⟩ := hSw; go_simp); all_goals with_reducible rfl
            try simp only [Act.put, List.setIfInBounds_toArray, List.set_cons_zero, List.set_cons_succ]
            refine take_run (i := 2) (v := ?_) rfl (by kernel_rfl) (by kernel_rfl) (by kernel_rfl) (fun _ _ _ h => h) (by kernel_rfl) ?_ (by assumption) ?_
            rotate_left
            · (intro w5 hSw; obtain ⟨s1, s2, s3, s4⟩ := hSw; go_simp); all_goals with_reducible rfl
            try simp only [Act.put, List.setIfInBounds_toArray, List.set_cons_zero, List.set_cons_succ]
            refine take_run (i := 3) (v := ?_) rfl (by kernel_rfl) (by kernel_rfl) (by kernel_rfl) (fun _ _ _ h => h) (by kernel_rfl) ?_ (by assumption) ?_
            rotate_left
            · (intro w5 hSw; obtain ⟨s1, s2, s3, s4⟩ := hSw; go_simp); all_goals with_reducible rfl
            try simp only [Act.put, List.setIfInBounds_toArray, List.set_cons_zero, List.set_cons_succ]
            refine take_run (i := 4) (v := ?_) rfl (by kernel_rfl) (by kernel_rfl) (by kernel_rfl) (fun _ _ _ h => h) (by kernel_rfl) ?_ (by assumption) ?_
            rotate_left
            · (intro w5 hSw; obtain ⟨s1, s2, s3, s4⟩ := hSw; go_simp); all_goals with_reducible rfl
            try simp only [Act.put, List.setIfInBounds_toArray, List.set_cons_zero, List.set_cons_succ]
            refine take_run (i := 5) (v := ?_) rfl (by kernel_rfl) (by kernel_rfl) (by kernel_rfl) (fun _ _ _ h => h) (by kernel_rfl) ?_ (by assumption) ?_
            rotate_left
            · (intro w5 hSw; obtain ⟨s1, s2, s3, s4⟩ := hSw; go_simp); all_goals with_reducible rfl
            try simp only [Act.put, List.setIfInBounds_toArray, List.set_cons_zero, List.set_cons_succ]
            refine take_run (i := 6) (v := ?_) rfl (by kernel_rfl) (by kernel_rfl) (by kernel_rfl) (fun _ _ _ h => h) (by kernel_rfl) ?_ (by assumption) ?_
            rotate_left
            · (intro w5 hSw; obtain ⟨s1, s2, s3, s4⟩ := hSw; go_simp); all_goals with_reducible rfl
            try simp only [Act.put, List.setIfInBounds_toArray, List.set_cons_zero, List.set_cons_succ]
            refine take_run (i := 7) (v := ?_) rfl (by kernel_rfl) (by kernel_rfl) (by kernel_rfl) (fun _ _ _ h => h) (by kernel_rfl) ?_ (by assumption) ?_
            rotate_left
            · (intro w5 hSw; obtain ⟨s1, s2, s3, s4⟩ := hSw; go_simp); all_goals with_reducible rfl
            try simp only [Act.put, List.setIfInBounds_toArray, List.set_cons_zero, List.set_cons_succ]
            refine take_run (i := 8) (v := ?_) rfl (by kernel_rfl) (by kernel_rfl) (by kernel_rfl) (fun _ _ _ h => h) (by kernel_rfl) ?_ (by assumption) ?_
            rotate_left
            · (intro w5 hSw; obtain ⟨s1, s2, s3, s4⟩ := hSw; go_simp); all_goals with_reducible rfl
            try simp only [Act.put, List.setIfInBounds_toArray, List.set_cons_zero, List.set_cons_succ]
            refine take_run (i := 9) (v := ?_) rfl (by kernel_rfl) (by kernel_rfl) (by kernel_rfl) (fun _ _ _ h => h) (by kernel_rfl) ?_ (by assumption) ?_
            rotate_left
            · (intro w5 hSw; obtain ⟨s1, s2, s3, s4⟩ := hSw; go_simp); all_goals with_reducible rfl
            try simp only [Act.put, List.setIfInBounds_toArray, List.set_cons_zero, List.set_cons_succ]
            refine take_run (i := 10) (v := ?_) rfl (by kernel_rfl) (by kernel_rfl) (by kernel_rfl) (fun _ _ _ h => h) (by kernel_rfl) ?_ (by assumption) ?_
            rotate_left
            · (intro w5 hSw; obtain ⟨s1, s2, s3, s4⟩ := hSw; go_simp); all_goals with_reducible rfl
            try simp only [Act.put, List.setIfInBounds_toArray, List.set_cons_zero, List.set_cons_succ]
            refine take_run (i := 11) (v := ?_) rfl (by kernel_rfl) (by kernel_rfl) (by kernel_rfl) (fun _ _ _ h => h) (by kernel_rfl) ?_ (by assumption) ?_
            rotate_left
            · (intro w5 hSw; obtain ⟨s1, s2, s3, s4⟩ := hSw; go_simp); all_goals with_reducible rfl
            try simp only [Act.put, List.setIfInBounds_toArray, List.set_cons_zero, List.set_cons_succ]
            refine take_run (i := 12) (v := ?_) rfl (by kernel_rfl) (by kernel_rfl) (by kernel_rfl) (fun _ _ _ h => h) (by kernel_rfl) ?_ (by assumption) ?_
            rotate_left
            · (intro w5 hSw; obtain ⟨s1, s2, s3, s4⟩ := hSw; go_simp); all_goals with_reducible rfl
            try simp only [Act.put, List.setIfInBounds_toArray, List.set_cons_zero, List.set_cons_succ]
            refine take_run (i := 13) (v := ?_) rfl (by kernel_rfl) (by kernel_rfl) (by kernel_rfl) (fun _ _ _ h => h) (by kernel_rfl) ?_ (by assumption) ?_
            rotate_left
            · (intro w5 hSw; obtain ⟨s1, s2, s3, s4⟩ := hSw; go_simp); all_goals with_reducible rfl
            try simp only [Act.put, List.setIfInBounds_toArray, List.set_cons_zero, List.set_cons_succ]
            refine take_run (i := 14) (v := ?_) rfl (by kernel_rfl) (by kernel_rfl) (by kernel_rfl) (fun _ _ _ h => h) (by kernel_rfl) ?_ (by assumption) ?_
            rotate_left
            · (intro w5 hSw; obtain ⟨s1, s2, s3, s4⟩ := hSw; go_simp); all_goals with_reducible rfl
            try simp only [Act.put, List.setIfInBounds_toArray, List.set_cons_zero, List.set_cons_succ]
            refine take_run (i := 15) (v := ?_) rfl (by kernel_rfl) (by kernel_rfl) (by kernel_rfl) (fun _ _ _ h => h) (by kernel_rfl) ?_ (by assumption) ?_
            rotate_left
            · (intro w5 hSw; obtain ⟨s1, s2, s3, s4⟩ := hSw; go_simp); all_goals with_reducible rfl
            try simp only [Act.put, List.setIfInBounds_toArray, List.set_cons_zero, List.set_cons_succ]
            refine take_run (i := 16) (v := ?_) rfl (by kernel_rfl) (by kernel_rfl) (by kernel_rfl) (fun _ _ _ h => h) (by kernel_rfl) ?_ (by assumption) ?_
            rotate_left
            · (intro w5 hSw; obtain ⟨s1, s2, s3, s4⟩ := hSw; go_simp); all_goals with_reducible rfl
            try simp only [Act.put, List.setIfInBounds_toArray, List.set_cons_zero, List.set_cons_succ]
            refine take_run (i := 17) (v := ?_) rfl (by kernel_rfl) (by kernel_rfl) (by kernel_rfl) (fun _ _ _ h => h) (by kernel_rfl) ?_ (by assumption) ?_
            rotate_left
            · (intro w5 hSw; obtain ⟨s1, s2, s3, s4⟩ := hSw; go_simp); all_goals with_reducible rfl
            try simp only [Act.put, List.setIfInBounds_toArray, List.set_cons_zero, List.set_cons_succ]
            refine take_run (i := 18) (v := ?_) rfl (by kernel_rfl) (by kernel_rfl) (by kernel_rfl) (fun _ _ _ h => h) (by kernel_rfl) ?_ (by assumption) ?_
            rotate_left
            · (intro w5 hSw; obtain ⟨s1, s2, s3, s4⟩ := hSw; go_simp); all_goals with_reducible rfl
            try simp only [Act.put, List.setIfInBounds_toArray, List.set_cons_zero, List.set_cons_succ]
            refine take_run (i := 19) (v := ?_) rfl (by kernel_rfl) (by kernel_rfl) (by kernel_rfl) (fun _ _ _ h => h) (by kernel_rfl) ?_ (by assumption) ?_
            rotate_left
            · (intro w5 hSw; obtain ⟨s1, s2, s3, s4⟩ := hSw; go_simp); all_goals with_reducible rfl
            try simp only [Act.put, List.setIfInBounds_toArray, List.set_cons_zero, List.set_cons_succ]
            refine take_run (i := 20) (v := ?_) rfl (by kernel_rfl) (by kernel_rfl) (by kernel_rfl) (fun _ _ _ h => h) (by kernel_rfl) ?_ (by assumption) ?_
            rotate_left
            · (intro w5 hSw; obtain ⟨s1, s2, s3, s4⟩ := hSw; go_simp); all_goals with_reducible rfl
            try simp only [Act.put, List.setIfInBounds_toArray, List.set_cons_zero, List.set_cons_succ]
            refine take_run (i := 21) (v := ?_) rfl (by kernel_rfl) (by kernel_rfl) (by kernel_rfl) (fun _ _ _ h => h) (by kernel_rfl) ?_ (by assumption) ?_
            rotate_left
            · (intro w5 hSw; obtain ⟨s1, s2, s3, s4⟩ := hSw; go_simp); all_goals with_reducible rfl
            try simp only [Act.put, List.setIfInBounds_toArray, List.set_cons_zero, List.set_cons_succ]
            refine take_run (i := 22) (v := ?_) rfl (by kernel_rfl) (by kernel_rfl) (by kernel_rfl) (fun _ _ _ h => h) (by kernel_rfl) ?_ (by assumption) ?_
            rotate_left
            · (intro w5 hSw; obtain ⟨s1, s2, s3, s4⟩ := hSw; go_simp); all_goals with_reducible rfl
            try simp only [Act.put, List.setIfInBounds_toArray, List.set_cons_zero, List.set_cons_succ]
            refine take_run (i := 23) (v := ?_) rfl (by kernel_rfl) (by kernel_rfl) (by kernel_rfl) (fun _ _ _ h => h) (by kernel_rfl) ?_ (by assumption) ?_
            rotate_left
            · (intro w5 hSw; obtain ⟨s1, s2, s3, s4⟩ := hSw; go_simp); all_goals with_reducible rfl
            try simp only [Act.put, List.setIfInBounds_toArray, List.set_cons_zero, List.set_cons_succ]
            refine take_run (i := 24) (v := ?_) rfl (by kernel_rfl) (by kernel_rfl) (by kernel_rfl) (fun _ _ _ h => h) (by kernel_rfl) ?_ (by assumption) ?_
            rotate_left
            · (intro w5 hSw; obtain ⟨s1, s2, s3, s4⟩ := hSw; go_simp); all_goals with_reducible rfl
            try simp only [Act.put, List.setIfInBounds_toArray, List.set_cons_zero, List.set_cons_succ]
            refine take_run (i := 25) (v := ?_) rfl (by kernel_rfl) (by kernel_rfl) (by kernel_rfl) (fun _ _ _ h => h) (by kernel_rfl) ?_ (by assumption) ?_
            rotate_left
            · (intro w5 hSw; obtain ⟨s1, s2, s3, s4⟩ := hSw; go_simp); all_goals with_reducible rfl
            try simp only [Act.put, List.setIfInBounds_toArray, List.set_cons_zero, List.set_cons_succ]
            refine wpAnyH_done (by kernel_rfl) ?_ _
            go_wp2
            go_ret3
            refine bad_end b0 (fun ho => ?_)
            have := (hokn.1 (fun i hi hik => okTo_all.2 ho i hi (by omega))).2.2.2 c3
            omega
          · have c4' : ¬ (f.synced : Int) < (f.bytes.length : Int) := by omega
            have d4' : decide ((f.synced : Int) < (f.bytes.length : Int)) = false := decide_eq_false c4'
            go_upto_region 6 with fail
            refine wp_region_held_drew (S := RdS wr.heap.size q num num0 f) (by kernel_rfl) hS0 (fun hHeld => ?_)
            refine take_run (i := 0) (v := ?_) rfl (by kernel_rfl) (by kernel_rfl) (by kernel_rfl) (fun _ _ _ h => h) (by kernel_rfl) ?_ (by assumption) ?_
            rotate_left
            · (intro w5 hSw; obtain ⟨s1, s2, s3, s4⟩ := hSw; go_simp); all_goals with_reducible rfl
            try simp only [Act.put, List.setIfInBounds_toArray, List.set_cons_zero, List.set_cons_succ]
            refine take_run (i := 1) (v := ?_) rfl (by kernel_rfl) (by kernel_rfl) (by kernel_rfl) (fun _ _ _ h => h) (by kernel_rfl) ?_ (by assumption) ?_
            rotate_left
            · (intro w5 hSw; obtain ⟨s1, s2, s3, s4⟩ := hSw; go_simp); all_goals with_reducible rfl
            try simp only [Act.put, List.setIfInBounds_toArray, List.set_cons_zero, List.set_cons_succ]
            refine take_run (i := 2) (v := ?_) rfl (by kernel_rfl) (by kernel_rfl) (by kernel_rfl) (fun _ _ _ h => h) (by kernel_rfl) ?_ (by assumption) ?_
            rotate_left
            · (intro w5 hSw; obtain ⟨s1, s2, s3, s4⟩ := hSw; go_simp); all_goals with_reducible rfl
            try simp only [Act.put, List.setIfInBounds_toArray, List.set_cons_zero, List.set_cons_succ]
            refine take_run (i := 3) (v := ?_) rfl (by kernel_rfl) (by kernel_rfl) (by kernel_rfl) (fun _ _ _ h => h) (by kernel_rfl) ?_ (by assumption) ?_
            rotate_left
            · (intro w5 hSw; obtain ⟨s1, s2, s3, s4⟩ := hSw; go_simp); all_goals with_reducible rfl
            try simp only [Act.put, List.setIfInBounds_toArray, List.set_cons_zero, List.set_cons_succ]
            refine take_run (i := 4) (v := ?_) rfl (by kernel_rfl) (by kernel_rfl) (by kernel_rfl) (fun _ _ _ h => h) (by kernel_rfl) ?_ (by assumption) ?_
            rotate_left
            · (intro w5 hSw; obtain ⟨s1, s2, s3, s4⟩ := hSw; go_simp); all_goals with_reducible rfl
            try simp only [Act.put, List.setIfInBounds_toArray, List.set_cons_zero, List.set_cons_succ]
            refine take_run (i := 5) (v := ?_) rfl (by kernel_rfl) (by kernel_rfl) (by kernel_rfl) (fun _ _ _ h => h) (by kernel_rfl) ?_ (by assumption) ?_
            rotate_left
            · (intro w5 hSw; obtain ⟨s1, s2, s3, s4⟩ := hSw; go_simp); all_goals with_reducible rfl
            try simp only [Act.put, List.setIfInBounds_toArray, List.set_cons_zero, List.set_cons_succ]
            refine take_run (i := 6) (v := ?_) rfl (by kernel_rfl) (by kernel_rfl) (by kernel_rfl) (fun _ _ _ h => h) (by kernel_rfl) ?_ (by assumption) ?_
            rotate_left
            · (intro w5 hSw; obtain ⟨s1, s2, s3, s4⟩ := hSw; go_simp); all_goals with_reducible rfl
            try simp only [Act.put, List.setIfInBounds_toArray, List.set_cons_zero, List.set_cons_succ]
            refine take_run (i := 7) (v := ?_) rfl (by kernel_rfl) (by kernel_rfl) (by kernel_rfl) (fun _ _ _ h => h) (by kernel_rfl) ?_ (by assumption) ?_
            rotate_left
            · (intro w5 hSw; obtain ⟨s1, s2, s3, s4⟩ := hSw; go_simp); all_goals with_reducible rfl
            try simp only [Act.put, List.setIfInBounds_toArray, List.set_cons_zero, List.set_cons_succ]
            refine take_run (i := 8) (v := ?_) rfl (by kernel_rfl) (by kernel_rfl) (by kernel_rfl) (fun _ _ _ h => h) (by kernel_rfl) ?_ (by assumption) ?_
            rotate_left
            · (intro w5 hSw; obtain ⟨s1, s2, s3, s4⟩ := hSw; go_simp); all_goals with_reducible rfl
            try simp only [Act.put, List.setIfInBounds_toArray, List.set_cons_zero, List.set_cons_succ]
            refine take_run (i := 9) (v := ?_) rfl (by kernel_rfl) (by kernel_rfl) (by kernel_rfl) (fun _ _ _ h => h) (by kernel_rfl) ?_ (by assumption) ?_
            rotate_left
            · (intro w5 hSw; obtain ⟨s1, s2, s3, s4⟩ := hSw; go_simp); all_goals with_reducible rfl
            try simp only [Act.put, List.setIfInBounds_toArray, List.set_cons_zero, List.set_cons_succ]
            refine take_run (i := 10) (v := ?_) rfl (by kernel_rfl) (by kernel_rfl) (by kernel_rfl) (fun _ _ _ h => h) (by kernel_rfl) ?_ (by assumption) ?_
            rotate_left
            · (intro w5 hSw; obtain ⟨s1, s2, s3, s4⟩ := hSw; go_simp); all_goals with_reducible rfl
            try simp only [Act.put, List.setIfInBounds_toArray, List.set_cons_zero, List.set_cons_succ]
            refine take_run (i := 11) (v := ?_) rfl (by kernel_rfl) (by kernel_rfl) (by kernel_rfl) (fun _ _ _ h => h) (by kernel_rfl) ?_ (by assumption) ?_
            rotate_left
            · (intro w5 hSw; obtain ⟨s1, s2, s3, s4⟩ := hSw; go_simp); all_goals with_reducible rfl
            try simp only [Act.put, List.setIfInBounds_toArray, List.set_cons_zero, List.set_cons_succ]
            refine take_run (i := 12) (v := ?_) rfl (by kernel_rfl) (by kernel_rfl) (by kernel_rfl) (fun _ _ _ h => h) (by kernel_rfl) ?_ (by assumption) ?_
            rotate_left
            · (intro w5 hSw; obtain ⟨s1, s2, s3, s4⟩ := hSw; go_simp); all_goals with_reducible rfl
            try simp only [Act.put, List.setIfInBounds_toArray, List.set_cons_zero, List.set_cons_succ]
            refine take_run (i := 13) (v := ?_) rfl (by kernel_rfl) (by kernel_rfl) (by kernel_rfl) (fun _ _ _ h => h) (by kernel_rfl) ?_ (by assumption) ?_
            rotate_left
            · (intro w5 hSw; obtain ⟨s1, s2, s3, s4⟩ := hSw; go_simp); all_goals with_reducible rfl
            try simp only [Act.put, List.setIfInBounds_toArray, List.set_cons_zero, List.set_cons_succ]
            refine take_run (i := 14) (v := ?_) rfl (by kernel_rfl) (by kernel_rfl) (by kernel_rfl) (fun _ _ _ h => h) (by kernel_rfl) ?_ (by assumption) ?_
            rotate_left
            · (intro w5 hSw; obtain ⟨s1, s2, s3, s4⟩ := hSw; go_simp); all_goals with_reducible rfl
            try simp only [Act.put, List.setIfInBounds_toArray, List.set_cons_zero, List.set_cons_succ]
            refine take_run (i := 15) (v := ?_) rfl (by kernel_rfl) (by kernel_rfl) (by kernel_rfl) (fun _ _ _ h => h) (by kernel_rfl) ?_ (by assumption) ?_
            rotate_left
            · (intro w5 hSw; obtain ⟨s1, s2, s3, s4⟩ := hSw; go_simp); all_goals with_reducible rfl
            try simp only [Act.put, List.setIfInBounds_toArray, List.set_cons_zero, List.set_cons_succ]
            refine take_run (i := 16) (v := ?_) rfl (by kernel_rfl) (by kernel_rfl) (by kernel_rfl) (fun _ _ _ h => h) (by kernel_rfl) ?_ (by assumption) ?_
            rotate_left
            · (intro w5 hSw; obtain ⟨s1, s2, s3, s4⟩ := hSw; go_simp); all_goals with_reducible rfl
            try simp only [Act.put, List.setIfInBounds_toArray, List.set_cons_zero, List.set_cons_succ]
            refine take_run (i := 17) (v := ?_) rfl (by kernel_rfl) (by kernel_rfl) (by kernel_rfl) (fun _ _ _ h => h) (by kernel_rfl) ?_ (by assumption) ?_
            rotate_left
            · (intro w5 hSw; obtain ⟨s1, s2, s3, s4⟩ := hSw; go_simp); all_goals with_reducible rfl
            try simp only [Act.put, List.setIfInBounds_toArray, List.set_cons_zero, List.set_cons_succ]
            refine take_run (i := 18) (v := ?_) rfl (by kernel_rfl) (by kernel_rfl) (by kernel_rfl) (fun _ _ _ h => h) (by kernel_rfl) ?_ (by assumption) ?_
            rotate_left
            · (intro w5 hSw; obtain ⟨s1, s2, s3, s4⟩ := hSw; go_simp); all_goals with_reducible rfl
            try simp only [Act.put, List.setIfInBounds_toArray, List.set_cons_zero, List.set_cons_succ]
            refine take_run (i := 19) (v := ?_) rfl (by kernel_rfl) (by kernel_rfl) (by kernel_rfl) (fun _ _ _ h => h) (by kernel_rfl) ?_ (by assumption) ?_
            rotate_left
            · (intro w5 hSw; obtain ⟨s1, s2, s3, s4⟩ := hSw; go_simp); all_goals with_reducible rfl
            try simp only [Act.put, List.setIfInBounds_toArray, List.set_cons_zero, List.set_cons_succ]
            refine take_run (i := 20) (v := ?_) rfl (by kernel_rfl) (by kernel_rfl) (by kernel_rfl) (fun _ _ _ h => h) (by kernel_rfl) ?_ (by assumption) ?_
            rotate_left
            · (intro w5 hSw; obtain ⟨s1, s2, s3, s4⟩ := hSw; go_simp); all_goals with_reducible rfl
            try simp only [Act.put, List.setIfInBounds_toArray, List.set_cons_zero, List.set_cons_succ]
            refine take_run (i := 21) (v := ?_) rfl (by kernel_rfl) (by kernel_rfl) (by kernel_rfl) (fun _ _ _ h => h) (by kernel_rfl) ?_ (by assumption) ?_
            rotate_left
            · (intro w5 hSw; obtain ⟨s1, s2, s3, s4⟩ := hSw; go_simp); all_goals with_reducible rfl
            try simp only [Act.put, List.setIfInBounds_toArray, List.set_cons_zero, List.set_cons_succ]
            refine take_run (i := 22) (v := ?_) rfl (by kernel_rfl) (by kernel_rfl) (by kernel_rfl) (fun _ _ _ h => h) (by kernel_rfl) ?_ (by assumption) ?_
            rotate_left
            · (intro w5 hSw; obtain ⟨s1, s2, s3, s4⟩ := hSw; go_simp); all_goals with_reducible rfl
            try simp only [Act.put, List.setIfInBounds_toArray, List.set_cons_zero, List.set_cons_succ]
            refine take_run (i := 23) (v := ?_) rfl (by kernel_rfl) (by kernel_rfl) (by kernel_rfl) (fun _ _ _ h => h) (by kernel_rfl) ?_ (by assumption) ?_
            rotate_left
            · (intro w5 hSw; obtain ⟨s1, s2, s3, s4⟩ := hSw; go_simp); all_goals with_reducible rfl
            try simp only [Act.put, List.setIfInBounds_toArray, List.set_cons_zero, List.set_cons_succ]
            refine take_run (i := 24) (v := ?_) rfl (by kernel_rfl) (by kernel_rfl) (by kernel_rfl) (fun _ _ _ h => h) (by kernel_rfl) ?_ (by assumption) ?_
            rotate_left
            · (intro w5 hSw; obtain ⟨s1, s2, s3, s4⟩ := hSw; go_simp); all_goals with_reducible rfl
            try simp only [Act.put, List.setIfInBounds_toArray, List.set_cons_zero, List.set_cons_succ]
            refine take_run (i := 25) (v := ?_) rfl (by kernel_rfl) (by kernel_rfl) (by kernel_rfl) (fun _ _ _ h => h) (by kernel_rfl) ?_ (by assumption) ?_
            rotate_left
            · (intro w5 hSw; obtain ⟨s1, s2, s3, s4⟩ := hSw; go_simp); all_goals with_reducible rfl
            try simp only [Act.put, List.setIfInBounds_toArray, List.set_cons_zero, List.set_cons_succ]
            refine wpAnyH_done (by kernel_rfl) ?_ _
            by_cases hgood : (splitL (f.bytes.take f.synced) 0).2.2 = 0
            · have hparts := split_parts (a := f.bytes.take f.synced) (b := f.bytes.drop f.synced) hgood
              rw [List.take_append_drop] at hparts
              have htl : (f.bytes.take f.synced).length = f.synced := by rw [List.length_take]; omega
              rw [htl] at hparts
              have hle2 := split_le (f.bytes.drop f.synced) (f.bytes.drop f.synced).length 0 (by omega) (by omega)
              rw [List.length_drop] at hle2
              have hw3 : IntKind.i64.wrap ((f.synced : Int) + ((splitL (f.bytes.drop f.synced) 0).2.1 : Nat)) = (f.synced : Int) + ((splitL (f.bytes.drop f.synced) 0).2.1 : Nat) := by rw [IntKind.wrap_i64]; omega
              rw [hparts, List.length_append] at hr1
              have hgi : ((splitL (f.bytes.take f.synced) 0).2.2 != 0) = false := by simpa using hgood
              have HG := Lib.hid hgood
              have HP := Lib.hid hparts
              have HW := Lib.hid hwh
              have HR := Lib.hid hrec
              clear hgood hparts hwh hrec
              go_wp2_with (first
                | (go_at_call 50; (with_reducible refine (H1.out _).mono ?_); rintro r w2 ⟨v2, rfl, o2, b2⟩; obtain ⟨a2, c2, rfl⟩ := row_form o2; obtain ⟨e3, _, e2, e1⟩ := HS0.out.below b2; have B2 := b0.trans (b2.mono b0.size); have own2 := own_below OWN0.out b2; have n2 := SegB.below N0.out b2)
                | (go_at_call 50; (with_reducible refine (H2.out _).mono ?_); rintro r w3 ⟨v3, rfl, o3, b3⟩; obtain ⟨a3, c3, rfl⟩ := row_form o3; obtain ⟨f1, f2, f3, f4⟩ := RdS.below ⟨e3, (by assumption), e2, e1⟩ b3; have B3 := B2.trans (b3.mono B2.size); have own3 := own_below own2 b3; have txt2 := (Txt.of_own o2).below b3; have n3 := SegB.below n2 b3)
                | (at_builtin; refine wpList_append_txt _ (by rfl) _ _ rfl w.heap.size _ _ _ rfl own3 a2 _ c2 _ rfl txt2 (row_nil o2) (by omega) B3.size ?_; intro v4 w4 o4 g4; obtain ⟨a4, c4, rfl⟩ := row_form o4; have B4 := B3.grown g4 B3.size (fun j hj => (own3.lt j hj).1); have txt3 := Txt.of_own (o3.kept g4 (row_apart own2 o3)); have own4 := Lib.hid o4; have n4 := SegB.grown n3 own3 g4)
                | (at_builtin; refine wpList_append_txt _ (by rfl) _ _ rfl w.heap.size _ _ _ rfl own4.out a3 _ c3 _ rfl txt3 (row_nil o3) (by omega) B4.size ?_; intro v5 w5 o5 g5; obtain ⟨a5, cap5, rfl⟩ := row_form o5; have B5 := B4.grown g5 B4.size (fun j hj => (own4.out.lt j hj).1); have n5 := SegB.grown n4 own4.out g5; have c5 := n5.cell))
              go_roundw
              case rel =>
                refine ⟨k + 1, by omega, by go_num, ?_, ?_, ⟨a5, cap5, ?_⟩, ?_, B5⟩
                · exact hokn.2 ⟨hok, C1.out, by unfold goodSeg; rw [HG.out]; rfl, fun _ => by omega⟩
                · rw [HW.out, HP.out]; simp
                · rw [HR.out, HP.out, List.length_append, List.length_append, Nat.add_assoc]
                · rw [HR.out, HP.out, List.length_append, List.length_append]
                  simp only
                  rw [← List.append_assoc, ← Nat.add_assoc]
                  exact o5
              case measure => simp [intOf]; omega
            · have hgi : ((splitL (f.bytes.take f.synced) 0).2.2 != 0) = true := by simpa using hgood
              have HG := Lib.hid hgood
              clear hgood
              go_wp2_with (go_at_call 50; (with_reducible refine (H1.out _).mono ?_); rintro r w2 ⟨v2, rfl, o2, b2⟩; obtain ⟨a2, c2, rfl⟩ := row_form o2; have B2 := b0.trans (b2.mono b0.size))
              go_ret3
              refine bad_end (B2) (fun ho => HG.out ?_)
              have := (hokn.1 (fun i hi hik => okTo_all.2 ho i hi (by omega))).2.2.1
              simpa [goodSeg] using this
        · have c3' : ¬ (k : Int) < (l.length : Int) - 1 := by omega
          have d3' : decide ((k : Int) < (l.length : Int) - 1) = false := decide_eq_false c3'
          go_upto_region 6 with fail
          refine wp_region_held_drew (S := RdS wr.heap.size q num num0 f) (by kernel_rfl) hS0 (fun hHeld => ?_)
          refine take_run (i := 0) (v := ?_) rfl (by kernel_rfl) (by kernel_rfl) (by kernel_rfl) (fun _ _ _ h => h) (by kernel_rfl) ?_ (by assumption) ?_
          rotate_left
          · (intro w5 hSw; obtain ⟨s1, s2, s3, s4⟩ := hSw; go_simp); all_goals with_reducible rfl
          try simp only [Act.put, List.setIfInBounds_toArray, List.set_cons_zero, List.set_cons_succ]
          refine take_run (i := 1) (v := ?_) rfl (by kernel_rfl) (by kernel_rfl) (by kernel_rfl) (fun _ _ _ h => h) (by kernel_rfl) ?_ (by assumption) ?_
          rotate_left
          · (intro w5 hSw; obtain ⟨s1, s2, s3, s4⟩ := hSw; go_simp); all_goals with_reducible rfl
          try simp only [Act.put, List.setIfInBounds_toArray, List.set_cons_zero, List.set_cons_succ]
          refine take_run (i := 2) (v := ?_) rfl (by kernel_rfl) (by kernel_rfl) (by kernel_rfl) (fun _ _ _ h => h) (by kernel_rfl) ?_ (by assumption) ?_
          rotate_left
          · (intro w5 hSw; obtain ⟨s1, s2, s3, s4⟩ := hSw; go_simp); all_goals with_reducible rfl
          try simp only [Act.put, List.setIfInBounds_toArray, List.set_cons_zero, List.set_cons_succ]
          refine take_run (i := 3) (v := ?_) rfl (by kernel_rfl) (by kernel_rfl) (by kernel_rfl) (fun _ _ _ h => h) (by kernel_rfl) ?_ (by assumption) ?_
          rotate_left
          · (intro w5 hSw; obtain ⟨s1, s2, s3, s4⟩ := hSw; go_simp); all_goals with_reducible rfl
          try simp only [Act.put, List.setIfInBounds_toArray, List.set_cons_zero, List.set_cons_succ]
          refine take_run (i := 4) (v := ?_) rfl (by kernel_rfl) (by kernel_rfl) (by kernel_rfl) (fun _ _ _ h => h) (by kernel_rfl) ?_ (by assumption) ?_
          rotate_left
          · (intro w5 hSw; obtain ⟨s1, s2, s3, s4⟩ := hSw; go_simp); all_goals with_reducible rfl
          try simp only [Act.put, List.setIfInBounds_toArray, List.set_cons_zero, List.set_cons_succ]
          refine take_run (i := 5) (v := ?_) rfl (by kernel_rfl) (by kernel_rfl) (by kernel_rfl) (fun _ _ _ h => h) (by kernel_rfl) ?_ (by assumption) ?_
          rotate_left
          · (intro w5 hSw; obtain ⟨s1, s2, s3, s4⟩ := hSw; go_simp); all_goals with_reducible rfl
          try simp only [Act.put, List.setIfInBounds_toArray, List.set_cons_zero, List.set_cons_succ]
          refine take_run (i := 6) (v := ?_) rfl (by kernel_rfl) (by kernel_rfl) (by kernel_rfl) (fun _ _ _ h => h) (by kernel_rfl) ?_ (by assumption) ?_
          rotate_left
          · (intro w5 hSw; obtain ⟨s1, s2, s3, s4⟩ := hSw; go_simp); all_goals with_reducible rfl
          try simp only [Act.put, List.setIfInBounds_toArray, List.set_cons_zero, List.set_cons_succ]
          refine take_run (i := 7) (v := ?_) rfl (by kernel_rfl) (by kernel_rfl) (by kernel_rfl) (fun _ _ _ h => h) (by kernel_rfl) ?_ (by assumption) ?_
          rotate_left
          · (intro w5 hSw; obtain ⟨s1, s2, s3, s4⟩ := hSw; go_simp); all_goals with_reducible rfl
          try simp only [Act.put, List.setIfInBounds_toArray, List.set_cons_zero, List.set_cons_succ]
          refine take_run (i := 8) (v := ?_) rfl (by kernel_rfl) (by kernel_rfl) (by kernel_rfl) (fun _ _ _ h => h) (by kernel_rfl) ?_ (by assumption) ?_
          rotate_left
          · (intro w5 hSw; obtain ⟨s1, s2, s3, s4⟩ := hSw; go_simp); all_goals with_reducible rfl
          try simp only [Act.put, List.setIfInBounds_toArray, List.set_cons_zero, List.set_cons_succ]
          refine take_run (i := 9) (v := ?_) rfl (by kernel_rfl) (by kernel_rfl) (by kernel_rfl) (fun _ _ _ h => h) (by kernel_rfl) ?_ (by assumption) ?_
          rotate_left
          · (intro w5 hSw; obtain ⟨s1, s2, s3, s4⟩ := hSw; go_simp); all_goals with_reducible rfl
          try simp only [Act.put, List.setIfInBounds_toArray, List.set_cons_zero, List.set_cons_succ]
          refine take_run (i := 10) (v := ?_) rfl (by kernel_rfl) (by kernel_rfl) (by kernel_rfl) (fun _ _ _ h => h) (by kernel_rfl) ?_ (by assumption) ?_
          rotate_left
          · (intro w5 hSw; obtain ⟨s1, s2, s3, s4⟩ := hSw; go_simp); all_goals with_reducible rfl
          try simp only [Act.put, List.setIfInBounds_toArray, List.set_cons_zero, List.set_cons_succ]
          refine take_run (i := 11) (v := ?_) rfl (by kernel_rfl) (by kernel_rfl) (by kernel_rfl) (fun _ _ _ h => h) (by kernel_rfl) ?_ (by assumption) ?_
          rotate_left
          · (intro w5 hSw; obtain ⟨s1, s2, s3, s4⟩ := hSw; go_simp); all_goals with_reducible rfl
          try simp only [Act.put, List.setIfInBounds_toArray, List.set_cons_zero, List.set_cons_succ]
          refine take_run (i := 12) (v := ?_) rfl (by kernel_rfl) (by kernel_rfl) (by kernel_rfl) (fun _ _ _ h => h) (by kernel_rfl) ?_ (by assumption) ?_
          rotate_left
          · (intro w5 hSw; obtain ⟨s1, s2, s3, s4⟩ := hSw; go_simp); all_goals with_reducible rfl
          try simp only [Act.put, List.setIfInBounds_toArray, List.set_cons_zero, List.set_cons_succ]
          refine take_run (i := 13) (v := ?_) rfl (by kernel_rfl) (by kernel_rfl) (by kernel_rfl) (fun _ _ _ h => h) (by kernel_rfl) ?_ (by assumption) ?_
          rotate_left
          · (intro w5 hSw; obtain ⟨s1, s2, s3, s4⟩ := hSw; go_simp); all_goals with_reducible rfl
          try simp only [Act.put, List.setIfInBounds_toArray, List.set_cons_zero, List.set_cons_succ]
          refine take_run (i := 14) (v := ?_) rfl (by kernel_rfl) (by kernel_rfl) (by kernel_rfl) (fun _ _ _ h => h) (by kernel_rfl) ?_ (by assumption) ?_
          rotate_left
          · (intro w5 hSw; obtain ⟨s1, s2, s3, s4⟩ := hSw; go_simp); all_goals with_reducible rfl
          try simp only [Act.put, List.setIfInBounds_toArray, List.set_cons_zero, List.set_cons_succ]
          refine take_run (i := 15) (v := ?_) rfl (by kernel_rfl) (by kernel_rfl) (by kernel_rfl) (fun _ _ _ h => h) (by kernel_rfl) ?_ (by assumption) ?_
          rotate_left
          · (intro w5 hSw; obtain ⟨s1, s2, s3, s4⟩ := hSw; go_simp); all_goals with_reducible rfl
          try simp only [Act.put, List.setIfInBounds_toArray, List.set_cons_zero, List.set_cons_succ]
          refine take_skip (i := 16) rfl (by kernel_rfl) (by kernel_rfl) (by kernel_rfl) (fun _ _ _ h => h) (by kernel_rfl) (by assumption) ?_
          try simp only [Act.put, List.setIfInBounds_toArray, List.set_cons_zero, List.set_cons_succ]
          refine take_skip (i := 17) rfl (by kernel_rfl) (by kernel_rfl) (by kernel_rfl) (fun _ _ _ h => h) (by kernel_rfl) (by assumption) ?_
          try simp only [Act.put, List.setIfInBounds_toArray, List.set_cons_zero, List.set_cons_succ]
          refine take_skip (i := 18) rfl (by kernel_rfl) (by kernel_rfl) (by kernel_rfl) (fun _ _ _ h => h) (by kernel_rfl) (by assumption) ?_
          try simp only [Act.put, List.setIfInBounds_toArray, List.set_cons_zero, List.set_cons_succ]
          refine take_skip (i := 19) rfl (by kernel_rfl) (by kernel_rfl) (by kernel_rfl) (fun _ _ _ h => h) (by kernel_rfl) (by assumption) ?_
          try simp only [Act.put, List.setIfInBounds_toArray, List.set_cons_zero, List.set_cons_succ]
          refine take_skip (i := 20) rfl (by kernel_rfl) (by kernel_rfl) (by kernel_rfl) (fun _ _ _ h => h) (by kernel_rfl) (by assumption) ?_
          try simp only [Act.put, List.setIfInBounds_toArray, List.set_cons_zero, List.set_cons_succ]
          refine take_skip (i := 21) rfl (by kernel_rfl) (by kernel_rfl) (by kernel_rfl) (fun _ _ _ h => h) (by kernel_rfl) (by assumption) ?_
          try simp only [Act.put, List.setIfInBounds_toArray, List.set_cons_zero, List.set_cons_succ]
          refine take_skip (i := 22) rfl (by kernel_rfl) (by kernel_rfl) (by kernel_rfl) (fun _ _ _ h => h) (by kernel_rfl) (by assumption) ?_
          try simp only [Act.put, List.setIfInBounds_toArray, List.set_cons_zero, List.set_cons_succ]
          refine take_skip (i := 23) rfl (by kernel_rfl) (by kernel_rfl) (by kernel_rfl) (fun _ _ _ h => h) (by kernel_rfl) (by assumption) ?_
          try simp only [Act.put, List.setIfInBounds_toArray, List.set_cons_zero, List.set_cons_succ]
          refine take_run (i := 24) (v := ?_) rfl (by kernel_rfl) (by kernel_rfl) (by kernel_rfl) (fun _ _ _ h => h) (by kernel_rfl) ?_ (by assumption) ?_
          rotate_left
          · (intro w5 hSw; obtain ⟨s1, s2, s3, s4⟩ := hSw; go_simp); all_goals with_reducible rfl
          try simp only [Act.put, List.setIfInBounds_toArray, List.set_cons_zero, List.set_cons_succ]
          refine take_run (i := 25) (v := ?_) rfl (by kernel_rfl) (by kernel_rfl) (by kernel_rfl) (fun _ _ _ h => h) (by kernel_rfl) ?_ (by assumption) ?_
          rotate_left
          · (intro w5 hSw; obtain ⟨s1, s2, s3, s4⟩ := hSw; go_simp); all_goals with_reducible rfl
          try simp only [Act.put, List.setIfInBounds_toArray, List.set_cons_zero, List.set_cons_succ]
          refine wpAnyH_done (by kernel_rfl) ?_ _
          by_cases hgood : (splitL (f.bytes.take f.synced) 0).2.2 = 0
          · have hparts := split_parts (a := f.bytes.take f.synced) (b := f.bytes.drop f.synced) hgood
            rw [List.take_append_drop] at hparts
            have htl : (f.bytes.take f.synced).length = f.synced := by rw [List.length_take]; omega
            rw [htl] at hparts
            have hle2 := split_le (f.bytes.drop f.synced) (f.bytes.drop f.synced).length 0 (by omega) (by omega)
            rw [List.length_drop] at hle2
            have hw3 : IntKind.i64.wrap ((f.synced : Int) + ((splitL (f.bytes.drop f.synced) 0).2.1 : Nat)) = (f.synced : Int) + ((splitL (f.bytes.drop f.synced) 0).2.1 : Nat) := by rw [IntKind.wrap_i64]; omega
            rw [hparts, List.length_append] at hr1
            have hgi : ((splitL (f.bytes.take f.synced) 0).2.2 != 0) = false := by simpa using hgood
            have HG := Lib.hid hgood
            have HP := Lib.hid hparts
            have HW := Lib.hid hwh
            have HR := Lib.hid hrec
            clear hgood hparts hwh hrec
            go_wp2_with (first
              | (go_at_call 50; (with_reducible refine (H1.out _).mono ?_); rintro r w2 ⟨v2, rfl, o2, b2⟩; obtain ⟨a2, c2, rfl⟩ := row_form o2; obtain ⟨e3, _, e2, e1⟩ := HS0.out.below b2; have B2 := b0.trans (b2.mono b0.size); have own2 := own_below OWN0.out b2; have n2 := SegB.below N0.out b2)
              | (go_at_call 50; (with_reducible refine (H2.out _).mono ?_); rintro r w3 ⟨v3, rfl, o3, b3⟩; obtain ⟨a3, c3, rfl⟩ := row_form o3; obtain ⟨f1, f2, f3, f4⟩ := RdS.below ⟨e3, (by assumption), e2, e1⟩ b3; have B3 := B2.trans (b3.mono B2.size); have own3 := own_below own2 b3; have txt2 := (Txt.of_own o2).below b3; have n3 := SegB.below n2 b3)
              | (at_builtin; refine wpList_append_txt _ (by rfl) _ _ rfl w.heap.size _ _ _ rfl own3 a2 _ c2 _ rfl txt2 (row_nil o2) (by omega) B3.size ?_; intro v4 w4 o4 g4; obtain ⟨a4, c4, rfl⟩ := row_form o4; have B4 := B3.grown g4 B3.size (fun j hj => (own3.lt j hj).1); have txt3 := Txt.of_own (o3.kept g4 (row_apart own2 o3)); have own4 := Lib.hid o4; have n4 := SegB.grown n3 own3 g4)
              | (at_builtin; refine wpList_append_txt _ (by rfl) _ _ rfl w.heap.size _ _ _ rfl own4.out a3 _ c3 _ rfl txt3 (row_nil o3) (by omega) B4.size ?_; intro v5 w5 o5 g5; obtain ⟨a5, cap5, rfl⟩ := row_form o5; have B5 := B4.grown g5 B4.size (fun j hj => (own4.out.lt j hj).1); have n5 := SegB.grown n4 own4.out g5; have c5 := n5.cell))
            go_roundw
            case rel =>
              refine ⟨k + 1, by omega, by go_num, ?_, ?_, ⟨a5, cap5, ?_⟩, ?_, B5⟩
              · exact hokn.2 ⟨hok, C1.out, by unfold goodSeg; rw [HG.out]; rfl, fun _ => by omega⟩
              · rw [HW.out, HP.out]; simp
              · rw [HR.out, HP.out, List.length_append, List.length_append, Nat.add_assoc]
              · rw [HR.out, HP.out, List.length_append, List.length_append]
                simp only
                rw [← List.append_assoc, ← Nat.add_assoc]
                exact o5
            case measure => simp [intOf]; omega
          · have hgi : ((splitL (f.bytes.take f.synced) 0).2.2 != 0) = true := by simpa using hgood
            have HG := Lib.hid hgood
            clear hgood
            go_wp2_with (go_at_call 50; (with_reducible refine (H1.out _).mono ?_); rintro r w2 ⟨v2, rfl, o2, b2⟩; obtain ⟨a2, c2, rfl⟩ := row_form o2; have B2 := b0.trans (b2.mono b0.size))
            go_ret3
            refine bad_end (B2) (fun ho => HG.out ?_)
            have := (hokn.1 (fun i hi hik => okTo_all.2 ho i hi (by omega))).2.2.1
            simpa [goodSeg] using this
      · have c2' : ((num : Int) != (num0 : Int) + k) = true := by
          have c1' : ¬ ((num : Int) = (num0 : Int) + k) := by omega
          simpa using c1'
        go_upto_region 6 with fail
        refine wp_region_held_drew (S := RdS wr.heap.size q num num0 f) (by kernel_rfl) hS0 (fun hHeld => ?_)
        refine take_run (i := 0) (v := ?_) rfl (by kernel_rfl) (by kernel_rfl) (by kernel_rfl) (fun _ _ _ h => h) (by kernel_rfl) ?_ (by assumption) ?_
        rotate_left
        · (intro w5 hSw; obtain ⟨s1, s2, s3, s4⟩ := hSw; go_simp); all_goals with_reducible rfl
        try simp only [Act.put, List.setIfInBounds_toArray, List.set_cons_zero, List.set_cons_succ]
        refine take_run (i := 1) (v := ?_) rfl (by kernel_rfl) (by kernel_rfl) (by kernel_rfl) (fun _ _ _ h => h) (by kernel_rfl) ?_ (by assumption) ?_
        rotate_left
        · (intro w5 hSw; obtain ⟨s1, s2, s3, s4⟩ := hSw; go_simp); all_goals with_reducible rfl
        try simp only [Act.put, List.setIfInBounds_toArray, List.set_cons_zero, List.set_cons_succ]
        refine take_run (i := 2) (v := ?_) rfl (by kernel_rfl) (by kernel_rfl) (by kernel_rfl) (fun _ _ _ h => h) (by kernel_rfl) ?_ (by assumption) ?_
        rotate_left
        · (intro w5 hSw; obtain ⟨s1, s2, s3, s4⟩ := hSw; go_simp); all_goals with_reducible rfl
        try simp only [Act.put, List.setIfInBounds_toArray, List.set_cons_zero, List.set_cons_succ]
        refine take_run (i := 3) (v := ?_) rfl (by kernel_rfl) (by kernel_rfl) (by kernel_rfl) (fun _ _ _ h => h) (by kernel_rfl) ?_ (by assumption) ?_
        rotate_left
        · (intro w5 hSw; obtain ⟨s1, s2, s3, s4⟩ := hSw; go_simp); all_goals with_reducible rfl
        try simp only [Act.put, List.setIfInBounds_toArray, List.set_cons_zero, List.set_cons_succ]
        refine take_run (i := 4) (v := ?_) rfl (by kernel_rfl) (by kernel_rfl) (by kernel_rfl) (fun _ _ _ h => h) (by kernel_rfl) ?_ (by assumption) ?_
        rotate_left
        · (intro w5 hSw; obtain ⟨s1, s2, s3, s4⟩ := hSw; go_simp); all_goals with_reducible rfl
        try simp only [Act.put, List.setIfInBounds_toArray, List.set_cons_zero, List.set_cons_succ]
        refine take_run (i := 5) (v := ?_) rfl (by kernel_rfl) (by kernel_rfl) (by kernel_rfl) (fun _ _ _ h => h) (by kernel_rfl) ?_ (by assumption) ?_
        rotate_left
        · (intro w5 hSw; obtain ⟨s1, s2, s3, s4⟩ := hSw; go_simp); all_goals with_reducible rfl
        try simp only [Act.put, List.setIfInBounds_toArray, List.set_cons_zero, List.set_cons_succ]
        refine take_run (i := 6) (v := ?_) rfl (by kernel_rfl) (by kernel_rfl) (by kernel_rfl) (fun _ _ _ h => h) (by kernel_rfl) ?_ (by assumption) ?_
        rotate_left
        · (intro w5 hSw; obtain ⟨s1, s2, s3, s4⟩ := hSw; go_simp); all_goals with_reducible rfl
        try simp only [Act.put, List.setIfInBounds_toArray, List.set_cons_zero, List.set_cons_succ]
        refine take_run (i := 7) (v := ?_) rfl (by kernel_rfl) (by kernel_rfl) (by kernel_rfl) (fun _ _ _ h => h) (by kernel_rfl) ?_ (by assumption) ?_
        rotate_left
        · (intro w5 hSw; obtain ⟨s1, s2, s3, s4⟩ := hSw; go_simp); all_goals with_reducible rfl
        try simp only [Act.put, List.setIfInBounds_toArray, List.set_cons_zero, List.set_cons_succ]
        refine take_run (i := 8) (v := ?_) rfl (by kernel_rfl) (by kernel_rfl) (by kernel_rfl) (fun _ _ _ h => h) (by kernel_rfl) ?_ (by assumption) ?_
        rotate_left
        · (intro w5 hSw; obtain ⟨s1, s2, s3, s4⟩ := hSw; go_simp); all_goals with_reducible rfl
        try simp only [Act.put, List.setIfInBounds_toArray, List.set_cons_zero, List.set_cons_succ]
        refine take_run (i := 9) (v := ?_) rfl (by kernel_rfl) (by kernel_rfl) (by kernel_rfl) (fun _ _ _ h => h) (by kernel_rfl) ?_ (by assumption) ?_
        rotate_left
        · (intro w5 hSw; obtain ⟨s1, s2, s3, s4⟩ := hSw; go_simp); all_goals with_reducible rfl
        try simp only [Act.put, List.setIfInBounds_toArray, List.set_cons_zero, List.set_cons_succ]
        refine take_skip (i := 10) rfl (by kernel_rfl) (by kernel_rfl) (by kernel_rfl) (fun _ _ _ h => h) (by kernel_rfl) (by assumption) ?_
        try simp only [Act.put, List.setIfInBounds_toArray, List.set_cons_zero, List.set_cons_succ]
        refine take_skip (i := 11) rfl (by kernel_rfl) (by kernel_rfl) (by kernel_rfl) (fun _ _ _ h => h) (by kernel_rfl) (by assumption) ?_
        try simp only [Act.put, List.setIfInBounds_toArray, List.set_cons_zero, List.set_cons_succ]
        refine take_skip (i := 12) rfl (by kernel_rfl) (by kernel_rfl) (by kernel_rfl) (fun _ _ _ h => h) (by kernel_rfl) (by assumption) ?_
        try simp only [Act.put, List.setIfInBounds_toArray, List.set_cons_zero, List.set_cons_succ]
        refine take_skip (i := 13) rfl (by kernel_rfl) (by kernel_rfl) (by kernel_rfl) (fun _ _ _ h => h) (by kernel_rfl) (by assumption) ?_
        try simp only [Act.put, List.setIfInBounds_toArray, List.set_cons_zero, List.set_cons_succ]
        refine take_skip (i := 14) rfl (by kernel_rfl) (by kernel_rfl) (by kernel_rfl) (fun _ _ _ h => h) (by kernel_rfl) (by assumption) ?_
        try simp only [Act.put, List.setIfInBounds_toArray, List.set_cons_zero, List.set_cons_succ]
        refine take_skip (i := 15) rfl (by kernel_rfl) (by kernel_rfl) (by kernel_rfl) (fun _ _ _ h => h) (by kernel_rfl) (by assumption) ?_
        try simp only [Act.put, List.setIfInBounds_toArray, List.set_cons_zero, List.set_cons_succ]
        refine take_skip (i := 16) rfl (by kernel_rfl) (by kernel_rfl) (by kernel_rfl) (fun _ _ _ h => h) (by kernel_rfl) (by assumption) ?_
        try simp only [Act.put, List.setIfInBounds_toArray, List.set_cons_zero, List.set_cons_succ]
        refine take_skip (i := 17) rfl (by kernel_rfl) (by kernel_rfl) (by kernel_rfl) (fun _ _ _ h => h) (by kernel_rfl) (by assumption) ?_
        try simp only [Act.put, List.setIfInBounds_toArray, List.set_cons_zero, List.set_cons_succ]
        refine take_skip (i := 18) rfl (by kernel_rfl) (by kernel_rfl) (by kernel_rfl) (fun _ _ _ h => h) (by kernel_rfl) (by assumption) ?_
        try simp only [Act.put, List.setIfInBounds_toArray, List.set_cons_zero, List.set_cons_succ]
        refine take_skip (i := 19) rfl (by kernel_rfl) (by kernel_rfl) (by kernel_rfl) (fun _ _ _ h => h) (by kernel_rfl) (by assumption) ?_
        try simp only [Act.put, List.setIfInBounds_toArray, List.set_cons_zero, List.set_cons_succ]
        refine take_skip (i := 20) rfl (by kernel_rfl) (by kernel_rfl) (by kernel_rfl) (fun _ _ _ h => h) (by kernel_rfl) (by assumption) ?_
        try simp only [Act.put, List.setIfInBounds_toArray, List.set_cons_zero, List.set_cons_succ]
        refine take_skip (i := 21) rfl (by kernel_rfl) (by kernel_rfl) (by kernel_rfl) (fun _ _ _ h => h) (by kernel_rfl) (by assumption) ?_
        try simp only [Act.put, List.setIfInBounds_toArray, List.set_cons_zero, List.set_cons_succ]
        refine take_skip (i := 22) rfl (by kernel_rfl) (by kernel_rfl) (by kernel_rfl) (fun _ _ _ h => h) (by kernel_rfl) (by assumption) ?_
        try simp only [Act.put, List.setIfInBounds_toArray, List.set_cons_zero, List.set_cons_succ]
        refine take_skip (i := 23) rfl (by kernel_rfl) (by kernel_rfl) (by kernel_rfl) (fun _ _ _ h => h) (by kernel_rfl) (by assumption) ?_
        try simp only [Act.put, List.setIfInBounds_toArray, List.set_cons_zero, List.set_cons_succ]
        refine take_skip (i := 24) rfl (by kernel_rfl) (by kernel_rfl) (by kernel_rfl) (fun _ _ _ h => h) (by kernel_rfl) (by assumption) ?_
        try simp only [Act.put, List.setIfInBounds_toArray, List.set_cons_zero, List.set_cons_succ]
        refine take_run (i := 25) (v := ?_) rfl (by kernel_rfl) (by kernel_rfl) (by kernel_rfl) (fun _ _ _ h => h) (by kernel_rfl) ?_ (by assumption) ?_
        rotate_left
        · (intro w5 hSw; obtain ⟨s1, s2, s3, s4⟩ := hSw; go_simp); all_goals with_reducible rfl
        try simp only [Act.put, List.setIfInBounds_toArray, List.set_cons_zero, List.set_cons_succ]
        refine wpAnyH_done (by kernel_rfl) ?_ _
        go_wp2
        go_ret3
        refine bad_end b0 (fun ho => c1 (hokn.1 (fun i hi hik => okTo_all.2 ho i hi (by omega))).2.1)
    · obtain rfl : k = l.length := by omega
      rw [List.take_length] at hown
      have hltI : ¬ ((l.length : Int) < (l.length : Int)) := by omega
      go_wp2
      go_ret3
      exact ⟨a, c, hb, .inl ⟨okTo_all.1 hok, rfl, hown⟩⟩

end Go.Proofs.YtjidadolfpjdeaaGreatDoor
