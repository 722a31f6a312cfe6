/-
  Package base's read over this translation: what it answers of a disk with one good file at most.
-/
import Derived.Test.YthpamdjgkmaleaaGreatDoorMr
import Derived.Test.YthpamdjgkmaleaaGreatDoorRegion
namespace Go.Proofs.YthpamdjgkmaleaaGreatDoor
open Go.RowKit Go.Shelf
set_option linter.unusedVariables false

attribute [local go_sem] Oper.semAt_some

/-! ### plainly -/
def stepR (b : Nat × List UInt8) (x : Nat × PF) : Nat × List UInt8 := if (lookL x.1 x.2).2 = 1 then (x.1, (lookL x.1 x.2).1) else b
def stR (pre : List (Nat × PF)) : Nat × List UInt8 := pre.foldl stepR (0, [])
def yo (pre : List (Nat × PF)) : List (List UInt8) := (pre.filter (fun x => decide ((lookL x.1 x.2).2 = 0))).map (fun x => x.2.name)
def okR (pre : List (Nat × PF)) : Prop := ∀ x ∈ pre, (lookL x.1 x.2).2 ≠ 2
def goods (l : List (Nat × PF)) : List (Nat × PF) := l.filter (fun x => decide ((lookL x.1 x.2).2 = 1))
theorem st_snoc (pre : List (Nat × PF)) (x : Nat × PF) : stR (pre ++ [x]) = stepR (stR pre) x := by unfold stR; rw [List.foldl_append]; rfl
theorem yo_snoc (pre : List (Nat × PF)) (x : Nat × PF) : yo (pre ++ [x]) = yo pre ++ (if (lookL x.1 x.2).2 = 0 then [x.2.name] else []) := by
  unfold yo
  rw [List.filter_append, List.map_append]
  congr 1
  by_cases h : (lookL x.1 x.2).2 = 0
  · simp [h]
  · simp [h]
theorem ok_snoc {pre : List (Nat × PF)} {x : Nat × PF} (h : okR pre) (hx : (lookL x.1 x.2).2 ≠ 2) : okR (pre ++ [x]) := by
  intro y hy
  rcases List.mem_append.1 hy with h' | h'
  · exact h y h'
  · rw [List.mem_singleton.1 h']; exact hx
theorem st_none : ∀ (pre : List (Nat × PF)) (b : Nat × List UInt8), goods pre = [] → pre.foldl stepR b = b
  | [], b, _ => rfl
  | x :: r, b, h => by
    unfold goods at h
    rw [List.filter_eq_nil_iff] at h
    have hx := h x (by simp)
    rw [List.foldl_cons, stepR, if_neg (by simpa using hx)]
    exact st_none r b (by unfold goods; rw [List.filter_eq_nil_iff]; exact fun y hy => h y (by simp [hy]))
theorem st_first {l pre : List (Nat × PF)} {x : Nat × PF} (h1 : (goods l).length ≤ 1) (hx : pre ++ [x] <+: l) (hg : (lookL x.1 x.2).2 = 1) : stR pre = (0, []) := by
  refine st_none pre _ ?_
  obtain ⟨rest, rfl⟩ := hx
  unfold goods at h1 ⊢
  rw [List.filter_append, List.filter_append, List.filter_cons_of_pos (by simp [hg]), List.length_append, List.length_append, List.length_cons] at h1
  exact List.eq_nil_of_length_eq_zero (by omega)
theorem look_kinds (n : Nat) (f : PF) : (lookL n f).2 = 0 ∨ (lookL n f).2 = 1 ∨ (lookL n f).2 = 2 := by
  unfold lookL
  split
  · exact .inl rfl
  · split
    · exact .inr (.inr rfl)
    · split
      · exact .inr (.inr rfl)
      · split
        · exact .inr (.inr rfl)
        · split
          · exact .inr (.inr rfl)
          · exact .inr (.inl rfl)

theorem tell_in {l : List PF} {x : Nat × PF} (h : x ∈ tellB l) : x.2 ∈ l ∧ x.1 = bnum x.2.name ∧ x.1 ≠ 0 := by
  unfold tellB at h
  obtain ⟨f, hf, he⟩ := List.mem_filterMap.1 h
  unfold tellF at he
  by_cases h0 : bnum f.name = 0
  · rw [if_pos h0] at he; cases he
  · rw [if_neg h0] at he; cases he; exact ⟨hf, rfl, h0⟩
theorem tell_mem {d : PD} (hs : Sane d) {x : Nat × PF} (h : x ∈ tellB d.files) : x.2.bytes.length ≤ 4194304 ∧ x.2.synced ≤ x.2.bytes.length := by
  obtain ⟨hf, _⟩ := tell_in h
  have h1 : x.2.bytes.length ≤ totF d.files := by
    unfold totF
    exact le_sum (List.mem_map_of_mem (f := fun f : PF => f.bytes.length) hf)
  have h2 := hs.room0
  have h3 := hs.room1
  exact ⟨by omega, hs.synced _ hf⟩

/-! ### the walk -/
/-- Between two rounds. -/
def RdI (w : World) (p : Nat) (pre : List (Nat × PF)) (W : World) : Prop := okR pre ∧ RdM w p (stR pre).1 (stR pre).2 (yo pre) W
structure RdX (w W : World) : Prop where
  r0 : Boxed W w.heap.size 23 (.pointer none)
  r1 : Boxed W (w.heap.size + 1) 51 (.slice none 0 0)
  r2 : Boxed W (w.heap.size + 2) 4 (.bool false)
  bel : Below w.heap.size w W
/-- A round that has left, behind a spoilt file. -/
def RdOut (w : World) (c : Code) (pre : List (Nat × PF)) (W : World) : Prop := c = .ret ∧ (∃ x ∈ pre, (lookL x.1 x.2).2 = 2) ∧ RdX w W
theorem rdI_own (w : World) (p : Nat) (B : Nat) (hB : w.heap.size ≤ B) : OwnFrom B (RdI w p) := by
  rintro pre X Y row ⟨h0, h1⟩ hg hr
  exact ⟨h0, rdM_own w p (fun q => (stR q).1) (fun q => (stR q).2) yo B hB pre X Y row h1 hg hr⟩
theorem rdX_own (w : World) (B : Nat) (hB : w.heap.size ≤ B) : OwnFrom B (fun (_ : Unit) W => RdX w W) := by
  rintro _ X Y row ⟨h0, h1, h2, h7⟩ hg hr
  have hr' : ∀ r, row = some r → ∃ o : Obj, X.heap[r]? = some o ∧ o.isCells = false := fun r e => (hr r e).2
  exact ⟨boxed_own _ _ (fun (_ : Unit) => _) () X Y row h0 hg hr', boxed_own _ _ (fun (_ : Unit) => _) () X Y row h1 hg hr', boxed_own _ _ (fun (_ : Unit) => _) () X Y row h2 hg hr', ownFrom_below (Nat.le_refl _) hB () X Y row h7 hg hr⟩

/-- What read has laid in its results, all files being told. -/
structure RdY (w : World) (p n : Nat) (t : List UInt8) (U : List (List UInt8)) (v : Value) (W : World) : Prop where
  r0 : Boxed W w.heap.size 23 (.pointer (some ⟨w.heap.size + 3, 0, none⟩))
  r1 : Boxed W (w.heap.size + 1) 51 v
  r2 : Boxed W (w.heap.size + 2) 4 (.bool true)
  st : W.heap[w.heap.size + 3]? = some (.cells #[.pointer (some ⟨p, 0, none⟩), .int .u64 n, .string (B t)] 55 (0, 0))
  own : W.ownsRow (w.heap.size + 8) 9 1 v U.length (strU U)
  bel : Below w.heap.size w W
theorem rdY_put {w W : World} {p n : Nat} {t : List UInt8} {U : List (List UInt8)} {v : Value} (h : RdY w p n t U v W) {D : Nat} {o o' : Obj} (hD : w.heap.size ≤ D) (ho : W.heap[D]? = some o) (hc : o.isCells = false) : RdY w p n t U v (W.putObj D o') := by
  have hg := grownBy_putObj' W D o'
  have hr' : ∀ r, some D = some r → ∃ o : Obj, W.heap[r]? = some o ∧ o.isCells = false := fun r e => by cases e; exact ⟨o, ho, hc⟩
  have hr : ∀ r, some D = some r → w.heap.size ≤ r ∧ ∃ o : Obj, W.heap[r]? = some o ∧ o.isCells = false := fun r e => by cases e; exact ⟨hD, o, ho, hc⟩
  exact ⟨boxed_own _ _ (fun (_ : Unit) => _) () W _ _ h.r0 hg hr', boxed_own _ _ (fun (_ : Unit) => _) () W _ _ h.r1 hg hr', boxed_own _ _ (fun (_ : Unit) => _) () W _ _ h.r2 hg hr', cells_own h.st hg hr', ownsRow_putObj h.own o' ho hc, ownFrom_below (Nat.le_refl _) (Nat.le_refl _) () W _ _ h.bel hg hr⟩
def laidR (w : World) (v : Value) (W : World) : World :=
  (((W.setCell ⟨w.heap.size, 0, none⟩ (.pointer (some ⟨w.heap.size + 1 + 1 + 1, 0, none⟩))).setCell ⟨w.heap.size + 1, 0, none⟩ v).setCell ⟨w.heap.size + 1 + 1, 0, none⟩ (.bool true)).drew
theorem three_kept {w W : World} {a b c : Value} {k : Nat} (h0 : k ≠ w.heap.size) (h1 : k ≠ w.heap.size + 1) (h2 : k ≠ w.heap.size + 1 + 1) : (((W.setCell ⟨w.heap.size, 0, none⟩ a).setCell ⟨w.heap.size + 1, 0, none⟩ b).setCell ⟨w.heap.size + 1 + 1, 0, none⟩ c).heap[k]? = W.heap[k]? := by
  rw [Below.heap_setCell _ _ _ _ h2, Below.heap_setCell _ _ _ _ h1, Below.heap_setCell _ _ _ _ h0]
theorem laidR_ok {w W : World} {p n : Nat} {t : List UInt8} {U : List (List UInt8)} {v : Value} (h : RdM w p n t U W) (rv : W.ownsRow (w.heap.size + 8) 9 1 v U.length (strU U)) : KeepsOthers W (laidR w v W) ∧ RdY w p n t U v (laidR w v W) := by
  refine ⟨(((KeepsOthers.setCell _ _ _).trans (KeepsOthers.setCell _ _ _)).trans (KeepsOthers.setCell _ _ _)).trans (KeepsOthers.drew _), ?_, ?_, ?_, ?_, ?_, ?_⟩
  · exact ((h.r0.set _).other (by omega) _).other (by omega) _
  · exact ((h.r1.other (by omega) _).set v).other (by omega) _
  · exact ((h.r2.other (by omega) _).other (by omega) _).set _
  · exact (three_kept (by omega) (by omega) (by omega)).trans h.st
  · exact ownsRow_same rv (fun k hk => three_kept (by have := (rv.lt k hk).1; omega) (by have := (rv.lt k hk).1; omega) (by have := (rv.lt k hk).1; omega))
  · exact (((h.bel.setCell (Nat.le_refl _) _).setCell (by show w.heap.size ≤ w.heap.size + 1; omega) _).setCell (by show w.heap.size ≤ w.heap.size + 1 + 1; omega) _).drew
/-- .. and behind a spoilt one. -/
theorem out_ok {w W : World} {p n : Nat} {t : List UInt8} {U : List (List UInt8)} (E : Env w) (h : RdM w p n t U W) :
    RdX w (((W.setCell ⟨w.heap.size, 0, none⟩ (.pointer none)).setCell ⟨w.heap.size + 1, 0, none⟩ (.slice none 0 0)).setCell ⟨w.heap.size + 1 + 1, 0, none⟩ (.bool false)) ∧
    Rnd W (((W.setCell ⟨w.heap.size, 0, none⟩ (.pointer none)).setCell ⟨w.heap.size + 1, 0, none⟩ (.slice none 0 0)).setCell ⟨w.heap.size + 1 + 1, 0, none⟩ (.bool false)) := by
  have e0 := Rnd.grown E (grownBy_setCell' W w.heap.size (.pointer none)) (fun r e => by cases e; exact ⟨Nat.le_refl _, _, _, _, h.r0, by decide⟩) h.bel.size
  have b1 := h.r1.other (B' := w.heap.size) (by omega) (.pointer none)
  have e1 := Rnd.grown E (grownBy_setCell' (W.setCell ⟨w.heap.size, 0, none⟩ (.pointer none)) (w.heap.size + 1) (.slice none 0 0)) (fun r e => by cases e; exact ⟨by omega, _, _, _, b1, by decide⟩) (Nat.le_trans h.bel.size e0.2.1)
  have b2 := (h.r2.other (B' := w.heap.size) (by omega) (.pointer none)).other (B' := w.heap.size + 1) (by omega) (.slice none 0 0)
  have e2 := Rnd.grown E (grownBy_setCell' ((W.setCell ⟨w.heap.size, 0, none⟩ (.pointer none)).setCell ⟨w.heap.size + 1, 0, none⟩ (.slice none 0 0)) (w.heap.size + 1 + 1) (.bool false)) (fun r e => by cases e; exact ⟨by omega, _, _, _, b2, by decide⟩) (Nat.le_trans h.bel.size (Nat.le_trans e0.2.1 e1.2.1))
  refine ⟨⟨((h.r0.set _).other (by omega) _).other (by omega) _, ((h.r1.other (by omega) _).set _).other (by omega) _, ((h.r2.other (by omega) _).other (by omega) _).set _, ?_⟩, (e0.trans e1).trans e2⟩
  exact ((h.bel.setCell (Nat.le_refl _) _).setCell (by show w.heap.size ≤ w.heap.size + 1; omega) _).setCell (by show w.heap.size ≤ w.heap.size + 1 + 1; omega) _

/-- What read has laid ahead of its rounds. -/
def rdW (w : World) (p : Nat) : World :=
  (((((((w.alloc (.cells #[.pointer none] 23)).alloc (.cells #[.slice none 0 0] 51)).alloc (.cells #[.bool false] 4)).alloc (.cells #[.pointer (some ⟨p, 0, none⟩), .int .u64 0, .string ⟨#[]⟩] 55)).alloc (.cells #[.pointer (some ⟨w.heap.size + 1 + 1 + 1, 0, none⟩)] 23)).alloc (.cells #[.slice none 0 0] 51)).alloc (.cells #[.slice none 0 0] 51)).alloc (.cells #[.pointer (some ⟨p, 0, none⟩)] 33)
theorem box_at {W : World} {k : Nat} {T : TypeId} {v : Value} (h : W.heap[k]? = some (.cells #[v] T (0, 0))) : Boxed W k T v := h
theorem alloc_at {W : World} {k : Nat} {o o' : Obj} (h : W.heap[k]? = some o) : (W.alloc o').heap[k]? = some o := (Below.heap_alloc W o' k (Array.getElem?_eq_some_iff.1 h).1).trans h
theorem alloc_new' {W : World} {k : Nat} {o : Obj} (h : k = W.heap.size) : (W.alloc o).heap[k]? = some o := by subst h; exact World.alloc_heap_new W o
theorem rdW_ok (w : World) (p : Nat) : RdM w p 0 [] [] (rdW w p) ∧ (rdW w p).heap.size = w.heap.size + 8 ∧ Boxed (rdW w p) (w.heap.size + 7) 33 (.pointer (some ⟨p, 0, none⟩)) := by
  unfold rdW
  refine ⟨⟨?_, ?_, ?_, ?_, ?_, ⟨.slice none 0 0, ?_, World.ownsRow_nil _ _ _ _, trivial⟩, ?_, ?_, ?_⟩, ?_, ?_⟩
  · exact alloc_at (alloc_at (alloc_at (alloc_at (alloc_at (alloc_at (alloc_at (alloc_new' (by simp))))))))
  · exact alloc_at (alloc_at (alloc_at (alloc_at (alloc_at (alloc_at (alloc_new' (by simp)))))))
  · exact alloc_at (alloc_at (alloc_at (alloc_at (alloc_at (alloc_new' (by simp))))))
  · exact alloc_at (alloc_at (alloc_at (alloc_at (alloc_new' (by simp)))))
  · exact alloc_at (alloc_at (alloc_at (alloc_new' (by simp))))
  · exact alloc_at (alloc_at (alloc_new' (by simp)))
  · exact alloc_at (alloc_new' (by simp))
  · exact ((((((((Below.refl _ w).alloc (Nat.le_refl _) _).alloc (by simp) _).alloc (by simp; omega) _).alloc (by simp; omega) _).alloc (by simp; omega) _).alloc (by simp; omega) _).alloc (by simp; omega) _).alloc (by simp; omega) _
  · simp
  · simp
  · exact alloc_new' (by simp)

set_option maxRecDepth 100000 in
set_option maxHeartbeats 4000000 in
theorem read_is {d : PD} {p : Nat} {F : Nat → Prop} (w : World) (hdk : DiskOf w p d F) (E : Env w) (hs : Sane d) (h1 : (goods (tellB d.files)).length ≤ 1) :
    Calls Tryz.prog 21 #[.pointer (some ⟨p, 0, none⟩)] w fun r w' => Below w.heap.size w w' ∧
      (((∃ x ∈ tellB d.files, (lookL x.1 x.2).2 = 2) ∧ r = .returned (.tuple #[.pointer none, .slice none 0 0, .bool false])) ∨
      (okR (tellB d.files) ∧ ∃ v, r = .returned (.tuple #[.pointer (some ⟨w.heap.size + 3, 0, none⟩), v, .bool true]) ∧
        w'.heap[w.heap.size + 3]? = some (.cells #[.pointer (some ⟨p, 0, none⟩), .int .u64 (stR (tellB d.files)).1, .string (B (stR (tellB d.files)).2)] 55 (0, 0)) ∧
        w'.ownsRow (w.heap.size + 8) 9 1 v (yo (tellB d.files)).length (strU (yo (tellB d.files))))) := by
  refine (callsIn_wide (n := 9)).1 ?_
  refine callsIn_of_wp_marks Tryz.func21 rfl trivial ?_ rfl
  simp only [Tryz.ntmps21, List.size_toArray, List.length_cons, List.length_nil, Nat.reduceAdd, Nat.reduceSub, Array.replicate_succ, Array.replicate_zero, List.push_toArray, List.append_toArray, List.nil_append, List.cons_append]
  gi_wp2_with (refine ⟨trivial, ?_⟩; gi_at_call 39; refine (callsIn_wide.2 (files_fn _ _)).mono ?_; rintro r w1 ⟨rfl, rfl⟩)
  change Code.wpIn _ _ _ _ _ _ (rdW w p)
  obtain ⟨i0, sW0, bD⟩ := rdW_ok w p
  have HEw := Lib.hid E
  have E0 := E.below i0.bel
  have hdk0 := hdk.below i0.bel
  have htell := files_tell (rdW w p) hdk0 E0 hs bD
  generalize rdW w p = W0 at *
  have hlen : ∀ x ∈ tellB d.files, x.2.bytes.length ≤ 4194304 ∧ x.2.synced ≤ x.2.bytes.length := fun x hx => tell_mem hs hx
  have hfew : (tellB d.files).length ≤ 1000 := Nat.le_trans (List.length_filterMap_le _ _) hs.few
  have HLEN := Lib.hid hlen
  have HFEW := Lib.hid hfew
  have H1 := Lib.hid h1
  have i1 : RdI w p [] W0 := ⟨fun x hx => by simp at hx, i0⟩
  clear i0 hlen h1 hfew E
  refine range_tells (gf := 53) (lb := #[.pointer (some ⟨w.heap.size + 1 + 1 + 1 + 1 + 1 + 1 + 1, 0, none⟩)]) rfl (enters_of Tryz.func53 (by kernel_rfl) rfl)
    htell (Below.refl _ _) (fun _ => rfl)
    (fun V {X Y Z} h k => ?hKt)
    (fun V W l o' h1 h2 h3 => ?hKb)
    (RdI w p) (RdOut w) (rdI_own w p _ (by omega)) ?hIx i1
    (fun x a' W => ∃ Bx, FileB Bx x.2 W ∧ a' = { tmps := List.toArray ((.pointer (some ⟨p, 0, none⟩) : Value) :: undef :: (.pointer (some ⟨w.heap.size, 0, none⟩) : Value) :: (.pointer (some ⟨w.heap.size + 1, 0, none⟩) : Value) :: (.pointer (some ⟨w.heap.size + 1 + 1, 0, none⟩) : Value) :: (.pointer (some ⟨w.heap.size + 1 + 1 + 1 + 1, 0, none⟩) : Value) :: (.pointer (some ⟨w.heap.size + 1 + 1 + 1 + 1 + 1, 0, none⟩) : Value) :: (.pointer (some ⟨w.heap.size + 1 + 1 + 1 + 1 + 1 + 1, 0, none⟩) : Value) :: (.int .u64 x.1 : Value) :: (.pointer (some ⟨Bx, 0, none⟩) : Value) :: undef :: undef :: (.pointer (some ⟨p, 0, none⟩) : Value) :: (.agg #[.pointer (some ⟨p, 0, none⟩), .int .u64 0, .string ⟨#[]⟩] : Value) :: (.pointer (some ⟨w.heap.size + 1 + 1 + 1, 0, none⟩) : Value) :: (.pointer (some ⟨p, 0, none⟩) : Value) :: (.func (.func 53) #[] #[.pointer (some ⟨w.heap.size + 1 + 1 + 1 + 1 + 1 + 1 + 1, 0, none⟩)] : Value) :: (.int .u64 x.1 : Value) :: (.agg #[.string (B x.2.name), .string (B x.2.bytes), .int .i64 x.2.synced] : Value) :: undef :: undef :: undef :: undef :: undef :: undef :: undef :: undef :: undef :: undef :: undef :: undef :: undef :: undef :: undef :: undef :: undef :: undef :: undef :: undef :: undef :: undef :: undef :: undef :: undef :: undef :: undef :: undef :: undef :: undef :: undef :: undef :: undef :: undef :: undef :: undef :: undef :: undef :: undef :: undef :: undef :: undef :: undef :: []), defers := [] })
    ?hAx ?assign ?body ?done ?stop
  case hKt =>
    refine ⟨Nat.le_trans h.1 k.1, fun j cs x hj => ?_, fun j hj => (k.2.2 j hj).trans (h.2.2 j hj)⟩
    have h1 := h.2.1 j cs x hj
    exact (k.2.1 j cs x (h1.trans hj)).trans h1
  case hKb =>
    obtain ⟨o, ho, hc⟩ := h3
    refine ⟨by simp, fun j cs x hj => World.putObj_heap_other (fun e => ?_), fun j hj => World.putObj_heap_other (fun e => ?_)⟩
    · subst e; rw [hj] at ho; cases ho; cases hc
    · have := HEw.out.lt hj; omega
  case hIx =>
    rintro c pre X Y row ⟨g1, g2, g3⟩ hg hr
    exact ⟨g1, g2, rdX_own w _ (by omega) () X Y row g3 hg hr⟩
  case hAx =>
    rintro x a' _ X Y row ⟨Bx, g1, g2⟩ hg hr
    exact ⟨Bx, fileB_own x.2 Bx _ () X Y row g1 hg hr, g2⟩
  case assign =>
    rintro m lp V pre x W K sV hi hx hK
    unfold encT
    gi_wp2
    obtain ⟨g1, g2⟩ := hi
    have hb : Below W.heap.size W (W.alloc (.cells #[.string (B x.2.name), .string (B x.2.bytes), .int .i64 x.2.synced] 44)) := (Below.refl _ W).alloc (Nat.le_refl _) _
    exact hK _ _ ((KeepsOthers.alloc _ _).from _) (Rnd.below HEw.out hb g2.bel.size).2 ⟨g1, g2.below hb⟩ ⟨W.heap.size, fileB_new W x.2, rfl⟩
  case body =>
    rintro m lp V pre x a' W sV ⟨hok, hM⟩ hx ⟨Bx, hF, rfl⟩
    obtain ⟨n, f⟩ := x
    have hlx := HLEN.out (n, f) (hx.subset (by simp))
    simp only at hF hlx
    obtain ⟨q0, q1, q2⟩ := hF.vals
    have hlk := fun w1 => look_is n f (by omega) w1
    have hkinds := look_kinds n f
    have hst := st_snoc pre (n, f)
    have hyo := yo_snoc pre (n, f)
    have hoks := fun h => ok_snoc (x := (n, f)) hok h
    have hfst := fun h => st_first (x := (n, f)) H1.out hx h
    have hylen : (yo pre).length ≤ 1000 := by
      have h1 := hx.length_le
      have h2 := HFEW.out
      have h3 : (yo pre).length ≤ pre.length := by unfold yo; rw [List.length_map]; exact List.length_filter_le _ _
      simp at h1
      omega
    unfold stepR at hst
    simp only at hst hyo hoks hfst
    generalize hLK : lookL n f = LK at *
    obtain ⟨tx, e⟩ := LK
    simp only at hlk hkinds hst hyo hoks hfst
    have HLKC := Lib.hid hlk
    have HM := Lib.hid hM
    have HF := Lib.hid hF
    have HX := Lib.hid hx
    have HST := Lib.hid hst
    have HYO := Lib.hid hyo
    have HOKS := Lib.hid hoks
    have HFST := Lib.hid hfst
    have HYL := Lib.hid hylen
    have HLK := Lib.hid hLK
    clear hlk hM hF hx hst hyo hoks hfst hylen hlx hLK hok
    obtain ⟨ti, hi, hz, hs1, hby⟩ := info_parts info_strU
    rcases hkinds with rfl | rfl | rfl
    · gi_wp2_with (first
        | (refine ⟨trivial, (fun h => by simp [Fence.wide] at h), ?_⟩; gi_at_call 40; refine (CallsIn.inRound lp (callsIn_wide.2 (HLKC.out _))).mono ?_; rintro r w2 ⟨rfl, b2⟩; have M2 := HM.out.below b2; obtain ⟨v0, v1, v2⟩ := (HF.out.below b2).vals; obtain ⟨v, bv, rv, _⟩ := M2.un; have cv := bv.cell; have rl := ownsRow_lowU rv (Nat.le_add_right _ 8); have ral := rv.alloc (.cells #[.string (B f.name)] 9))
        | (gi_at_builtin; refine wpListIn_append_own _ rfl _ _ 51 rfl (w.heap.size + 8) 9 ti (.string ⟨#[]⟩) 1 16 Tryz.underlying51 hi hz hs1 hby rfl (by decide) _ _ _ rfl ral ⟨w2.heap.size, 0, none⟩ 1 1 [.string (B f.name)] rfl rfl (cell_one_new _ _ _) (by simp [Value.oneCell']) (by have := HYL.out; unfold maxLen; omega) (by have := HYL.out; omega) (by have := M2.big; simp; omega) ?_; intro v' w3 hown hgrow _; replace hgrow : (w2.alloc (.cells #[.string (B f.name)] 9)).grownBy w3 v.ownBlock := hgrow; obtain ⟨g', cap', rfl⟩ := ownsRow_succ (show w3.ownsRow (w.heap.size + 8) 9 1 v' ((yo pre).length + 1) (strU (yo pre) ++ [.string (B f.name)]) from hown); obtain ⟨k1, k2, k3, k4⟩ := M2.add HEw.out (nm := f.name) bv rv hown hgrow; have K3 := Lib.hid k3; have K4 := Lib.hid k4; clear k3 k4))
      have hrnd := (Rnd.below HEw.out b2 HM.out.bel.size).trans K4.out
      refine ⟨hrnd.1.from _, hrnd.2, HOKS.out (by decide), ?_⟩
      rw [HST.out, HYO.out]
      simpa using K3.out
    · gi_wp2_with (first
        | (refine ⟨trivial, (fun h => by simp [Fence.wide] at h), ?_⟩; gi_at_call 40; refine (CallsIn.inRound lp (callsIn_wide.2 (HLKC.out _))).mono ?_; rintro r w2 ⟨rfl, b2⟩; have M2 := HM.out.below b2; rw [HFST.out rfl] at M2; have cs := M2.sv.cell; have ct1 : w2.cell? ⟨w.heap.size + 3, 1, none⟩ = some (.int .u64 0) := M2.c1; have ct2 := M2.c2; have fz1 := M2.fz 1; have fz2 := M2.fz 2; obtain ⟨k3, k4⟩ := M2.set HEw.out n tx; have K3 := Lib.hid (k3.below ((Below.refl _ _).drew)); have K4 := Lib.hid (k4.trans (Rnd.below HEw.out ((Below.refl _ _).drew) k3.bel.size)); clear k3 k4))
      have mixed : Tryz.prog.follows .mixedOrders = true := by kernel_rfl
      have hfin : KeepsFrom W0.heap.size W _ ∧ KpF V W _ ∧ RdI w p (pre ++ [(n, f)]) _ := ⟨((Rnd.below HEw.out b2 HM.out.bel.size).trans K4.out).1.from _, ((Rnd.below HEw.out b2 HM.out.bel.size).trans K4.out).2, HOKS.out (by decide), by rw [HST.out, HYO.out]; simpa using K3.out⟩
      have HFIN := Lib.hid hfin
      clear hfin
      gi_region_with_o (fail)
      all_goals (gi_wp2; exact HFIN.out)
    · gi_wp2_with (first
        | (refine ⟨trivial, (fun h => by simp [Fence.wide] at h), ?_⟩; gi_at_call 40; refine (CallsIn.inRound lp (callsIn_wide.2 (HLKC.out _))).mono ?_; rintro r w2 ⟨rfl, b2⟩; have M2 := HM.out.below b2; have cr0 := M2.r0.cell; have cr1 := M2.r1.cell; have cr2 := M2.r2.cell; have fr0 := M2.r0.frozen; have fr1 := M2.r1.frozen; have fr2 := M2.r2.frozen))
      obtain ⟨x1, x2⟩ := out_ok HEw.out M2
      have hrnd := (Rnd.below HEw.out b2 HM.out.bel.size).trans x2
      exact ⟨hrnd.1.from _, hrnd.2, rfl, ⟨(n, f), by simp, by rw [HLK.out]⟩, x1⟩
  case done =>
    rintro D W hD ⟨hok, hM⟩ hK
    obtain ⟨v, bv, rv, _⟩ := hM.un
    obtain ⟨va, vc, rfl⟩ := row_val rv
    have hle : (yo (tellB d.files)).length ≤ vc ∧ (va = none ∨ ∃ g, va = some ⟨g, 0, none⟩) := by
      rcases rv.2 with ⟨e, h0⟩ | ⟨g, cap, cur, e, _, _, h2, _⟩
      · simp only [Value.slice.injEq] at e
        exact ⟨by omega, .inl e.1⟩
      · simp only [Value.slice.injEq] at e
        exact ⟨by omega, .inr ⟨g, e.1⟩⟩
    obtain ⟨hle, hva⟩ := hle
    have cs := hM.sv.cell
    have cv := bv.cell
    have ce := hM.el.cell
    have cr0 := hM.r0.cell
    have cr1 := hM.r1.cell
    have cr2 := hM.r2.cell
    have fr0 := hM.r0.frozen
    have fr1 := hM.r1.frozen
    have fr2 := hM.r2.frozen
    obtain ⟨ti, hi, hz, hs1, hby⟩ := info_parts info_strU
    have mixed : Tryz.prog.follows .mixedOrders = true := by kernel_rfl
    obtain ⟨l1, l2⟩ := laidR_ok hM rv
    have HL1 := Lib.hid l1
    have HL2 := Lib.hid l2
    have HK := Lib.hid hK
    have HOK := Lib.hid hok
    clear l1 l2 hK hok hM
    rcases hva with rfl | ⟨g, rfl⟩
    all_goals
      gi_wp2
      gi_region_with_o (fail)
      all_goals gi_wp2
      all_goals
        have hK' := HL1.out.same D _ HK.out rfl
        have hY := rdY_put HL2.out (o' := .deferred none) (by omega) hK' rfl
        have d0 := hY.r0.cell
        have d1 := hY.r1.cell
        have d2 := hY.r2.cell
        have d3 := hY.st
        have d4 := hY.own
        have d5 := hY.bel
        unfold laidR at hK' d0 d1 d2 d3 d4 d5
        exact ⟨by simp, .inl ⟨_, _, rfl, run_takeDeferred hK', .tuple #[.pointer (some ⟨w.heap.size + 3, 0, none⟩), _, .bool true], by simp [results, Tryz.f21, go_sem, d0, d1, d2], d5, .inr ⟨HOK.out, _, rfl, d3, d4⟩⟩⟩
  case stop =>
    rintro D c pre W hD hpre ⟨rfl, ⟨x, hx, hk⟩, hX⟩ hK
    have hX2 := rdX_own w W0.heap.size (by omega) () _ _ _ hX (grownBy_putObj' W D (.deferred none)) (fun r e => by cases e; exact ⟨hD, _, hK, rfl⟩)
    have d0 := hX2.r0.cell
    have d1 := hX2.r1.cell
    have d2 := hX2.r2.cell
    have HX2 := Lib.hid hX2
    have HPX := Lib.hid (show ∃ x ∈ tellB d.files, (lookL x.1 x.2).2 = 2 from ⟨x, hpre.subset hx, hk⟩)
    clear hX hX2 hx hk
    gi_wp2
    exact ⟨by simp, .inl ⟨_, _, rfl, run_takeDeferred hK, .tuple #[.pointer none, .slice none 0 0, .bool false], by simp [results, Tryz.f21, go_sem, d0, d1, d2], HX2.out.bel, .inl ⟨by simpa using HPX.out, rfl⟩⟩⟩

end Go.Proofs.YthpamdjgkmaleaaGreatDoor
