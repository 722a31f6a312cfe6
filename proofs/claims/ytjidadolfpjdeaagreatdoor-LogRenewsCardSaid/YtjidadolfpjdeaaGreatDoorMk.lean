/-
Package log's segments over this translation: a disk's files that are segments, each with its number.
'append' of texts to a slice that the call owns, as a law of the walk, under a guard that holds.
-/
import Derived.Test.YtjidadolfpjdeaaGreatDoorLgEnv
import Derived.Test.YtjidadolfpjdeaaGreatDoorMa
import Derived.Test.YtjidadolfpjdeaaGreatDoorDkFile
import Derived.Test.YtjidadolfpjdeaaGreatDoorFrSame
import Derived.Maps.AppendAt
namespace Go.Proofs.YtjidadolfpjdeaaGreatDoor
open Go.RowKit
set_option linter.unusedVariables false

theorem files_cell3 : ∀ (l : List PF) (j k : Nat) (hj : j < l.length) (hk : k < 3), (l.flatMap fileCells)[3 * j + k]? = (fileCells l[j])[k]?
  | f :: r, 0, k, _, hk => by
    rw [List.flatMap_cons, List.getElem?_append_left (by simp [fileCells]; omega)]
    simp
  | f :: r, j + 1, k, hj, hk => by
    rw [List.flatMap_cons, List.getElem?_append_right (by simp [fileCells]; omega)]
    have : 3 * (j + 1) + k - (fileCells f).length = 3 * j + k := by simp [fileCells]; omega
    rw [this, files_cell3 r j k (by simpa using hj) hk]
    simp

theorem own_below {w w' : World} {b : Nat} {e : TypeId} {sz : Nat} {v : Value} {n : Nat} {xs : List Value} (h : w.ownsRow b e sz v n xs) (hb : Below w.heap.size w w') : w'.ownsRow b e sz v n xs := ownsRow_same h (fun k hk => hb.block k (h.lt k hk).2)
theorem own_low {W : World} {b b' : Nat} {e : TypeId} {size : Nat} {v : Value} {k : Nat} {xs : List Value} (h : W.ownsRow b e size v k xs) (hb : b' ≤ b) : W.ownsRow b' e size v k xs := by
  refine ⟨h.1, ?_⟩
  rcases h.2 with h' | ⟨g, cap, cur, he, hg, rest⟩
  · exact .inl h'
  · exact .inr ⟨g, cap, cur, he, Nat.le_trans hb hg, rest⟩

/-- A segment as cells. -/
def segCells (x : Nat × PF) : List Value := [.string (B x.2.name), .string (B x.2.bytes), .int .i64 x.2.synced, .int .i64 x.1]
def segV (l : List (Nat × PF)) : List Value := l.flatMap segCells
theorem segV_append (l m : List (Nat × PF)) : segV (l ++ m) = segV l ++ segV m := by unfold segV; rw [List.flatMap_append]
theorem segV_one (x : Nat × PF) : segV [x] = segCells x := by simp [segV]
theorem info_seg : (Tryz.prog.info? 54).map (fun i => (i.zero, i.size, i.bytes)) = some (some (.agg #[.string ⟨#[]⟩, .string ⟨#[]⟩, .int .i64 0, .int .i64 0]), 4, 48) := by kernel_rfl

theorem row_at {w : World} {b : Nat} {e : TypeId} {sz : Nat} {v : Value} {m : Nat} {xs : List Value} (h : w.ownsRow b e sz v m xs) (h0 : 0 < m) : ∃ q c, v = .slice (some ⟨q, 0, none⟩) m c ∧ b ≤ q ∧ q < w.heap.size ∧ m ≤ c ∧ c ≤ maxLen ∧ ∀ j, j < m * sz → w.cell? ⟨q, j, none⟩ = xs[j]? := by
  rcases h.2 with ⟨_, h1⟩ | ⟨g, cap, cur, rfl, hb, hg, h1, h2, _⟩
  · omega
  · exact ⟨g, cap, rfl, hb, (Array.getElem?_eq_some_iff.1 hg).1, h1, h2, fun j hj => h.cellAt j hj⟩
theorem row_form {w : World} {b : Nat} {e : TypeId} {sz : Nat} {v : Value} {m : Nat} {xs : List Value} (h : w.ownsRow b e sz v m xs) : ∃ a c, v = .slice a m c := by
  rcases h.2 with ⟨rfl, rfl⟩ | ⟨g, cap, cur, rfl, _⟩
  · exact ⟨_, _, rfl⟩
  · exact ⟨_, _, rfl⟩

set_option maxRecDepth 100000 in
set_option maxHeartbeats 4000000 in
theorem segments_any {w : World} {p : Nat} {d : PD} {F : Nat → Prop} (E : Env w) (h : DiskOf w p d F) (hfew : d.files.length ≤ 1000) (hnm : ∀ f ∈ d.files, f.name.length ≤ 1000000) :
    Calls Tryz.prog 25 #[.pointer (some ⟨p, 0, none⟩)] w fun r w' => ∃ v, r = .returned v ∧ w'.ownsRow w.heap.size 54 4 v (segsL d.files).length (segV (segsL d.files)) ∧ Below w.heap.size w w' := by
  have hf := files_any h (by omega) (fun f hf => hnm f hf)
  have HF := Lib.hid hf
  clear hf
  go_enter Tryz.func25, Tryz.ntmps25
  go_wp2_with (go_at_call 22; refine HF.out.mono ?_; rintro r w1 ⟨v1, rfl, o1, b1⟩; obtain ⟨a1, c1, rfl⟩ := row_form o1)
  go_loopw [3, 10] (fun v i wr => ∃ k : Nat, k ≤ d.files.length ∧ i = .int .i64 k ∧ (∃ a c, v = .slice a (segsL (d.files.take k)).length c) ∧ wr.ownsRow w1.heap.size 54 4 v (segsL (d.files.take k)).length (segV (segsL (d.files.take k))) ∧ Below w1.heap.size w1 wr) (fun _ i _ => d.files.length - (intOf i).toNat)
  case atStart => exact ⟨0, Nat.zero_le _, rfl, ⟨none, 0, rfl⟩, World.ownsRow_nil _ _ _ _, Below.refl _ _⟩
  case round =>
    obtain ⟨k, hk, rfl, ⟨a, c, rfl⟩, hown, hb⟩ := hrel
    by_cases hlt : k < d.files.length
    · obtain ⟨q, c', hv, hq1, hq2, _, _, hcells⟩ := row_at o1 (by omega)
      obtain ⟨rfl, rfl⟩ : a1 = some ⟨q, 0, none⟩ ∧ c1 = c' := by simpa using hv
      have cell : ∀ j, j < 3 → wr.cell? ⟨q, k * 3 + j, none⟩ = (fileCells d.files[k])[j]? := by
        intro j hj
        rw [hb.cell (show q < w1.heap.size from hq2), hcells _ (by omega), Nat.mul_comm, files_cell3 d.files k j hlt hj]
      have k0 := cell 0 (by decide)
      have k1 := cell 1 (by decide)
      have k2 := cell 2 (by decide)
      simp only [fileCells, List.getElem?_cons_zero, List.getElem?_cons_succ, Nat.add_zero] at k0 k1 k2
      have hlen := hnm d.files[k] (List.getElem_mem hlt)
      have hseg : segsL (d.files.take (k + 1)) = segsL (d.files.take k) ++ (if 0 < numberL d.files[k].name then [(numberL d.files[k].name, d.files[k])] else []) := by
        rw [List.take_succ_eq_append_getElem hlt, segsL_append, segsL_cons]
        simp [segsL]
      generalize d.files[k] = f at k0 k1 k2 hlen hseg
      obtain ⟨ti, hi, hz, hs1, hby⟩ := info_parts info_seg
      have hE : ∀ o, Env (wr.alloc o) := fun o => (E.below b1).below ((hb.mono (Nat.le_refl _)).alloc hb.size o)
      have hsz := hb.size
      have hnum := number_any (hE (.cells #[.string (B f.name), .string (B f.bytes), .int .i64 f.synced] 43)) f.name (by omega)
      have hlen2 : (segsL (d.files.take k)).length ≤ k := by
        have := List.length_filterMap_le (fun f : PF => if 0 < numberL f.name then some (numberL f.name, f) else none) (d.files.take k)
        rw [List.length_take] at this
        unfold segsL
        omega
      have hnz : (0 < numberL f.name) ↔ ¬ ((numberL f.name : Nat) : Int) = 0 := by omega
      generalize numberL f.name = m at hseg hnum hnz
      have hst : ∀ w2, Below (wr.alloc (.cells #[.string (B f.name), .string (B f.bytes), .int .i64 f.synced] 43)).heap.size (wr.alloc (.cells #[.string (B f.name), .string (B f.bytes), .int .i64 f.synced] 43)) w2 →
          (w2.cell? ⟨wr.heap.size, 0, none⟩ = some (.string (B f.name)) ∧ w2.cell? ⟨wr.heap.size, 1, none⟩ = some (.string (B f.bytes)) ∧ w2.cell? ⟨wr.heap.size, 2, none⟩ = some (.int .i64 f.synced)) ∧ Below wr.heap.size wr w2 ∧
          (w2.alloc (.cells #[.string (B f.name), .string (B f.bytes), .int .i64 f.synced, .int .i64 m] 54)).ownsRow w1.heap.size 54 4 (.slice a (segsL (d.files.take k)).length c) (segsL (d.files.take k)).length (segV (segsL (d.files.take k))) ∧
          ∀ j u, (segCells (m, f))[j]? = some u → (w2.alloc (.cells #[.string (B f.name), .string (B f.bytes), .int .i64 f.synced, .int .i64 m] 54)).cell? ((⟨w2.heap.size, 0, none⟩ : Addr).add j) = some u := by
        intro w2 b2
        have hh : w2.heap[wr.heap.size]? = some (.cells #[.string (B f.name), .string (B f.bytes), .int .i64 f.synced] 43 (0, 0)) := (b2.block wr.heap.size (by simp)).trans (heap_alloc_new wr _)
        have b3 : Below wr.heap.size wr w2 := ((Below.refl _ wr).alloc (Nat.le_refl _) _).trans (b2.mono (by simp))
        refine ⟨⟨?_, ?_, ?_⟩, b3, (own_below hown b3).alloc _, ?_⟩
        · rw [cell_of_row w2 wr.heap.size 0 _ _ _ hh]; rfl
        · rw [cell_of_row w2 wr.heap.size 1 _ _ _ hh]; rfl
        · rw [cell_of_row w2 wr.heap.size 2 _ _ _ hh]; rfl
        · intro j u hj
          rw [Addr.add_lit, Nat.zero_add, cell_of_row _ w2.heap.size j _ _ _ (heap_alloc_new w2 _)]
          rw [← hj]
          unfold segCells
          simp
      have HST := Lib.hid hst
      clear hst
      have HN := Lib.hid hnum
      have HC := Lib.hid cell
      clear hnum cell hcells
      by_cases hm : 0 < m
      · have hm2 := hnz.1 hm
        rw [if_pos hm] at hseg
        go_wp2_with (first
          | (go_at_call 49; (with_reducible refine HN.out.mono ?_); rintro r w2 ⟨rfl, b2⟩; obtain ⟨⟨d0, d1, d2⟩, b3, hown2, hnew⟩ := HST.out w2 b2)
          | (at_builtin; refine wpList_append_own _ rfl _ _ 47 rfl w1.heap.size 54 ti _ 4 48 Tryz.underlying47 hi hz hs1 hby rfl (by decide) _ _ _ rfl hown2 ⟨_, 0, none⟩ 1 1 (segCells (m, f)) rfl rfl hnew (by simp [segCells, Value.oneCell']) (by unfold maxLen; omega) (by omega) (by have := b3.size; simp; omega) ?_; intro v2 w4 hown4 hg4 _))
        have HB4 : Below w1.heap.size w1 w4 := (hb.trans (b3.mono hb.size)).alloc (Nat.le_trans hb.size b3.size) _ |>.grown hg4 (Nat.le_trans (Nat.le_trans hb.size b3.size) (by simp)) (fun j hj => (hown2.lt j hj).1)
        go_roundw
        case rel =>
          obtain ⟨a4, c4, rfl⟩ := row_form hown4
          refine ⟨k + 1, by omega, by go_num, ⟨a4, c4, ?_⟩, ?_, HB4⟩
          · rw [hseg, List.length_append]; rfl
          · rw [hseg, List.length_append, segV_append, segV_one]; exact hown4
        case measure => simp [intOf]; omega
      · obtain rfl : m = 0 := by omega
        rw [if_neg (by omega), List.append_nil] at hseg
        go_wp2_with (go_at_call 49; (with_reducible refine HN.out.mono ?_); rintro r w2 ⟨rfl, b2⟩; obtain ⟨⟨d0, d1, d2⟩, b3, hown2, hnew⟩ := HST.out w2 b2)
        go_roundw
        case rel => exact ⟨k + 1, by omega, by go_num, ⟨a, c, by rw [hseg]⟩, by rw [hseg]; exact own_below hown b3, hb.trans (b3.mono hb.size)⟩
        case measure => simp [intOf]; omega
    · obtain rfl : k = d.files.length := by omega
      rw [List.take_length] at hown
      have hlt' : ¬ ((d.files.length : Int) < d.files.length) := by omega
      go_wp2
      go_ret
      refine ⟨_, rfl, ?_, b1.trans (hb.mono b1.size)⟩
      exact own_low hown b1.size

end Go.Proofs.YtjidadolfpjdeaaGreatDoor

namespace Go.Proofs.YtjidadolfpjdeaaGreatDoor
open Go.RowKit
set_option linter.unusedVariables false


theorem Txt.first {w : World} {a : Option Addr} {n : Nat} {ls : List (List UInt8)} (h : Txt w a n ls) (k : Nat) (hk : k ≤ n) : Txt w a k (ls.take k) := by
  have hl := h.len
  refine ⟨by simp; omega, fun j hj => ?_⟩
  simp at hj
  obtain ⟨b, off, ha, hc⟩ := h.cell j (by omega)
  exact ⟨b, off, ha, by rw [hc]; simp⟩

theorem strV_one (ls : List (List UInt8)) : ∀ u ∈ strV ls, u.oneCell' = true := by
  intro u hu
  obtain ⟨l, _, rfl⟩ := List.mem_map.1 hu
  rfl

theorem run_append_txt (w : World) (ty : TypeId) (base : Nat) (v : Value) (n : Nat) (xs : List (List UInt8)) (hown : w.ownsRow base 9 1 v n (strV xs))
    (sa : Option Addr) (m c : Nat) (l : List (List UInt8)) (hs : Txt w sa m l) (hnil : sa = none → c = 0) (hsz : n + m ≤ 1000000) (hbase : base ≤ w.heap.size) :
    ∃ v' w', (Builtin.append_ #[23, 23] ty #[v, .slice sa m c]).run Tryz.prog w = .ok v' w' ∧ w'.ownsRow base 9 1 v' (n + m) (strV (xs ++ l)) ∧ w.grownBy w' v.ownBlock := by
  obtain ⟨ti, hi, hz, hs1, hby⟩ := info_parts info_str
  have happ : strV (xs ++ l) = strV xs ++ strV l := by simp [strV]
  rw [happ]
  have hl := hs.len
  cases sa with
  | none =>
    obtain rfl := hnil rfl
    have h0 : m = 0 := by
      cases m with
      | zero => rfl
      | succ m => obtain ⟨b, off, e, _⟩ := hs.cell 0 (by omega); cases e
    subst h0
    obtain rfl := List.eq_nil_of_length_eq_zero hl
    have hr := run_append_owned_none (P := Tryz.prog) w base 23 ty 9 ti 1 Tryz.underlying23 hi v n _ hown
    exact ⟨v, w, hr, by simpa [strV] using hown, World.grownBy.refl _ _⟩
  | some ad =>
    have hcell : ∀ j u, (strV l)[j]? = some u → w.cell? (ad.add j) = some u := by
      intro j u hu
      have hj : j < l.length := by have := (List.getElem?_eq_some_iff.1 hu).1; simpa [strV] using this
      obtain ⟨b, off, e, hc⟩ := hs.cell j hj
      cases e
      rw [Addr.add_lit, hc]
      simpa [strV, hj] using hu
    obtain ⟨v', w', h1, h2, h3, _⟩ := run_append_own (P := Tryz.prog) w base 23 ty 9 ti (.string ⟨#[]⟩) 1 16 Tryz.underlying23 hi hz hs1 hby rfl (by decide) v n _ hown ad m c (strV l)
      (by rw [strV_length]; omega) hcell (strV_one l) (by unfold maxLen; omega) (by omega) hbase
    exact ⟨v', w', h1, h2, h3⟩

theorem wpList_append_txt (w : World) {ops : Array Oper} {rest : List Oper} {o : Oper} {a : Act} {Q : Exit → Act → World → Prop} (hw : Region.wanted o (yielded ops a.tmps) = true) (s x : Operand)
    (ho : o.op = .call { callee := .builtin .append, args := #[s, x], argTypes := #[23, 23] })
    (base : Nat) (v : Value) (n : Nat) (xs : List (List UInt8)) (hv : a.eval s = v) (hown : w.ownsRow base 9 1 v n (strV xs))
    (sa : Option Addr) (m c : Nat) (l : List (List UInt8)) (hx : a.eval x = .slice sa m c) (hs : Txt w sa m l) (hnil : sa = none → c = 0) (hsz : n + m ≤ 1000000) (hbase : base ≤ w.heap.size)
    (h : ∀ v' w', w'.ownsRow base 9 1 v' (n + m) (strV (xs ++ l)) → w.grownBy w' v.ownBlock → wpList Tryz.prog ops Q rest (a.put o.dst v') w') : wpList Tryz.prog ops Q (o :: rest) a w := by
  refine wpList_step fun K hK => ?_
  rw [if_pos hw]
  obtain ⟨v', w', hr, h2, h3⟩ := run_append_txt w o.type base v n xs hown sa m c l hs hnil hsz hbase
  unfold Oper.wp execOp
  simp only [ho, resolve, invoke, builtin, Sem.run_bind, Sem.run_pure, Result.andThen_ok, List.map_toArray, List.map_cons, List.map_nil, hv, hx, hr]
  exact hK _ _ (h v' w' h2 h3)

end Go.Proofs.YtjidadolfpjdeaaGreatDoor
