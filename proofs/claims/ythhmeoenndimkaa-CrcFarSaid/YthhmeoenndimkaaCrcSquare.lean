/-
  Package crc's byteMatrix, the closure that squares a matrix, and Join.
-/
import Derived.Test.YthhmeoenndimkaaCrcTimes
import Derived.Laws.ResultCell
import Derived.Laws.CopyOwn
namespace Go.Proofs.Ythhmeoenndimkaa
open Go.RowKit Crc
set_option linter.unusedVariables false

/-- A matrix's cells, one of them written anew. -/
theorem mat_set (M : Nat → Crc.W) (k : Nat) (x : Crc.W) (h : k < 64) : (mat M).setIfInBounds k (.int .u64 (I x)) = mat (fun i => if i = k then x else M i) := by
  apply Array.ext_getElem?
  intro i
  rw [Array.getElem?_setIfInBounds]
  by_cases hi : i < 64
  · rw [mat_get _ i hi, mat_get _ i hi]
    by_cases e : k = i
    · subst e; simp [mat_size, h]
    · have e' : ¬ i = k := fun h => e h.symm
      simp [e, e']
  · have e : ¬ k = i := by omega
    have h1 : (mat M)[i]? = none := Array.getElem?_eq_none (by rw [mat_size]; omega)
    have h2 : (mat (fun i => if i = k then x else M i))[i]? = none := Array.getElem?_eq_none (by rw [mat_size]; omega)
    rw [if_neg e, h1, h2]

theorem mat_congr {M N : Nat → Crc.W} (h : ∀ i, i < 64 → M i = N i) : mat M = mat N := by
  apply Array.ext_getElem?
  intro i
  by_cases hi : i < 64
  · rw [mat_get _ i hi, mat_get _ i hi, h i hi]
  · rw [Array.getElem?_eq_none (by rw [mat_size]; omega), Array.getElem?_eq_none (by rw [mat_size]; omega)]

theorem mat_one (M : Nat → Crc.W) : (mat M).all (·.oneCell') = true := by
  rw [Array.all_eq_true_iff_forall_mem]
  intro v hv
  simp [mat] at hv
  obtain ⟨a, _, rfl⟩ := hv
  rfl

theorem shlI (k : Nat) (h : k < 64) : IntKind.u64.wrap (2 ^ k) = I (1#64 <<< k) := by
  unfold I
  rw [BitVec.toNat_shiftLeft, Nat.shiftLeft_eq]
  have h1 : (1#64 : Crc.W).toNat = 1 := rfl
  have h2 : 2 ^ k < 2 ^ 64 := Nat.pow_lt_pow_right (by omega) h
  rw [h1, Nat.one_mul, Nat.mod_eq_of_lt h2]
  have h3 : ((2 : Int) ^ k) = ((2 ^ k : Nat) : Int) := by simp
  rw [h3]
  have h4 : (2 ^ k : Nat) < 18446744073709551616 := h2
  generalize (2 ^ k : Nat) = n at h4
  simp [IntKind.wrap, IntKind.bits, IntKind.signed]
  omega

/-- The columns of so many steps. -/
def cols (n : Nat) : Nat → Crc.W := fun i => steps n (1#64 <<< i)

theorem mat_under : (Try.prog).underlying 37 = some (.array 64 22) := by kernel_rfl
theorem mat_info (M : Nat → Crc.W) : ((Try.prog).info? 37).map (·.size) = some (mat M).size := by rw [mat_size]; kernel_rfl

set_option maxRecDepth 100000 in
set_option maxHeartbeats 4000000 in
theorem byteMatrix_any (w : World) :
    Calls Try.prog 17 #[] w fun r w' => r = .returned (.agg (mat (cols 8))) ∧ Below w.heap.size w w' := by
  go_enter Try.func17, Try.ntmps17
  go_wp2_with fail
  go_loopw [3] (fun iv wr => ∃ k : Nat, k ≤ 64 ∧ iv = .int .i64 k ∧ wr = (w.alloc (.cells (mat fun _ => 0#64) 37)).alloc (.cells (mat fun i => if i < k then cols 8 i else 0#64) 37)) (fun iv _ => 64 - (intOf iv).toNat)
  case atStart => exact ⟨0, Nat.zero_le _, rfl, rfl⟩
  case round =>
    obtain ⟨k, hk, rfl, rfl⟩ := hrel
    by_cases hlt : k < 64
    · have HN := Lib.hid (mat_set (fun i => if i < k then cols 8 i else 0#64) k (cols 8 k) hlt)
      have hc := mat_get (fun i => if i < k then cols 8 i else 0#64) k hlt
      generalize mat (fun i => if i < k then cols 8 i else 0#64) = M at HN hc
      generalize mat (fun _ => 0#64) = Z
      have hm : min k 64 = k := by omega
      have hs := shlI k hlt
      go_wp2_with (go_at_call 15; refine (eight_any _ _).mono ?_; rintro r w4 ⟨rfl, rfl⟩)
      go_roundw
      case rel =>
        refine ⟨k + 1, by omega, by go_num, ?_⟩
        refine congrArg (fun A => (w.alloc (.cells Z 37)).alloc (.cells A 37)) (HN.out.trans (mat_congr fun i hi => ?_))
        by_cases e : i = k
        · subst e; simp
        · have e' : (i < k + 1) = (i < k) := by apply propext; omega
          simp [e, e']
      case measure => simp [intOf]; omega
    · obtain rfl : k = 64 := by omega
      have e : (mat fun i => if i < 64 then cols 8 i else 0#64) = mat (cols 8) := mat_congr (fun i hi => by simp [hi])
      rw [e]
      have h1 : (mat (cols 8)).size = (mat fun _ => 0#64).size := by rw [mat_size, mat_size]
      have h2 := mat_one (cols 8)
      have h3 := mat_info (cols 8)
      have hold : (mat fun _ => 0#64).size = (mat (cols 8)).size := by rw [mat_size, mat_size]
      have H2 := Lib.hid h2
      have H3 := Lib.hid h3
      have H4 := Lib.hid hold
      clear h1 h2 h3 hold
      generalize hA : (w.alloc (.cells (mat fun _ => 0#64) 37)).alloc (.cells (mat (cols 8)) 37) = W
      have q1 : W.heap[w.heap.size + 1]? = some (.cells (mat (cols 8)) 37 (0, 0)) := by rw [← hA]; exact heap_alloc2_new _ _ _
      have q0 : W.heap[w.heap.size]? = some (.cells (mat fun _ => 0#64) 37 (0, 0)) := by rw [← hA]; exact heap_alloc2_old _ _ _
      have qb : Below w.heap.size w W := by rw [← hA]; exact ((Below.refl _ _).alloc (Nat.le_refl _) _).alloc (by simp) _
      have Q0 := Lib.hid q0
      have Q1 := Lib.hid q1
      have QB := Lib.hid qb
      clear q0 q1 qb hA
      go_wp2_with (first
        | (refine wpList_load_row rfl _ _ rfl (w.heap.size + 1) rfl 37 (mat (cols 8)) (0, 0) _ Q1.out mat_under rfl H3.out ?_)
        | (refine wpList_store_row rfl _ _ _ rfl w.heap.size (mat (cols 8)) rfl rfl 37 (mat fun _ => 0#64) Q0.out H3.out H4.out H2.out ?_))
      exact bodyPost_ret (v := .agg (mat (cols 8))) (results_cell_row rfl _ _ w.heap.size 37 (mat (cols 8)) (0, 0) _ rfl (setRow_heap _ _ _ _ _ _ Q0.out) mat_under rfl H3.out) rfl ⟨rfl, below_setRow QB.out (Nat.le_refl _) _⟩

theorem row_setCell {w : World} {b k : Nat} {A : Array Value} {u : Value} {t : TypeId} (h : w.heap[b]? = some (.cells A t (0, 0))) : (w.setCell ⟨b, k, none⟩ u).heap[b]? = some (.cells (A.setIfInBounds k u) t (0, 0)) := by
  have hlt := lt_of_block h
  have h' : w.heap[b] = .cells A t (0, 0) := by simpa [Array.getElem?_eq_getElem hlt] using h
  show (w.heap.modify b _)[b]? = _
  rw [Array.getElem?_eq_getElem (by simpa using hlt), Array.getElem_modify_self, h']
  rfl

/-- What a matrix is, squared so far. -/
def squared (M : Nat → Crc.W) (k : Nat) : Nat → Crc.W := fun i => if i < k then ap M (M i).getLsbD 64 else M i

theorem squared_at (M : Nat → Crc.W) (k : Nat) : squared M k k = M k := by simp [squared]
theorem squared_next (M : Nat → Crc.W) (k : Nat) : mat (fun i => if i = k then ap M (M k).getLsbD 64 else squared M k i) = mat (squared M (k + 1)) := by
  refine mat_congr fun i hi => ?_
  by_cases e : i = k
  · subst e; simp [squared]
  · have e' : (i < k + 1) = (i < k) := by apply propext; omega
    simp [squared, e, e']
theorem squared_zero (M : Nat → Crc.W) : mat (squared M 0) = mat M := mat_congr fun i _ => by simp [squared]
theorem squared_all (M : Nat → Crc.W) : mat (squared M 64) = mat fun i => ap M (M i).getLsbD 64 := mat_congr fun i hi => by simp [squared, hi]

set_option maxRecDepth 100000 in
set_option maxHeartbeats 4000000 in
theorem square_any (M : Nat → Crc.W) (g : Nat) (w : World) (hg : w.heap[g]? = some (.cells (mat M) 37 (0, 0))) :
    Calls Try.prog 18 #[.pointer (some ⟨g, 0, none⟩)] w fun r w' => r = .returned (.tuple #[]) ∧ w'.heap[g]? = some (.cells (mat fun i => ap M (M i).getLsbD 64) 37 (0, 0)) ∧ Below g w w' := by
  have hb : g < w.heap.size := lt_of_block hg
  have H0 := Lib.hid hg
  have HB := Lib.hid hb
  have HI := Lib.hid (mat_info M)
  clear hg hb
  go_enter Try.func18, Try.ntmps18
  go_wp2_with (refine wpList_load_row rfl _ _ rfl g rfl 37 (mat M) (0, 0) _ H0.out mat_under rfl HI.out ?_)
  go_loopw [5] (fun iv wr => ∃ k : Nat, k ≤ 64 ∧ iv = .int .i64 k ∧ wr.heap[g]? = some (.cells (mat (squared M k)) 37 (0, 0)) ∧ Below g w wr) (fun iv _ => 64 - (intOf iv).toNat)
  case atStart => exact ⟨0, Nat.zero_le _, rfl, by rw [squared_zero]; exact H0.out, Below.refl _ _⟩
  case round =>
    obtain ⟨k, hk, rfl, hq, hbel⟩ := hrel
    have HL := Lib.hid hbel
    have HQ := Lib.hid hq
    clear hbel hq
    by_cases hlt : k < 64
    · have hc : wr.cell? ⟨g, k, none⟩ = some (.int .u64 (I (M k))) := by rw [cell_of_row wr g k _ _ _ HQ.out, mat_get _ _ hlt, squared_at]
      have HT := Lib.hid (fun x w1 => times_any M x w1)
      have hlg : g < wr.heap.size := lt_of_block HQ.out
      have HLG := Lib.hid hlg
      clear hlg
      go_wp2_with (go_at_call 19; refine (HT.out _ _).mono ?_; rintro r w4 ⟨rfl, b4⟩; have c4 := b4.cell (p := ⟨g, k, none⟩) HLG.out; have f4 := b4.frozen (p := ⟨g, k, none⟩) HLG.out; have f5 := frozen_of_row wr g k _ _ HQ.out)
      have q4 : w4.heap[g]? = some (.cells (mat (squared M k)) 37 (0, 0)) := by rw [b4.block g HLG.out]; exact HQ.out
      have qn := row_setCell (k := k) (u := .int .u64 (I (ap M (M k).getLsbD 64))) q4
      rw [mat_set _ _ _ hlt, squared_next] at qn
      have bn : Below g w (w4.setCell ⟨g, k, none⟩ (.int .u64 (I (ap M (M k).getLsbD 64)))) := (HL.out.trans (b4.mono (Nat.le_of_lt HLG.out))).setCell (Nat.le_refl _) _
      have QN := Lib.hid qn
      have BN := Lib.hid bn
      clear qn bn q4 c4 f4 f5
      go_roundw
      case rel => exact ⟨k + 1, by omega, by go_num, QN.out, BN.out⟩
      case measure => simp [intOf]; omega
    · obtain rfl : k = 64 := by omega
      have q := HQ.out
      rw [squared_all] at q
      have Q := Lib.hid q
      clear q
      go_wp2_with fail
      go_end0
      exact ⟨rfl, Q.out, HL.out⟩

/-- What so many steps do, done twice. -/
theorem cols_square (p : Nat) : (fun i => ap (cols (8 * p)) (cols (8 * p) i).getLsbD 64) = cols (8 * (2 * p)) := by
  funext i
  have h := ap_steps (8 * p) (cols (8 * p) i)
  rw [show (fun j => steps (8 * p) (1#64 <<< j)) = cols (8 * p) from rfl] at h
  rw [h]
  show steps (8 * p) (steps (8 * p) (1#64 <<< i)) = steps (8 * (2 * p)) (1#64 <<< i)
  rw [← steps_add]
  congr 1
  omega

theorem ap_cols (n : Nat) (x : Crc.W) : ap (cols n) x.getLsbD 64 = steps n x := ap_steps n x

theorem low_i64 (m : Nat) (h : m ≤ 9223372036854775807) : bits .and .i64 (m : Int) 1 = if m % 2 = 1 then 1 else 0 := by
  have e1 : BitVec.ofInt 64 (1 : Int) = 1#64 := by decide
  show IntKind.i64.wrap (((BitVec.ofInt 64 (m : Int) &&& BitVec.ofInt 64 1).toNat : Nat) : Int) = _
  rw [BitVec.ofInt_natCast, e1, low_one, lsb_nat, BitVec.toNat_ofNat, Nat.mod_eq_of_lt (show m < 2 ^ 64 by omega)]
  by_cases h : m % 2 = 1
  · rw [if_pos h, decide_eq_true h]; decide
  · rw [if_neg h, decide_eq_false h]; decide

/-- A round of Join's loop: half of what is left is left, by twice as many steps. -/
theorem join_round (p m : Nat) (x : Crc.W) : steps (8 * (2 * p * (m / 2))) (if m % 2 = 1 then steps (8 * p) x else x) = steps (8 * (p * m)) x := by
  have hm := Nat.div_add_mod m 2
  generalize m / 2 = q at hm
  by_cases h : m % 2 = 1
  · rw [if_pos h, ← steps_add]
    congr 1
    rw [h] at hm
    subst hm
    rw [Nat.mul_add, Nat.mul_one, Nat.mul_add, Nat.add_comm, Nat.mul_assoc 2 p q, Nat.mul_left_comm 2 p q]
  · have h0 : m % 2 = 0 := by omega
    rw [if_neg h]
    congr 2
    rw [h0] at hm
    subst hm
    rw [Nat.add_zero, Nat.mul_assoc 2 p q, Nat.mul_left_comm 2 p q]

set_option maxRecDepth 100000 in
set_option maxHeartbeats 4000000 in
theorem crcJoin_any (a b : Crc.W) (n : Int) (w : World) (hn0 : -9223372036854775808 ≤ n) (hn : n ≤ 9223372036854775807) :
    Calls Try.prog 13 #[.int .u64 (I a), .int .u64 (I b), .int .i64 n] w fun r w' => r = .returned (.int .u64 (I (join a b n.toNat))) ∧ Below w.heap.size w w' := by
  have HI := Lib.hid (mat_info (cols 8))
  have HO := Lib.hid (mat_one (cols 8))
  go_enter Try.func13, Try.ntmps13
  go_wp2_with (first
    | (go_at_call 17; (with_reducible refine (byteMatrix_any _).mono ?_); rintro r w1 ⟨rfl, b1⟩; have hz1 : (mat (cols 8)).size = 64 := mat_size _)
    | (refine wpList_store_row rfl _ _ _ rfl w1.heap.size (mat (cols 8)) rfl rfl 37 _ (heap_alloc_new _ _) HI.out (by rw [mat_size]; rfl) HO.out ?_))
  have hrow := setRow_heap (w1.alloc (.cells (mat fun _ => 0#64) 37)) w1.heap.size _ (mat (cols 8)) _ (0, 0) (heap_alloc_new _ _)
  have hbel : Below w.heap.size w ((w1.alloc (.cells (mat fun _ => 0#64) 37)).setRow w1.heap.size (mat (cols 8))) := below_setRow (b1.alloc b1.size _) b1.size _
  have hg : w.heap.size ≤ w1.heap.size := b1.size
  have HR := Lib.hid hrow
  have HL := Lib.hid hbel
  have HG := Lib.hid hg
  clear hrow hbel hg hz1 b1
  generalize w1.heap.size = g at HR HL HG
  go_loopw [0, 2] (fun av nv wr => ∃ (p : Nat) (z : Int) (x : Crc.W), av = .int .u64 (I x) ∧ nv = .int .i64 z ∧ z ≤ 9223372036854775807 ∧ steps (8 * (p * z.toNat)) x = steps (8 * n.toNat) a ∧ wr.heap[g]? = some (.cells (mat (cols (8 * p))) 37 (0, 0)) ∧ Below w.heap.size w wr) (fun _ nv _ => (intOf nv).toNat)
  case atStart => exact ⟨1, n, a, rfl, rfl, hn, by rw [Nat.one_mul], HR.out, HL.out⟩
  case round =>
    obtain ⟨p, z, x, rfl, rfl, hz, hst, hrow, hbel⟩ := hrel
    clear HR HL
    have HS := Lib.hid hst
    have HR := Lib.hid hrow
    have HL := Lib.hid hbel
    clear hst hrow hbel
    by_cases hpos : 0 < z
    · obtain ⟨m, rfl⟩ := Int.eq_ofNat_of_zero_le (Int.le_of_lt hpos)
      have hlow := low_i64 m (by omega)
      have HJ := Lib.hid (join_round p m x)
      have HI := Lib.hid (mat_info (cols (8 * p)))
      have HT := Lib.hid (fun y w1 => times_any (cols (8 * p)) y w1)
      have HQ := Lib.hid (fun w1 h => square_any (cols (8 * p)) g w1 h)
      by_cases hodd : m % 2 = 1
      · rw [if_pos hodd] at hlow HJ
        clear hodd
        go_wp2_with (first
          | (refine wpList_load_row rfl _ _ rfl g rfl 37 (mat (cols (8 * p))) (0, 0) _ HR.out mat_under rfl HI.out ?_)
          | (go_at_call 19; (with_reducible refine (HT.out _ _).mono ?_); rintro r w4 ⟨rfl, b4⟩)
          | (go_at_call 18; (with_reducible refine (HQ.out _ (by rw [b4.block g (lt_of_block HR.out)]; exact HR.out)).mono ?_); rintro r w5 ⟨rfl, q5, b5⟩))
        rw [cols_square p] at q5
        have hn2 : ((m : Int) / 2).toNat = m / 2 := by omega
        have hm0 : (m : Int).toNat = m := by omega
        have hs := HS.out
        rw [hm0] at hs
        refine ⟨⟨2 * p, (m : Int) / 2, steps (8 * p) x, by rw [ap_cols], rfl, by omega, by rw [hn2, HJ.out, hs], q5, (HL.out.trans (b4.mono (Nat.le_trans HG.out (Nat.le_of_lt (lt_of_block HR.out))))).trans (b5.mono HG.out)⟩, ?_⟩
        simp [intOf]; omega
      · rw [if_neg hodd] at hlow HJ
        clear hodd
        go_wp2_with (go_at_call 18; (with_reducible refine (HQ.out _ HR.out).mono ?_); rintro r w5 ⟨rfl, q5, b5⟩)
        rw [cols_square p] at q5
        have hn2 : ((m : Int) / 2).toNat = m / 2 := by omega
        have hm0 : (m : Int).toNat = m := by omega
        have hs := HS.out
        rw [hm0] at hs
        refine ⟨⟨2 * p, (m : Int) / 2, x, rfl, rfl, by omega, by rw [hn2, HJ.out, hs], q5, HL.out.trans (b5.mono HG.out)⟩, ?_⟩
        simp [intOf]; omega
    · have hz0 : z.toNat = 0 := by omega
      have hs := HS.out
      rw [hz0, Nat.mul_zero, Nat.mul_zero] at hs
      have hx : x = steps (8 * n.toNat) a := hs
      have hj := xorI x b
      rw [hx] at hj
      have HX := Lib.hid hx
      have HJ : Hid (bits .xor .u64 (I x) (I b) = I (join a b n.toNat)) := Lib.hid (by rw [hx]; exact hj)
      clear hs hx hj hz0
      go_wp2_with fail
      go_ret
      exact ⟨by rw [HJ.out]; rfl, HL.out⟩

/-- What the calls of package crc answer. -/
theorem crcSpec : CrcSpec where
  sum l w h := (crcSum_any l w (by omega)).mono (by rintro r w' ⟨rfl, rfl⟩; exact ⟨rfl, Below.refl _ _⟩)
  more x l w h := (crcMore_any x l w (by omega)).mono (by rintro r w' ⟨rfl, rfl⟩; exact ⟨rfl, Below.refl _ _⟩)
  join a b n w h0 h1 := crcJoin_any a b n w h0 h1

end Go.Proofs.Ythhmeoenndimkaa
