/-
  Package frame's sumBytes and Put, and the library's Grow, Concat and Clone of bytes under it, over this translation: what they answer.
-/
import Derived.Test.YthpamdjgkmaleaaGreatDoorMi
import Derived.Test.YthpamdjgkmaleaaGreatDoorCrcEight
import Derived.Test.YthpamdjgkmaleaaGreatDoorMa
import Derived.Lib.AppendZeros
import Derived.Lib.LazyBuf
import Derived.Lib.ConvBytes
namespace Go.Proofs.YthpamdjgkmaleaaGreatDoor
open Go.RowKit
set_option linter.unusedVariables false

theorem low_at (x k : Nat) : ((UInt8.ofNat (x / 256 ^ k % 256)).toNat : Int) = (x : Int) / 2 ^ (8 * k) % 256 := by
  rw [UInt8.toNat_ofNat', pow256]
  have e : x / 2 ^ (8 * k) % 256 % 2 ^ 8 = x / 2 ^ (8 * k) % 256 := by
    generalize x / 2 ^ (8 * k) = y; omega
  rw [e, Int.natCast_emod, Int.natCast_ediv, Int.natCast_pow]
  rfl

set_option maxRecDepth 100000 in
set_option maxHeartbeats 1000000 in
theorem sumBytes_any (x : Nat) (w : World) (hx : x < 2 ^ 64) :
    Calls Tryz.prog 62 #[.int .u64 x] w fun r w' => ∃ g, r = .returned (.slice (some ⟨g, 0, none⟩) 8 8) ∧ Own w' w.heap.size g 8 8 (low 8 x) ∧ Below w.heap.size w w' := by
  obtain ⟨ti, hi, hz, hs1, hby⟩ := info_parts info_u8
  obtain ⟨w1, hmk, hown, hg⟩ := run_make_full (P := Tryz.prog) w w.heap.size 50 5 ti (.int .u8 0) 1 Tryz.underlying50 hi hz hs1 .i64 .i64 8 (by rw [hby]; omega) (by unfold maxLen; omega) (Nat.le_refl _)
  have hmk' : (Instr.makeSlice 50 (.int .i64 8) (.int .i64 8)).run Tryz.prog w = .ok (.slice (some ⟨w.heap.size, 0, none⟩) 8 8) w1 := hmk
  have hz8 : (madeCells (Value.int .u8 0).cells (8 * 1)).toList = Lib.byteCells (low 0 x) ++ List.replicate (8 - 0) (.int .u8 0) := by
    show (madeCells #[Value.int .u8 0] 8).toList = _
    rw [toList_madeCells_one]; simp [low, Lib.byteCells]
  rw [hz8] at hown
  have HO := Lib.hid hown
  have hbw : Below w.heap.size w w1 := (Below.refl _ _).grown hg (Nat.le_refl _) (by simp)
  clear hmk hz8 hown hi hz hs1 hby
  generalize hG : w.heap.size = g at *
  have HG := Lib.hid hG
  clear hG
  go_enter Tryz.func62, Tryz.ntmps62
  go_wp2
  go_loopw [8] (fun i wr => ∃ k : Nat, k ≤ 8 ∧ i = .int .i64 k ∧ wr.ownsRow g 5 1 (.slice (some ⟨g, 0, none⟩) 8 8) 8 (Lib.byteCells (low k x) ++ List.replicate (8 - k) (.int .u8 0)) ∧ Below g w wr) (fun i _ => 8 - (intOf i).toNat)
  case atStart => exact ⟨0, Nat.zero_le _, rfl, HO.out, hbw⟩
  case round =>
    obtain ⟨k, hk, rfl, ho, hb⟩ := hrel
    by_cases hlt : k < 8
    · have hst := (ho.stored k (.int .u8 ((x : Int) / 2 ^ (8 * k) % 256)))
      have hc := ho.cellAt k (by omega)
      have hfz := ho.frozenAt k
      have hsp : (Lib.byteCells (low k x) ++ List.replicate (8 - k) (Value.int .u8 0)).set k (.int .u8 ((x : Int) / 2 ^ (8 * k) % 256)) = Lib.byteCells (low (k + 1) x) ++ List.replicate (8 - (k + 1)) (.int .u8 0) := by
        have hlen : (Lib.byteCells (low k x)).length = k := by rw [Lib.byteCells_length, low_length]
        rw [List.set_append_right _ _ (by omega), hlen, Nat.sub_self, low_snoc, Lib.byteCells_append, show 8 - k = (8 - (k + 1)) + 1 from by omega, List.replicate_succ, List.set_cons_zero, List.append_assoc]
        rw [← low_at x k]
        rfl
      rw [hsp] at hst
      rw [List.getElem?_append_right (by rw [Lib.byteCells_length, low_length]; omega), Lib.byteCells_length, low_length, Nat.sub_self, List.getElem?_replicate, if_pos (by omega)] at hc
      have HS := Lib.hid hst
      clear hst hsp
      go_wp2
      go_roundw
      case rel => exact ⟨k + 1, by omega, by go_num, HS.out.1, hb.grown HS.out.2 (by rw [← HG.out]; exact hb.size) (by rintro k ⟨rfl⟩; exact Nat.le_refl _)⟩
      case measure => simp [intOf]; omega
    · obtain rfl : k = 8 := by omega
      go_wp2
      go_ret
      refine ⟨g, rfl, ?_, hb⟩
      unfold Own
      simpa using ho

set_option maxRecDepth 100000 in
/-- slices.Grow of nil. -/
theorem grow_nil (n : Nat) (w : World) (h1 : 1 ≤ n) (h2 : n ≤ 140737488355328) :
    Calls Tryz.prog 88 #[.slice none 0 0, .int .i64 n] w fun r w' => ∃ g c, n ≤ c ∧ r = .returned (.slice (some ⟨g, 0, none⟩) 0 c) ∧ Own w' w.heap.size g 0 c [] ∧ Below w.heap.size w w' := by
  obtain ⟨ti, hi, hz, hs1, hby⟩ := info_parts info_u8
  have hr := fun (v : World) ty => Lib.run_append_nil_zeros (P := Tryz.prog) v 50 3 ty 5 ti (.int .u8 0) .i64 .i64 Tryz.underlying50 Tryz.underlying3 hi hz n (by omega) (by omega) (by omega) (by rw [hby]; omega)
  have hge := grownCap_ge w n 0 5
  have hle := grownCap_le_maxLen w n 0 5 (by unfold maxLen; omega)
  generalize hC : grownCap w n 0 5 = C at hge hle
  have hrC := fun ty => hr w ty
  rw [hC] at hrC
  have HR := Lib.hid hrC
  clear hr hC hrC
  go_enter Tryz.func88, Tryz.ntmps88
  go_wp2_with (at_builtin; refine Lib.wpList_append_run _ rfl _ _ _ _ rfl _ _ rfl rfl _ _ (HR.out _) ?_)
  go_ret
  refine ⟨w.heap.size, C, hge, rfl, ?_, ((Below.refl _ _).alloc (Nat.le_refl _) _).drew⟩
  unfold Own
  exact World.ownsRow_made w _ C (Nat.le_refl _) hle (by simp [Builtin.zeroCells]; omega)

/-! ### Concat -/
/-- A source of bytes as a value. -/
structure Part where
  a : Option Addr
  n : Nat
  c : Nat
  l : List UInt8
def Part.val (p : Part) : Value := .slice p.a p.n p.c
def Parts (w : World) (ps : List Part) : Prop := ∀ p ∈ ps, Src w p.a p.n p.c p.l
def total (ps : List Part) : Nat := (ps.map (·.n)).sum
def flat (ps : List Part) : List UInt8 := ps.flatMap (·.l)

theorem total_take (ps : List Part) (k : Nat) (h : k < ps.length) : total (ps.take (k + 1)) = total (ps.take k) + ps[k].n := by
  unfold total; rw [List.take_succ_eq_append_getElem h, List.map_append, List.sum_append]; rfl
theorem flat_take (ps : List Part) (k : Nat) (h : k < ps.length) : flat (ps.take (k + 1)) = flat (ps.take k) ++ ps[k].l := by
  unfold flat; rw [List.take_succ_eq_append_getElem h, List.flatMap_append, List.flatMap_singleton]
theorem total_le (ps : List Part) (k : Nat) : total (ps.take k) ≤ total ps := by
  have h : total ps = total (ps.take k) + total (ps.drop k) := by
    unfold total; rw [← List.sum_append, ← List.map_append, List.take_append_drop]
  omega

set_option maxRecDepth 100000 in
set_option maxHeartbeats 1000000 in
theorem concat_any (b : Nat) (ps : List Part) (w : World) (hrow : w.heap[b]? = some (.cells (ps.map Part.val).toArray 50 (0, 0))) (hp : Parts w ps) (h1 : 1 ≤ total ps) (h2 : total ps ≤ 140737488355328) (hl : ps.length ≤ 1000) :
    Calls Tryz.prog 61 #[.slice (some ⟨b, 0, none⟩) ps.length ps.length] w fun r w' => ∃ g n c, r = .returned (.slice (some ⟨g, 0, none⟩) n c) ∧ Own w' w.heap.size g n c (flat ps) ∧ Below w.heap.size w w' := by
  have hcell := fun (wr : World) (hb : Below w.heap.size w wr) (k : Nat) (hk : k < ps.length) => show wr.cell? ⟨b, k, none⟩ = some ps[k].val from by
    have hblt : b < w.heap.size := (Array.getElem?_eq_some_iff.1 hrow).1
    rw [cell_of_row wr b k _ _ _ ((hb.block b hblt).trans hrow)]
    simp [hk]
  have HC := Lib.hid hcell
  clear hcell hrow
  go_enter Tryz.func61, Tryz.ntmps61
  go_wp2
  go_loopw [3, 11] (fun v i wr => ∃ k : Nat, k ≤ ps.length ∧ i = .int .i64 k ∧ v = .int .i64 (total (ps.take k)) ∧ w = wr) (fun _ i _ => ps.length - (intOf i).toNat)
  case atStart => exact ⟨0, Nat.zero_le _, rfl, rfl, rfl⟩
  case round =>
    obtain ⟨k, hk, rfl, rfl, rfl⟩ := hrel
    by_cases hlt : k < ps.length
    · have ht := total_take ps k hlt
      have hle := total_le ps (k + 1)
      have hc := HC.out w (Below.refl _ _) k hlt
      unfold Part.val at hc
      generalize hP : ps[k] = P at hc ht
      have HT := Lib.hid ht
      have b1 : ((total (ps.take k) : Nat) : Int) + ((P.n : Nat) : Int) ≤ 140737488355328 := by omega
      clear ht hle
      go_wp2
      go_roundw
      case rel => exact ⟨k + 1, by omega, by go_num, by rw [HT.out]; go_num, by first | rfl | trivial⟩
      case measure => simp [intOf]; omega
    · obtain rfl : k = ps.length := by omega
      rw [List.take_length]
      go_wp2_with (go_at_call 88; refine (grow_nil (total ps) _ h1 h2).mono ?_; rintro r w2 ⟨g, c, hgc, rfl, ho, hb⟩)
      go_loopw [6, 27] (fun v i wr => ∃ k : Nat, k ≤ ps.length ∧ i = .int .i64 k ∧ (∃ n, n = total (ps.take k) ∧ wr.ownsRow w.heap.size 5 1 v n (Lib.byteCells (flat (ps.take k)))) ∧ Below w.heap.size w wr) (fun _ i _ => ps.length - (intOf i).toNat)
      case atStart => exact ⟨0, Nat.zero_le _, rfl, ⟨0, rfl, ho⟩, hb⟩
      case round =>
        obtain ⟨k, hk, rfl, ⟨n, hn, hown⟩, hbk⟩ := hrel
        by_cases hlt : k < ps.length
        · have ht := total_take ps k hlt
          have hft := flat_take ps k hlt
          have hle := total_le ps (k + 1)
          have hc := HC.out wr hbk k hlt
          have hsrc := (hp ps[k] (List.getElem_mem hlt)).below hbk
          unfold Part.val at hc
          generalize hP : ps[k] = P at hc ht hft hsrc
          obtain ⟨pa, pn, pc, pl⟩ := P
          have hb1 : n + pn ≤ 140737488355328 := by rw [hn]; simp only at ht; omega
          have HN := Lib.hid (show total (ps.take (k + 1)) = n + pn from by rw [ht, hn])
          have HF := Lib.hid hft
          have HB := Lib.hid hbk
          clear ht hft hle hP hn
          simp only at hc hsrc
          go_wp2_with (at_builtin; refine wpList_append_src _ rfl _ _ rfl w.heap.size _ n (flat (ps.take k)) rfl hown pa pn pc pl rfl hsrc hb1 HB.out.size ?_)
          intro v2 w3 hown3 hg3
          have hb3 : Below w.heap.size w w3 := bgo HB.out hg3 (fun j hj => (hown.lt j hj).1)
          clear hown hsrc
          go_wp2
          go_roundw
          case rel => exact ⟨k + 1, by omega, by go_num, ⟨n + pn, HN.out.symm, by rw [HF.out]; exact hown3⟩, hb3⟩
          case measure => simp [intOf]; omega
        · obtain rfl : k = ps.length := by omega
          rw [List.take_length] at hn hown
          go_wp2
          go_ret
          rcases hown.2 with ⟨_, h0⟩ | ⟨g2, cap2, _, rfl, _⟩
          · omega
          · exact ⟨g2, n, cap2, rfl, hown, hbk⟩

theorem bclone_any (a : Option Addr) (n c : Nat) (l : List UInt8) (w : World) (h : Src w a n c l) (hn : n ≤ 140737488355328) :
    Calls Tryz.prog 60 #[.slice a n c] w fun r w' => ∃ a' c', r = .returned (.slice a' n c') ∧ Src w' a' n c' l ∧ Below w.heap.size w w' := by
  have he := Go.Lib.run_eql_slice_nil (P := Tryz.prog) w 50 5 a n c 0 0 Tryz.underlying50
  cases a with
  | none =>
    obtain ⟨rfl, rfl⟩ := h.nul rfl
    go_enter Tryz.func60, Tryz.ntmps60
    go_wp2
    go_ret
    exact ⟨none, 0, rfl, h, Below.refl _ _⟩
  | some ad =>
    obtain ⟨g, o, p⟩ := ad
    have hs := h.below ((Below.refl _ w).alloc (Nat.le_refl _) (.cells #[] 5))
    have how : (w.alloc (.cells #[] 5)).ownsRow w.heap.size 5 1 (.slice (some ⟨w.heap.size, 0, none⟩) 0 0) 0 (Lib.byteCells []) := World.ownsRow_lit w #[] 0 (Nat.le_refl _) (by unfold maxLen; omega) rfl
    go_enter Tryz.func60, Tryz.ntmps60
    go_wp2_with (at_builtin; refine wpList_append_src _ rfl _ _ rfl w.heap.size _ 0 [] rfl how (some ⟨g, o, p⟩) n c l rfl hs (by omega) (by simp) ?_)
    intro v w2 ho2 hg2
    obtain ⟨a2, c2, rfl, hs2⟩ := src_of_owns ho2
    go_wp2
    go_ret
    exact ⟨a2, c2, by first | rfl | simp, by simpa using hs2, bgo ((Below.refl _ _).alloc (Nat.le_refl _) _) hg2 (by rintro k ⟨rfl⟩; exact Nat.le_refl _)⟩

theorem addr_at (g j : Nat) : (⟨g, 0, none⟩ : Addr).add j = ⟨g, j, none⟩ := by
  cases j <;> simp [Addr.add]
theorem bthen {w0 w w' : World} (h : Below w0.heap.size w0 w) (k : Below w.heap.size w w') : Below w0.heap.size w0 w' := h.trans (k.mono h.size)

/-- A text as bytes of its own. -/
theorem to_bytes (l : List UInt8) (w : World) : ∃ w' c, (convert 9 50 (.string (B l))).run Tryz.prog w = .ok (.slice (some ⟨w.heap.size, 0, none⟩) l.length c) w' ∧ Src w' (some ⟨w.heap.size, 0, none⟩) l.length c l ∧ Below w.heap.size w w' := by
  have h := Lib.run_convert_string_bytes (P := Tryz.prog) w 9 50 5 (B l) Tryz.underlying9 Tryz.underlying50 Tryz.underlying5
  rw [B_size] at h
  refine ⟨_, _, h, ⟨rfl, by simp, ?_⟩, ?_⟩
  · rintro ad ⟨rfl⟩ j u hu
    have hj : j < l.length := by
      have := (List.getElem?_eq_some_iff.1 hu).1
      rwa [Lib.byteCells_length] at this
    have hc := Lib.bytesWorld_cell w 5 (B l) j (by rw [B_size]; exact hj)
    rw [addr_at, hc]
    simp [Lib.byteCells, hj] at hu ⊢
    exact hu
  · exact ⟨rfl, rfl, rfl, by rw [Lib.bytesWorld_size]; omega, fun k hk => Lib.bytesWorld_at_old w _ _ k hk⟩

set_option maxRecDepth 100000 in
set_option maxHeartbeats 1000000 in
/-- Put of an inside that may be. -/
theorem put_ok (a : Option Addr) (n c : Nat) (l t : List UInt8) (w : World) (h : Src w a n c l) (hn : n ≤ 35184372088832) (ht0 : t ≠ []) (ht : t.length ≤ 65536) :
    Calls Tryz.prog 42 #[.slice a n c, .string (B t)] w fun r w' => ∃ g n' c', r = .returned (.tuple #[.slice (some ⟨g, 0, none⟩) n' c', .int .i64 0]) ∧ Own w' w.heap.size g n' c' (l ++ frameL t) ∧ Below w.heap.size w w' := by
  have hN := fun w1 => wnum_any none 0 0 [] (t.length : Int) w1 (Src.nil w1) (by decide) (by omega) (by omega)
  simp only [Int.toNat_natCast, List.nil_append] at hN
  have hS : ∀ w1, Calls Tryz.prog 63 #[.string (B t)] w1 fun r w' => r = .returned (.int .u64 (sm t : Nat)) ∧ w1 = w' := fun w1 => crcSum_any t w1 (by omega)
  have hB := fun w1 => sumBytes_any (sm t) w1 (sm_lt t)
  have hts : (B t).size = t.length := B_size t
  have HN := Lib.hid hN
  have HB := Lib.hid hB
  have HT := Lib.hid hts
  clear hN hB hts
  have hgt : ((B t).size : Int) ≤ 65536 := by rw [B_size]; omega
  have he1 : ¬ (B t).toList = [] := by rw [ByteArray.toList_mk]; exact ht0
  have he2 : (B t).toList.isEmpty = false := by rw [ByteArray.toList_mk]; cases t with | nil => exact absurd rfl ht0 | cons x t => rfl
  generalize hSS : B t = S at *
  have HS := Lib.hid hS
  have HL := Lib.hid ht
  have HSS := Lib.hid hSS
  clear ht ht0 hS hSS
  go_enter Tryz.func42, Tryz.ntmps42
  go_wp2_with (first
    | (go_at_call 44; rw [HT.out]; refine (HN.out _).mono ?_; rintro r w1 ⟨g1, n1, c1, rfl, o1, b1⟩)
    | (go_at_call 63; refine (HS.out _).mono ?_; rintro r w2 ⟨rfl, rfl⟩)
    | (go_at_call 62; refine (HB.out _).mono ?_; rintro r w3 ⟨g3, rfl, o3, b3⟩; obtain ⟨w4, c4, hcv, s4, b4⟩ := to_bytes t w3; rw [HSS.out] at hcv))
  have ba := (Below.refl w4.heap.size w4).alloc (Nat.le_refl _) (.cells #[.slice a n c, .slice (some ⟨g1, 0, none⟩) n1 c1, .slice (some ⟨g3, 0, none⟩) 8 8, .slice (some ⟨w3.heap.size, 0, none⟩) t.length c4] 50)
  have s0 : Src _ a n c l := h.below (bthen (bthen (bthen b1 b3) b4) ba)
  have s1 : Src _ (some ⟨g1, 0, none⟩) n1 c1 (enc t.length) := (Src.of_own o1).below (bthen (bthen b3 b4) ba)
  have s3 : Src _ (some ⟨g3, 0, none⟩) 8 8 (low 8 (sm t)) := (Src.of_own o3).below (bthen b4 ba)
  have s5 := s4.below ba
  have hn1 : n1 ≤ 9 := by
    have := o1.len
    rw [enc_length] at this
    have h8 := nb_le8 (show t.length < 2 ^ 64 by have := HL.out; omega)
    omega
  have hC := concat_any w4.heap.size [⟨a, n, c, l⟩, ⟨some ⟨g1, 0, none⟩, n1, c1, enc t.length⟩, ⟨some ⟨g3, 0, none⟩, 8, 8, low 8 (sm t)⟩, ⟨some ⟨w3.heap.size, 0, none⟩, t.length, c4, t⟩] _ (heap_alloc_new w4 _)
    (by
      intro p hp
      simp only [List.mem_cons, List.not_mem_nil, or_false] at hp
      rcases hp with rfl | rfl | rfl | rfl
      · exact s0
      · exact s1
      · exact s3
      · exact s5)
    (by simp [total]; omega) (by have := HL.out; simp [total]; omega) (by simp)
  have hfl : flat [⟨a, n, c, l⟩, ⟨some ⟨g1, 0, none⟩, n1, c1, enc t.length⟩, ⟨some ⟨g3, 0, none⟩, 8, 8, low 8 (sm t)⟩, ⟨some ⟨w3.heap.size, 0, none⟩, t.length, c4, t⟩] = l ++ frameL t := by
    simp [flat, frameL]
  rw [hfl] at hC
  refine hC.mono ?_
  rintro r w5 ⟨g5, n5, c5, rfl, o5, b5⟩
  have bq := bthen (bthen (bthen (bthen b1 b3) b4) ba) b5
  have OQ : Own w5 w.heap.size g5 n5 c5 (l ++ frameL t) := by
    unfold Own at o5 ⊢
    refine ⟨o5.1, ?_⟩
    rcases o5.2 with ⟨he, _⟩ | ⟨g, cap, cur, he, hb, rest⟩
    · cases he
    · exact .inr ⟨g, cap, cur, he, Nat.le_trans (bthen (bthen (bthen b1 b3) b4) ba).size hb, rest⟩
  go_wp2
  go_ret2
  exact ⟨_, _, _, rfl, OQ, bq⟩

set_option maxRecDepth 100000 in
set_option maxHeartbeats 1000000 in
/-- Put of no bytes, or of too many. -/
theorem put_long (a : Option Addr) (n c : Nat) (l t : List UInt8) (w : World) (h : Src w a n c l) (hn : n ≤ 140737488355328) (ht : t = [] ∨ 65536 < t.length) :
    Calls Tryz.prog 42 #[.slice a n c, .string (B t)] w fun r w' => ∃ a' c', r = .returned (.tuple #[.slice a' n c', .int .i64 6]) ∧ Src w' a' n c' l ∧ Below w.heap.size w w' := by
  have hC := fun w1 (hs : Src w1 a n c l) => bclone_any a n c l w1 hs hn
  have HC := Lib.hid hC
  clear hC
  by_cases h0 : t = []
  · subst h0
    go_enter Tryz.func42, Tryz.ntmps42
    go_wp2_with (go_at_call 60; refine (HC.out _ h).mono ?_; rintro r w1 ⟨a1, c1, rfl, s1, b1⟩)
    go_ret2
    exact ⟨_, _, rfl, s1, b1⟩
  · have hlt : 65536 < t.length := ht.resolve_left h0
    have hgt : 65536 < ((B t).size : Int) := by rw [B_size]; omega
    have he1 : ¬ (B t).toList = [] := by rw [ByteArray.toList_mk]; exact h0
    have he2 : (B t).toList.isEmpty = false := by rw [ByteArray.toList_mk]; cases t with | nil => exact absurd rfl h0 | cons x t => rfl
    generalize B t = S at *
    clear ht h0 hlt
    go_enter Tryz.func42, Tryz.ntmps42
    go_wp2_with (go_at_call 60; refine (HC.out _ h).mono ?_; rintro r w1 ⟨a1, c1, rfl, s1, b1⟩)
    go_ret2
    exact ⟨_, _, rfl, s1, b1⟩

end Go.Proofs.YthpamdjgkmaleaaGreatDoor
