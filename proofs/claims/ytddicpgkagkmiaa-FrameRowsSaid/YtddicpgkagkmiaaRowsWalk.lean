/-
  FrameRows over this translation: it answers true, whatever the input; of what was there nothing has turned.
-/
import Derived.Test.YtddicpgkagkmiaaRowLib
import Derived.Test.YtddicpgkagkmiaaFrRows
import Derived.Test.YtddicpgkagkmiaaFrSame
import Derived.Test.YtddicpgkagkmiaaFrWakes
import Derived.Deep.Strs
import Derived.Deep.DeepCutAuto
import Derived.Deep.CutBlock
namespace Go.Proofs.Ytddicpgkagkmiaa
open Go.RowKit Go.ChangeShapes Go.WideShapes Go.ChangeAt Go.Deep
set_option linter.unusedVariables false

theorem cellsOf_str : Try.prog.cellsOf 9 = 1 := by kernel_rfl
theorem info_int : (Try.prog.info? 3).map (fun i => (i.zero, i.size, i.bytes)) = some (some (.int .i64 0), 1, 8) := by kernel_rfl

/-- A slice of texts that came in. -/
theorem strs_of {H : Type} {enc : TypeId × Value → H} {W : World} {a : Option Addr} {n c : Nat} {d : DataW H} {p : List MemPlace}
    (h : DataW.Trod enc Try.prog W 0 (fun _ => true) true 31 (.slice a n c) d p) : n ≤ c ∧ c ≤ maxLen ∧ ∃ ls, Txt W a n ls := by
  obtain ⟨fuel, hf⟩ := h
  rcases open_strs Try.underlying31 Try.underlying9 cellsOf_str hf with ⟨hcs, _⟩ | ⟨x, l, c', m, Sx, hcs, _, hl, hm, hmm, _, hcell⟩
  · simp [Value.cells] at hcs
    obtain ⟨rfl, rfl, rfl⟩ := hcs
    exact ⟨Nat.le_refl _, by decide, [], ⟨rfl, fun j hj => absurd hj (by simp)⟩⟩
  · simp [Value.cells] at hcs
    obtain ⟨rfl, rfl, rfl⟩ := hcs
    simp at hmm
    subst hmm
    refine ⟨hl, hm, (List.range n).map fun i => (Sx i).data.toList, ⟨by simp, fun j hj => ?_⟩⟩
    simp at hj
    have hc := (hcell j (by omega)).1
    obtain ⟨b, off, sp⟩ := x
    have hs : sp = none := by have := World.cell?_spot (hcell 0 (by omega)).1; simpa [Addr.add] using this
    subst hs
    refine ⟨b, off, rfl, ?_⟩
    rw [Addr.add_lit] at hc
    rw [hc]
    simp [← B_data]

/-- Where frames end. -/
def endV (ls : List (List UInt8)) (k : Nat) : List Value := (List.range k).map fun j => .int .i64 (sizes (ls.take (j + 1)) : Nat)
theorem endV_snoc (ls : List (List UInt8)) (k : Nat) : endV ls (k + 1) = endV ls k ++ [.int .i64 (sizes (ls.take (k + 1)) : Nat)] := by simp [endV, List.range_succ]
theorem endV_at (ls : List (List UInt8)) {k j : Nat} (h : j < k) : (endV ls k)[j]? = some (.int .i64 (sizes (ls.take (j + 1)) : Nat)) := by simp [endV, h]

theorem Small.snoc {ls : List (List UInt8)} {k : Nat} (h : Small (ls.take k)) (hk : k < ls.length) (h1 : 1 ≤ ls[k].length) (h2 : ls[k].length ≤ 200) : Small (ls.take (k + 1)) := by
  rw [List.take_succ_eq_append_getElem hk]
  intro x hx
  rcases List.mem_append.1 hx with h' | h'
  · exact h x h'
  · simp at h'; subst h'; exact ⟨h1, h2⟩

theorem sizes_take' {ls : List (List UInt8)} {m : Nat} (h : m < ls.length) (h2 : ls[m].length ≤ 200) : sizes (ls.take (m + 1)) = sizes (ls.take m) + (ls[m].length + 9) := by
  rw [List.take_succ_eq_append_getElem h, sizes_snoc, frame_small_length h2]

/-- Rows of two types lie in two blocks. -/
theorem own_ne {W : World} {b b' s s' k k' : Nat} {e e' : TypeId} {v v' : Value} {xs xs' : List Value} (h : W.ownsRow b e s v k xs) (h' : W.ownsRow b' e' s' v' k' xs') (hne : e ≠ e') : v.ownBlock = none ∨ v.ownBlock ≠ v'.ownBlock := by
  rcases h.2 with ⟨rfl, _⟩ | ⟨g, cap, cur, rfl, _, hg, _⟩
  · exact .inl rfl
  · right
    rcases h'.2 with ⟨rfl, _⟩ | ⟨g', cap', cur', rfl, _, hg', _⟩
    · simp [Value.ownBlock]
    · intro e2
      obtain rfl : g = g' := by simpa [Value.ownBlock] using e2
      rw [hg] at hg'
      simp at hg'
      exact hne hg'.2

theorem Own.take {w : World} {base g n cap : Nat} {l : List UInt8} (h : Own w base g n cap l) (k : Nat) (hk : k ≤ n) (c : Nat) : Src w (some ⟨g, 0, none⟩) k c (l.take k) := by
  have hl := h.len
  refine ⟨by simp; omega, by simp, ?_⟩
  rintro ad ⟨rfl⟩ j u hu
  have hj : j < (l.take k).length := by
    have := (List.getElem?_eq_some_iff.1 hu).1
    rwa [Lib.byteCells_length] at this
  simp at hj
  have hc := World.ownsRow.cellAt h j (by omega)
  rw [addr_at, hc]
  simp [Lib.byteCells, hj] at hu ⊢
  exact ⟨_, List.getElem?_eq_getElem (by omega), hu⟩

theorem Txt.take {w : World} {a : Option Addr} {n : Nat} {ls : List (List UInt8)} (h : Txt w a n ls) (k : Nat) (hk : k ≤ n) : Txt w a k (ls.take k) := by
  have hl := h.len
  refine ⟨by simp; omega, fun j hj => ?_⟩
  simp at hj
  obtain ⟨b, off, ha, hc⟩ := h.cell j (by omega)
  exact ⟨b, off, ha, by rw [hc]; simp⟩

theorem byteCells_set (l : List UInt8) (p : Nat) (c : UInt8) : Lib.byteCells (l.set p c) = (Lib.byteCells l).set p (.int .u8 (c.toNat : Int)) := by
  simp [Lib.byteCells, List.map_set]

/-- What FrameRows has made: the frames' bytes, and where they end. -/
structure RW (w W : World) (g N bc : Nat) (L : List UInt8) (ge n ec : Nat) (ls : List (List UInt8)) : Prop where
  own : Own W w.heap.size g N bc L
  ends : W.ownsRow w.heap.size 3 1 (.slice (some ⟨ge, 0, none⟩) n ec) n (endV ls n)
  bel : Below w.heap.size w W

theorem RW.kept {w W W' : World} {g N bc : Nat} {L : List UInt8} {ge n ec : Nat} {ls : List (List UInt8)} (h : RW w W g N bc L ge n ec ls) (hb : Below W.heap.size W W') : RW w W' g N bc L ge n ec ls :=
  ⟨ownsRow_below h.own hb, ownsRow_below h.ends hb, bb h.bel hb⟩
theorem RW.drew {w W : World} {g N bc : Nat} {L : List UInt8} {ge n ec : Nat} {ls : List (List UInt8)} (h : RW w W g N bc L ge n ec ls) : RW w W.drew g N bc L ge n ec ls :=
  ⟨World.ownsRow.drew h.own, World.ownsRow.drew h.ends, h.bel.drew⟩
theorem RW.cellE {w W : World} {g N bc : Nat} {L : List UInt8} {ge n ec : Nat} {ls : List (List UInt8)} (h : RW w W g N bc L ge n ec ls) (j : Nat) (hj : j < n) : W.cell? ⟨ge, j, none⟩ = some (.int .i64 (sizes (ls.take (j + 1)) : Nat)) := by
  rw [World.ownsRow.cellAt h.ends j (by omega), endV_at ls hj]
theorem RW.cellB {w W : World} {g N bc : Nat} {L : List UInt8} {ge n ec : Nat} {ls : List (List UInt8)} (h : RW w W g N bc L ge n ec ls) (j : Nat) (hj : j < L.length) : W.cell? ⟨g, j, none⟩ = some (.int .u8 (L[j].toNat : Int)) := by
  have hl := h.own.len
  rw [World.ownsRow.cellAt h.own j (by omega)]
  simp [Lib.byteCells, hj]
theorem RW.frozen {w W : World} {g N bc : Nat} {L : List UInt8} {ge n ec : Nat} {ls : List (List UInt8)} (h : RW w W g N bc L ge n ec ls) (j : Nat) : W.frozen? ⟨g, j, none⟩ = false := World.ownsRow.frozenAt h.own j
theorem RW.set {w W : World} {g N bc : Nat} {L : List UInt8} {ge n ec : Nat} {ls : List (List UInt8)} (h : RW w W g N bc L ge n ec ls) (p : Nat) (c : UInt8) : RW w (W.setCell ⟨g, p, none⟩ (.int .u8 (c.toNat : Int))) g N bc (L.set p c) ge n ec ls := by
  obtain ⟨h1, h2⟩ := World.ownsRow.stored h.own p (.int .u8 (c.toNat : Int))
  refine ⟨?_, h.ends.kept h2 ?_, h.bel.setCell (own_parts h.own).2.1 _⟩
  · unfold Own; rw [byteCells_set]; exact h1
  · rcases own_ne h.own h.ends (by decide) with h3 | h3
    · cases h3
    · exact .inr (fun e => h3 e.symm)

def oneB (r : Nat) : UInt8 := UInt8.ofNat (2 ^ r)
theorem oneB_int : ∀ r : Fin 8, ((oneB r.val).toNat : Int) = IntKind.u8.wrap (2 ^ r.val) := by decide
theorem oneB_pos : ∀ r : Fin 8, oneB r.val ≠ 0 := by decide
theorem oneB_ne (c : UInt8) (r : Nat) (hr : r < 8) : c ^^^ oneB r ≠ c := by
  intro h
  apply oneB_pos ⟨r, hr⟩
  have := congrArg (fun x => c ^^^ x) h
  simpa [← UInt8.xor_assoc] using this
theorem u8_xorB (c d : UInt8) : bits .xor .u8 (c.toNat : Int) (d.toNat : Int) = ((c ^^^ d).toNat : Int) := by
  have h1 := c.toNat_lt
  have h2 := d.toNat_lt
  have h3 : c.toNat ^^^ d.toNat < 2 ^ 8 := Nat.xor_lt_two_pow h1 h2
  show IntKind.u8.wrap (((BitVec.ofInt 8 (c.toNat : Int) ^^^ BitVec.ofInt 8 (d.toNat : Int)).toNat : Nat) : Int) = _
  rw [BitVec.ofInt_natCast, BitVec.ofInt_natCast, BitVec.toNat_xor, BitVec.toNat_ofNat, BitVec.toNat_ofNat, Nat.mod_eq_of_lt h1, Nat.mod_eq_of_lt h2, IntKind.wrap_u8, UInt8.toNat_xor]
  omega
theorem xorB (c : UInt8) (r : Nat) (hr : r < 8) : bits .xor .u8 (c.toNat : Int) (IntKind.u8.wrap (2 ^ r)) = ((c ^^^ oneB r).toNat : Int) := by
  have := oneB_int ⟨r, hr⟩
  simp only at this
  rw [← this, u8_xorB]

set_option maxRecDepth 100000 in
set_option maxHeartbeats 1000000 in
/-- Too many: 'wakes' alone. -/
theorem rows_long (a : Option Addr) (n c : Nat) (cut bit : Int) (w : World) (h : 20 < (n : Int)) :
    Calls Try.prog 5 #[.slice a n c, .int .u32 cut, .int .u32 bit] w fun e w' => e = .returned (.bool true) ∧ Below w.heap.size w w' := by
  go_enter Try.func5, Try.ntmps5
  go_wp2_with (go_at_call 8; refine (fwakes_any _).mono ?_; rintro r w1 ⟨rfl, b1⟩)
  go_ret
  exact ⟨rfl, b1⟩

set_option maxRecDepth 100000 in
set_option maxHeartbeats 4000000 in
theorem rows_some (ab off n c : Nat) (ls : List (List UInt8)) (cut bit : Int) (w : World) (h : Txt w (some ⟨ab, off, none⟩) n ls) (hnc : n ≤ c) (h0 : 0 < n) (hn : (n : Int) ≤ 20) (hc0 : 0 ≤ cut) (hc1 : cut ≤ 4294967295) (hb0 : 0 ≤ bit) (hb1 : bit ≤ 4294967295) :
    Calls Try.prog 5 #[.slice (some ⟨ab, off, none⟩) n c, .int .u32 cut, .int .u32 bit] w fun e w' => e = .returned (.bool true) ∧ Below w.heap.size w w' := by
  obtain ⟨ti, hi, hz, hs1, hby⟩ := info_parts info_int
  have hl := h.len
  have hcell : ∀ (k : Nat) (hk : k < ls.length), w.cell? ⟨ab, off + k, none⟩ = some (.string (B ls[k])) := fun k hk => by
    obtain ⟨b', off', e, hc⟩ := h.cell k hk
    simp at e
    obtain ⟨rfl, rfl⟩ := e
    exact hc
  have HC := Lib.hid hcell
  have HL := Lib.hid hl
  have HTX := Lib.hid h
  clear hcell hl h
  go_enter Try.func5, Try.ntmps5
  go_wp2
  go_loopw [7, 8, 9] (fun bv ev iv wr => ∃ (k N : Nat), k ≤ n ∧ iv = .int .i64 k ∧ N = sizes (ls.take k) ∧ Small (ls.take k) ∧ (N : Int) ≤ 4180 ∧ wr.ownsRow w.heap.size 5 1 bv N (Lib.byteCells (rowL (ls.take k))) ∧ wr.ownsRow w.heap.size 3 1 ev k (endV ls k) ∧ (bv.ownBlock = none ∨ bv.ownBlock ≠ ev.ownBlock) ∧ Below w.heap.size w wr) (fun _ _ iv _ => n - (intOf iv).toNat)
  case atStart => exact ⟨0, 0, Nat.zero_le _, rfl, rfl, (fun x hx => by simp at hx), by decide, World.ownsRow_nil _ _ _ _, World.ownsRow_nil _ _ _ _, .inl rfl, Below.refl _ _⟩
  case round =>
    obtain ⟨k, N, hk, rfl, hN, hsm, hNb, hB, hE, hne, hb⟩ := hrel
    obtain ⟨ba, bc, rfl, s0⟩ := src_of_owns hB
    obtain ⟨ea, ec, rfl⟩ := row_val hE
    by_cases hlt : k < n
    · have hkl : k < ls.length := by rw [HL.out]; exact hlt
      have hcl := HC.out k hkl
      have hst := sizes_take' hkl
      have hsn := hsm.snoc hkl
      have hrt := rowL_take hkl
      have hes := endV_snoc ls k
      have hbd := fun (hs : Small (ls.take (k + 1))) => sizes_small hs
      generalize ls[k] = x at hcl hst hsn hrt
      have hcr := (hb.cell (p := ⟨ab, off + k, none⟩) (World.block_lt_of_cell? w _ hcl)).trans hcl
      have HST := Lib.hid hst
      have HSN := Lib.hid hsn
      have HRT := Lib.hid hrt
      have HES := Lib.hid hes
      have HBD := Lib.hid hbd
      have HNN := Lib.hid hN
      have HSM := Lib.hid hsm
      have HCL := Lib.hid hcl
      clear hcl hst hsn hrt hes hbd hN hsm
      by_cases hx0 : x = []
      · subst hx0
        go_wp2_with (go_at_call 8; refine (fwakes_any _).mono ?_; rintro r w1 ⟨rfl, b1⟩)
        go_ret
        exact ⟨rfl, bb hb b1⟩
      · have he1 : ¬ (B x).toList = [] := by rw [ByteArray.toList_mk x]; exact hx0
        have he2 : (B x).toList.isEmpty = false := by rw [ByteArray.toList_mk x]; cases x with | nil => exact absurd rfl hx0 | cons y t => rfl
        by_cases hx1 : x.length ≤ 200
        · have hS : ((B x).size : Int) ≤ 200 := by rw [B_size]; omega
          have hx1' : 1 ≤ x.length := by cases x with | nil => exact absurd rfl hx0 | cons y t => simp
          have hp := put_ok ba N bc _ x wr s0 (by omega) hx0 (by omega)
          have hst2 := HST.out hx1
          have hsn2 := HSN.out hx1' hx1
          have hbd2 := HBD.out hsn2
          have hNx : N + (x.length + 9) = sizes (ls.take (k + 1)) := by rw [hst2, ← HNN.out]
          have hnx : ((B x).size : Int) = (x.length : Int) := by rw [B_size]
          rw [← HRT.out] at hp
          have hlb : (rowL (ls.take (k + 1))).length = N + (x.length + 9) := by rw [rowL_length, hNx]
          rw [List.length_take, Nat.min_eq_left (by omega)] at hbd2
          have hNb' : ((N + (x.length + 9) : Nat) : Int) ≤ 4180 := by omega
          have HP := Lib.hid hp
          have HLB := Lib.hid hlb
          have HNX := Lib.hid hNx
          have HSN2 := Lib.hid hsn2
          generalize hxl : x.length = xl at *
          generalize B x = S at *
          clear hp hlb hNx hsn2 hst2 hbd2 HBD HSN HST hx0 hxl HRT
          go_wp2_with (first
            | (go_at_call 9; refine HP.out.mono ?_; rintro r w1 ⟨g, n1, c1, rfl, o1, b1⟩; obtain rfl : N + (xl + 9) = n1 := (by rw [← HLB.out]; exact o1.len); have hcr1 := (b1.cell (p := ⟨ab, off + k, none⟩) (World.block_lt_of_cell? wr _ hcr)).trans hcr)
            | (at_builtin; refine wpList_append_own _ rfl _ _ 40 rfl w.heap.size 3 ti (.int .i64 0) 1 8 Try.underlying40 hi hz hs1 hby rfl (by decide) _ _ _ rfl ((ownsRow_below hE b1).alloc (.cells #[.int .i64 ((N + (xl + 9) : Nat) : Int)] 3)) ⟨_, 0, none⟩ 1 1 [.int .i64 ((N + (xl + 9) : Nat) : Int)] rfl rfl (cell_one_new _ _ _) (by simp [Value.oneCell']) (by unfold maxLen; omega) (by omega) (by have := hb.size; have := b1.size; simp; omega) ?_; intro v2 w2 hown2 hg2 _))
          have hb2 : Below w.heap.size w w2 := bgo ((bb hb b1).alloc (bb hb b1).size _) hg2 (fun j hj => ((ownsRow_below hE b1).lt j hj).1)
          have hgw : wr.heap.size ≤ g := (own_parts o1).2.1
          have hne2 := own_ne o1 (ownsRow_below hE b1) (by decide)
          have hB2 := ((ownsRow_low o1 hb.size).alloc (.cells #[.int .i64 ((N + (xl + 9) : Nat) : Int)] 3)).kept hg2 hne2
          have hne3 := own_ne hB2 hown2 (by decide)
          go_roundw
          case rel => exact ⟨k + 1, N + (xl + 9), by omega, by go_num, HNX.out, HSN2.out, hNb', hB2, by rw [HES.out, ← HNX.out]; exact hown2, hne3, hb2⟩
          case measure => simp [intOf]; omega
        · have hgt : 200 < ((B x).size : Int) := by rw [B_size]; omega
          generalize B x = S at hcr he1 he2 hgt
          clear hx0 hx1
          go_wp2_with (go_at_call 8; refine (fwakes_any _).mono ?_; rintro r w1 ⟨rfl, b1⟩)
          go_ret
          exact ⟨rfl, bb hb b1⟩
    · obtain rfl : n = k := by omega
      have htk : ls.take n = ls := List.take_of_length_le (by rw [HL.out]; exact Nat.le_refl _)
      rw [htk] at hN hsm hB
      have hN1 : 10 ≤ N := by
        have hl := HL.out
        rw [hN]
        cases hls : ls with
        | nil => rw [hls] at hl; simp at hl; omega
        | cons x t => have h1 := frame_len x; have h2 := (hsm x (by rw [hls]; simp)).1; rw [sizes]; omega
      obtain ⟨g, rfl⟩ : ∃ g, ba = some ⟨g, 0, none⟩ := by
        rcases hB.2 with ⟨_, h9⟩ | ⟨g, cap2, _, hbe, _⟩
        · omega
        · simp at hbe; exact ⟨g, hbe.1⟩
      have hO : Own wr w.heap.size g N bc (rowL ls) := hB
      obtain ⟨nn, hnn, hnN⟩ : ∃ nn : Nat, cut.tmod ((N : Int) + 1) = (nn : Int) ∧ nn ≤ N := by
        refine ⟨cut.toNat % (N + 1), ?_, by have := Nat.mod_lt cut.toNat (show 0 < N + 1 by omega); omega⟩
        rw [Int.tmod_eq_emod_of_nonneg hc0]
        conv => lhs; rw [← Int.toNat_of_nonneg hc0]
        rfl
      obtain ⟨ge, rfl⟩ : ∃ ge, ea = some ⟨ge, 0, none⟩ := by
        rcases hE.2 with ⟨_, h9⟩ | ⟨g, cap2, _, hbe, _⟩
        · omega
        · simp at hbe; exact ⟨g, hbe.1⟩
      have R : RW w wr g N bc (rowL ls) ge n ec ls := ⟨hO, hE, hb⟩
      have hends := fun (m : Nat) (hm : m < n) => R.cellE m hm
      have HEN := Lib.hid hends
      have HN := Lib.hid hN
      have HSM := Lib.hid hsm
      have HR := Lib.hid R
      have hcc1 : (0 : Int) < (N : Int) + 1 := by omega
      have hNN : (N : Int) ≤ 4180 := hNb
      clear hN hsm hO hB htk s0 hE hb hne R hends hlt
      go_upto_block 2 with fail
      go_cut [13, 14] (fun mv ev wx => ∃ m, m ≤ n ∧ mv = .int .i64 m ∧ ev = .int .i64 (sizes (ls.take m) : Nat) ∧ sizes (ls.take m) ≤ nn ∧ (m < n → nn < sizes (ls.take (m + 1))) ∧ wr = wx)
      case first =>
        go_wp2_with fail
        go_loopw [13, 14] (fun mv ev wx => ∃ m, m ≤ n ∧ mv = .int .i64 m ∧ ev = .int .i64 (sizes (ls.take m) : Nat) ∧ sizes (ls.take m) ≤ nn ∧ wr = wx) (fun mv _ _ => n - (intOf mv).toNat)
        case atStart => exact ⟨0, Nat.zero_le _, rfl, by simp [sizes], by simp [sizes], rfl⟩
        case round =>
          obtain ⟨m, hm, rfl, rfl, hle, rfl⟩ := hrel
          by_cases hlt : m < n
          · have hce := HEN.out m hlt
            generalize hE : sizes (ls.take (m + 1)) = E at hce
            have HH := Lib.hid hE
            by_cases hgo : E ≤ nn
            · clear hE
              go_wp2_with fail
              go_roundw
              case rel => exact ⟨m + 1, by omega, by go_num, by rw [HH.out], by rw [HH.out]; exact hgo, by first | rfl | trivial⟩
              case measure => simp [intOf]; omega
            · clear hE
              go_wp2_with fail
              go_meet
              case rel => exact ⟨m, hm, rfl, rfl, hle, fun _ => by rw [HH.out]; omega, rfl⟩
          · go_wp2_with fail
            go_meet
            case rel => exact ⟨m, hm, rfl, rfl, hle, fun h => absurd h hlt, rfl⟩
      case rest =>
        obtain ⟨m, hm, rfl, rfl, hle, hgt, rfl⟩ := hcut
        have R := HR.out
        have hrl : (rowL ls).length = N := R.own.len
        have hcv := (Own.take R.own nn hnN bc).string
        have hsp := split_cut HSM.out (n := nn) (m := m) (by rw [HL.out]; exact hm) hle (by rw [HL.out]; exact hgt) (by rw [← HN.out]; exact hnN)
        have hS := fun v => split_any ((rowL ls).take nn) v (by rw [List.length_take]; omega)
        rw [hsp] at hS
        simp only at hS
        have hml : (ls.take m).length = m := by rw [List.length_take, HL.out]; omega
        simp only [hml] at hS
        have HS := Lib.hid hS
        generalize hef : sizes (ls.take m) = F at *
        have hFe : ∃ e : Int, (if F = nn then (0 : Int) else 3) = e ∧ ((F = nn ∧ e = 0) ∨ (F ≠ nn ∧ e = 3)) := by
          by_cases h : F = nn
          · exact ⟨0, if_pos h, .inl ⟨h, rfl⟩⟩
          · exact ⟨3, if_neg h, .inr ⟨h, rfl⟩⟩
        obtain ⟨e, he, hFe⟩ := hFe
        rw [he] at HS
        have hmc : m ≤ c := by omega
        have hFN : (F : Int) ≤ 4180 := by omega
        have hnn0 : (nn : Int) ≤ 4180 := by omega
        have hn0 : ¬ (n : Int) = 0 := by omega
        have hnb : nn ≤ bc := by have := (own_parts R.own).1; omega
        clear hS hsp hef he hml hle hgt R
        go_upto_region 21 with (first
          | (go_at_call 13; refine (HS.out _).mono ?_; rintro r w3 ⟨v3, rfl, o3, b3⟩; obtain ⟨a3, c3, rfl⟩ := row_val o3))
        have t3 := Txt.of_own o3
        have t0 := (HTX.out.below (HR.out.kept b3).bel).take m hm
        have R3 := Lib.hid (HR.out.kept b3)
        have hm6 : m ≤ 1000000 := by omega
        clear HS hcv b3 o3
        go_cut [136] (fun tv wx => tv = .bool false ∧ Below w3.heap.size w3 wx)
        case first =>
          rcases hFe with ⟨rfl, rfl⟩ | ⟨hFn, rfl⟩
          · go_wp2_with (go_at_call 15; refine (same_any _ _ _ _ _ _ _ t3 t0 hm6).mono ?_; rintro r w4 ⟨rfl, b4⟩)
            go_meet
            case rel => exact ⟨rfl, b4⟩
          · have hI : ¬ (F : Int) = (nn : Int) := by omega
            have hI2 : ((F : Int) == (nn : Int)) = false := by simpa using hI
            have hI3 : ((F : Int) != (nn : Int)) = true := by simpa using hI
            clear hFn
            go_wp2_with (go_at_call 15; refine (same_any _ _ _ _ _ _ _ t3 t0 hm6).mono ?_; rintro r w4 ⟨rfl, b4⟩)
            go_meet
            case rel => exact ⟨rfl, b4⟩
        case rest =>
        obtain ⟨rfl, b4⟩ := hcut
        have R4 := R3.out.kept b4
        clear b4 R3 t3 t0 hFe HEN
        obtain ⟨i, hi1, hi2⟩ : ∃ i : Nat, bit.tmod (n : Int) = (i : Int) ∧ i < n := by
          refine ⟨bit.toNat % n, ?_, Nat.mod_lt _ h0⟩
          rw [Int.tmod_eq_emod_of_nonneg hb0]
          conv => lhs; rw [← Int.toNat_of_nonneg hb0]
          rfl
        obtain ⟨qb, hq1, hq2, hq3⟩ : ∃ qb : Nat, bit.tdiv 20 = (qb : Int) ∧ bit / 20 = (qb : Int) ∧ (qb : Int) ≤ 214748364 := by
          refine ⟨bit.toNat / 20, ?_, ?_, ?_⟩
          · rw [Int.tdiv_eq_ediv_of_nonneg hb0]; omega
          · omega
          · omega
        have hil : i < ls.length := by rw [HL.out]; exact hi2
        have hcx := HC.out i hil
        obtain ⟨s1, s2⟩ := HSM.out _ (List.getElem_mem hil)
        have hst := sizes_take' hil s2
        have hle' := sizes_take_le ls (i + 1)
        have hce := R4.cellE i hi2
        have hflip := fun q ch (hq : q < 8 + (ls[i]).length) => split_flip (q := q) (c := ch) HSM.out hil hq
        rw [hst] at hce hle'
        generalize ls[i] = x at hcx s1 s2 hst hce hle' hflip
        have hcx4 := (R4.bel.cell (p := ⟨ab, off + i, none⟩) (World.block_lt_of_cell? w _ hcx)).trans hcx
        have hnx : ((B x).size : Int) = (x.length : Int) := by rw [B_size]
        have hF' := Lib.hid (rfl : sizes (ls.take i) = sizes (ls.take i))
        obtain ⟨G, hG⟩ : ∃ G, sizes (ls.take i) = G := ⟨_, rfl⟩
        rw [hG] at hce hle' hflip
        generalize hxl : x.length = xl at *
        generalize B x = S at *
        have hxl2 : (xl : Int) ≤ 200 := by omega
        obtain ⟨kk, hk1, hk2⟩ : ∃ kk : Nat, (qb : Int).tmod (8 * (8 + (xl : Int))) = (kk : Int) ∧ kk < 8 * (8 + xl) := by
          refine ⟨qb % (8 * (8 + xl)), ?_, Nat.mod_lt _ (by omega)⟩
          rw [Int.tmod_eq_emod_of_nonneg (by omega)]
          rfl
        have hkk0 : (kk : Int) ≤ 2000 := by omega
        have hGN : G + (xl + 9) ≤ N := by rw [HN.out]; exact hle'
        have hG1 : ((G + (xl + 9) : Nat) : Int) = (G : Int) + ((xl : Int) + 9) := by omega
        have hGb : (G : Int) + (xl : Int) + 9 ≤ 4180 := by omega
        have hin : (i : Int) < (n : Int) := by omega
        have HFL := Lib.hid hflip
        have HG := Lib.hid hG
        have HC2 := Lib.hid hcx
        clear hflip hG hF' hcx hst hle' hxl
        have hic : i ≤ c := by omega
        rw [hG1] at hce
        have hfr : IntKind.i64.wrap ((G : Int) + ((xl : Int) + 9) - (xl : Int)) = (G : Int) + 9 := by rw [IntKind.wrap_i64]; omega
        have hfr2 : IntKind.i64.wrap ((G : Int) + 9 - 8) = (G : Int) + 1 := by rw [IntKind.wrap_i64]; omega
        go_upto_region 27 with fail
        go_cut [20] (fun fv wx => fv = .int .i64 ((G : Int) + 1) ∧ RW w wx g N bc (rowL ls) ge n ec ls)
        case first =>
          go_region_with fail
          all_goals go_wp2_with fail
          all_goals go_meet
          all_goals exact ⟨by first | rfl | go_num, R4.drew⟩
        case rest =>
        obtain ⟨rfl, R5⟩ := hcut
        clear hfr hfr2 R4 hce hcx4
        have hLN : (rowL ls).length = N := R5.own.len
        obtain ⟨qq, hqq⟩ : ∃ qq, kk / 8 = qq := ⟨_, rfl⟩
        obtain ⟨rq, hrq⟩ : ∃ rq, kk % 8 = rq := ⟨_, rfl⟩
        have hqx : qq < 8 + xl := by omega
        have hr8 : rq < 8 := by omega
        have hd1 : (kk : Int) / 8 = (qq : Int) := by omega
        have hd2 : (kk : Int) % 8 = (rq : Int) := by omega
        have hd3 : (kk : Int).tdiv 8 = (qq : Int) := by rw [Int.tdiv_eq_ediv_of_nonneg (by omega)]; exact hd1
        have hd4 : (kk : Int).tmod 8 = (rq : Int) := by rw [Int.tmod_eq_emod_of_nonneg (by omega)]; exact hd2
        obtain ⟨P, hP⟩ : ∃ P : Nat, G + (qq + 1) = P := ⟨_, rfl⟩
        have hPN : P < (rowL ls).length := by omega
        have hcB := R5.cellB P hPN
        have hfB := R5.frozen P
        have hset := (R5.set P ((rowL ls)[P] ^^^ oneB rq)).drew
        have hset2 := R5.set P ((rowL ls)[P] ^^^ oneB rq)
        have hset3 := R5.drew.set P ((rowL ls)[P] ^^^ oneB rq)
        have hfl := HFL.out qq ((rowL ls)[P] ^^^ oneB rq) hqx
        rw [hP] at hfl
        have hfl2 := hfl (by rw [List.getElem?_eq_getElem hPN]; intro h; exact oneB_ne (rowL ls)[P] rq hr8 (by simpa using h.symm))
        have hx8 := xorB (rowL ls)[P] rq hr8
        have hLset : ((rowL ls).set P ((rowL ls)[P] ^^^ oneB rq)).length = N := by rw [List.length_set]; exact hLN
        generalize (rowL ls)[P] = cc at hcB hset hset2 hset3 hx8 hfl2 hLset
        generalize hch : cc ^^^ oneB rq = ch at *
        have HFL2 := Lib.hid hfl2
        have HLS := Lib.hid hLset
        have HSET := Lib.hid hset
        have HSET2 := Lib.hid hset2
        have HSET3 := Lib.hid hset3
        have hw1 : IntKind.i64.wrap ((G : Int) + 1 + (qq : Int)) = (P : Int) := by rw [IntKind.wrap_i64]; omega
        have hw2 : IntKind.i64.wrap (qq : Int) = (qq : Int) := by rw [IntKind.wrap_i64]; omega
        have hw3 : IntKind.i64.wrap (rq : Int) = (rq : Int) := by rw [IntKind.wrap_i64]; omega
        have j0 : (0 : Int) ≤ (P : Int) := by omega
        have j1 : (P : Int) < (N : Int) := by omega
        have j2 : (0 : Int) ≤ (rq : Int) := by omega
        have j3 : (rq : Int) ≤ 8 := by omega
        have RR := Lib.hid R5
        clear hfl hfl2 hset hset2 hset3 hLset hch hqq hrq hP hPN R5 HFL
        go_upto_region 28 with fail
        go_cut [] (fun wx => RW w wx g N bc ((rowL ls).set P ch) ge n ec ls)
        case first =>
          go_region_with fail
          all_goals go_wp2_with fail
          all_goals go_meet
          all_goals first | exact HSET.out | exact HSET2.out | exact HSET3.out
        case rest =>
        clear hw1 hw2 hw3 hx8 hcB hfB hd1 hd2 hd3 hd4 HSET HSET2 HSET3
        have R6 := hcut
        have hcv6 := (Src.of_own R6.own).string
        have hS6 := fun v => split_any ((rowL ls).set P ch) v (by rw [HLS.out]; omega)
        rw [HFL2.out] at hS6
        simp only at hS6
        have hil6 : (ls.take i).length = i := by rw [List.length_take]; omega
        simp only [hil6] at hS6
        have HS6 := Lib.hid hS6
        have HR6 := Lib.hid R6
        have hi6 : i ≤ 1000000 := by omega
        clear hS6 hil6 R6 hcut
        go_upto_region 30 with (first
          | (go_at_call 13; refine (HS6.out _).mono ?_; rintro r w7 ⟨v7, rfl, o7, b7⟩; obtain ⟨a7, c7, rfl⟩ := row_val o7))
        have t7 := Txt.of_own o7
        have R7 := HR6.out.kept b7
        have t0 := (HTX.out.below R7.bel).take i (by omega)
        clear HS6 hcv6 o7
        by_cases hi0 : i = 0
        · subst hi0
          have hG0 : G = 0 := by rw [← HG.out]; simp [sizes]
          subst hG0
          go_wp2_with (first
            | (go_at_call 15; refine (same_any _ _ _ _ _ _ _ t7 t0 hi6).mono ?_; rintro r w8 ⟨rfl, b8⟩)
            | (go_at_call 8; refine (fwakes_any _).mono ?_; rintro r w9 ⟨rfl, b9⟩))
          go_ret
          exact ⟨rfl, bb (bb R7.bel b8) b9⟩
        · obtain ⟨j, hj⟩ : ∃ j, i = j + 1 := ⟨i - 1, by omega⟩
          have hij0 : ¬ (i : Int) = 0 := by omega
          have hij1 : 0 < (i : Int) := by omega
          have hwj : IntKind.i64.wrap ((i : Int) - 1) = (j : Int) := by rw [IntKind.wrap_i64]; omega
          have hjn : (j : Int) < (n : Int) := by omega
          have hce7 := R7.cellE j (by omega)
          rw [← hj, HG.out] at hce7
          have HJ := Lib.hid hj
          clear hj hi0
          go_wp2_with (first
            | (go_at_call 15; refine (same_any _ _ _ _ _ _ _ t7 t0 hi6).mono ?_; rintro r w8 ⟨rfl, b8⟩; have hce8 := (b8.cell (p := ⟨ge, j, none⟩) (World.block_lt_of_cell? _ _ hce7)).trans hce7)
            | (go_at_call 8; refine (fwakes_any _).mono ?_; rintro r w9 ⟨rfl, b9⟩))
          go_ret
          exact ⟨rfl, bb (bb R7.bel b8) b9⟩

end Go.Proofs.Ytddicpgkagkmiaa
