/-
  What the library's variables hold that a log comes to; the names of its segments, made and read.
-/
import Derived.Test.YtjidadolfpjdeaaGreatDoorShelf
import Derived.Test.YtjidadolfpjdeaaGreatDoorMa
import Derived.Test.YtjidadolfpjdeaaGreatDoorStr
import Derived.Lib.SmallJoins
namespace Go.Proofs.YtjidadolfpjdeaaGreatDoor
open Go.RowKit
set_option linter.unusedVariables false

/-- The variables' blocks. -/
def Vr (k : Nat) : Prop := k = 0 ∨ k = 2
/-- What they hold. -/
structure Env (w : World) : Prop where
  tab : Lib.TabIs Tryz.prog w "internal/strconv.uint64pow10" .u64 Lib.pow10Tab
  syn : ∃ tp pe, w.cell? ⟨0, 0, none⟩ = some (.iface tp pe)

theorem tab_named : Tryz.prog.globalNamed "internal/strconv.uint64pow10" = some 2 := by kernel_rfl
theorem Env.same {w w' : World} (h : Env w) (hk : ∀ k, Vr k → w'.heap[k]? = w.heap[k]?) : Env w' := by
  refine ⟨?_, ?_⟩
  · have := h.tab
    unfold Lib.TabIs World.var? at this ⊢
    rw [tab_named] at this ⊢
    simp only [Option.bind_some] at this ⊢
    rw [hk _ (.inr rfl)]
    exact this
  · obtain ⟨tp, pe, hc⟩ := h.syn
    exact ⟨tp, pe, (World.cell?_of_block (a := ⟨0, 0, none⟩) (hk _ (.inl rfl))).trans hc⟩
theorem Env.lt {w : World} (h : Env w) {k : Nat} (hk : Vr k) : k < w.heap.size := by
  rcases hk with rfl | rfl
  · obtain ⟨tp, pe, hc⟩ := h.syn
    exact World.block_lt_of_cell? _ _ hc
  · have := h.tab
    unfold Lib.TabIs World.var? at this
    rw [tab_named] at this
    simp only [Option.bind_some] at this
    rcases Nat.lt_or_ge 2 w.heap.size with h' | h'
    · exact h'
    · rw [Array.getElem?_eq_none h'] at this; cases this
theorem Env.below {w w' : World} (h : Env w) (hb : Below w.heap.size w w') : Env w' := h.same (fun k hk => hb.block k (h.lt hk))
theorem below_grow (w : World) (n : Nat) (os : Array Obj) : Below w.heap.size w (Go.Sort.grow (w.drewN n) os) := by
  refine ⟨rfl, rfl, rfl, ?_, fun j hj => ?_⟩
  · show w.heap.size ≤ (w.heap ++ os).size
    simp
  · show (w.heap ++ os)[j]? = w.heap[j]?
    rw [Array.getElem?_append_left hj]

theorem dec_digs : ∀ (k n : Nat), n < 10 ^ k → Lib.decDigits (10 ^ k + n) = 49 :: digs k n
  | 0, n, h => by
    obtain rfl : n = 0 := by simp at h; omega
    rw [Lib.decDigits_one (by decide)]
    rfl
  | k + 1, n, h => by
    have hp : 10 ^ (k + 1) = 10 * 10 ^ k := by rw [Nat.pow_succ, Nat.mul_comm]
    have h1 : 0 < 10 ^ k := Nat.pow_pos (by decide)
    rw [Lib.decDigits, dif_neg (by omega), digs, ← List.cons_append, ← dec_digs k (n / 10) (by omega)]
    rw [show (10 ^ (k + 1) + n) / 10 = 10 ^ k + n / 10 from by omega, show (10 ^ (k + 1) + n) % 10 = n % 10 from by omega]
theorem itoa_name {n : Nat} (h : n ≤ 99999999) : Lib.itoa (100000000 + (n : Int)) = 49 :: digs 8 n := by
  have e : (100000000 + (n : Int)) = ((100000000 + n : Nat) : Int) := by simp
  rw [e, Lib.itoa_nonneg]
  exact dec_digs 8 n (by omega)

set_option maxRecDepth 100000 in
theorem name_any {w : World} (E : Env w) {n : Nat} (h : n ≤ 99999999) : Calls Tryz.prog 32 #[.int .i64 n] w fun r w' => r = .returned (.string (B (nameL n))) ∧ Below w.heap.size w w' := by
  have hw : IntKind.i64.wrap (100000000 + (n : Int)) = 100000000 + (n : Int) := by rw [IntKind.wrap_i64]; omega
  have hi := sh_strconv_Itoa (100000000 + (n : Int)) (by omega) (by omega) w E.tab
  rw [itoa_name h] at hi
  have hx : (B (49 :: digs 8 n)).extract 1 9 = B (digs 8 n) := by
    rw [B_extract, List.drop_succ_cons, List.drop_zero, List.take_of_length_le (by rw [digs_length]; omega)]
  have hs : (B (49 :: digs 8 n)).size = 9 := by rw [B_size, List.length_cons, digs_length]
  have ha : B [115] ++ B (digs 8 n) = B (nameL n) := by
    apply ByteArray.ext
    simp [nameL]
  have HI := Lib.hid hi
  clear hi
  go_enter Tryz.func32, Tryz.ntmps32
  go_wp2_with (go_at_call 56; refine HI.out.mono ?_; rintro r w' ⟨rfl, k, os, rfl⟩)
  go_ret
  exact ⟨rfl, below_grow w k os⟩

theorem parse_eight : ∀ (l : List UInt8) (acc : Nat), (acc + 1) * 10 ^ l.length ≤ 100000000 →
    Lib.parseUintM 4294967295 acc l = if l.all isDig = true then .ok (l.foldl (fun n c => 10 * n + (c.toNat - 48)) acc) else .syntax
  | [], acc, _ => by simp [Lib.parseUintM]
  | c :: r, acc, h => by
    have h1 : 0 < 10 ^ r.length := Nat.pow_pos (by decide)
    rw [List.length_cons, Nat.pow_succ] at h
    have h2 : acc + 1 ≤ (acc + 1) * (10 ^ r.length * 10) := Nat.le_mul_of_pos_right _ (by omega)
    have h3 : (acc + 1) * 10 ≤ (acc + 1) * (10 ^ r.length * 10) := Nat.mul_le_mul_left _ (by omega)
    have hd : isDig c = true ↔ 48 ≤ c.toNat ∧ c.toNat ≤ 57 := by
      simp only [isDig, Bool.and_eq_true, decide_eq_true_eq, UInt8.le_iff_toNat_le]
      exact Iff.rfl
    rw [Lib.parseUintM, List.all_cons, List.foldl_cons]
    by_cases hc : 48 ≤ c.toNat ∧ c.toNat ≤ 57
    · rw [if_pos hc, if_neg (by omega), if_neg (by omega)]
      rw [parse_eight r (acc * 10 + (c.toNat - 48)) ?_, hd.2 hc, Bool.true_and, Nat.mul_comm acc 10]
      have h4 : (acc * 10 + (c.toNat - 48) + 1) ≤ (acc + 1) * 10 := by omega
      have h5 := Nat.mul_le_mul_right (10 ^ r.length) h4
      rw [Nat.mul_assoc, Nat.mul_comm 10 (10 ^ r.length)] at h5
      omega
    · have : isDig c = false := by
        cases he : isDig c
        · rfl
        · exact absurd (hd.1 he) hc
      rw [if_neg hc, this]
      rfl
theorem parse_number {s : List UInt8} (h : s.length = 8) : Lib.parseUintB 32 s = if s.all isDig = true then .ok (valL s) else .syntax := by
  unfold Lib.parseUintB
  rw [if_neg (fun e => by rw [e] at h; simp at h)]
  exact parse_eight s 0 (by rw [h]; decide)
theorem fold_lt : ∀ (l : List UInt8) (acc : Nat), l.all isDig = true → l.foldl (fun n c => 10 * n + (c.toNat - 48)) acc < (acc + 1) * 10 ^ l.length
  | [], acc, _ => by simp
  | c :: r, acc, hl => by
    rw [List.all_cons, Bool.and_eq_true] at hl
    have hc : c.toNat ≤ 57 := by
      have := hl.1
      simp only [isDig, Bool.and_eq_true, decide_eq_true_eq, UInt8.le_iff_toNat_le] at this
      exact this.2
    have := fold_lt r (10 * acc + (c.toNat - 48)) hl.2
    rw [List.foldl_cons, List.length_cons, Nat.pow_succ]
    have h4 : (10 * acc + (c.toNat - 48) + 1) ≤ (acc + 1) * 10 := by omega
    have h5 := Nat.mul_le_mul_right (10 ^ r.length) h4
    rw [Nat.mul_assoc, Nat.mul_comm 10 (10 ^ r.length)] at h5
    omega
theorem val_lt {s : List UInt8} (h : s.length = 8) (hd : s.all isDig = true) : valL s < 100000000 := by
  have := fold_lt s 0 hd
  rw [h] at this
  exact this

set_option maxRecDepth 100000 in
theorem number_any {w : World} (E : Env w) (s : List UInt8) (hl : s.length ≤ 281474976710656) : Calls Tryz.prog 49 #[.string (B s)] w fun r w' => r = .returned (.int .i64 (numberL s)) ∧ Below w.heap.size w w' := by
  have hp := sh_strings_CutPrefix (B s) (B [115]) w
  obtain ⟨ev1, ev2, hev⟩ := E.syn
  cases s with
  | nil =>
    have e1 : Lib.hasPrefix (B []).data.toList (B [115]).data.toList = false := rfl
    have e2 : Lib.trimPrefix (B []).data.toList (B [115]).data.toList = [] := rfl
    rw [e1, e2] at hp
    have HP := Lib.hid hp
    clear hp
    go_enter Tryz.func49, Tryz.ntmps49
    go_wp2_with (go_at_call 65; refine HP.out.mono ?_; rintro r w' ⟨rfl, rfl⟩)
    go_ret
    exact ⟨rfl, Below.refl _ _⟩
  | cons c t =>
    by_cases hc : c = 115
    · subst hc
      have e1 : Lib.hasPrefix (B (115 :: t)).data.toList (B [115]).data.toList = true := by
        show List.isPrefixOf [115] (115 :: t) = true
        simp [List.isPrefixOf]
      have e2 : Lib.trimPrefix (B (115 :: t)).data.toList (B [115]).data.toList = t := by
        unfold Lib.trimPrefix
        rw [e1]
        rfl
      rw [e1, e2] at hp
      have HP := Lib.hid hp
      clear hp
      have hsz : (B t).size = t.length := B_size t
      by_cases h8 : t.length = 8
      · have hpn := parse_number h8
        by_cases hd : t.all isDig = true
        · rw [if_pos hd] at hpn
          have hnum : numberL (115 :: t) = valL t := by rw [number_cons, if_pos ⟨rfl, h8, hd⟩]
          have hv := val_lt h8 hd
          have hw1 : IntKind.i64.wrap ((valL t : Nat) : Int) = ((valL t : Nat) : Int) := by rw [IntKind.wrap_i64]; omega
          have ho := sh_strconv_ParseUint_10_at32_ok (B t) (by rw [hsz]; omega) (valL t) hpn w
          have HO := Lib.hid ho
          clear ho
          have h8' : ((t.length : Nat) : Int) = 8 := by omega
          go_enter Tryz.func49, Tryz.ntmps49
          go_wp2_with (first
            | (go_at_call 65; refine HP.out.mono ?_; rintro r w' ⟨rfl, rfl⟩)
            | (go_at_call 66; refine HO.out.mono ?_; rintro r w' ⟨rfl, hw⟩))
          go_ret
          refine ⟨by rw [hnum]; rfl, ?_⟩
          rcases hw with rfl | rfl
          · exact Below.refl _ _
          · exact Go.Joins.below_bytesWorld _ _ _ _ (Nat.le_refl _)
        · have hd : t.all isDig = false := by simpa using hd
          rw [hd] at hpn
          have hnum : numberL (115 :: t) = 0 := by rw [number_cons, if_neg (fun h => by rw [hd] at h; exact absurd h.2.2 (by decide))]
          have ho := sh_strconv_ParseUint_10_at32_syntax (B t) (by rw [hsz]; omega) hpn _ w hev (.inr ⟨_, _, rfl⟩)
          have HO := Lib.hid ho
          clear ho
          have h8' : ((t.length : Nat) : Int) = 8 := by omega
          go_enter Tryz.func49, Tryz.ntmps49
          go_wp2_with (first
            | (go_at_call 65; refine HP.out.mono ?_; rintro r w' ⟨rfl, rfl⟩)
            | (go_at_call 66; refine HO.out.mono ?_; rintro r w' ⟨nn, rfl, _, _, hb⟩))
          go_ret
          exact ⟨by rw [hnum]; rfl, hb⟩
      · have hnum : numberL (115 :: t) = 0 := by rw [number_cons, if_neg (fun h => h8 h.2.1)]
        have h8' : ¬ ((t.length : Nat) : Int) = 8 := by omega
        go_enter Tryz.func49, Tryz.ntmps49
        go_wp2_with (go_at_call 65; refine HP.out.mono ?_; rintro r w' ⟨rfl, rfl⟩)
        go_ret
        exact ⟨by rw [hnum]; rfl, Below.refl _ _⟩
    · have e1 : Lib.hasPrefix (B (c :: t)).data.toList (B [115]).data.toList = false := by
        show List.isPrefixOf [115] (c :: t) = false
        simp [List.isPrefixOf, Ne.symm hc]
      have e2 : Lib.trimPrefix (B (c :: t)).data.toList (B [115]).data.toList = c :: t := by
        unfold Lib.trimPrefix
        rw [e1]
        rfl
      rw [e1, e2] at hp
      have hnum : numberL (c :: t) = 0 := by rw [number_cons, if_neg (fun h => hc h.1)]
      have HP := Lib.hid hp
      clear hp
      go_enter Tryz.func49, Tryz.ntmps49
      go_wp2_with (go_at_call 65; refine HP.out.mono ?_; rintro r w' ⟨rfl, rfl⟩)
      go_ret
      exact ⟨by rw [hnum]; rfl, Below.refl _ _⟩

end Go.Proofs.YtjidadolfpjdeaaGreatDoor
