/-
  The document's own frames (package palaverref03) over this translation: they answer the plain ones.
-/
import Derived.Test.YtddicpgkagkmiaaRefRdN
import Derived.Test.YtddicpgkagkmiaaRefCrc
import Derived.Test.YtddicpgkagkmiaaFrSplit
import Derived.Deep.RegionWith
namespace Go.Proofs.Ytddicpgkagkmiaa
open Go.RowKit
set_option linter.unusedVariables false

theorem low_rest (x k : Nat) : ((UInt8.ofNat (x / 256 ^ k % 256)).toNat : Int) = ((x / 256 ^ k : Nat) : Int) % 256 := by
  rw [UInt8.toNat_ofNat']
  omega

set_option maxRecDepth 100000 in
set_option maxHeartbeats 1000000 in
theorem refFrame_any (l : List UInt8) (w : World) (hl : l.length ≤ 1000000) :
    Calls Try.prog 10 #[.string (B l)] w fun r w' => r = .returned (.string (B (frameL l))) ∧ Below w.heap.size w w' := by
  have hS : ∀ w1, Calls Try.prog 22 #[.string (B l)] w1 fun r w' => r = .returned (.int .u64 (sm l : Nat)) ∧ w1 = w' := fun w1 => refSum_any l w1 (by omega)
  have hN := fun w1 => refNum_any (l.length : Int) w1 (by omega) (by omega)
  simp only [Int.toNat_natCast] at hN
  have hx := sm_lt l
  have hfr : (B (enc l.length) ++ B (low 8 (sm l))) ++ B l = B (frameL l) := by
    rw [B_append, B_append]; simp [frameL]
  generalize sm l = x at hS hx hfr
  have HS := Lib.hid hS
  have HN := Lib.hid hN
  have HFR := Lib.hid hfr
  clear hS hN hfr
  go_enter Try.func10, Try.ntmps10
  go_wp2_with (go_at_call 22; refine (HS.out _).mono ?_; rintro r w1 ⟨rfl, rfl⟩)
  go_loopw [3, 4, 5] (fun xv bv iv wr => ∃ k : Nat, k ≤ 8 ∧ iv = .int .i64 k ∧ xv = .int .u64 ((x / 256 ^ k : Nat) : Int) ∧ wr.ownsRow w.heap.size 5 1 bv k (Lib.byteCells (low k x)) ∧ Below w.heap.size w wr) (fun _ _ iv _ => 8 - (intOf iv).toNat)
  case atStart => exact ⟨0, Nat.zero_le _, rfl, by simp, World.ownsRow_nil _ _ _ _, Below.refl _ _⟩
  case round =>
    obtain ⟨k, hk, rfl, rfl, hown, hb⟩ := hrel
    by_cases hlt : k < 8
    · have hst := low_snoc k x
      have hy := low_rest x k
      have hdiv : x / 256 ^ k / 256 = x / 256 ^ (k + 1) := by rw [Nat.div_div_eq_div_mul, ← Nat.pow_succ]
      have hq : ((x / 256 ^ k : Nat) : Int) ≤ 18446744073709551615 := by
        have : x / 256 ^ k ≤ x := Nat.div_le_self _ _
        omega
      generalize UInt8.ofNat (x / 256 ^ k % 256) = y at hst hy
      generalize x / 256 ^ k = q at hst hdiv hq hy
      have how := own_one wr y _ hy
      have hal := hown.alloc (.cells #[.int .u8 ((q : Int) % 256)] 5)
      have HST := Lib.hid hst
      have HD := Lib.hid hdiv
      clear hst hdiv hy hown
      go_wp2_with (at_builtin; refine wpList_append_src _ rfl _ _ rfl w.heap.size _ k (low k x) rfl hal (some ⟨wr.heap.size, 0, none⟩) 1 1 [y] rfl (Src.of_own how) (by omega) (by have := hb.size; simp; omega) ?_)
      intro v2 w3 ho3 hg3
      have hb3 : Below w.heap.size w w3 := bgo (hb.alloc hb.size _) hg3 (fun j hj => (hal.lt j hj).1)
      clear hal how
      go_wp2
      go_roundw
      case rel => exact ⟨k + 1, by omega, by go_num, by rw [← HD.out]; go_num, by rw [HST.out]; exact ho3, hb3⟩
      case measure => simp [intOf]; omega
    · obtain rfl : k = 8 := by omega
      obtain ⟨a, c, rfl, hs⟩ := src_of_owns hown
      have hcv := hs.string
      have hcvd := hs.drew.string
      have hel : (enc l.length).length ≤ 9 := by rw [enc_length]; have := nb_le8 (show l.length < 2 ^ 64 by omega); omega
      have hll : (low 8 x).length ≤ 8 := by rw [low_length]; omega
      have hwr : IntKind.u64.wrap (l.length : Int) = (l.length : Int) := by rw [IntKind.wrap_u64]; omega
      go_wp2
      go_region_with (go_at_call 23; (with_reducible refine (HN.out _).mono ?_); rintro r w1 ⟨rfl, b1⟩; have hcv1 := (hs.drew.below b1).string)
      all_goals go_wp2
      all_goals go_ret
      all_goals exact ⟨congrArg (fun s => Ending.returned (Value.string s)) HFR.out, bb hb.drew b1⟩

theorem frameL_pos (l : List UInt8) : 9 ≤ (frameL l).length := by
  rw [frameL_length, enc_length]; omega
theorem frameL_le (l : List UInt8) (hl : l.length ≤ 1000000) : (frameL l).length ≤ l.length + 17 := by
  have := nb_le8 (show l.length < 2 ^ 64 by omega)
  rw [frameL_length, enc_length]; omega

set_option maxRecDepth 100000 in
set_option maxHeartbeats 1000000 in
/-- The length is none. -/
theorem refTake_err (l : List UInt8) (w : World) (hl : l.length ≤ 1000000) (n : Nat) (e : Int) (r : List UInt8) (hp : St.num ⟨0, l⟩ = (n, ⟨e, r⟩)) (he : e ≠ 0) :
    Calls Try.prog 12 #[.string (B l)] w fun r w' => r = .returned (.tuple #[.string (B []), .int .i64 0, .int .i64 e]) ∧ Below w.heap.size w w' := by
  have hN := fun w1 => refRNum_any ⟨0, l⟩ w1 (by show (l.length : Int) ≤ _; omega)
  rw [hp, refV_ok, refV_err e r he] at hN
  have hne : (e != 0) = true := by simpa using he
  have HN := Lib.hid hN
  clear hN hp
  go_enter Try.func12, Try.ntmps12
  go_wp2_with (go_at_call 31; refine (HN.out _).mono ?_; rintro r w1 ⟨rfl, b1⟩)
  go_region
  all_goals go_wp2
  all_goals
    go_ret3
    exact ⟨rfl, (b1.alloc b1.size _).drew⟩

set_option maxRecDepth 100000 in
set_option maxHeartbeats 1000000 in
theorem refTake_size (l : List UInt8) (w : World) (hl : l.length ≤ 1000000) (n : Nat) (r : List UInt8) (hp : St.num ⟨0, l⟩ = (n, ⟨0, r⟩)) (hn : n < 1 ∨ 65536 < n) :
    Calls Try.prog 12 #[.string (B l)] w fun r w' => r = .returned (.tuple #[.string (B []), .int .i64 0, .int .i64 4]) ∧ Below w.heap.size w w' := by
  have hN := fun w1 => refRNum_any ⟨0, l⟩ w1 (by show (l.length : Int) ≤ _; omega)
  rw [hp, refV_ok, refV_ok] at hN
  have HN := Lib.hid hN
  clear hN hp
  rcases hn with h | h
  · obtain rfl : n = 0 := by omega
    go_enter Try.func12, Try.ntmps12
    go_wp2_with (go_at_call 31; refine (HN.out _).mono ?_; rintro r w1 ⟨rfl, b1⟩)
    go_ret3
    exact ⟨rfl, b1.alloc b1.size _⟩
  · have h1 : ¬ ((n : Int) < 1) := by omega
    have h2 : 65536 < (n : Int) := by omega
    clear h
    go_enter Try.func12, Try.ntmps12
    go_wp2_with (go_at_call 31; refine (HN.out _).mono ?_; rintro r w1 ⟨rfl, b1⟩)
    go_ret3
    exact ⟨rfl, b1.alloc b1.size _⟩

set_option maxRecDepth 100000 in
set_option maxHeartbeats 1000000 in
theorem refTake_short (l : List UInt8) (w : World) (hl : l.length ≤ 1000000) (n : Nat) (r : List UInt8) (hp : St.num ⟨0, l⟩ = (n, ⟨0, r⟩)) (h1 : 1 ≤ n) (h2 : n ≤ 65536) (hr : r.length < 8 + n) :
    Calls Try.prog 12 #[.string (B l)] w fun r w' => r = .returned (.tuple #[.string (B []), .int .i64 0, .int .i64 3]) ∧ Below w.heap.size w w' := by
  have hN := fun w1 => refRNum_any ⟨0, l⟩ w1 (by show (l.length : Int) ≤ _; omega)
  rw [hp, refV_ok, refV_ok] at hN
  have HN := Lib.hid hN
  clear hN hp
  have g1 : ¬ ((n : Int) < 1) := by omega
  have g2 : ¬ (65536 < (n : Int)) := by omega
  have g3 : (r.length : Int) < 8 + (n : Int) := by omega
  go_enter Try.func12, Try.ntmps12
  go_wp2_with (go_at_call 31; refine (HN.out _).mono ?_; rintro r w1 ⟨rfl, b1⟩)
  go_ret3
  exact ⟨rfl, b1.alloc b1.size _⟩

set_option maxRecDepth 100000 in
set_option maxHeartbeats 1000000 in
/-- The inside is there. -/
theorem refTake_whole (l : List UInt8) (w : World) (hl : l.length ≤ 1000000) (n : Nat) (r : List UInt8) (hp : St.num ⟨0, l⟩ = (n, ⟨0, r⟩)) (h1 : 1 ≤ n) (h2 : n ≤ 65536) (hr : 8 + n ≤ r.length) (same : Bool) (hsame : (sm ((r.drop 8).take n) == ln (r.take 8)) = same) :
    Calls Try.prog 12 #[.string (B l)] w fun e w' => e = .returned (.tuple (if same then #[.string (B ((r.drop 8).take n)), .int .i64 (l.length - r.length + 8 + n : Nat), .int .i64 0] else #[.string (B []), .int .i64 0, .int .i64 5])) ∧ Below w.heap.size w w' := by
  have hN := fun w1 => refRNum_any ⟨0, l⟩ w1 (by show (l.length : Int) ≤ _; omega)
  rw [hp, refV_ok, refV_ok] at hN
  have hrl := num_rest hp
  have hst := num_parts hp
  have hil : ((r.drop 8).take n).length = n := by simp; omega
  have e3 : (B r).extract 8 (8 + n) = B ((r.drop 8).take n) := cut_out r 8 n
  have hF := fun w1 => refFrame_any ((r.drop 8).take n) w1 (by rw [hil]; omega)
  have hfl := frameL_length ((r.drop 8).take n)
  rw [hil] at hfl
  have hfl2 : (frameL ((r.drop 8).take n)).length ≤ l.length := by omega
  have hfl3 : l.length - r.length + 8 + n = (frameL ((r.drop 8).take n)).length := by omega
  have e4 : (B l).extract 0 (frameL ((r.drop 8).take n)).length = B (enc n ++ (r.take 8 ++ (r.drop 8).take n)) := by
    rw [B_take]
    congr 1
    rw [hst, hfl, show (enc n).length + 8 + n = (enc n).length + (8 + n) from by omega, List.take_length_add_append, List.take_add]
  have h8 : (r.take 8).length = 8 := by simp; omega
  have hcmp : ((B (enc n ++ (r.take 8 ++ (r.drop 8).take n))).toList == (B (frameL ((r.drop 8).take n))).toList) = same := by
    rw [ByteArray.toList_mk, ByteArray.toList_mk, ← hsame, Bool.eq_iff_iff, beq_iff_eq, beq_iff_eq]
    unfold frameL
    rw [hil, List.append_cancel_left_eq, List.append_cancel_right_eq, low8 _ _ h8 (sm_lt _)]
    exact eq_comm
  generalize frameL ((r.drop 8).take n) = fr at hF hfl2 hfl3 e4 hcmp
  generalize (r.drop 8).take n = ins at hF e3 e4 hcmp ⊢
  generalize B (enc n ++ (r.take 8 ++ ins)) = ahead at e4 hcmp
  have g1 : ¬ ((n : Int) < 1) := by omega
  have g2 : ¬ (65536 < (n : Int)) := by omega
  have g3 : ¬ ((r.length : Int) < 8 + (n : Int)) := by omega
  have hrl2 : r.length ≤ 1000000 := by omega
  rw [hfl3]
  have HN := Lib.hid hN
  have HF := Lib.hid hF
  clear hN hp hF hst hrl hil hfl hfl3 hsame h8
  rw [ByteArray.toList_mk fr] at hcmp
  cases same
  · have hq : ¬ ahead.toList = fr := beq_eq_false_iff_ne.1 hcmp
    go_enter Try.func12, Try.ntmps12
    go_wp2_with (first
      | (go_at_call 31; refine (HN.out _).mono ?_; rintro r w1 ⟨rfl, b1⟩)
      | (go_at_call 10; refine (HF.out _).mono ?_; rintro r w2 ⟨rfl, b2⟩))
    go_ret3
    exact ⟨rfl, bb (b1.alloc b1.size _) b2⟩
  · have hq : ahead.toList = fr := beq_iff_eq.1 hcmp
    have HQ := Lib.hid hq
    clear hcmp
    go_enter Try.func12, Try.ntmps12
    go_wp2_with (first
      | (go_at_call 31; refine (HN.out _).mono ?_; rintro r w1 ⟨rfl, b1⟩)
      | (go_at_call 10; refine (HF.out _).mono ?_; rintro r w2 ⟨rfl, b2⟩))
    go_ret3
    exact ⟨rfl, bb (b1.alloc b1.size _) b2⟩

/-- The document's Take, of whatever bytes. -/
theorem refTake_any (l : List UInt8) (w : World) (hl : l.length ≤ 1000000) :
    Calls Try.prog 12 #[.string (B l)] w fun r w' => r = .returned (.tuple #[.string (B (takeL l).1), .int .i64 (takeL l).2.1, .int .i64 (takeL l).2.2]) ∧ Below w.heap.size w w' := by
  generalize hp : St.num ⟨0, l⟩ = p
  obtain ⟨n, e, r⟩ := p
  by_cases he : e = 0
  · subst he
    by_cases h0 : n < 1 ∨ 65536 < n
    · rw [takeL_size hp h0]
      exact refTake_size l w hl n r hp h0
    by_cases hn : r.length < 8 + n
    · rw [takeL_short hp (by omega) (by omega) hn]
      exact refTake_short l w hl n r hp (by omega) (by omega) hn
    by_cases hs : ln (r.take 8) = sm ((r.drop 8).take n)
    · rw [takeL_ok hp (by omega) (by omega) (by omega) hs]
      exact refTake_whole l w hl n r hp (by omega) (by omega) (by omega) true (by simp [hs])
    · rw [takeL_sum hp (by omega) (by omega) (by omega) hs]
      exact refTake_whole l w hl n r hp (by omega) (by omega) (by omega) false (by simpa using fun h => hs h.symm)
  · rw [takeL_num (by rw [hp]; exact he), hp]
    have h0 : n = 0 := by have := num_err ⟨0, l⟩ (by rw [hp]; exact he); rw [hp] at this; exact this
    subst h0
    exact refTake_err l w hl 0 e r hp he

end Go.Proofs.Ytddicpgkagkmiaa
