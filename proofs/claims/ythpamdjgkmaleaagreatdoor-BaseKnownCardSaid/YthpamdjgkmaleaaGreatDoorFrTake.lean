/-
  Package frame's readSum and Take over this translation: what they answer.
-/
import Derived.Test.YthpamdjgkmaleaaGreatDoorStr
import Derived.Test.YthpamdjgkmaleaaGreatDoorCrcEight
import Derived.Test.YthpamdjgkmaleaaGreatDoorMa
import Derived.Laws.BitsAllLaws
namespace Go.Proofs.YthpamdjgkmaleaaGreatDoor
open Go.RowKit
set_option linter.unusedVariables false

theorem or_low (a c k : Nat) (hk : k < 8) (ha : a < 256 ^ k) (hc : c < 256) : bits .or .u64 (a : Int) (IntKind.u64.wrap (IntKind.u64.wrap (c : Int) * 2 ^ (8 * k))) = ((a + 256 ^ k * c : Nat) : Int) := by
  have e0 : IntKind.u64.wrap (c : Int) = (c : Int) := by rw [IntKind.wrap_u64]; omega
  have hp : 256 ^ k ≤ 256 ^ 7 := Nat.pow_le_pow_right (by decide) (by omega)
  have hm : 256 ^ k * c ≤ 256 ^ k * 255 := Nat.mul_le_mul_left _ (by omega)
  have e1 : (c : Int) * 2 ^ (8 * k) = ((256 ^ k * c : Nat) : Int) := by
    rw [pow256, Int.natCast_mul, Int.mul_comm]; simp
  have e2 : IntKind.u64.wrap ((256 ^ k * c : Nat) : Int) = ((256 ^ k * c : Nat) : Int) := by rw [IntKind.wrap_u64]; omega
  rw [e0, e1, e2, u64_or_nat _ _ (by omega) (by omega)]
  rw [pow256] at ha
  rw [Nat.or_comm, pow256, ← Nat.two_pow_add_eq_or_of_lt ha, Nat.add_comm]

set_option maxRecDepth 100000 in
set_option maxHeartbeats 1000000 in
theorem readSum_any (b : Nat) (s : St) (w : World) (h : RS w b s) (h63 : s.l.length ≤ 9223372036854775807) :
    Calls Tryz.prog 81 #[.pointer (some ⟨b, 0, none⟩)] w fun r w' => r = .returned (.int .u64 (St.low 8 s)) ∧ RS w' b (St.skip 8 s) ∧ w.grownBy w' (some b) := by
  go_enter Tryz.func81, Tryz.ntmps81
  go_wp2
  go_loopw [3, 5] (fun v i wr => ∃ k : Nat, k ≤ 8 ∧ i = .int .i64 k ∧ v = .int .u64 (St.low k s) ∧ RS wr b (St.skip k s) ∧ w.grownBy wr (some b)) (fun _ i _ => 8 - (intOf i).toNat)
  case atStart => exact ⟨0, Nat.zero_le _, rfl, rfl, h, World.grownBy.refl _ _⟩
  case round =>
    obtain ⟨k, hk, rfl, rfl, hr, hg⟩ := hrel
    by_cases hlt : k < 8
    · have hl := skip_len s k
      have hb := byte_any b _ wr hr (by omega)
      have HB := Lib.hid hb
      clear hb hl
      go_wp2_with (go_at_call 84; refine HB.out.mono ?_; rintro r w2 ⟨rfl, hr2, hg2⟩)
      go_roundw
      case rel => exact ⟨k + 1, by omega, by go_num, by rw [or_low _ _ k hlt (St.low_lt s k) (UInt8.toNat_lt _)]; rfl, hr2, grown_trans hg hg2⟩
      case measure => simp [intOf]; omega
    · obtain rfl : k = 8 := by omega
      go_wp2
      go_ret
      exact ⟨rfl, hr, hg⟩

theorem num_err (s : St) (h : s.num.2.e ≠ 0) : s.num.1 = 0 := by
  obtain ⟨e, l⟩ := s
  unfold St.num at h ⊢
  by_cases he : e = 0
  · subst he
    rw [if_pos rfl] at h ⊢
    cases l with
    | nil => rfl
    | cons c t =>
      simp only at h ⊢
      split
      · rename_i h1; rw [if_pos h1] at h; exact absurd rfl h
      · rename_i h1
        rw [if_neg h1] at h
        unfold longR at h ⊢
        split
        · rfl
        · rename_i h2
          rw [if_neg h2] at h
          split
          · rename_i h3; rw [if_pos h3] at h; exact absurd rfl h
          · rfl
  · simp only
    rw [if_neg he]

set_option maxRecDepth 100000 in
set_option maxHeartbeats 1000000 in
/-- A length that is none. -/
theorem take_none (l : List UInt8) (w : World) (hl : l.length ≤ 281474976710656) (s1 : St) (hb : St.below ⟨0, l⟩ 65537 = (0, s1)) (x : Int) (r : List UInt8) (hx : s1.fail 4 = ⟨x, r⟩) (hx0 : x ≠ 0) :
    Calls Tryz.prog 55 #[.string (B l)] w fun r w' => r = .returned (.tuple #[.string (B []), .int .i64 0, .int .i64 x]) ∧ Below w.heap.size w w' := by
  have hbl := fun b w1 (h : RS w1 b ⟨0, l⟩) => belowM_any b _ 65537 w1 h (by show l.length ≤ _; omega) (by decide)
  have e1 : (65537 : Int).toNat = 65537 := rfl
  rw [e1, hb] at hbl
  have hlen : s1.l.length ≤ l.length := by have := below_len ⟨0, l⟩ 65537; rw [hb] at this; exact this
  have hrl : r.length ≤ l.length := by have := fail_len s1 4; rw [hx] at this; rw [show r = s1.l from this]; exact hlen
  have hbad := fun b w1 (h : RS w1 b s1) => bad_st b s1 w1 h
  rw [hx] at hbad
  have hrs := fun b w1 (h : RS w1 b ⟨x, r⟩) => readSum_any b _ w1 h (by show r.length ≤ _; omega)
  rw [skip_err x r hx0 8] at hrs
  generalize St.low 8 ⟨x, r⟩ = v at hrs
  have hne : (x != 0) = true := by simpa using hx0
  have H1 := Lib.hid hbl
  have H2 := Lib.hid hbad
  have H3 := Lib.hid hrs
  clear hbl hbad hrs hb hx e1
  go_enter Tryz.func55, Tryz.ntmps55
  go_wp2_with (first
    | (go_at_call 56; refine (of_any l _).mono ?_; rintro r w1 ⟨rfl, h1, b1⟩)
    | (go_at_call 79; refine (H1.out _ _ h1).mono ?_; rintro r w2 ⟨rfl, h2, g2⟩)
    | (go_at_call 80; refine (H2.out _ _ h2).mono ?_; rintro r w3 ⟨rfl, h3, g3⟩)
    | (go_at_call 81; refine (H3.out _ _ h3).mono ?_; rintro r w4 ⟨rfl, h4, g4⟩)
    | (go_at_call 82; refine (err_st _ _ _ h4).mono ?_; rintro r w5 ⟨rfl, rfl⟩))
  go_ret3
  exact ⟨rfl, ((b1.grown g2 b1.size (by rintro k ⟨rfl⟩; exact Nat.le_refl _)).grown g3 (Nat.le_trans b1.size g2.size) (by rintro k ⟨rfl⟩; exact Nat.le_refl _)).grown g4 (Nat.le_trans b1.size (Nat.le_trans g2.size g3.size)) (by rintro k ⟨rfl⟩; exact Nat.le_refl _)⟩

theorem below_ok {l : List UInt8} {n : Nat} {r : List UInt8} (h : St.num ⟨0, l⟩ = (n, ⟨0, r⟩)) (h2 : n ≤ 65536) : St.below ⟨0, l⟩ 65537 = (n, ⟨0, r⟩) := by
  unfold St.below; rw [h]; simp only; rw [if_neg (by omega)]

theorem num_rest {l : List UInt8} {n : Nat} {r : List UInt8} (h : St.num ⟨0, l⟩ = (n, ⟨0, r⟩)) : l.length = (enc n).length + r.length := by
  have := congrArg List.length (num_parts h)
  simpa using this

set_option maxRecDepth 100000 in
set_option maxHeartbeats 1000000 in
/-- The bytes end within the checksum. -/
theorem take_cut (l : List UInt8) (w : World) (hl : l.length ≤ 281474976710656) (n : Nat) (r : List UInt8) (hp : St.num ⟨0, l⟩ = (n, ⟨0, r⟩)) (h1 : 1 ≤ n) (h2 : n ≤ 65536) (hr : r.length < 8) :
    Calls Tryz.prog 55 #[.string (B l)] w fun r w' => r = .returned (.tuple #[.string (B []), .int .i64 0, .int .i64 3]) ∧ Below w.heap.size w w' := by
  have hbl := fun b w1 (h : RS w1 b ⟨0, l⟩) => belowM_any b _ 65537 w1 h (by show l.length ≤ _; omega) (by decide)
  have e1 : (65537 : Int).toNat = 65537 := rfl
  rw [e1, below_ok hp h2] at hbl
  have hrs := fun b w1 (h : RS w1 b ⟨0, r⟩) => readSum_any b _ w1 h (by show r.length ≤ _; omega)
  rw [skip_short r 8 hr] at hrs
  generalize St.low 8 ⟨0, r⟩ = v at hrs
  have hne : ((n : Int) == 0) = false := by simp; omega
  have H1 := Lib.hid hbl
  have H3 := Lib.hid hrs
  clear hbl hrs hp e1
  go_enter Tryz.func55, Tryz.ntmps55
  go_wp2_with (first
    | (go_at_call 56; refine (of_any l _).mono ?_; rintro r w1 ⟨rfl, h1, b1⟩)
    | (go_at_call 79; refine (H1.out _ _ h1).mono ?_; rintro r w2 ⟨rfl, h2, g2⟩)
    | (go_at_call 81; refine (H3.out _ _ h2).mono ?_; rintro r w4 ⟨rfl, h4, g4⟩)
    | (go_at_call 82; refine (err_st _ _ _ h4).mono ?_; rintro r w5 ⟨rfl, rfl⟩))
  go_ret3
  exact ⟨rfl, (b1.grown g2 b1.size (by rintro k ⟨rfl⟩; exact Nat.le_refl _)).grown g4 (Nat.le_trans b1.size g2.size) (by rintro k ⟨rfl⟩; exact Nat.le_refl _)⟩

set_option maxRecDepth 100000 in
set_option maxHeartbeats 1000000 in
/-- The bytes end within the inside. -/
theorem take_less (l : List UInt8) (w : World) (hl : l.length ≤ 281474976710656) (n : Nat) (r : List UInt8) (hp : St.num ⟨0, l⟩ = (n, ⟨0, r⟩)) (h1 : 1 ≤ n) (h2 : n ≤ 65536) (hr8 : 8 ≤ r.length) (hr : r.length < 8 + n) :
    Calls Tryz.prog 55 #[.string (B l)] w fun r w' => r = .returned (.tuple #[.string (B []), .int .i64 0, .int .i64 3]) ∧ Below w.heap.size w w' := by
  have hbl := fun b w1 (h : RS w1 b ⟨0, l⟩) => belowM_any b _ 65537 w1 h (by show l.length ≤ _; omega) (by decide)
  have e1 : (65537 : Int).toNat = 65537 := rfl
  rw [e1, below_ok hp h2] at hbl
  have hrl := num_rest hp
  have hrs := fun b w1 (h : RS w1 b ⟨0, r⟩) => readSum_any b _ w1 h (by show r.length ≤ _; omega)
  rw [skip_ok r 8 hr8] at hrs
  generalize St.low 8 ⟨0, r⟩ = v at hrs
  have hlf := fun b w1 (h : RS w1 b ⟨0, r.drop 8⟩) => left_st b _ w1 h
  have e2 : St.left ⟨0, r.drop 8⟩ = r.length - 8 := by simp [St.left]
  rw [e2] at hlf
  have hne : ((n : Int) == 0) = false := by simp; omega
  have hgt : ((r.length - 8 : Nat) : Int) < (n : Int) := by omega
  have H1 := Lib.hid hbl
  have H3 := Lib.hid hrs
  have H4 := Lib.hid hlf
  clear hbl hrs hp e1 hlf e2 hrl
  go_enter Tryz.func55, Tryz.ntmps55
  go_wp2_with (first
    | (go_at_call 56; refine (of_any l _).mono ?_; rintro r w1 ⟨rfl, h1, b1⟩)
    | (go_at_call 79; refine (H1.out _ _ h1).mono ?_; rintro r w2 ⟨rfl, h2, g2⟩)
    | (go_at_call 81; refine (H3.out _ _ h2).mono ?_; rintro r w4 ⟨rfl, h4, g4⟩)
    | (go_at_call 83; refine (H4.out _ _ h4).mono ?_; rintro r w5 ⟨rfl, rfl⟩)
    | (go_at_call 82; refine (err_st _ _ _ h4).mono ?_; rintro r w5 ⟨rfl, rfl⟩))
  go_ret3
  exact ⟨rfl, (b1.grown g2 b1.size (by rintro k ⟨rfl⟩; exact Nat.le_refl _)).grown g4 (Nat.le_trans b1.size g2.size) (by rintro k ⟨rfl⟩; exact Nat.le_refl _)⟩

theorem cut_out (l : List UInt8) (a n : Nat) : (B l).extract a (a + n) = B ((l.drop a).take n) := by
  rw [B_extract, show a + n - a = n from by omega]

theorem nat_bne (a b : Nat) : (((a : Nat) : Int) != ((b : Nat) : Int)) = !(a == b) := by
  by_cases h : a = b
  · subst h; simp
  · rw [beq_eq_false_iff_ne.2 h]
    exact bne_iff_ne.2 (by omega)

set_option maxRecDepth 100000 in
set_option maxHeartbeats 1000000 in
/-- The inside is there. -/
theorem take_whole (l : List UInt8) (w : World) (hl : l.length ≤ 281474976710656) (n : Nat) (r : List UInt8) (hp : St.num ⟨0, l⟩ = (n, ⟨0, r⟩)) (h1 : 1 ≤ n) (h2 : n ≤ 65536) (hr : 8 + n ≤ r.length) (same : Bool) (hsame : (sm ((r.drop 8).take n) == ln (r.take 8)) = same) :
    Calls Tryz.prog 55 #[.string (B l)] w fun e w' => e = .returned (.tuple (if same then #[.string (B ((r.drop 8).take n)), .int .i64 (l.length - r.length + 8 + n : Nat), .int .i64 0] else #[.string (B []), .int .i64 0, .int .i64 5])) ∧ Below w.heap.size w w' := by
  have hbl := fun b w1 (h : RS w1 b ⟨0, l⟩) => belowM_any b _ 65537 w1 h (by show l.length ≤ _; omega) (by decide)
  have e1 : (65537 : Int).toNat = 65537 := rfl
  rw [e1, below_ok hp h2] at hbl
  have hrl := num_rest hp
  have hst := num_parts hp
  have hrs := fun b w1 (h : RS w1 b ⟨0, r⟩) => readSum_any b _ w1 h (by show r.length ≤ _; omega)
  rw [skip_ok r 8 (by omega), St.low_ok r 8 (by omega)] at hrs
  have hlf := fun b w1 (h : RS w1 b ⟨0, r.drop 8⟩) => left_st b _ w1 h
  have e2 : St.left ⟨0, r.drop 8⟩ = r.length - 8 := by simp [St.left]
  rw [e2] at hlf
  have e3 : (B l).extract (l.length - (r.length - 8)) (l.length - (r.length - 8) + n) = B ((r.drop 8).take n) := by
    rw [cut_out]
    congr 2
    rw [hst, show (enc n ++ r).length - (r.length - 8) = (enc n).length + 8 from by simp; omega, ← List.drop_drop, List.drop_left]
  have hil : ((r.drop 8).take n).length = n := by simp; omega
  have hcs := fun w1 => crcSum_any ((r.drop 8).take n) w1 (by rw [hil]; omega)
  have hsz : (B ((r.drop 8).take n)).size = n := by rw [B_size, hil]
  have hcl := fun w1 => clone_any (B ((r.drop 8).take n)) w1 (by rw [hsz]; omega)
  have hI : (Crc.I (Crc.sum ((r.drop 8).take n)) != ((ln (r.take 8) : Nat) : Int)) = !same := by
    rw [← hsame]
    exact nat_bne _ _
  generalize Crc.I (Crc.sum ((r.drop 8).take n)) = X at hcs hI
  generalize ln (r.take 8) = v at hrs hI
  generalize (r.drop 8).take n = ins at hcs e3 hcl ⊢
  have hne : ((n : Int) == 0) = false := by simp; omega
  have hgt : ¬ ((r.length - 8 : Nat) : Int) < (n : Int) := by omega
  have hfrom : (l.length : Int) - ((r.length - 8 : Nat) : Int) = ((l.length - (r.length - 8) : Nat) : Int) := by omega
  have hF : l.length - (r.length - 8) = l.length - r.length + 8 := by omega
  have H1 := Lib.hid hbl
  have H3 := Lib.hid hrs
  have H4 := Lib.hid hlf
  have H5 := Lib.hid hcs
  have H6 := Lib.hid hcl
  have HF := Lib.hid hF
  clear hbl hrs hp e1 hlf e2 hcs hcl hil hsz hsame hst hF hrl
  cases same
  all_goals
    try simp only [Bool.not_true, Bool.not_false] at hI
    go_enter Tryz.func55, Tryz.ntmps55
    go_wp2_with (first
      | (go_at_call 56; refine (of_any l _).mono ?_; rintro r w1 ⟨rfl, h1, b1⟩)
      | (go_at_call 79; refine (H1.out _ _ h1).mono ?_; rintro r w2 ⟨rfl, h2, g2⟩)
      | (go_at_call 81; refine (H3.out _ _ h2).mono ?_; rintro r w4 ⟨rfl, h4, g4⟩)
      | (go_at_call 83; refine (H4.out _ _ h4).mono ?_; rintro r w5 ⟨rfl, rfl⟩)
      | (go_at_call 63; refine (H5.out _).mono ?_; rintro r w6 ⟨rfl, rfl⟩)
      | (go_at_call 26; refine (H6.out _).mono ?_; rintro r w7 ⟨rfl, b7⟩)
      | (go_at_call 82; refine (err_st _ _ _ h4).mono ?_; rintro r w5 ⟨rfl, rfl⟩))
    go_ret3
    have b4 := (b1.grown g2 b1.size (by rintro k ⟨rfl⟩; exact Nat.le_refl _)).grown g4 (Nat.le_trans b1.size g2.size) (by rintro k ⟨rfl⟩; exact Nat.le_refl _)
    first | exact ⟨rfl, b4⟩ | exact ⟨by rw [HF.out]; rfl, b4.trans (b7.mono b4.size)⟩

/-- Take, of whatever bytes. -/
theorem take_frame (l : List UInt8) (w : World) (hl : l.length ≤ 281474976710656) :
    Calls Tryz.prog 55 #[.string (B l)] w fun r w' => r = .returned (.tuple #[.string (B (takeL l).1), .int .i64 (takeL l).2.1, .int .i64 (takeL l).2.2]) ∧ Below w.heap.size w w' := by
  generalize hp : St.num ⟨0, l⟩ = p
  obtain ⟨n, e, r⟩ := p
  by_cases he : e = 0
  · subst he
    by_cases h0 : n < 1
    · obtain rfl : n = 0 := by omega
      rw [takeL_size hp (by omega)]
      exact take_none l w hl ⟨0, r⟩ (below_ok hp (by omega)) 4 r (by simp [St.fail]) (by decide)
    by_cases h1 : 65536 < n
    · rw [takeL_size hp (by omega)]
      refine take_none l w hl ⟨4, r⟩ ?_ 4 r (by simp [St.fail]) (by decide)
      unfold St.below; rw [hp]; simp only; rw [if_pos (by omega)]; simp [St.fail]
    by_cases h8 : r.length < 8
    · rw [takeL_short hp (by omega) (by omega) (by omega)]
      exact take_cut l w hl n r hp (by omega) (by omega) h8
    by_cases hn : r.length < 8 + n
    · rw [takeL_short hp (by omega) (by omega) hn]
      exact take_less l w hl n r hp (by omega) (by omega) (by omega) hn
    by_cases hs : ln (r.take 8) = sm ((r.drop 8).take n)
    · rw [takeL_ok hp (by omega) (by omega) (by omega) hs]
      exact take_whole l w hl n r hp (by omega) (by omega) (by omega) true (by simp [hs])
    · rw [takeL_sum hp (by omega) (by omega) (by omega) hs]
      exact take_whole l w hl n r hp (by omega) (by omega) (by omega) false (by simpa using fun h => hs h.symm)
  · have h0 : n = 0 := by have := num_err ⟨0, l⟩ (by rw [hp]; exact he); rw [hp] at this; exact this
    subst h0
    rw [takeL_num (by rw [hp]; exact he), hp]
    refine take_none l w hl ⟨e, r⟩ ?_ e r (by simp [St.fail, he]) he
    unfold St.below; rw [hp]; simp only; rw [if_neg (by omega)]

end Go.Proofs.YthpamdjgkmaleaaGreatDoor
