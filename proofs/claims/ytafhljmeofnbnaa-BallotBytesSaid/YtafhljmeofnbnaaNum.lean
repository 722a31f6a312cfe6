/-
  The Reader's Byte, Num, Below, Left, End over this translation: what each answers and what it leaves, in the words of the plain reader of the Pure text.
-/
import Derived.Test.YtafhljmeofnbnaaRd
import Derived.Test.YtafhljmeofnbnaaPure
import Derived.Test.YtafhljmeofnbnaaLen
import Derived.Laws.BitsAllLaws
import Derived.Lib.Hide
namespace Go.Proofs.Ytafhljmeofnbnaa
open Go.RowKit
set_option linter.unusedVariables false

/-- A text of these bytes. -/
abbrev B (l : List UInt8) : ByteArray := ⟨l.toArray⟩

theorem B_size (l : List UInt8) : (B l).size = l.length := by simp [ByteArray.size]
theorem B_extract (l : List UInt8) (a b : Nat) : (B l).extract a b = B ((l.drop a).take (b - a)) := by
  apply ByteArray.ext; apply Array.ext'
  rw [Lib.extract_data]
theorem B_take (l : List UInt8) (n : Nat) : (B l).extract 0 n = B (l.take n) := by rw [B_extract]; simp
theorem B_drop (l : List UInt8) (n : Nat) : (B l).extract n (B l).size = B (l.drop n) := by
  rw [B_extract, B_size, List.take_of_length_le (by simp)]
theorem B_data (s : ByteArray) : s = B s.data.toList := by apply ByteArray.ext; simp
theorem B_inj {l m : List UInt8} (h : B l = B m) : l = m := by
  have := congrArg (fun s => s.data.toList) h; simpa using this

/-- The reader at block b holds what the plain reader holds. -/
def RS (w : World) (b : Nat) (s : St) : Prop := Rd w b s.e (B s.l)

theorem behind_any (x : Int) (w : World) (h0 : 0 ≤ x) (h1 : x ≤ 18446744073709551615) :
    Calls Try.prog 43 #[.int .u64 x] w fun r w' => r = .returned (.int .i64 (nb x.toNat)) ∧ w = w' := by
  by_cases h : x < 248
  · have e : nb x.toNat = 0 := nb_small (by omega)
    rw [e]
    go_enter Try.func43, Try.ntmps43
    go_wp2
    go_ret
    exact ⟨rfl, rfl⟩
  · have e : nb x.toNat = (Lib.bitLen x.toNat + 7) / 8 := by simp only [nb]; rw [if_neg (by omega)]
    have l : Lib.bitLen x.toNat ≤ 64 := Lib.bitLen_le _ 64 (Nat.le_refl _) (by omega)
    rw [e]
    generalize hL : Lib.bitLen x.toNat = L at l
    have HL := Lib.hid hL
    clear hL e
    go_enter Try.func43, Try.ntmps43
    go_wp2_with (go_at_call 48; refine (len64_any x _ h0 h1).mono ?_; rintro r w' ⟨rfl, rfl⟩; rw [HL.out])
    go_ret
    exact ⟨by go_num, rfl⟩

theorem behind_zero (w : World) : Calls Try.prog 43 #[.int .u64 0] w fun r w' => r = .returned (.int .i64 0) ∧ w = w' := by
  go_enter Try.func43, Try.ntmps43
  go_wp2
  go_ret
  exact ⟨rfl, rfl⟩

theorem byte_nil (w : World) : Calls Try.prog 32 #[.pointer none] w fun r w' => r = .returned (.int .u8 0) ∧ w = w' := by
  go_enter Try.func32, Try.ntmps32
  go_wp2_with (go_at_call 42; refine (take_nil _ _).mono ?_; rintro r w' ⟨rfl, rfl⟩)
  go_ret
  exact ⟨rfl, rfl⟩

theorem byte_any (b : Nat) (s : St) (w : World) (h : RS w b s) (h63 : s.l.length ≤ 9223372036854775807) :
    Calls Try.prog 32 #[.pointer (some ⟨b, 0, none⟩)] w fun r w' => r = .returned (.int .u8 s.byte.1.toNat) ∧ RS w' b s.byte.2 ∧ w.grownBy w' (some b) := by
  obtain ⟨e, l⟩ := s
  by_cases he : e = 0
  · subst he
    match l, h, h63 with
    | [], h, h63 =>
      have e1 : St.byte ⟨0, []⟩ = (0, ⟨3, []⟩) := rfl
      rw [e1]
      go_enter Try.func32, Try.ntmps32
      go_wp2_with (go_at_call 42; refine (take_short b 1 (B []) _ h (by decide)).mono ?_; rintro r w' ⟨rfl, h1, h2⟩)
      go_ret
      exact ⟨rfl, h1, h2⟩
    | c :: t, h, h63 =>
      have e1 : St.byte ⟨0, c :: t⟩ = (c, ⟨0, t⟩) := rfl
      rw [e1]
      have ht := take_ok b 1 (B (c :: t)) w h (by rw [B_size]; simp) (by rw [B_size]; exact h63)
      rw [B_take, B_drop] at ht
      go_enter Try.func32, Try.ntmps32
      go_wp2_with (go_at_call 42; refine ht.mono ?_; rintro r w' ⟨rfl, h1, h2⟩)
      go_ret
      exact ⟨rfl, h1, h2⟩
  · have e1 : St.byte ⟨e, l⟩ = (0, ⟨e, l⟩) := by simp [St.byte, he]
    rw [e1]
    go_enter Try.func32, Try.ntmps32
    go_wp2_with (go_at_call 42; refine (take_err b e 1 _ _ h he).mono ?_; rintro r w' ⟨rfl, rfl⟩)
    go_ret
    exact ⟨rfl, h, World.grownBy.refl _ _⟩

theorem num_nil (w : World) : Calls Try.prog 31 #[.pointer none] w fun r w' => r = .returned (.int .u64 0) ∧ w = w' := by
  go_enter Try.func31, Try.ntmps31
  go_wp2_with (go_at_call 32; refine (byte_nil _).mono ?_; rintro r w' ⟨rfl, rfl⟩)
  go_ret
  exact ⟨rfl, rfl⟩

/-- A short number, no number, or behind an error: the first byte tells. -/
theorem num_short (b : Nat) (s : St) (w : World) (h : RS w b s) (h63 : s.l.length ≤ 9223372036854775807) (hc : (s.byte.1.toNat : Int) < 248) :
    Calls Try.prog 31 #[.pointer (some ⟨b, 0, none⟩)] w fun r w' => r = .returned (.int .u64 s.byte.1.toNat) ∧ RS w' b s.byte.2 ∧ w.grownBy w' (some b) := by
  go_enter Try.func31, Try.ntmps31
  go_wp2_with (go_at_call 32; refine (byte_any b s _ h h63).mono ?_; rintro r w' ⟨rfl, h1, h2⟩)
  go_ret
  exact ⟨rfl, h1, h2⟩

set_option maxRecDepth 100000 in
/-- A longer number whose bytes end too soon. -/
theorem num_ends (b : Nat) (c : UInt8) (t : List UInt8) (w : World) (h : RS w b ⟨0, c :: t⟩) (h63 : (c :: t).length ≤ 9223372036854775807) (hc : 248 ≤ (c.toNat : Int)) (k : Nat) (hk : k + 247 = c.toNat) (hl : t.length < k) :
    Calls Try.prog 31 #[.pointer (some ⟨b, 0, none⟩)] w fun r w' => r = .returned (.int .u64 0) ∧ RS w' b ⟨3, t⟩ ∧ w.grownBy w' (some b) := by
  have hb := byte_any b _ w h h63
  have e1 : St.byte ⟨0, c :: t⟩ = (c, ⟨0, t⟩) := rfl
  rw [e1] at hb
  have hcl := c.toNat_lt
  have hts : ((B t).size : Int) < (c.toNat : Int) - 247 := by rw [B_size]; omega
  have HB := Lib.hid hb
  clear hb e1 hk hl
  go_enter Try.func31, Try.ntmps31
  go_wp2_with (first | (go_at_call 32; refine HB.out.mono ?_; rintro r w1 ⟨rfl, h1, h2⟩) | (go_at_call 42; refine (take_short b _ (B t) _ h1 hts).mono ?_; rintro r w2 ⟨rfl, h3, h4⟩))
  refine wp_loop_rounds 1 ?_
  rw [rounds_succ]
  go_wp2_with (go_at_call 43; refine (behind_zero _).mono ?_; rintro r w' ⟨rfl, rfl⟩)
  go_ret
  exact ⟨rfl, h3, grown_trans h2 h4⟩

theorem or_num (a c : Nat) (ha : a < 72057594037927936) (hc : c < 256) : bits .or .u64 (IntKind.u64.wrap ((a : Int) * 256)) (IntKind.u64.wrap (c : Int)) = ((a * 256 + c : Nat) : Int) := by
  have e1 : IntKind.u64.wrap ((a : Int) * 256) = ((a * 256 : Nat) : Int) := by rw [IntKind.wrap_u64]; omega
  have e2 : IntKind.u64.wrap (c : Int) = ((c : Nat) : Int) := by rw [IntKind.wrap_u64]; omega
  rw [e1, e2, u64_or_nat _ _ (by omega) (by omega), nat_join 8 _ _ (by omega) hc]

theorem be_take_succ (u : List UInt8) (j : Nat) (hj : j < u.length) : be (u.take (j + 1)) = be (u.take j) * 256 + u[j].toNat := by
  rw [List.take_succ_eq_append_getElem hj, be_snoc]

theorem or_step (u : List UInt8) (j : Nat) (hj : j < u.length) (h8 : u.length ≤ 8) (h : j < (B u).size) :
    bits .or .u64 (IntKind.u64.wrap ((be (u.take j) : Nat) * 256 : Int)) (IntKind.u64.wrap (((B u)[j]'h).toNat : Int)) = ((be (u.take (j + 1)) : Nat) : Int) := by
  have e : (B u)[j]'h = u[j] := rfl
  have hl := be_lt j (u.take j) (by simp; omega)
  have hp : 256 ^ j ≤ 256 ^ 7 := Nat.pow_le_pow_right (by decide) (by omega)
  rw [e, or_num _ _ (by omega) (u[j].toNat_lt), be_take_succ u j hj]

set_option maxRecDepth 100000 in
set_option maxHeartbeats 1000000 in
/-- A longer number, all of whose bytes are there. -/
theorem num_long (b : Nat) (c : UInt8) (t : List UInt8) (w : World) (h : RS w b ⟨0, c :: t⟩) (h63 : (c :: t).length ≤ 9223372036854775807) (hc : 248 ≤ (c.toNat : Int)) (k : Nat) (hk : k + 247 = c.toNat) (hl : k ≤ t.length) :
    Calls Try.prog 31 #[.pointer (some ⟨b, 0, none⟩)] w fun r w' => r = .returned (.int .u64 (longR k t).1) ∧ RS w' b (longR k t).2 ∧ w.grownBy w' (some b) := by
  have hb := byte_any b _ w h h63
  have e1 : St.byte ⟨0, c :: t⟩ = (c, ⟨0, t⟩) := rfl
  rw [e1] at hb
  have hcl := c.toNat_lt
  have hk1 : 1 ≤ k := by omega
  have hk8 : k ≤ 8 := by omega
  have hlen : (t.take k).length = k := by simp; omega
  have hts := fun w1 (h1 : RS w1 b ⟨0, t⟩) => take_ok b k (B t) w1 h1 (by rw [B_size]; exact hl) (by rw [B_size]; simp at h63; omega)
  rw [B_take, B_drop] at hts
  have hkk : ((c.toNat : Int) - 247) = (k : Int) := by omega
  have HK := Lib.hid hkk
  have HB := Lib.hid hb
  have HT := Lib.hid hts
  generalize hu : t.take k = u at hlen hts HT
  have hok := longR_ok k t hl
  have hform := longR_form k t hl
  rw [hu] at hok hform
  have hbe := be_lt k u hlen
  have hle : be u ≤ 18446744073709551615 := by
    have : 256 ^ k ≤ 256 ^ 8 := Nat.pow_le_pow_right (by decide) hk8
    omega
  have HOK := Lib.hid hok
  have HFORM := Lib.hid hform
  clear hb e1 hk hl hu hok hform hbe hts hkk h63
  subst hlen
  go_enter Try.func31, Try.ntmps31
  go_wp2_with (first | (go_at_call 32; refine HB.out.mono ?_; rintro r w1 ⟨rfl, h1, h2⟩) | (go_at_call 42; rw [HK.out]; refine (HT.out _ h1).mono ?_; rintro r w2 ⟨rfl, h3, h4⟩))
  go_loop [5, 20] (fun n i => ∃ j : Nat, j ≤ u.length ∧ i = .int .i64 j ∧ n = .int .u64 (be (u.take j))) (fun _ i => u.length - (intOf i).toNat)
  case atStart => exact ⟨0, Nat.zero_le _, rfl, rfl⟩
  case round =>
    obtain ⟨j, hj, rfl, rfl⟩ := hrel
    by_cases hlt : j < u.length
    · go_wp2
      go_round
      case rel => exact ⟨j + 1, by omega, by go_num, by rw [or_step u j hlt hk8]⟩
      case measure => simp [intOf]; omega
    · obtain rfl : j = u.length := by omega
      rw [List.take_length]
      by_cases hn : nb (be u) = u.length
      · have hne : (((nb (be u) : Nat) : Int) != (u.length : Int)) = false := by simp [hn]
        go_wp2_with (go_at_call 43; refine (behind_any _ _ (by omega) (by omega)).mono ?_; rintro r w' ⟨rfl, rfl⟩; rw [Int.toNat_natCast])
        go_ret
        rw [HOK.out hn]
        exact ⟨rfl, h3, grown_trans h2 h4⟩
      · have hne : (((nb (be u) : Nat) : Int) != (u.length : Int)) = true := by rw [bne_iff_ne]; omega
        go_wp2_with (first | (go_at_call 43; refine (behind_any _ _ (by omega) (by omega)).mono ?_; rintro r w' ⟨rfl, rfl⟩; rw [Int.toNat_natCast]) | (go_at_call 33; refine (bad_any b 0 _ _ h3).mono ?_; rintro r w' ⟨rfl, h5, h6⟩))
        go_ret
        rw [HFORM.out hn]
        exact ⟨rfl, h5, grown_trans h2 (grown_trans h4 h6)⟩

theorem num_any (b : Nat) (s : St) (w : World) (h : RS w b s) (h63 : s.l.length ≤ 9223372036854775807) :
    Calls Try.prog 31 #[.pointer (some ⟨b, 0, none⟩)] w fun r w' => r = .returned (.int .u64 s.num.1) ∧ RS w' b s.num.2 ∧ w.grownBy w' (some b) := by
  obtain ⟨e, l⟩ := s
  by_cases he : e = 0
  · subst he
    match l, h, h63 with
    | [], h, h63 => exact num_short b ⟨0, []⟩ w h h63 (by decide)
    | c :: t, h, h63 =>
      have hcl := c.toNat_lt
      by_cases hc : c.toNat < 248
      · have e1 : St.num ⟨0, c :: t⟩ = (c.toNat, ⟨0, t⟩) := by simp [St.num, hc]
        rw [e1]
        exact num_short b ⟨0, c :: t⟩ w h h63 (by show (c.toNat : Int) < 248; omega)
      · have e1 : St.num ⟨0, c :: t⟩ = longR (c.toNat - 247) t := by simp [St.num, hc]
        rw [e1]
        by_cases hl : t.length < c.toNat - 247
        · rw [longR_short _ _ hl]
          exact num_ends b c t w h h63 (by omega) (c.toNat - 247) (by omega) hl
        · exact num_long b c t w h h63 (by omega) (c.toNat - 247) (by omega) (by omega)
  · have e1 : St.num ⟨e, l⟩ = (0, ⟨e, l⟩) := by simp [St.num, he]
    have e2 : St.byte ⟨e, l⟩ = (0, ⟨e, l⟩) := by simp [St.byte, he]
    have h2 := num_short b ⟨e, l⟩ w h h63 (by rw [e2]; exact (by decide : ((0 : UInt8).toNat : Int) < 248))
    rw [e2] at h2
    rw [e1]
    exact h2

end Go.Proofs.Ytafhljmeofnbnaa
