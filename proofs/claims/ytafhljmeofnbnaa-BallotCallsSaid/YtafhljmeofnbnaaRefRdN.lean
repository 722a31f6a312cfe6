/-
  The document's own reader (package palaverref01), its Num, over this translation.
-/
import Derived.Test.YtafhljmeofnbnaaRefRd
import Derived.Test.YtafhljmeofnbnaaWakes
import Derived.Deep.RegionWith
import Derived.Deep.DrawnRows
namespace Go.Proofs.Ytafhljmeofnbnaa
open Go.RowKit
set_option linter.unusedVariables false
attribute [local go_sem ↓] Go.wp_at_zero Go.wp_at_succ

/-- At block b there is a reader of the document's. -/
def Rf (w : World) (b : Nat) (s : ByteArray) (e : Int) : Prop := w.heap[b]? = some (.cells #[.string s, .int .i64 e] 43 (0, 0))
theorem Rf.c0 {w : World} {b : Nat} {s : ByteArray} {e : Int} (h : Rf w b s e) : w.cell? ⟨b, 0, none⟩ = some (.string s) := by rw [cell_of_row w b 0 _ _ _ h]; rfl
theorem Rf.c1 {w : World} {b : Nat} {s : ByteArray} {e : Int} (h : Rf w b s e) : w.cell? ⟨b, 1, none⟩ = some (.int .i64 e) := by rw [cell_of_row w b 1 _ _ _ h]; rfl
theorem Rf.fr {w : World} {b : Nat} {s : ByteArray} {e : Int} (h : Rf w b s e) (j : Nat) : w.frozen? ⟨b, j, none⟩ = false := frozen_of_row w b j _ _ h
theorem Rf.below {w w' : World} {b : Nat} {s : ByteArray} {e : Int} (h : Rf w b s e) (hb : Below w.heap.size w w') : Rf w' b s e := by
  unfold Rf; rw [hb.block b (Array.getElem?_eq_some_iff.1 h).1]; exact h
theorem Rf.alloc {w : World} {b : Nat} {s : ByteArray} {e : Int} (h : Rf w b s e) (o : Obj) : Rf (w.alloc o) b s e := h.below ((Below.refl _ w).alloc (Nat.le_refl _) o)
theorem Rf.new (w : World) (s : ByteArray) (e : Int) : Rf (w.alloc (.cells #[.string s, .int .i64 e] 43)) w.heap.size s e := heap_alloc_new w _

/-- The first byte, and k bytes behind it: are they the bytes of the number that they make? -/
theorem enc_be (c : UInt8) (u : List UInt8) (k : Nat) (hk : u.length = k) (hc : k + 247 = c.toNat) (hk1 : 1 ≤ k) : (enc (be u) = c :: u) ↔ nb (be u) = k := by
  constructor
  · intro h
    have := congrArg List.length h
    rw [enc_length, List.length_cons, hk] at this; omega
  · intro h
    have h5 : ¬ be u < 248 := fun hh => by rw [nb_small hh] at h; omega
    rw [enc_big (by omega), h, dig_be k u hk, show 247 + k = c.toNat from by omega]
    simp

theorem refNum_err (e : Int) (w : World) (he : e ≠ 0) :
    Calls Try.prog 34 #[.agg #[.string ⟨#[]⟩, .int .i64 e]] w fun r w' => r = .returned (.tuple #[.int .u64 0, .agg #[.string ⟨#[]⟩, .int .i64 e]]) ∧ Below w.heap.size w w' := by
  have he' : (e != 0) = true := by simpa using he
  go_enter Try.func34, Try.ntmps34
  go_wp2
  go_region
  all_goals go_wp2
  all_goals
    refine bodyPost_ret (v := .tuple #[.int .u64 0, .agg #[.string ⟨#[]⟩, .int .i64 e]]) (by simp [results, Try.results34, go_sem]) rfl ⟨rfl, ?_⟩
    exact (((Below.refl _ _).alloc (by simp) _).alloc (by simp) _).drew

theorem refNum_none (w : World) :
    Calls Try.prog 34 #[.agg #[.string ⟨#[]⟩, .int .i64 0]] w fun r w' => r = .returned (.tuple #[.int .u64 0, .agg #[.string ⟨#[]⟩, .int .i64 3]]) ∧ Below w.heap.size w w' := by
  go_enter Try.func34, Try.ntmps34
  go_wp2_with (go_at_call 45; refine (none_any _ _).mono ?_; rintro r w1 ⟨rfl, rfl⟩)
  refine bodyPost_ret (v := .tuple #[.int .u64 0, .agg #[.string ⟨#[]⟩, .int .i64 3]]) (by simp [results, Try.results34, go_sem]) rfl ⟨rfl, ?_⟩
  exact (((Below.refl _ _).alloc (by simp) _).alloc (by simp) _).alloc (by simp; omega) _

/-- Bytes that end within it. -/
theorem refNum_ends (c : UInt8) (t : List UInt8) (w : World) (hc : 248 ≤ (c.toNat : Int)) (hl : (t.length : Int) < (c.toNat : Int) - 247) :
    Calls Try.prog 34 #[.agg #[.string (B (c :: t)), .int .i64 0]] w fun r w' => r = .returned (.tuple #[.int .u64 0, .agg #[.string ⟨#[]⟩, .int .i64 3]]) ∧ Below w.heap.size w w' := by
  have hx0 : ∀ h, (B (c :: t))[0]'h = c := fun _ => rfl
  have hcl := c.toNat_lt
  have hne : ((t.length : Int) + 1 == 0) = false := by simp; omega
  go_enter Try.func34, Try.ntmps34
  go_wp2_with (go_at_call 45; refine (none_any _ _).mono ?_; rintro r w1 ⟨rfl, rfl⟩)
  refine bodyPost_ret (v := .tuple #[.int .u64 0, .agg #[.string ⟨#[]⟩, .int .i64 3]]) (by simp [results, Try.results34, go_sem]) rfl ⟨rfl, ?_⟩
  exact (((Below.refl _ _).alloc (by simp) _).alloc (by simp) _).alloc (by simp; omega) _

set_option maxRecDepth 100000 in
set_option maxHeartbeats 4000000 in
/-- A longer number, all of whose bytes are there. -/
theorem refNum_long (c : UInt8) (u v : List UInt8) (w : World) (hc : 248 ≤ (c.toNat : Int)) (hk : u.length + 247 = c.toNat) (hlv : (v.length : Int) ≤ 9000000000000000000) :
    Calls Try.prog 34 #[.agg #[.string (B (c :: (u ++ v))), .int .i64 0]] w fun r w' =>
      r = .returned (if nb (be u) = u.length then .tuple #[.int .u64 (be u), .agg #[.string (B v), .int .i64 0]] else .tuple #[.int .u64 0, .agg #[.string ⟨#[]⟩, .int .i64 4]]) ∧ Below w.heap.size w w' := by
  have hcl := c.toNat_lt
  have hu8 : u.length ≤ 8 := by omega
  have hu1 : 1 ≤ u.length := by omega
  have hx0 : ∀ h, (B (c :: (u ++ v)))[0]'h = c := fun _ => rfl
  have hsz : (u ++ v).length = u.length + v.length := by simp
  have hcut := enc_be c u u.length rfl hk hu1
  have hle : be u ≤ 18446744073709551615 := by
    have := be_lt u.length u rfl
    have : 256 ^ u.length ≤ 256 ^ 8 := Nat.pow_le_pow_right (by decide) hu8
    omega
  have hR := fun w1 => refNum_any (be u : Int) w1 (by omega) (by omega)
  simp only [Int.toNat_natCast] at hR
  have HR := Lib.hid hR
  have HCUT := Lib.hid hcut
  have HKK := Lib.hid hk
  have hkk : (c.toNat : Int) - 247 = (u.length : Int) := by omega
  have hne : ((u.length : Int) + (v.length : Int) + 1 == 0) = false := by simp; omega
  clear hR hcut hk
  go_enter Try.func34, Try.ntmps34
  go_wp2_with fail
  go_loop [5, 6] (fun n i => ∃ j : Nat, j ≤ u.length ∧ i = .int .i64 ((j : Int) + 1) ∧ n = .int .u64 (be (u.take j))) (fun _ i => (u.length + 2) - (intOf i).toNat)
  case atStart => exact ⟨0, Nat.zero_le _, rfl, rfl⟩
  case round =>
    obtain ⟨j, hj, rfl, rfl⟩ := hrel
    by_cases hlt : j < u.length
    · have hstep := be_take_succ u j hlt
      have hb1 : be (u.take j) < 72057594037927936 := by
        have h1 := be_lt j (u.take j) (by simp; omega)
        have : 256 ^ j ≤ 256 ^ 7 := Nat.pow_le_pow_right (by decide) (by omega)
        omega
      have hxj : ∀ h, (B (c :: (u ++ v)))[j + 1]'h = u[j] := fun h => by
        show (c :: (u ++ v))[j + 1]'(by simp; omega) = u[j]
        rw [List.getElem_cons_succ, List.getElem_append_left hlt]
      have hul := u[j].toNat_lt
      generalize u[j] = y at hstep hxj hul
      generalize be (u.take j) = q at hstep hb1
      have HST := Lib.hid hstep
      clear hstep
      go_wp2
      go_round
      case rel => exact ⟨j + 1, by omega, by go_num, by rw [HST.out]; go_num⟩
      case measure => simp [intOf]; omega
    · obtain rfl : j = u.length := by omega
      rw [List.take_length]
      have hS := (Rf.new w (B (c :: (u ++ v))) 0).alloc (.cells #[.string ⟨#[]⟩, .int .i64 0] 43)
      have hT := Rf.new (w.alloc (.cells #[.string (B (c :: (u ++ v))), .int .i64 0] 43)) ⟨#[]⟩ 0
      rw [World.size_alloc] at hT
      have hB : Below w.heap.size w ((w.alloc (.cells #[.string (B (c :: (u ++ v))), .int .i64 0] 43)).alloc (.cells #[.string ⟨#[]⟩, .int .i64 0] 43)) := (((Below.refl _ _).alloc (by simp) _).alloc (by simp) _)
      have hsl : (B (c :: (u ++ v))).extract 0 (1 + u.length) = B (c :: u) := by
        rw [B_take, Nat.add_comm, List.take_succ_cons, List.take_left]
      have hsr : (B (c :: (u ++ v))).extract (1 + u.length) (u.length + v.length + 1) = B v := by
        rw [B_extract, Nat.add_comm 1, List.drop_succ_cons, List.drop_left, List.take_of_length_le (by omega)]
      generalize (w.alloc (.cells #[.string (B (c :: (u ++ v))), .int .i64 0] 43)).alloc (.cells #[.string ⟨#[]⟩, .int .i64 0] 43) = wd at hS hT hB ⊢
      have hS' : Rf wd.drew w.heap.size (B (c :: (u ++ v))) 0 := hS
      have hT' : Rf wd.drew (w.heap.size + 1) ⟨#[]⟩ 0 := hT
      have k0 := hS'.c0
      have q1 : 1 + u.length ≤ u.length + v.length + 1 := by omega
      have q2 : (1 + (u.length : Int)).toNat = 1 + u.length := by omega
      have q3 : (0 : Int) ≤ 1 + (u.length : Int) := by omega
      have q4 : (1 + (u.length : Int)) ≤ (u.length : Int) + (v.length : Int) + 1 := by omega
      have qw : IntKind.i64.wrap (1 + (u.length : Int)) = 1 + (u.length : Int) := by rw [IntKind.wrap_i64]; omega
      by_cases hn : nb (be u) = u.length
      · have he := HCUT.out.2 hn
        have hR := HR.out
        rw [he] at hR
        have HR2 := Lib.hid hR
        clear he hR
        go_wp2_with fail
        go_region_with (first | (go_at_call 30; refine (HR2.out _).mono ?_; rintro r w1 ⟨rfl, b1⟩; have hS1 := hS'.below b1; have hT1 := hT'.below b1; have k1 := hS1.c0))
        all_goals
          have B1 := bb hB.drew b1
          have kT := hT1.c0
          have kT1 := hT1.c1
          have fT := hT1.fr 0
          have fT1 := hT1.fr 1
          go_wp2_with fail
          go_region
        all_goals go_wp2
        all_goals
          refine bodyPost_ret (v := .tuple #[.int .u64 (be u), .agg #[.string (B v), .int .i64 0]]) (by simp [results, Try.results34, go_sem, kT, kT1]) rfl ⟨rfl, ?_⟩
          exact ((B1.setCell (by simp) _).setCell (by simp) _).drew
      · have he : enc (be u) ≠ c :: u := fun e => hn (HCUT.out.1 e)
        have he2 : (enc (be u) == c :: u) = false := by simpa using he
        clear he
        go_wp2_with fail
        go_region_with (first | (go_at_call 30; refine (HR.out _).mono ?_; rintro r w1 ⟨rfl, b1⟩; have hS1 := hS'.below b1; have hT1 := hT'.below b1; have k1 := hS1.c0))
        all_goals
          have B1 := bb hB.drew b1
          have kT := hT1.c0
          have kT1 := hT1.c1
          have fT := hT1.fr 0
          have fT1 := hT1.fr 1
          have hz : w.heap.size + 1 < w1.heap.size := (Array.getElem?_eq_some_iff.1 hT1).1
          go_wp2_with (go_at_call 45; refine (none_any _ _).mono ?_; rintro r w2 ⟨rfl, rfl⟩)
        all_goals
          refine bodyPost_ret (v := .tuple #[.int .u64 0, .agg #[.string ⟨#[]⟩, .int .i64 4]]) (by simp [results, Try.results34, go_sem, kT, kT1, hz]) rfl ⟨rfl, ?_⟩
          exact ((B1.setCell (by simp) _).setCell (by simp) _).alloc (by simp; omega) _

set_option maxRecDepth 100000 in
set_option maxHeartbeats 4000000 in
/-- A number of one byte. -/
theorem refNum_short (c : UInt8) (v : List UInt8) (w : World) (hc : (c.toNat : Int) < 248) (hlv : (v.length : Int) ≤ 9000000000000000000) :
    Calls Try.prog 34 #[.agg #[.string (B (c :: v)), .int .i64 0]] w fun r w' =>
      r = .returned (.tuple #[.int .u64 c.toNat, .agg #[.string (B v), .int .i64 0]]) ∧ Below w.heap.size w w' := by
  have hcl := c.toNat_lt
  have hx0 : ∀ h, (B (c :: v))[0]'h = c := fun _ => rfl
  have hR := fun w1 => refNum_any (c.toNat : Int) w1 (by omega) (by omega)
  have hen : enc c.toNat = [c] := by rw [enc_small (by omega)]; simp
  simp only [Int.toNat_natCast, hen] at hR
  have HR := Lib.hid hR
  have hne : ((v.length : Int) + 1 == 0) = false := by simp; omega
  clear hR hen
  go_enter Try.func34, Try.ntmps34
  go_wp2_with fail
  refine wp_loop_rounds 1 ?_
  rw [rounds_succ]
  have hS := (Rf.new w (B (c :: v)) 0).alloc (.cells #[.string ⟨#[]⟩, .int .i64 0] 43)
  have hT := Rf.new (w.alloc (.cells #[.string (B (c :: v)), .int .i64 0] 43)) ⟨#[]⟩ 0
  rw [World.size_alloc] at hT
  have hB : Below w.heap.size w ((w.alloc (.cells #[.string (B (c :: v)), .int .i64 0] 43)).alloc (.cells #[.string ⟨#[]⟩, .int .i64 0] 43)) := (((Below.refl _ _).alloc (by simp) _).alloc (by simp) _)
  have hsl : (B (c :: v)).extract 0 1 = B [c] := by rw [B_take]; rfl
  have hsr : (B (c :: v)).extract 1 (v.length + 1) = B v := B_tail c v
  generalize (w.alloc (.cells #[.string (B (c :: v)), .int .i64 0] 43)).alloc (.cells #[.string ⟨#[]⟩, .int .i64 0] 43) = wd at hS hT hB ⊢
  have hS' : Rf wd.drew w.heap.size (B (c :: v)) 0 := hS
  have hT' : Rf wd.drew (w.heap.size + 1) ⟨#[]⟩ 0 := hT
  have k0 := hS'.c0
  have q4 : (1 : Int) ≤ (v.length : Int) + 1 := by omega
  have q5 : 1 ≤ v.length + 1 := by omega
  have q6 : (0 : Int) ≤ (v.length : Int) := by omega
  have qw : IntKind.i64.wrap 1 = 1 := by decide
  go_wp2_with fail
  go_region_with (first | (go_at_call 30; refine (HR.out _).mono ?_; rintro r w1 ⟨rfl, b1⟩; have hS1 := hS'.below b1; have hT1 := hT'.below b1; have k1 := hS1.c0))
  all_goals
    have B1 := bb hB.drew b1
    have kT := hT1.c0
    have kT1 := hT1.c1
    have fT := hT1.fr 0
    have fT1 := hT1.fr 1
    go_wp2_with fail
    go_region
  all_goals go_wp2
  all_goals
    refine bodyPost_ret (v := .tuple #[.int .u64 c.toNat, .agg #[.string (B v), .int .i64 0]]) (by simp [results, Try.results34, go_sem, kT, kT1]) rfl ⟨rfl, ?_⟩
    exact ((B1.setCell (by simp) _).setCell (by simp) _).drew

theorem refRNum_any (s : St) (w : World) (h63 : (s.l.length : Int) ≤ 9000000000000000000) :
    Calls Try.prog 34 #[refV s] w fun r w' => r = .returned (.tuple #[.int .u64 s.num.1, refV s.num.2]) ∧ Below w.heap.size w w' := by
  obtain ⟨e, l⟩ := s
  by_cases he : e = 0
  · subst he
    cases l with
    | nil => exact refNum_none w
    | cons c t =>
      have hcl := c.toNat_lt
      have hlt : (t.length : Int) ≤ 9000000000000000000 := by simp only [List.length_cons] at h63; omega
      clear h63
      by_cases hc : c.toNat < 248
      · have e1 : St.num ⟨0, c :: t⟩ = (c.toNat, ⟨0, t⟩) := by simp [St.num, hc]
        rw [e1]
        exact refNum_short c t w (by omega) hlt
      · have e1 : St.num ⟨0, c :: t⟩ = longR (c.toNat - 247) t := by simp [St.num, hc]
        rw [e1, refV_ok]
        by_cases hl : t.length < c.toNat - 247
        · rw [longR_short _ _ hl]
          exact refNum_ends c t w (by omega) (by omega)
        · obtain ⟨u, v, rfl, hu⟩ : ∃ u v, t = u ++ v ∧ u.length = c.toNat - 247 := ⟨t.take (c.toNat - 247), t.drop (c.toNat - 247), (List.take_append_drop _ _).symm, by simp; omega⟩
          have hlv : (v.length : Int) ≤ 9000000000000000000 := by simp only [List.length_append] at hlt; omega
          have h := refNum_long c u v w (by omega) (by omega) hlv
          have ht : (u ++ v).take (c.toNat - 247) = u := by rw [← hu, List.take_left]
          have hd : (u ++ v).drop (c.toNat - 247) = v := by rw [← hu, List.drop_left]
          by_cases hn : nb (be u) = u.length
          · rw [if_pos hn] at h
            rw [longR_ok _ _ (by omega) (by rw [ht, hn, hu]), ht, hd]
            exact h
          · rw [if_neg hn] at h
            rw [longR_form _ _ (by omega) (by rw [ht, ← hu]; exact hn), hd]
            exact h
  · have e1 : St.num ⟨e, l⟩ = (0, ⟨e, l⟩) := by simp [St.num, he]
    rw [e1, refV_err e l he]
    exact refNum_err e w he

end Go.Proofs.Ytafhljmeofnbnaa
