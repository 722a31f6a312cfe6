/-
  The document's own reader (package palaverref01), its End, Bad, Below, Str, over this translation.
-/
import Derived.Test.YtmlljdfeppgcaaaRefRdN
namespace Go.Proofs.Ytmlljdfeppgcaaa
open Go.RowKit
set_option linter.unusedVariables false
attribute [local go_sem ↓] Go.wp_at_zero Go.wp_at_succ

theorem refEnd_any (s : St) (w : World) (h63 : (s.l.length : Int) ≤ 9000000000000000000) :
    Calls Try.prog 19 #[refV s] w fun r w' => r = .returned (refV s.fin) ∧ Below w.heap.size w w' := by
  obtain ⟨e, l⟩ := s
  by_cases he : e = 0
  · subst he
    cases l with
    | nil =>
      have e1 : St.fin ⟨0, []⟩ = ⟨0, []⟩ := rfl
      rw [e1, refV_ok]
      go_enter Try.func19, Try.ntmps19
      go_wp2
      refine bodyPost_ret (v := .agg #[.string ⟨#[]⟩, .int .i64 0]) (by simp [results, Try.results19, go_sem]) rfl ⟨rfl, ?_⟩
      exact (((Below.refl _ _).alloc (by simp) _).alloc (by simp) _)
    | cons c t =>
      have e1 : St.fin ⟨0, c :: t⟩ = ⟨4, c :: t⟩ := by simp [St.fin, St.left, St.fail]
      rw [e1, refV_ok, refV_err 4 _ (by decide)]
      have hp : (0 : Int) < (t.length : Int) + 1 := by omega
      go_enter Try.func19, Try.ntmps19
      go_wp2_with (go_at_call 33; refine (none_any _ _).mono ?_; rintro r w2 ⟨rfl, rfl⟩)
      refine bodyPost_ret (v := .agg #[.string ⟨#[]⟩, .int .i64 4]) (by simp [results, Try.results19, go_sem]) rfl ⟨rfl, ?_⟩
      exact (((Below.refl _ _).alloc (by simp) _).alloc (by simp) _).alloc (by simp; omega) _
  · have e1 : St.fin ⟨e, l⟩ = ⟨e, l⟩ := by simp [St.fin, St.left, he]
    have he' : (e == 0) = false := by simpa using he
    rw [e1, refV_err e l he]
    go_enter Try.func19, Try.ntmps19
    go_wp2
    refine bodyPost_ret (v := .agg #[.string ⟨#[]⟩, .int .i64 e]) (by simp [results, Try.results19, go_sem]) rfl ⟨rfl, ?_⟩
    exact (((Below.refl _ _).alloc (by simp) _).alloc (by simp) _)

theorem refBad_any (s : St) (w : World) :
    Calls Try.prog 31 #[refV s] w fun r w' => r = .returned (refV (s.fail 4)) ∧ Below w.heap.size w w' := by
  obtain ⟨e, l⟩ := s
  by_cases he : e = 0
  · subst he
    have e1 : St.fail ⟨0, l⟩ 4 = ⟨4, l⟩ := by simp [St.fail]
    rw [e1, refV_ok, refV_err 4 _ (by decide)]
    go_enter Try.func31, Try.ntmps31
    go_wp2_with (go_at_call 33; refine (none_any _ _).mono ?_; rintro r w2 ⟨rfl, rfl⟩)
    refine bodyPost_ret (v := .agg #[.string ⟨#[]⟩, .int .i64 4]) (by simp [results, Try.results31, go_sem]) rfl ⟨rfl, ?_⟩
    exact (((Below.refl _ _).alloc (by simp) _).alloc (by simp) _).alloc (by simp; omega) _
  · have e1 : St.fail ⟨e, l⟩ 4 = ⟨e, l⟩ := by simp [St.fail, he]
    have he' : (e == 0) = false := by simpa using he
    rw [e1, refV_err e l he]
    go_enter Try.func31, Try.ntmps31
    go_wp2
    refine bodyPost_ret (v := .agg #[.string ⟨#[]⟩, .int .i64 e]) (by simp [results, Try.results31, go_sem]) rfl ⟨rfl, ?_⟩
    exact (((Below.refl _ _).alloc (by simp) _).alloc (by simp) _)

theorem longR_zero (k : Nat) (t : List UInt8) (h : (longR k t).2.e ≠ 0) : (longR k t).1 = 0 := by
  unfold longR at *
  split
  · rfl
  · rename_i h1
    rw [if_neg h1] at h
    split
    · rename_i h2; rw [if_pos h2] at h; exact absurd rfl h
    · rfl

theorem num_zero (s : St) (h : s.num.2.e ≠ 0) : s.num.1 = 0 := by
  obtain ⟨e, l⟩ := s
  by_cases he : e = 0
  · subst he
    cases l with
    | nil => rfl
    | cons c t =>
      by_cases hc : c.toNat < 248
      · have e1 : St.num ⟨0, c :: t⟩ = (c.toNat, ⟨0, t⟩) := by simp [St.num, hc]
        rw [e1] at h; exact absurd rfl h
      · have e1 : St.num ⟨0, c :: t⟩ = longR (c.toNat - 247) t := by simp [St.num, hc]
        rw [e1] at h ⊢; exact longR_zero _ _ h
  · simp [St.num, he]

/-- What a result's block reads as behind the blocks that were made since. -/
structure Later (w1 : World) (b : Nat) (s : ByteArray) (e : Int) : Prop where
  c0 : w1.cell? ⟨b, 0, none⟩ = some (.string s)
  c1 : w1.cell? ⟨b, 1, none⟩ = some (.int .i64 e)
  f0 : w1.frozen? ⟨b, 0, none⟩ = false
  f1 : w1.frozen? ⟨b, 1, none⟩ = false
  a0 : ∀ o, (w1.alloc o).cell? ⟨b, 0, none⟩ = some (.string s)
  a1 : ∀ o, (w1.alloc o).cell? ⟨b, 1, none⟩ = some (.int .i64 e)
  g0 : ∀ o, (w1.alloc o).frozen? ⟨b, 0, none⟩ = false
  g1 : ∀ o, (w1.alloc o).frozen? ⟨b, 1, none⟩ = false
  d0 : ∀ o o', ((w1.alloc o).alloc o').cell? ⟨b, 0, none⟩ = some (.string s)
  d1 : ∀ o o', ((w1.alloc o).alloc o').cell? ⟨b, 1, none⟩ = some (.int .i64 e)
  h0 : ∀ o o', ((w1.alloc o).alloc o').frozen? ⟨b, 0, none⟩ = false
  h1 : ∀ o o', ((w1.alloc o).alloc o').frozen? ⟨b, 1, none⟩ = false
  lt : b < w1.heap.size

theorem Rf.later {w : World} {b : Nat} {s : ByteArray} {e : Int} (h : Rf w b s e) : Later w b s e :=
  ⟨h.c0, h.c1, h.fr 0, h.fr 1, fun o => (h.alloc o).c0, fun o => (h.alloc o).c1, fun o => (h.alloc o).fr 0, fun o => (h.alloc o).fr 1,
    fun o o' => ((h.alloc o).alloc o').c0, fun o o' => ((h.alloc o).alloc o').c1, fun o o' => ((h.alloc o).alloc o').fr 0, fun o o' => ((h.alloc o).alloc o').fr 1, (Array.getElem?_eq_some_iff.1 h).1⟩

set_option maxRecDepth 100000 in
set_option maxHeartbeats 2000000 in
theorem refBelow_any (s : St) (m : Nat) (w : World) (h63 : (s.l.length : Int) ≤ 9000000000000000000) (hm : (m : Int) ≤ 18446744073709551615) :
    Calls Try.prog 30 #[refV s, .int .u64 m] w fun r w' => r = .returned (.tuple #[.int .u64 (s.below m).1, refV (s.below m).2]) ∧ Below w.heap.size w w' := by
  have hN := fun w1 => refRNum_any s w1 h63
  have hz := num_zero s
  have hxle := num_le s
  have hbel : s.below m = if m ≤ s.num.1 then (0, s.num.2.fail 4) else s.num := rfl
  rw [hbel]
  clear hbel
  have hs : ∃ S E, refV s = .agg #[.string S, .int .i64 E] := ⟨_, _, rfl⟩
  obtain ⟨S, E, hs⟩ := hs
  rw [hs] at hN ⊢
  clear hs h63
  generalize s.num = r0 at hN hz hxle ⊢
  obtain ⟨x, e2, l2⟩ := r0
  simp only at hN hz hxle ⊢
  have hT := Rf.new (w.alloc (.cells #[.string S, .int .i64 E] 35)) ⟨#[]⟩ 0
  rw [World.size_alloc] at hT
  have hB : Below w.heap.size w ((w.alloc (.cells #[.string S, .int .i64 E] 35)).alloc (.cells #[.string ⟨#[]⟩, .int .i64 0] 35)) := (((Below.refl _ _).alloc (by simp) _).alloc (by simp) _)
  by_cases he : e2 = 0
  · subst he
    by_cases hx : m ≤ x
    · rw [if_pos hx]
      have e4 : refV (St.fail ⟨0, l2⟩ 4) = .agg #[.string ⟨#[]⟩, .int .i64 4] := rfl
      rw [e4]
      rw [refV_ok] at hN
      have HN := Lib.hid hN
      clear hN hz e4
      go_enter Try.func30, Try.ntmps30
      go_wp2_with fail
      refine (HN.out _).mono ?_
      rintro r w1 ⟨rfl, b1⟩
      have B1 := bb hB b1
      obtain ⟨t1, t2, t3, t4, t5, t6, t7, t8, t9, t10, t11, t12, hsz⟩ := (hT.below b1).later
      clear b1 hT hB
      go_wp2_with (go_at_call 33; refine (none_any _ _).mono ?_; rintro r w2 ⟨rfl, rfl⟩)
      refine bodyPost_ret (v := .tuple #[.int .u64 0, .agg #[.string ⟨#[]⟩, .int .i64 4]]) (by simp [results, Try.results30, go_sem, t9, t10]) rfl ⟨rfl, ?_⟩
      exact (((B1.alloc (by omega) _).alloc (by simp; omega) _).setCell (by simp) _).setCell (by simp) _
    · rw [if_neg hx]
      rw [refV_ok] at hN
      rw [refV_ok]
      have HN := Lib.hid hN
      have hxm : (x : Int) < (m : Int) := by omega
      clear hN hz hx
      go_enter Try.func30, Try.ntmps30
      go_wp2_with fail
      refine (HN.out _).mono ?_
      rintro r w1 ⟨rfl, b1⟩
      have B1 := bb hB b1
      obtain ⟨t1, t2, t3, t4, t5, t6, t7, t8, t9, t10, t11, t12, hsz⟩ := (hT.below b1).later
      clear b1 hT hB
      go_wp2_with fail
      go_region
      all_goals go_wp2
      all_goals
        refine bodyPost_ret (v := .tuple #[.int .u64 x, .agg #[.string (B l2), .int .i64 0]]) (by simp [results, Try.results30, go_sem, t1, t2, hsz]) rfl ⟨rfl, ?_⟩
        exact (((B1.setCell (by simp) _).setCell (by simp) _).alloc (by simp; omega) _).drew
  · have hx0 := hz he
    subst hx0
    have hpost : (if m ≤ 0 then ((0 : Nat), St.fail ⟨e2, l2⟩ 4) else (0, ⟨e2, l2⟩)) = (0, ⟨e2, l2⟩) := by
      split
      · simp [St.fail, he]
      · rfl
    rw [hpost, refV_err e2 l2 he]
    rw [refV_err e2 l2 he] at hN
    have HN := Lib.hid hN
    have he' : (e2 == 0) = false := by simpa using he
    clear hN hz hpost he
    go_enter Try.func30, Try.ntmps30
    go_wp2_with fail
    refine (HN.out _).mono ?_
    rintro r w1 ⟨rfl, b1⟩
    have B1 := bb hB b1
    obtain ⟨t1, t2, t3, t4, t5, t6, t7, t8, t9, t10, t11, t12, hsz⟩ := (hT.below b1).later
    clear b1 hT hB
    go_wp2_with fail
    go_region
    all_goals go_wp2
    all_goals
      refine bodyPost_ret (v := .tuple #[.int .u64 0, .agg #[.string ⟨#[]⟩, .int .i64 e2]]) (by simp [results, Try.results30, go_sem, t1, t2, hsz]) rfl ⟨rfl, ?_⟩
      exact (((B1.setCell (by simp) _).setCell (by simp) _).alloc (by simp; omega) _).drew

set_option maxRecDepth 100000 in
set_option maxHeartbeats 4000000 in
theorem refRStr_any (s : St) (q : Int) (w : World) (h63 : (s.l.length : Int) ≤ 281474976710656) (hq0 : -9223372036854775808 ≤ q) (hq1 : q ≤ 9223372036854775807) :
    Calls Try.prog 29 #[refV s, .int .i64 q] w fun r w' => r = .returned (.tuple #[.string (B (s.str q).1), refV (s.str q).2]) ∧ Below w.heap.size w w' := by
  have hN := fun w1 => refRNum_any s w1 (by omega)
  have hz := num_zero s
  have hxle := num_le s
  have hll := num_len s
  have ex : ∃ k : Nat, max q 0 = (k : Int) := ⟨(max q 0).toNat, by omega⟩
  obtain ⟨k, hk⟩ := ex
  have hstr : s.str q = (let r := (if k + 1 ≤ s.num.1 then (0, s.num.2.fail 4) else s.num); if r.2.e = 0 then (if r.2.l.length < r.1 then ([], ⟨3, r.2.l⟩) else (r.2.l.take r.1, ⟨0, r.2.l.drop r.1⟩)) else ([], r.2)) := by
    unfold St.str St.below
    rw [hk, Int.toNat_natCast]
  rw [hstr]
  clear hstr
  have hs : ∃ S E, refV s = .agg #[.string S, .int .i64 E] := ⟨_, _, rfl⟩
  obtain ⟨S, E, hs⟩ := hs
  rw [hs] at hN ⊢
  clear hs
  generalize s.num = r0 at hN hz hxle hll ⊢
  obtain ⟨x, e2, l2⟩ := r0
  simp only at hN hz hxle hll ⊢
  have hl2 : (l2.length : Int) ≤ 281474976710656 := by omega
  clear h63 hll
  have hT := Rf.new (w.alloc (.cells #[.string S, .int .i64 E] 35)) ⟨#[]⟩ 0
  rw [World.size_alloc] at hT
  have hB : Below w.heap.size w ((w.alloc (.cells #[.string S, .int .i64 E] 35)).alloc (.cells #[.string ⟨#[]⟩, .int .i64 0] 35)) := (((Below.refl _ _).alloc (by simp) _).alloc (by simp) _)
  by_cases he : e2 = 0
  · subst he
    by_cases hx : k + 1 ≤ x
    · rw [if_pos hx]
      have e4 : St.fail ⟨0, l2⟩ 4 = ⟨4, l2⟩ := by simp [St.fail]
      have e5 : ¬ (4 : Int) = 0 := by decide
      simp only [e4, if_neg e5]
      rw [refV_err 4 l2 (by decide)]
      rw [refV_ok] at hN
      have HN := Lib.hid hN
      have HKX := Lib.hid hk
      clear hN hz e4 e5 hk
      by_cases hq : q < 0
      · have hxk : (0 : Int) < (x : Int) := by omega
        go_enter Try.func29, Try.ntmps29
        go_wp2_with fail
        refine (HN.out _).mono ?_
        rintro r w1 ⟨rfl, b1⟩
        have B1 := bb hB b1
        obtain ⟨t1, t2, t3, t4, t5, t6, t7, t8, t9, t10, t11, t12, hsz⟩ := (hT.below b1).later
        clear b1 hT hB
        go_wp2_with (go_at_call 33; refine (none_any _ _).mono ?_; rintro r w2 ⟨rfl, rfl⟩)
        refine bodyPost_ret (v := .tuple #[.string ⟨#[]⟩, .agg #[.string ⟨#[]⟩, .int .i64 4]]) (by simp [results, Try.results29, go_sem, t9, t10]) rfl ⟨rfl, ?_⟩
        exact (((B1.alloc (by omega) _).alloc (by simp; omega) _).setCell (by simp) _).setCell (by simp) _
      · have hxk : q < (x : Int) := by have := HKX.out; omega
        go_enter Try.func29, Try.ntmps29
        go_wp2_with fail
        refine (HN.out _).mono ?_
        rintro r w1 ⟨rfl, b1⟩
        have B1 := bb hB b1
        obtain ⟨t1, t2, t3, t4, t5, t6, t7, t8, t9, t10, t11, t12, hsz⟩ := (hT.below b1).later
        clear b1 hT hB
        go_wp2_with (go_at_call 33; refine (none_any _ _).mono ?_; rintro r w2 ⟨rfl, rfl⟩)
        refine bodyPost_ret (v := .tuple #[.string ⟨#[]⟩, .agg #[.string ⟨#[]⟩, .int .i64 4]]) (by simp [results, Try.results29, go_sem, t9, t10]) rfl ⟨rfl, ?_⟩
        exact (((B1.alloc (by omega) _).alloc (by simp; omega) _).setCell (by simp) _).setCell (by simp) _
    · rw [if_neg hx]
      simp only [if_true]
      rw [refV_ok] at hN
      have HN := Lib.hid hN
      have HKX := Lib.hid hk
      clear hN hz hk
      by_cases hl : l2.length < x
      · rw [if_pos hl, refV_err 3 l2 (by decide)]
        have hl' : (l2.length : Int) < (x : Int) := by omega
        by_cases hq : q < 0
        · have hk0 := HKX.out
          omega
        · have hxk : ¬ q < (x : Int) := by have := HKX.out; omega
          clear hl hx
          go_enter Try.func29, Try.ntmps29
          go_wp2_with fail
          refine (HN.out _).mono ?_
          rintro r w1 ⟨rfl, b1⟩
          have B1 := bb hB b1
          obtain ⟨t1, t2, t3, t4, t5, t6, t7, t8, t9, t10, t11, t12, hsz⟩ := (hT.below b1).later
          clear b1 hT hB
          go_wp2_with (go_at_call 33; refine (none_any _ _).mono ?_; rintro r w2 ⟨rfl, rfl⟩)
          refine bodyPost_ret (v := .tuple #[.string ⟨#[]⟩, .agg #[.string ⟨#[]⟩, .int .i64 3]]) (by simp [results, Try.results29, go_sem, t9, t10]) rfl ⟨rfl, ?_⟩
          exact (((B1.alloc (by omega) _).alloc (by simp; omega) _).setCell (by simp) _).setCell (by simp) _
      · rw [if_neg hl, refV_ok]
        have hl' : (x : Int) ≤ (l2.length : Int) := by omega
        have hl3 : ¬ (l2.length : Int) < (x : Int) := by omega
        have hsl : (B l2).extract 0 x = B (l2.take x) := B_take l2 x
        have hsr : (B l2).extract x l2.length = B (l2.drop x) := by rw [B_extract, List.take_of_length_le (by simp)]
        by_cases hq : q < 0
        · have hk0 := HKX.out
          have hxk : ¬ (0 : Int) < (x : Int) := by omega
          clear hl hx hk0
          go_enter Try.func29, Try.ntmps29
          go_wp2_with fail
          refine (HN.out _).mono ?_
          rintro r w1 ⟨rfl, b1⟩
          have B1 := bb hB b1
          obtain ⟨t1, t2, t3, t4, t5, t6, t7, t8, t9, t10, t11, t12, hsz⟩ := (hT.below b1).later
          clear b1 hT hB
          go_wp2_with fail
          go_region
          all_goals go_wp2
          all_goals
            refine bodyPost_ret (v := .tuple #[.string (B (l2.take x)), .agg #[.string (B (l2.drop x)), .int .i64 0]]) (by simp [results, Try.results29, go_sem, t1, t2, hsz]) rfl ⟨rfl, ?_⟩
            exact (((B1.setCell (by simp) _).setCell (by simp) _).alloc (by simp; omega) _).drew
        · have hxk : ¬ q < (x : Int) := by have := HKX.out; omega
          clear hl hx
          go_enter Try.func29, Try.ntmps29
          go_wp2_with fail
          refine (HN.out _).mono ?_
          rintro r w1 ⟨rfl, b1⟩
          have B1 := bb hB b1
          obtain ⟨t1, t2, t3, t4, t5, t6, t7, t8, t9, t10, t11, t12, hsz⟩ := (hT.below b1).later
          clear b1 hT hB
          go_wp2_with fail
          go_region
          all_goals go_wp2
          all_goals
            refine bodyPost_ret (v := .tuple #[.string (B (l2.take x)), .agg #[.string (B (l2.drop x)), .int .i64 0]]) (by simp [results, Try.results29, go_sem, t1, t2, hsz]) rfl ⟨rfl, ?_⟩
            exact (((B1.setCell (by simp) _).setCell (by simp) _).alloc (by simp; omega) _).drew
  · have hx0 := hz he
    subst hx0
    have e5 : ¬ k + 1 ≤ 0 := by omega
    simp only [if_neg e5, if_neg he]
    rw [refV_err e2 l2 he] at hN ⊢
    have HN := Lib.hid hN
    have he' : (e2 != 0) = true := by simpa using he
    clear hN hz he e5 hk
    go_enter Try.func29, Try.ntmps29
    go_wp2_with fail
    refine (HN.out _).mono ?_
    rintro r w1 ⟨rfl, b1⟩
    have B1 := bb hB b1
    obtain ⟨t1, t2, t3, t4, t5, t6, t7, t8, t9, t10, t11, t12, hsz⟩ := (hT.below b1).later
    clear b1 hT hB
    go_wp2_with fail
    go_region
    all_goals go_wp2
    all_goals
      refine bodyPost_ret (v := .tuple #[.string ⟨#[]⟩, .agg #[.string ⟨#[]⟩, .int .i64 e2]]) (by simp [results, Try.results29, go_sem, t1, t2, hsz]) rfl ⟨rfl, ?_⟩
      exact (((B1.setCell (by simp) _).setCell (by simp) _).alloc (by simp; omega) _).drew

end Go.Proofs.Ytmlljdfeppgcaaa
