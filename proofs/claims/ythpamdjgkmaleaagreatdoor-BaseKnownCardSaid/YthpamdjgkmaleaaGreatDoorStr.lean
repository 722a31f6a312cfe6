/-
  The Reader's Below, Str, Left, End, and Of, strings.Clone over this translation.
-/
import Derived.Test.YthpamdjgkmaleaaGreatDoorNum
import Derived.Lib.UnsafeStr
import Derived.Lib.BufferWrite
import Derived.Laws.MakeOwn
namespace Go.Proofs.YthpamdjgkmaleaaGreatDoor
open Go.RowKit
set_option linter.unusedVariables false

theorem bad_st (b : Nat) (s : St) (w : World) (h : RS w b s) :
    Calls Tryz.prog 80 #[.pointer (some ⟨b, 0, none⟩)] w fun r w' => r = .returned (.tuple #[]) ∧ RS w' b (s.fail 4) ∧ w.grownBy w' (some b) := by
  refine (bad_any b s.e _ w h).mono ?_
  rintro r w' ⟨h1, h2, h3⟩
  refine ⟨h1, ?_, h3⟩
  unfold St.fail
  by_cases he : s.e = 0
  · simpa [RS, failE, he] using h2
  · simpa [RS, failE, he] using h2

theorem err_st (b : Nat) (s : St) (w : World) (h : RS w b s) :
    Calls Tryz.prog 82 #[.pointer (some ⟨b, 0, none⟩)] w fun r w' => r = .returned (.int .i64 s.e) ∧ w = w' := err_any b s.e _ w h

theorem left_nil (w : World) : Calls Tryz.prog 83 #[.pointer none] w fun r w' => r = .returned (.int .i64 0) ∧ w = w' := by
  go_enter Tryz.func83, Tryz.ntmps83
  go_wp2_with (go_at_call 82; refine (err_nil _).mono ?_; rintro r w' ⟨rfl, rfl⟩)
  go_ret
  exact ⟨rfl, rfl⟩

theorem left_st (b : Nat) (s : St) (w : World) (h : RS w b s) :
    Calls Tryz.prog 83 #[.pointer (some ⟨b, 0, none⟩)] w fun r w' => r = .returned (.int .i64 s.left) ∧ w = w' := by
  obtain ⟨e, l⟩ := s
  have h1 := Rd.c1 h
  by_cases he : e = 0
  · subst he
    have e1 : St.left ⟨0, l⟩ = l.length := rfl
    rw [e1]
    go_enter Tryz.func83, Tryz.ntmps83
    go_wp2_with (go_at_call 82; refine (err_st b _ _ h).mono ?_; rintro r w' ⟨rfl, rfl⟩)
    go_ret
    exact ⟨rfl, rfl⟩
  · have e1 : St.left ⟨e, l⟩ = 0 := by simp [St.left, he]
    have he' : (e != 0) = true := by simpa using he
    rw [e1]
    go_enter Tryz.func83, Tryz.ntmps83
    go_wp2_with (go_at_call 82; refine (err_st b _ _ h).mono ?_; rintro r w' ⟨rfl, rfl⟩)
    go_ret
    exact ⟨rfl, rfl⟩

theorem end_nil (w : World) : Calls Tryz.prog 59 #[.pointer none] w fun r w' => r = .returned (.int .i64 1) ∧ w = w' := by
  go_enter Tryz.func59, Tryz.ntmps59
  go_wp2_with (first | (go_at_call 83; refine (left_nil _).mono ?_; rintro r w' ⟨rfl, rfl⟩) | (go_at_call 82; refine (err_nil _).mono ?_; rintro r w' ⟨rfl, rfl⟩))
  go_ret
  exact ⟨rfl, rfl⟩

theorem end_st (b : Nat) (s : St) (w : World) (h : RS w b s) :
    Calls Tryz.prog 59 #[.pointer (some ⟨b, 0, none⟩)] w fun r w' => r = .returned (.int .i64 s.fin.e) ∧ RS w' b s.fin ∧ w.grownBy w' (some b) := by
  by_cases hl : 0 < s.left
  · have e1 : s.fin = s.fail 4 := by simp [St.fin, hl]
    rw [e1]
    have hl' : (0 : Int) < (s.left : Int) := by omega
    go_enter Tryz.func59, Tryz.ntmps59
    go_wp2_with (first | (go_at_call 83; refine (left_st b s _ h).mono ?_; rintro r w' ⟨rfl, rfl⟩) | (go_at_call 80; refine (bad_st b s _ h).mono ?_; rintro r w2 ⟨rfl, h1, h2⟩) | (go_at_call 82; refine (err_st b _ _ h1).mono ?_; rintro r w3 ⟨rfl, rfl⟩))
    go_ret
    exact ⟨rfl, h1, h2⟩
  · have e1 : s.fin = s := by simp [St.fin, hl]
    rw [e1]
    have hl' : ¬ (0 : Int) < (s.left : Int) := by omega
    go_enter Tryz.func59, Tryz.ntmps59
    go_wp2_with (first | (go_at_call 83; refine (left_st b s _ h).mono ?_; rintro r w' ⟨rfl, rfl⟩) | (go_at_call 82; refine (err_st b _ _ h).mono ?_; rintro r w3 ⟨rfl, rfl⟩))
    go_ret
    exact ⟨rfl, h, World.grownBy.refl _ _⟩

/-- Of: a reader at a new block. -/
theorem of_any (l : List UInt8) (w : World) :
    Calls Tryz.prog 56 #[.string (B l)] w fun r w' => r = .returned (.pointer (some ⟨w.heap.size, 0, none⟩)) ∧ RS w' w.heap.size ⟨0, l⟩ ∧ Below w.heap.size w w' := by
  go_enter Tryz.func56, Tryz.ntmps56
  go_wp2
  go_ret
  exact ⟨rfl, heap_alloc_new w _, (Below.refl _ _).alloc (Nat.le_refl _) _⟩

theorem below_int (b : Nat) (s : St) (m : Int) (w : World) (h : RS w b s) (h63 : s.l.length ≤ 9223372036854775807) (hm0 : 0 ≤ m) (hm : m ≤ 9223372036854775808) :
    Calls Tryz.prog 87 #[.pointer (some ⟨b, 0, none⟩), .int .u64 m] w fun r w' => r = .returned (.int .i64 (s.below m.toNat).1) ∧ RS w' b (s.below m.toNat).2 ∧ w.grownBy w' (some b) := by
  have hn := num_any b s w h h63
  have hlt : (s.num.1 : Int) ≤ 18446744073709551615 := by have := num_le s; omega
  by_cases hc : m.toNat ≤ s.num.1
  · have e1 : s.below m.toNat = (0, s.num.2.fail 4) := by rw [St.below, if_pos hc]
    rw [e1]
    have hc' : m ≤ (s.num.1 : Int) := by omega
    generalize s.num = r0 at hn hlt hc'
    obtain ⟨x, s1⟩ := r0
    have HN := Lib.hid hn
    clear hn e1 hc hm hm0
    go_enter Tryz.func87, Tryz.ntmps87
    go_wp2_with (first | (go_at_call 57; refine HN.out.mono ?_; rintro r w1 ⟨rfl, h1, h2⟩) | (go_at_call 80; refine (bad_st b s1 _ h1).mono ?_; rintro r w2 ⟨rfl, h3, h4⟩))
    go_ret
    exact ⟨rfl, h3, grown_trans h2 h4⟩
  · have e1 : s.below m.toNat = s.num := by rw [St.below, if_neg hc]
    rw [e1]
    have hc' : (s.num.1 : Int) < m := by omega
    generalize s.num = r0 at hn hlt hc'
    obtain ⟨x, s1⟩ := r0
    have hx : (x : Int) ≤ 9223372036854775807 := by simp only at hc'; omega
    have HN := Lib.hid hn
    clear hn e1 hc hm
    go_enter Tryz.func87, Tryz.ntmps87
    go_wp2_with (go_at_call 57; refine HN.out.mono ?_; rintro r w1 ⟨rfl, h1, h2⟩)
    go_ret
    exact ⟨rfl, h1, h2⟩

theorem below_u64 (b : Nat) (s : St) (m : Int) (w : World) (h : RS w b s) (h63 : s.l.length ≤ 9223372036854775807) (hm0 : 0 ≤ m) :
    Calls Tryz.prog 105 #[.pointer (some ⟨b, 0, none⟩), .int .u64 m] w fun r w' => r = .returned (.int .u64 (s.below m.toNat).1) ∧ RS w' b (s.below m.toNat).2 ∧ w.grownBy w' (some b) := by
  have hn := num_any b s w h h63
  have hlt : (s.num.1 : Int) ≤ 18446744073709551615 := by have := num_le s; omega
  by_cases hc : m.toNat ≤ s.num.1
  · have e1 : s.below m.toNat = (0, s.num.2.fail 4) := by rw [St.below, if_pos hc]
    rw [e1]
    have hc' : m ≤ (s.num.1 : Int) := by omega
    generalize s.num = r0 at hn hlt hc'
    obtain ⟨x, s1⟩ := r0
    have HN := Lib.hid hn
    clear hn e1 hc hm0
    go_enter Tryz.func105, Tryz.ntmps105
    go_wp2_with (first | (go_at_call 57; refine HN.out.mono ?_; rintro r w1 ⟨rfl, h1, h2⟩) | (go_at_call 80; refine (bad_st b s1 _ h1).mono ?_; rintro r w2 ⟨rfl, h3, h4⟩))
    go_ret
    exact ⟨rfl, h3, grown_trans h2 h4⟩
  · have e1 : s.below m.toNat = s.num := by rw [St.below, if_neg hc]
    rw [e1]
    have hc' : (s.num.1 : Int) < m := by omega
    generalize s.num = r0 at hn hlt hc'
    obtain ⟨x, s1⟩ := r0
    have HN := Lib.hid hn
    clear hn e1 hc
    go_enter Tryz.func105, Tryz.ntmps105
    go_wp2_with (go_at_call 57; refine HN.out.mono ?_; rintro r w1 ⟨rfl, h1, h2⟩)
    go_ret
    exact ⟨rfl, h1, h2⟩

theorem belowM_any (b : Nat) (s : St) (m : Int) (w : World) (h : RS w b s) (h63 : s.l.length ≤ 9223372036854775807) (hm0 : 0 ≤ m) :
    Calls Tryz.prog 79 #[.pointer (some ⟨b, 0, none⟩), .int .u64 m] w fun r w' => r = .returned (.int .u64 (s.below m.toNat).1) ∧ RS w' b (s.below m.toNat).2 ∧ w.grownBy w' (some b) := by
  go_enter Tryz.func79, Tryz.ntmps79
  go_wp2_with (go_at_call 105; refine (below_u64 b s m _ h h63 hm0).mono ?_; rintro r w1 ⟨rfl, h1, h2⟩)
  go_ret
  exact ⟨rfl, h1, h2⟩

theorem below_int_nil (m : Int) (w : World) :
    Calls Tryz.prog 87 #[.pointer none, .int .u64 m] w fun r w' => r = .returned (.int .i64 0) ∧ w = w' := by
  by_cases hm : m ≤ 0
  all_goals
    go_enter Tryz.func87, Tryz.ntmps87
    go_wp2_with (first | (go_at_call 57; refine (num_nil _).mono ?_; rintro r w1 ⟨rfl, rfl⟩) | (go_at_call 80; refine (bad_nil _).mono ?_; rintro r w2 ⟨rfl, rfl⟩))
    go_ret
    exact ⟨rfl, rfl⟩

theorem below_nil (m : Int) (w : World) :
    Calls Tryz.prog 79 #[.pointer none, .int .u64 m] w fun r w' => r = .returned (.int .u64 0) ∧ w = w' := by
  by_cases hm : m ≤ 0
  all_goals
    go_enter Tryz.func79, Tryz.ntmps79
    go_wp2_with (first | (go_at_call 105; go_in) | (go_at_call 57; refine (num_nil _).mono ?_; rintro r w1 ⟨rfl, rfl⟩) | (go_at_call 80; refine (bad_nil _).mono ?_; rintro r w2 ⟨rfl, rfl⟩))
    go_ret
    exact ⟨rfl, rfl⟩

theorem info_u8 : (Tryz.prog.info? 5).map (fun i => (i.zero, i.size, i.bytes)) = some (some (.int .u8 0), 1, 1) := by kernel_rfl

set_option maxHeartbeats 1000000 in
set_option maxRecDepth 100000 in
/-- strings.Clone hands back a text of the same bytes; what was there has not turned. -/
theorem clone_any (s : ByteArray) (w : World) (hs : s.size ≤ 281474976710656) :
    Calls Tryz.prog 26 #[.string s] w fun r w' => r = .returned (.string s) ∧ Below w.heap.size w w' := by
  by_cases h0 : s.size = 0
  · obtain rfl : s = ⟨#[]⟩ := ByteArray.ext (Array.eq_empty_of_size_eq_zero h0)
    go_enter Tryz.func26, Tryz.ntmps26
    go_wp2
    go_ret
    exact ⟨rfl, Below.refl _ _⟩
  · obtain ⟨ti, hi, hz, hsz, hby⟩ := info_parts info_u8
    have one : (Tryz.prog.info? 5).map (·.size) = some 1 := by rw [hi]; simp [hsz]
    have cells1 : Tryz.prog.cellsOf 5 = 1 := by simp [Program.cellsOf, hi, hsz]
    have hne : s.data.toList ≠ [] := fun e => h0 (by rw [Lib.size_eq, e]; rfl)
    generalize hM : madeCells (Value.int .u8 0).cells (s.size * ti.size) = M
    have hMs : M.size = s.size := by rw [← hM, size_madeCells, hsz]; simp
    have mk : ∀ v : World, (Instr.makeSlice 50 (.int .i64 (s.size : Int)) (.int .i64 (s.size : Int))).run Tryz.prog v = .ok (.slice (some ⟨v.heap.size, 0, none⟩) s.size s.size) (v.alloc (.cells M 5)) := fun v => by
      have := run_make (P := Tryz.prog) v 50 5 ti (.int .u8 0) Tryz.underlying50 hi hz .i64 .i64 s.size s.size (by omega) (Int.le_refl _) (by rw [hby]; omega) (by omega)
      simpa only [Int.toNat_natCast, hM] using this
    have row := heap_alloc_new w (.cells M 5)
    have cp := Lib.run_copy_row_string (P := Tryz.prog) (w.alloc (.cells M 5)) 50 9 3 5 w.heap.size 0 s.size s.size s M 5 Tryz.underlying50 one row (Nat.le_refl _) (by omega)
    generalize hY : (M.toList.take 0 ++ Lib.byteCells s.data.toList ++ M.toList.drop (0 + s.size)).toArray = Y at cp
    have hYl : Y.toList = Lib.byteCells s.data.toList := by
      rw [← hY]
      simp only [List.take_zero, List.nil_append, Nat.zero_add]
      rw [List.drop_of_length_le (by rw [Array.length_toList]; omega), List.append_nil]
    have hYs : Y.size = s.size := by rw [← Array.length_toList, hYl, Lib.byteCells_length, ← Lib.size_eq]
    have row2 : ((w.alloc (.cells M 5)).setRow w.heap.size Y).heap[w.heap.size]? = some (.cells Y 5 (0, 0)) := setRow_heap _ _ M _ 5 (0, 0) row
    have us := Lib.run_unsafeString_row (P := Tryz.prog) ((w.alloc (.cells M 5)).setRow w.heap.size Y) 118 3 9 5 Tryz.underlying118 cells1 w.heap.size Y.size (by unfold World.shape?; rw [row2]) s.data.toList hne (by rw [← Lib.size_eq]; omega) (by rw [← Lib.size_eq]; omega)
      (fun j x hx => Lib.cells_of_row row2 Y.size j _ (by rw [List.take_of_length_le (by rw [Array.length_toList]; exact Nat.le_refl _), hYl]; simp [Lib.byteCells, hx]))
    rw [← Lib.size_eq] at us
    have b1 : Below w.heap.size w (w.alloc (.cells M 5)) := (Below.refl _ w).alloc (Nat.le_refl _) _
    have b2 : Below w.heap.size (w.alloc (.cells M 5)) ((w.alloc (.cells M 5)).setRow w.heap.size Y) := ⟨rfl, rfl, rfl, by simp, fun k hk => setRow_other _ _ _ _ (by omega)⟩
    have b3 := Lib.below_freeze (b1.trans b2) (p := ⟨w.heap.size, 0, none⟩) (Nat.le_refl _) s.size
    have HB := Lib.hid b3
    clear hM hY hYl row row2 b1 b2 b3
    go_enter Tryz.func26, Tryz.ntmps26
    go_wp2
    go_ret
    exact ⟨rfl, HB.out⟩

theorem str_nil (m : Int) (w : World) (h0 : -9223372036854775808 ≤ m) (h1 : m ≤ 9223372036854775807) :
    Calls Tryz.prog 58 #[.pointer none, .int .i64 m] w fun r w' => r = .returned (.string ⟨#[]⟩) ∧ Below w.heap.size w w' := by
  go_enter Tryz.func58, Tryz.ntmps58
  go_wp2_with (first | (go_at_call 87; refine (below_int_nil _ _).mono ?_; rintro r w1 ⟨rfl, rfl⟩) | (go_at_call 85; refine (take_nil _ _).mono ?_; rintro r w1 ⟨rfl, rfl⟩) | (go_at_call 26; refine (clone_any _ _ (by decide)).mono ?_; rintro r w1 ⟨rfl, hb⟩))
  go_ret
  exact ⟨rfl, hb⟩

/-- Behind the length. -/
theorem str_rest (b x : Nat) (s1 : St) (w : World) (h : RS w b s1) (h63 : s1.l.length ≤ 281474976710656) (out : List UInt8) (s2 : St)
    (hout : (out, s2) = (if s1.e = 0 then (if s1.l.length < x then ([], ⟨3, s1.l⟩) else (s1.l.take x, ⟨0, s1.l.drop x⟩)) else ([], s1))) :
    Calls Tryz.prog 85 #[.pointer (some ⟨b, 0, none⟩), .int .i64 x] w fun r w' => r = .returned (.string (B out)) ∧ RS w' b s2 ∧ w.grownBy w' (some b) := by
  obtain ⟨e, l⟩ := s1
  by_cases he : e = 0
  · subst he
    by_cases hl : l.length < x
    · rw [if_pos rfl, if_pos hl] at hout
      obtain ⟨rfl, rfl⟩ := Prod.mk.inj hout
      exact take_short b x (B l) w h (by rw [B_size]; omega)
    · rw [if_pos rfl, if_neg hl] at hout
      obtain ⟨rfl, rfl⟩ := Prod.mk.inj hout
      have := take_ok b x (B l) w h (by rw [B_size]; omega) (by rw [B_size]; simp only at h63; omega)
      rw [B_take, B_drop] at this
      exact this
  · rw [if_neg he] at hout
    obtain ⟨rfl, rfl⟩ := Prod.mk.inj hout
    refine (take_err b e x _ w h he).mono ?_
    rintro r w' ⟨rfl, rfl⟩
    exact ⟨rfl, h, World.grownBy.refl _ _⟩

set_option maxHeartbeats 1000000 in
theorem str_any (b : Nat) (s : St) (m : Int) (w : World) (h : RS w b s) (h63 : s.l.length ≤ 281474976710656) (h0 : -9223372036854775808 ≤ m) (h1 : m ≤ 9223372036854775807) :
    Calls Tryz.prog 58 #[.pointer (some ⟨b, 0, none⟩), .int .i64 m] w fun r w' => r = .returned (.string (B (s.str m).1)) ∧ RS w' b (s.str m).2 ∧ w.grownBy w' (some b) := by
  have ex : ∃ k : Int, 0 ≤ k ∧ k ≤ 9223372036854775807 ∧ max m 0 = k ∧ k.toNat + 1 = (k + 1).toNat := ⟨max m 0, by omega, by omega, rfl, by omega⟩
  obtain ⟨k, hk0, hk1, hk, hk2⟩ := ex
  have hb := below_int b s (k + 1) w h (by omega) (by omega) (by omega)
  have hout : s.str m = (let r := s.below (k.toNat + 1); if r.2.e = 0 then (if r.2.l.length < r.1 then ([], ⟨3, r.2.l⟩) else (r.2.l.take r.1, ⟨0, r.2.l.drop r.1⟩)) else ([], r.2)) := by rw [← hk]; rfl
  have hl := below_len s (k.toNat + 1)
  rw [hk2] at hout hl
  generalize s.str m = so at hout
  generalize s.below (k + 1).toNat = sb at hb hout hl
  obtain ⟨out, s2⟩ := so
  obtain ⟨x, s1⟩ := sb
  simp only at hb hout hl
  have hr := fun w1 (hw : RS w1 b s1) => str_rest b x s1 w1 hw (by omega) out s2 hout
  have hol : (B out).size ≤ 281474976710656 := by
    rw [B_size]
    split at hout
    · split at hout
      · obtain ⟨rfl, rfl⟩ := Prod.mk.inj hout; simp
      · obtain ⟨rfl, rfl⟩ := Prod.mk.inj hout; simp; omega
    · obtain ⟨rfl, rfl⟩ := Prod.mk.inj hout; simp
  have HB := Lib.hid hb
  have HR := Lib.hid hr
  have HK := Lib.hid hk
  clear hb hr hout hl hk hk2
  go_enter Tryz.func58, Tryz.ntmps58
  go_wp2_with (first | (go_at_call 87; rw [HK.out]; refine HB.out.mono ?_; rintro r w1 ⟨rfl, h1, h2⟩) | (go_at_call 85; refine (HR.out _ h1).mono ?_; rintro r w2 ⟨rfl, h3, h4⟩) | (go_at_call 26; refine (clone_any _ _ hol).mono ?_; rintro r w3 ⟨rfl, hb⟩))
  go_ret
  exact ⟨rfl, Rd.below h3 hb (Rd.lt h3), grown_trans h2 (grown_trans h4 (grown_of_below hb))⟩

end Go.Proofs.YthpamdjgkmaleaaGreatDoor
