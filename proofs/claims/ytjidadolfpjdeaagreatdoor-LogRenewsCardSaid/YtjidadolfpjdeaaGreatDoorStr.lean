/-
  The Reader's Below, Str, Left, End, and Of, strings.Clone over this translation.
-/
import Derived.Test.YtjidadolfpjdeaaGreatDoorNum
import Derived.Lib.UnsafeStr
import Derived.Lib.BufferWrite
import Derived.Laws.MakeOwn
namespace Go.Proofs.YtjidadolfpjdeaaGreatDoor
open Go.RowKit
set_option linter.unusedVariables false

theorem bad_st (b : Nat) (s : St) (w : World) (h : RS w b s) :
    Calls Tryz.prog 103 #[.pointer (some ⟨b, 0, none⟩)] w fun r w' => r = .returned (.tuple #[]) ∧ RS w' b (s.fail 4) ∧ w.grownBy w' (some b) := by
  refine (bad_any b s.e _ w h).mono ?_
  rintro r w' ⟨h1, h2, h3⟩
  refine ⟨h1, ?_, h3⟩
  unfold St.fail
  by_cases he : s.e = 0
  · simpa [RS, failE, he] using h2
  · simpa [RS, failE, he] using h2

theorem err_st (b : Nat) (s : St) (w : World) (h : RS w b s) :
    Calls Tryz.prog 105 #[.pointer (some ⟨b, 0, none⟩)] w fun r w' => r = .returned (.int .i64 s.e) ∧ w = w' := err_any b s.e _ w h

theorem left_nil (w : World) : Calls Tryz.prog 106 #[.pointer none] w fun r w' => r = .returned (.int .i64 0) ∧ w = w' := by
  go_enter Tryz.func106, Tryz.ntmps106
  go_wp2_with (go_at_call 105; refine (err_nil _).mono ?_; rintro r w' ⟨rfl, rfl⟩)
  go_ret
  exact ⟨rfl, rfl⟩

theorem left_st (b : Nat) (s : St) (w : World) (h : RS w b s) :
    Calls Tryz.prog 106 #[.pointer (some ⟨b, 0, none⟩)] w fun r w' => r = .returned (.int .i64 s.left) ∧ w = w' := by
  obtain ⟨e, l⟩ := s
  have h1 := Rd.c1 h
  by_cases he : e = 0
  · subst he
    have e1 : St.left ⟨0, l⟩ = l.length := rfl
    rw [e1]
    go_enter Tryz.func106, Tryz.ntmps106
    go_wp2_with (go_at_call 105; refine (err_st b _ _ h).mono ?_; rintro r w' ⟨rfl, rfl⟩)
    go_ret
    exact ⟨rfl, rfl⟩
  · have e1 : St.left ⟨e, l⟩ = 0 := by simp [St.left, he]
    have he' : (e != 0) = true := by simpa using he
    rw [e1]
    go_enter Tryz.func106, Tryz.ntmps106
    go_wp2_with (go_at_call 105; refine (err_st b _ _ h).mono ?_; rintro r w' ⟨rfl, rfl⟩)
    go_ret
    exact ⟨rfl, rfl⟩

/-- Of: a reader at a new block. -/
theorem of_any (l : List UInt8) (w : World) :
    Calls Tryz.prog 101 #[.string (B l)] w fun r w' => r = .returned (.pointer (some ⟨w.heap.size, 0, none⟩)) ∧ RS w' w.heap.size ⟨0, l⟩ ∧ Below w.heap.size w w' := by
  go_enter Tryz.func101, Tryz.ntmps101
  go_wp2
  go_ret
  exact ⟨rfl, heap_alloc_new w _, (Below.refl _ _).alloc (Nat.le_refl _) _⟩

theorem below_u64 (b : Nat) (s : St) (m : Int) (w : World) (h : RS w b s) (h63 : s.l.length ≤ 9223372036854775807) (hm0 : 0 ≤ m) :
    Calls Tryz.prog 125 #[.pointer (some ⟨b, 0, none⟩), .int .u64 m] w fun r w' => r = .returned (.int .u64 (s.below m.toNat).1) ∧ RS w' b (s.below m.toNat).2 ∧ w.grownBy w' (some b) := by
  have hn := num_any b s w h h63
  have hlt : (s.num.1 : Int) ≤ 18446744073709551615 := by have := num_le s; omega
  by_cases hc : m.toNat ≤ s.num.1
  · have e1 : s.below m.toNat = (0, s.num.2.fail 4) := by rw [St.below, if_pos hc]
    rw [e1]
    have hc' : m ≤ (s.num.1 : Int) := by omega
    generalize s.num = r0 at hn hlt hc'
    obtain ⟨x, s1⟩ := r0
    have HN := Lib.hid hn
    clear hn e1 hc hm0
    go_enter Tryz.func125, Tryz.ntmps125
    go_wp2_with (first | (go_at_call 139; refine HN.out.mono ?_; rintro r w1 ⟨rfl, h1, h2⟩) | (go_at_call 103; refine (bad_st b s1 _ h1).mono ?_; rintro r w2 ⟨rfl, h3, h4⟩))
    go_ret
    exact ⟨rfl, h3, grown_trans h2 h4⟩
  · have e1 : s.below m.toNat = s.num := by rw [St.below, if_neg hc]
    rw [e1]
    have hc' : (s.num.1 : Int) < m := by omega
    generalize s.num = r0 at hn hlt hc'
    obtain ⟨x, s1⟩ := r0
    have HN := Lib.hid hn
    clear hn e1 hc
    go_enter Tryz.func125, Tryz.ntmps125
    go_wp2_with (go_at_call 139; refine HN.out.mono ?_; rintro r w1 ⟨rfl, h1, h2⟩)
    go_ret
    exact ⟨rfl, h1, h2⟩

theorem belowM_any (b : Nat) (s : St) (m : Int) (w : World) (h : RS w b s) (h63 : s.l.length ≤ 9223372036854775807) (hm0 : 0 ≤ m) :
    Calls Tryz.prog 102 #[.pointer (some ⟨b, 0, none⟩), .int .u64 m] w fun r w' => r = .returned (.int .u64 (s.below m.toNat).1) ∧ RS w' b (s.below m.toNat).2 ∧ w.grownBy w' (some b) := by
  go_enter Tryz.func102, Tryz.ntmps102
  go_wp2_with (go_at_call 125; refine (below_u64 b s m _ h h63 hm0).mono ?_; rintro r w1 ⟨rfl, h1, h2⟩)
  go_ret
  exact ⟨rfl, h1, h2⟩

theorem below_nil (m : Int) (w : World) :
    Calls Tryz.prog 102 #[.pointer none, .int .u64 m] w fun r w' => r = .returned (.int .u64 0) ∧ w = w' := by
  by_cases hm : m ≤ 0
  all_goals
    go_enter Tryz.func102, Tryz.ntmps102
    go_wp2_with (first | (go_at_call 125; go_in) | (go_at_call 139; refine (num_nil _).mono ?_; rintro r w1 ⟨rfl, rfl⟩) | (go_at_call 103; refine (bad_nil _).mono ?_; rintro r w2 ⟨rfl, rfl⟩))
    go_ret
    exact ⟨rfl, rfl⟩

theorem info_u8 : (Tryz.prog.info? 5).map (fun i => (i.zero, i.size, i.bytes)) = some (some (.int .u8 0), 1, 1) := by kernel_rfl

set_option maxHeartbeats 1000000 in
set_option maxRecDepth 100000 in
/-- strings.Clone hands back a text of the same bytes; what was there has not turned. -/
theorem clone_any (s : ByteArray) (w : World) (hs : s.size ≤ 281474976710656) :
    Calls Tryz.prog 45 #[.string s] w fun r w' => r = .returned (.string s) ∧ Below w.heap.size w w' := by
  by_cases h0 : s.size = 0
  · obtain rfl : s = ⟨#[]⟩ := ByteArray.ext (Array.eq_empty_of_size_eq_zero h0)
    go_enter Tryz.func45, Tryz.ntmps45
    go_wp2
    go_ret
    exact ⟨rfl, Below.refl _ _⟩
  · obtain ⟨ti, hi, hz, hsz, hby⟩ := info_parts info_u8
    have one : (Tryz.prog.info? 5).map (·.size) = some 1 := by rw [hi]; simp [hsz]
    have cells1 : Tryz.prog.cellsOf 5 = 1 := by simp [Program.cellsOf, hi, hsz]
    have hne : s.data.toList ≠ [] := fun e => h0 (by rw [Lib.size_eq, e]; rfl)
    generalize hM : madeCells (Value.int .u8 0).cells (s.size * ti.size) = M
    have hMs : M.size = s.size := by rw [← hM, size_madeCells, hsz]; simp
    have mk : ∀ v : World, (Instr.makeSlice 45 (.int .i64 (s.size : Int)) (.int .i64 (s.size : Int))).run Tryz.prog v = .ok (.slice (some ⟨v.heap.size, 0, none⟩) s.size s.size) (v.alloc (.cells M 5)) := fun v => by
      have := run_make (P := Tryz.prog) v 45 5 ti (.int .u8 0) Tryz.underlying45 hi hz .i64 .i64 s.size s.size (by omega) (Int.le_refl _) (by rw [hby]; omega) (by omega)
      simpa only [Int.toNat_natCast, hM] using this
    have row := heap_alloc_new w (.cells M 5)
    have cp := Lib.run_copy_row_string (P := Tryz.prog) (w.alloc (.cells M 5)) 45 9 3 5 w.heap.size 0 s.size s.size s M 5 Tryz.underlying45 one row (Nat.le_refl _) (by omega)
    generalize hY : (M.toList.take 0 ++ Lib.byteCells s.data.toList ++ M.toList.drop (0 + s.size)).toArray = Y at cp
    have hYl : Y.toList = Lib.byteCells s.data.toList := by
      rw [← hY]
      simp only [List.take_zero, List.nil_append, Nat.zero_add]
      rw [List.drop_of_length_le (by rw [Array.length_toList]; omega), List.append_nil]
    have hYs : Y.size = s.size := by rw [← Array.length_toList, hYl, Lib.byteCells_length, ← Lib.size_eq]
    have row2 : ((w.alloc (.cells M 5)).setRow w.heap.size Y).heap[w.heap.size]? = some (.cells Y 5 (0, 0)) := setRow_heap _ _ M _ 5 (0, 0) row
    have us := Lib.run_unsafeString_row (P := Tryz.prog) ((w.alloc (.cells M 5)).setRow w.heap.size Y) 110 3 9 5 Tryz.underlying110 cells1 w.heap.size Y.size (by unfold World.shape?; rw [row2]) s.data.toList hne (by rw [← Lib.size_eq]; omega) (by rw [← Lib.size_eq]; omega)
      (fun j x hx => Lib.cells_of_row row2 Y.size j _ (by rw [List.take_of_length_le (by rw [Array.length_toList]; exact Nat.le_refl _), hYl]; simp [Lib.byteCells, hx]))
    rw [← Lib.size_eq] at us
    have b1 : Below w.heap.size w (w.alloc (.cells M 5)) := (Below.refl _ w).alloc (Nat.le_refl _) _
    have b2 : Below w.heap.size (w.alloc (.cells M 5)) ((w.alloc (.cells M 5)).setRow w.heap.size Y) := ⟨rfl, rfl, rfl, by simp, fun k hk => setRow_other _ _ _ _ (by omega)⟩
    have b3 := Lib.below_freeze (b1.trans b2) (p := ⟨w.heap.size, 0, none⟩) (Nat.le_refl _) s.size
    have HB := Lib.hid b3
    clear hM hY hYl row row2 b1 b2 b3
    go_enter Tryz.func45, Tryz.ntmps45
    go_wp2
    go_ret
    exact ⟨rfl, HB.out⟩

/-- Behind the length. -/
theorem str_rest (b x : Nat) (s1 : St) (w : World) (h : RS w b s1) (h63 : s1.l.length ≤ 281474976710656) (out : List UInt8) (s2 : St)
    (hout : (out, s2) = (if s1.e = 0 then (if s1.l.length < x then ([], ⟨3, s1.l⟩) else (s1.l.take x, ⟨0, s1.l.drop x⟩)) else ([], s1))) :
    Calls Tryz.prog 140 #[.pointer (some ⟨b, 0, none⟩), .int .i64 x] w fun r w' => r = .returned (.string (B out)) ∧ RS w' b s2 ∧ w.grownBy w' (some b) := by
  obtain ⟨e, l⟩ := s1
  by_cases he : e = 0
  · subst he
    by_cases hl : l.length < x
    · rw [if_pos rfl, if_pos hl] at hout
      obtain ⟨rfl, rfl⟩ := Prod.mk.inj hout
      exact take_short b x (B l) w h (by rw [B_size]; omega)
    · rw [if_pos rfl, if_neg hl] at hout
      obtain ⟨rfl, rfl⟩ := Prod.mk.inj hout
      have := take_ok b x (B l) w h (by rw [B_size]; omega) (by rw [B_size]; simp only at h63; omega)
      rw [B_take, B_drop] at this
      exact this
  · rw [if_neg he] at hout
    obtain ⟨rfl, rfl⟩ := Prod.mk.inj hout
    refine (take_err b e x _ w h he).mono ?_
    rintro r w' ⟨rfl, rfl⟩
    exact ⟨rfl, h, World.grownBy.refl _ _⟩

end Go.Proofs.YtjidadolfpjdeaaGreatDoor
