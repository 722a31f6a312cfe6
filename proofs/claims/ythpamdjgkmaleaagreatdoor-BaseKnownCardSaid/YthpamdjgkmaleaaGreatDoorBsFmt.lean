/-
  strconv's FormatUint over this translation, to the base 16; the name of a base's file.
-/
import Derived.Test.YthpamdjgkmaleaaGreatDoorMa
import Derived.Test.YthpamdjgkmaleaaGreatDoorMn
import Derived.Test.YthpamdjgkmaleaaGreatDoorCrcInt
namespace Go.Proofs.YthpamdjgkmaleaaGreatDoor
open Go.RowKit
set_option linter.unusedVariables false

set_option maxRecDepth 100000 in
set_option maxHeartbeats 1000000 in
theorem zeros16 (w : World) (E : Env w) : Calls Tryz.prog 113 #[.int .u64 16] w fun r w' => r = .returned (.int .i64 4) ∧ w = w' := by
  have c := E.deb
  have h0 : bits .and .u64 16 (IntKind.u64.wrap (-16)) = 16 := by kernel_rfl
  have h1 : IntKind.u64.wrap (16 * 285870213051353865) = 4573923408821661840 := by kernel_rfl
  go_enter Tryz.func113, Tryz.ntmps113
  go_wp2
  go_ret
  exact ⟨rfl, rfl⟩

/-- The array in which digits are laid, from its end on. -/
def A65 (w : World) (g : Nat) (tail : List UInt8) : Prop := w.heap[g]? = some (.cells ((List.replicate (65 - tail.length) (Value.int .u8 0) ++ Lib.byteCells tail).toArray) 153 (0, 0))
theorem zero65 : Tryz.zeroCells153 = (List.replicate (65 - 0) (Value.int .u8 0) ++ Lib.byteCells []).toArray := by kernel_rfl
theorem A65.new (w : World) : A65 (w.alloc (.cells Tryz.zeroCells153 153)) w.heap.size [] := by
  have := heap_alloc_new w (.cells Tryz.zeroCells153 153)
  unfold A65
  rw [this, zero65]
  rfl
theorem A65.cell {w : World} {g : Nat} {tail : List UInt8} (h : A65 w g tail) (ht : tail.length < 65) : w.cell? ⟨g, 64 - tail.length, none⟩ = some (.int .u8 0) := by
  rw [cell_of_row w g _ _ _ _ h, List.getElem?_toArray, List.getElem?_append_left (by rw [List.length_replicate]; omega), List.getElem?_replicate, if_pos (by omega)]
theorem A65.frozen {w : World} {g : Nat} {tail : List UInt8} (h : A65 w g tail) (j : Nat) : w.frozen? ⟨g, j, none⟩ = false := frozen_of_row w g j _ _ h
theorem A65.put {w : World} {g : Nat} {tail : List UInt8} (h : A65 w g tail) (ht : tail.length < 65) (c : UInt8) : A65 (w.setCell ⟨g, 64 - tail.length, none⟩ (.int .u8 c.toNat)) g (c :: tail) := by
  have h1 := heap_setCell_same w g (64 - tail.length) _ _ (.int .u8 c.toNat) h
  unfold A65
  rw [h1]
  congr 2
  rw [List.setIfInBounds_toArray]
  congr 1
  rw [List.set_append_left _ _ (by rw [List.length_replicate]; omega), show 65 - tail.length = (64 - tail.length) + 1 from by omega, List.replicate_succ', List.set_append_right _ _ (by simp), List.length_replicate, Nat.sub_self, List.set_cons_zero, List.length_cons, show 65 - (tail.length + 1) = 64 - tail.length from by omega, List.append_assoc]
  rfl
theorem A65.text {w : World} {g : Nat} {tail : List UInt8} (h : A65 w g tail) (ht : tail.length ≤ 65) (c : Nat) : (convert 50 9 (.slice (some ⟨g, 65 - tail.length, none⟩) tail.length c)).run Tryz.prog w = .ok (.string (B tail)) w :=
  run_convert_bytes_back w 50 9 5 ⟨g, 65 - tail.length, none⟩ c tail Tryz.underlying50 Tryz.underlying5 Tryz.underlying9 (fun j hj => by
    rw [Addr.add_lit, cell_of_row w g _ _ _ _ h, List.getElem?_toArray, List.getElem?_append_right (by rw [List.length_replicate]; omega), List.length_replicate, show 65 - tail.length + j - (65 - tail.length) = j from by omega]
    simp [Lib.byteCells, hj])
theorem and15 (q : Nat) (h : q < 2 ^ 64) : bits .and .u64 (q : Int) 15 = ((q % 16 : Nat) : Int) := by
  have := Crc.andI (BitVec.ofNat 64 q) (BitVec.ofNat 64 15)
  have e1 : Crc.I (BitVec.ofNat 64 q) = (q : Int) := by unfold Crc.I; rw [BitVec.toNat_ofNat, Nat.mod_eq_of_lt h]
  have e2 : Crc.I (BitVec.ofNat 64 15) = 15 := rfl
  rw [e1, e2] at this
  rw [this]
  unfold Crc.I
  rw [BitVec.toNat_and, BitVec.toNat_ofNat, BitVec.toNat_ofNat, Nat.mod_eq_of_lt h]
  congr 1
  exact Nat.and_two_pow_sub_one_eq_mod q 4
def digs36 : ByteArray := ⟨#[48, 49, 50, 51, 52, 53, 54, 55, 56, 57, 97, 98, 99, 100, 101, 102, 103, 104, 105, 106, 107, 108, 109, 110, 111, 112, 113, 114, 115, 116, 117, 118, 119, 120, 121, 122]⟩
theorem digs_hx : ∀ d, ∀ h : d < 16, digs36[d]'(Nat.lt_of_lt_of_le h (by decide)) = hx d := by decide
theorem digs_at {d : Nat} (h : d < 16) (h2 : d < (⟨#[48, 49, 50, 51, 52, 53, 54, 55, 56, 57, 97, 98, 99, 100, 101, 102, 103, 104, 105, 106, 107, 108, 109, 110, 111, 112, 113, 114, 115, 116, 117, 118, 119, 120, 121, 122]⟩ : ByteArray).size) : (⟨#[48, 49, 50, 51, 52, 53, 54, 55, 56, 57, 97, 98, 99, 100, 101, 102, 103, 104, 105, 106, 107, 108, 109, 110, 111, 112, 113, 114, 115, 116, 117, 118, 119, 120, 121, 122]⟩ : ByteArray)[d]'h2 = hx d := digs_hx d h

set_option maxRecDepth 100000 in
set_option maxHeartbeats 1000000 in
theorem bits16 (n : Nat) (hn : n < 2 ^ 64) (w : World) (E : Env w) : Calls Tryz.prog 93 #[.slice none 0 0, .int .u64 n, .int .i64 16, .bool false, .bool false] w fun r w' => r = .returned (.tuple #[.slice none 0 0, .string (B (hexN n))]) ∧ Below w.heap.size w w' := by
  have E1 : Env (w.alloc (.cells Tryz.zeroCells153 153)) := E.below ((Below.refl _ w).alloc (Nat.le_refl _) _)
  have hb0 : Below w.heap.size w (w.alloc (.cells Tryz.zeroCells153 153)) := (Below.refl _ w).alloc (Nat.le_refl _) _
  have hA0 := A65.new w
  have h15 : bits .and .i64 16 15 = 0 := by kernel_rfl
  generalize hW0 : w.alloc (.cells Tryz.zeroCells153 153) = W0 at *
  have hl16 := hexN_len hn
  have HL := Lib.hid hl16
  have HN := Lib.hid hn
  have HA := Lib.hid hA0
  have HB := Lib.hid hb0
  clear hl16 hA0 hb0
  go_enter Tryz.func93, Tryz.ntmps93
  go_wp2_with (first
    | (go_at_call 113; (try rw [hW0]); refine (zeros16 _ E1).mono ?_; rintro r w1 ⟨rfl, rfl⟩)
    | go_in)
  go_loopw [1, 13] (fun u i wr => ∃ (q : Nat) (tail : List UInt8), u = .int .u64 q ∧ i = .int .i64 ((65 - tail.length : Nat) : Int) ∧ Hid (q < 2 ^ 64 ∧ tail.length + (hexN q).length ≤ 16 ∧ hexN n = hexN q ++ tail ∧ A65 wr w.heap.size tail ∧ Below w.heap.size w wr)) (fun u _ _ => (intOf u).toNat)
  case atStart => exact ⟨n, [], rfl, rfl, Lib.hid ⟨HN.out, by simpa using HL.out.2, by simp, HA.out, HB.out⟩⟩
  case round =>
    obtain ⟨q, tail, rfl, rfl, hh⟩ := hrel
    obtain ⟨hq, hlen, hsplit, hrow, hbel⟩ := hh.out
    by_cases hb : 16 ≤ q
    · have e1 := and15 q hq
      have hlq := hexN_len hq
      have hc := hrow.cell (by omega)
      have hf := hrow.frozen (64 - tail.length)
      have hi : ((65 - tail.length : Nat) : Int) - 1 = ((64 - tail.length : Nat) : Int) := by omega
      go_wp2
      refine ⟨⟨q / 16, hx (q % 16) :: tail, by simp, by rw [List.length_cons]; congr 1; omega, ?_⟩, by simp [intOf]; omega⟩
      rw [digs_at (by omega)]
      have hs2 : hexN n = hexN (q / 16) ++ hx (q % 16) :: tail := by rw [hsplit, hexN_big hb hq, List.append_assoc]; rfl
      exact Lib.hid ⟨by omega, by have := congrArg List.length (hsplit.symm.trans hs2); simp only [List.length_append, List.length_cons] at this ⊢; omega, hs2, hrow.put (by omega) _, hbel.setCell (Nat.le_refl _) _⟩
    · have hlq := hexN_len hq
      have hc := hrow.cell (by omega)
      have hf := hrow.frozen (64 - tail.length)
      have hi : ((65 - tail.length : Nat) : Int) - 1 = ((64 - tail.length : Nat) : Int) := by omega
      have hd : ∀ h2, (⟨#[48, 49, 50, 51, 52, 53, 54, 55, 56, 57, 97, 98, 99, 100, 101, 102, 103, 104, 105, 106, 107, 108, 109, 110, 111, 112, 113, 114, 115, 116, 117, 118, 119, 120, 121, 122]⟩ : ByteArray)[q]'h2 = hx q := fun h2 => digs_at (by omega) h2
      have hT := (hrow.put (by omega) (hx q)).text (by rw [List.length_cons]; omega) (tail.length + 1)
      rw [List.length_cons, show 65 - (tail.length + 1) = 64 - tail.length from by omega] at hT
      have hal : Tryz.prog.arrayLen 153 = 65 := by simp [Program.arrayLen, Tryz.underlying153]
      have hsl : ∀ W, (Instr.sliceAt 153 (.pointer (some ⟨w.heap.size, 0, none⟩)) (some (.int .i64 ((64 - tail.length : Nat) : Int))) none none).run Tryz.prog W = .ok (.slice (some ⟨w.heap.size, 64 - tail.length, none⟩) (tail.length + 1) (tail.length + 1)) W := fun W => by
        rw [run_sliceAt_array_l W 153 ⟨w.heap.size, 0, none⟩ (by simp [Program.arrayLen, Program.elem, Tryz.underlying153]) .i64 _ (by omega) (by rw [hal]; omega)]
        have e1 : ¬ (65 = 64 - tail.length) := by omega
        have e2 : 65 - (64 - tail.length) = tail.length + 1 := by omega
        simp only [hal, slicedAt, Int.toNat_natCast, if_neg e1, e2]
        have hz : (sizeOf (Tryz.prog.elem 153)).run Tryz.prog W = .ok 1 W := by kernel_rfl
        rw [hz]
        simp [Addr.add_lit]
      have hfin : hexN n = hx q :: tail := by rw [hsplit, hexN_small (by omega)]; rfl
      go_wp2
      go_ret2
      exact ⟨by rw [hexN_small (show q < 16 by omega)]; rfl, hbel.setCell (Nat.le_refl _) _⟩

set_option maxRecDepth 100000 in
set_option maxHeartbeats 1000000 in
theorem fmt16 (n : Nat) (hn : n < 2 ^ 64) (w : World) (E : Env w) : Calls Tryz.prog 46 #[.int .u64 n, .int .i64 16] w fun r w' => r = .returned (.string (B (hexN n))) ∧ Below w.heap.size w w' := by
  have hb := bits16 n hn w E
  have HB := Lib.hid hb
  clear hb
  go_enter Tryz.func46, Tryz.ntmps46
  go_wp2_with (first
    | (go_at_call 93; refine HB.out.mono ?_; rintro r w1 ⟨rfl, b1⟩)
    | go_in)
  go_ret
  exact ⟨rfl, b1⟩

theorem repeat0 (k : Nat) : Lib.repeatL [48] k = List.replicate k 48 := by
  induction k with
  | zero => rfl
  | succ k ih => rw [Lib.repeatL, ih]; rfl
set_option maxRecDepth 100000 in
set_option maxHeartbeats 1000000 in
/-- name. -/
theorem name_is (n : Nat) (hn : n < 2 ^ 64) (w : World) (E : Env w) : Calls Tryz.prog 25 #[.int .u64 n] w fun r w' => r = .returned (.string (B (bname n))) ∧ Below w.heap.size w w' := by
  have hb := fmt16 n hn w E
  have HB := Lib.hid hb
  have hl := hexN_len hn
  have hbn := bname_pad hn
  have hr := fun w => sh_strings_Repeat (B [48]) (16 - (hexN n).length) w (by omega) (by rw [B_size]; simp; omega)
  have e0 : Lib.repeatL (B [48]).data.toList (16 - (hexN n).length) = List.replicate (16 - (hexN n).length) 48 := repeat0 _
  rw [e0] at hr
  have hz : (List.replicate (16 - (hexN n).length) (48 : UInt8)).length ≤ 16 := by rw [List.length_replicate]; omega
  have hsub : (16 : Int) - ((hexN n).length : Int) = ((16 - (hexN n).length : Nat) : Int) := by omega
  generalize List.replicate (16 - (hexN n).length) (48 : UInt8) = z at *
  have HR := Lib.hid hr
  have HN := Lib.hid hbn
  have hsz : ((B (hexN n)).size : Int) = ((hexN n).length : Int) := by rw [B_size]
  clear hb hr hn e0 hbn
  go_enter Tryz.func25, Tryz.ntmps25
  go_wp2_with (first
    | (go_at_call 46; refine HB.out.mono ?_; rintro r w1 ⟨rfl, b1⟩)
    | (go_at_call 47; refine (HR.out _).mono ?_; rintro r w2 ⟨rfl, b2⟩))
  all_goals first
    | (exfalso; omega)
    | skip
  go_ret
  refine ⟨?_, b1.trans (b2.mono b1.size)⟩
  rw [HN.out]
  congr 2
end Go.Proofs.YthpamdjgkmaleaaGreatDoor
