/-
  A block of bytes that a call made, written byte by byte; bits of bytes as the model holds them.
-/
import Derived.Test.YthhmeoenndimkaaCrcLaws
import Derived.Laws.IdiomStrings
namespace Go.Proofs.Ythhmeoenndimkaa
open Go.RowKit Crc Go.ChangeShapes
set_option linter.unusedVariables false

/-- Block g begins with the bytes l, none of which is shut. -/
structure BR (w : World) (g : Nat) (l : List UInt8) : Prop where
  cell : ∀ j (h : j < l.length), w.cell? ⟨g, j, none⟩ = some (.int .u8 (l[j].toNat : Int))
  fz : ∀ j, j < l.length → w.frozen? ⟨g, j, none⟩ = false

theorem BR.drew {w : World} {g : Nat} {l : List UInt8} (h : BR w g l) : BR w.drew g l := ⟨h.cell, h.fz⟩

theorem BR.set {w : World} {g : Nat} {l : List UInt8} (h : BR w g l) (j : Nat) (c : UInt8) (hj : j < l.length) : BR (w.setCell ⟨g, j, none⟩ (.int .u8 (c.toNat : Int))) g (l.set j c) := by
  refine ⟨fun i hi => ?_, fun i hi => ?_⟩
  · have hi' : i < l.length := by simpa using hi
    by_cases he : j = i
    · subst he
      rw [World.cell?_setCell_same w _ _ (h.cell j hj)]
      simp
    · rw [World.cell?_setCell_other w _ _ _ (by intro e; apply he; injection e), h.cell i hi']
      simp [he]
  · rw [World.frozen?_setCell]; exact h.fz i (by simpa using hi)

theorem BR.other {w : World} {g p : Nat} {l : List UInt8} (h : BR w g l) (j : Nat) (v : Value) (hne : p ≠ g) : BR (w.setCell ⟨p, j, none⟩ v) g l := by
  refine ⟨fun i hi => ?_, fun i hi => ?_⟩
  · rw [World.cell?_setCell_other w _ _ _ (by intro e; apply hne; injection e), h.cell i hi]
  · rw [World.frozen?_setCell]; exact h.fz i hi

theorem BR.below {w w' : World} {g : Nat} {l : List UInt8} (h : BR w g l) (hb : Below w.heap.size w w') (hg : g < w.heap.size) : BR w' g l := by
  have hk := hb.block g hg
  refine ⟨fun i hi => ?_, fun i hi => ?_⟩
  · rw [← h.cell i hi]; exact World.cell?_of_block (a := ⟨g, i, none⟩) hk
  · rw [← h.fz i hi]; exact World.frozen?_of_block (a := ⟨g, i, none⟩) hk

theorem BR.new (w : World) (l : List UInt8) (cap : Nat) :
    BR (w.drew.alloc (.cells (bytesRow ⟨l.toArray⟩ cap) 5 ((bytesRow ⟨l.toArray⟩ cap).size, (bytesRow ⟨l.toArray⟩ cap).size + 1))) w.heap.size l := by
  have hs : l.length ≤ (bytesRow ⟨l.toArray⟩ cap).size := by simp [bytesRow]
  refine ⟨fun i hi => ?_, fun i hi => ?_⟩
  · exact (World.cell?_alloc_mark w.drew _ _ _ i).trans (bytesRow_at ⟨l.toArray⟩ cap i (by simpa using hi))
  · refine (World.frozen?_alloc_mark w.drew _ _ _ _ i).trans ?_
    simp; omega

theorem BR.zeros (w : World) (n : Nat) : BR (w.alloc (.cells (Array.replicate n (.int .u8 0)) 5)) w.heap.size (List.replicate n 0) := by
  refine ⟨fun i hi => ?_, fun i hi => ?_⟩
  · have hi' : i < n := by simpa using hi
    have := World.cell?_alloc_mark w (Array.replicate n (.int .u8 0)) 5 (0, 0) i
    refine this.trans ?_
    simp [hi']
  · simp

theorem BR.string {w : World} {g : Nat} {l : List UInt8} (h : BR w g l) (c : Nat) :
    (convert 31 9 (.slice (some ⟨g, 0, none⟩) l.length c)).run Try.prog w = .ok (.string ⟨l.toArray⟩) w :=
  run_convert_bytes_back w 31 9 5 ⟨g, 0, none⟩ c l Try.underlying31 Try.underlying5 Try.underlying9 (fun j hj => by
    have : (⟨g, 0, none⟩ : Addr).add j = ⟨g, j, none⟩ := by rw [Addr.add_lit, Nat.zero_add]
    rw [this]; exact h.cell j hj)

theorem bytes_new (w : World) (l : List UInt8) :
    (convert 9 31 (.string ⟨l.toArray⟩)).run Try.prog w = .ok (.slice (some ⟨w.heap.size, 0, none⟩) l.length (grownCap w l.length 0 5))
      (w.drew.alloc (.cells (bytesRow ⟨l.toArray⟩ (grownCap w l.length 0 5)) 5 ((bytesRow ⟨l.toArray⟩ (grownCap w l.length 0 5)).size, (bytesRow ⟨l.toArray⟩ (grownCap w l.length 0 5)).size + 1))) := by
  have h := run_bytes_of_string w 9 31 5 ⟨l.toArray⟩ Try.underlying9 Try.underlying31 Try.underlying5
  have e : (⟨l.toArray⟩ : ByteArray).size = l.length := by simp [ByteArray.size]
  rw [e] at h
  exact h

theorem bytes_made (w : World) (l : List UInt8) : ∃ (cap : Nat) (W1 : World),
    (convert 9 31 (.string ⟨l.toArray⟩)).run Try.prog w = .ok (.slice (some ⟨w.heap.size, 0, none⟩) l.length cap) W1 ∧ BR W1 w.heap.size l ∧ Below w.heap.size w W1 ∧ w.heap.size < W1.heap.size := by
  refine ⟨_, _, bytes_new w l, BR.new w l _, (Below.refl _ w).drew.alloc (Nat.le_refl _) _, ?_⟩
  show w.heap.size < (w.heap.push _).size
  simp

theorem info_byte : (Try.prog.info? 5).map (fun i => (i.zero, i.size, i.bytes)) = some (some (.int .u8 0), 1, 1) := by kernel_rfl

theorem make_bytes (n : Nat) (hn : (n : Int) ≤ 100000) (v : World) :
    (Instr.makeSlice 31 (.int .i64 (n : Int)) (.int .i64 (n : Int))).run Try.prog v = .ok (.slice (some ⟨v.heap.size, 0, none⟩) n n) (v.alloc (.cells (Array.replicate n (.int .u8 0)) 5)) := by
  obtain ⟨ti, hi, hz, hsz, hby⟩ := info_parts info_byte
  have h := run_make (P := Try.prog) v 31 5 ti (.int .u8 0) Try.underlying31 hi hz .i64 .i64 n n (by omega) (Int.le_refl _) (by rw [hby]; omega) (by omega)
  have e : madeCells (Value.int .u8 0).cells (n * ti.size) = Array.replicate n (.int .u8 0) := by
    rw [show (Value.int .u8 0).cells = #[.int .u8 0] from rfl, hsz, Nat.mul_one]
    apply Array.ext'
    rw [toList_madeCells_one, Array.toList_replicate]
  simp only [Int.toNat_natCast, e] at h
  exact h

theorem two_made (w wc : World) (n : Nat) (h : Below w.heap.size w wc) :
    let R : Obj := .cells (Array.replicate n (.int .u8 0)) 5
    ((wc.alloc R).alloc R).drew.heap.size = wc.heap.size + 2 ∧ BR ((wc.alloc R).alloc R).drew wc.heap.size (List.replicate n 0) ∧ BR ((wc.alloc R).alloc R).drew (wc.heap.size + 1) (List.replicate n 0) ∧
      Below w.heap.size w ((wc.alloc R).alloc R).drew := by
  intro R
  have s1 : (wc.alloc R).heap.size = wc.heap.size + 1 := by show (wc.heap.push R).size = _; simp
  have s2 : ((wc.alloc R).alloc R).heap.size = wc.heap.size + 2 := by show ((wc.alloc R).heap.push R).size = _; rw [Array.size_push, s1]
  have b1 := BR.zeros wc n
  have b2 := BR.zeros (wc.alloc R) n
  rw [s1] at b2
  have hA : Below w.heap.size w (wc.alloc R) := h.alloc h.size R
  refine ⟨s2, (b1.below ((Below.refl _ _).alloc (Nat.le_refl _) R) (by show _ < (wc.alloc R).heap.size; omega)).drew, b2.drew, (hA.alloc hA.size R).drew⟩

/-! ### Bytes and bits -/
theorem u8_xor (c d : UInt8) : bits .xor .u8 (c.toNat : Int) (d.toNat : Int) = ((c ^^^ d).toNat : Int) := by
  have h1 := c.toNat_lt
  have h2 := d.toNat_lt
  have h3 : c.toNat ^^^ d.toNat < 2 ^ 8 := Nat.xor_lt_two_pow h1 h2
  show IntKind.u8.wrap (((BitVec.ofInt 8 (c.toNat : Int) ^^^ BitVec.ofInt 8 (d.toNat : Int)).toNat : Nat) : Int) = _
  rw [BitVec.ofInt_natCast, BitVec.ofInt_natCast, BitVec.toNat_xor, BitVec.toNat_ofNat, BitVec.toNat_ofNat, Nat.mod_eq_of_lt h1, Nat.mod_eq_of_lt h2, IntKind.wrap_u8, UInt8.toNat_xor]
  omega

def one (r : Nat) : UInt8 := UInt8.ofNat (2 ^ r)
theorem one_nat : ∀ r : Fin 8, (one r.val).toNat = 2 ^ r.val := by decide
theorem one_int : ∀ r : Fin 8, ((one r.val).toNat : Int) = IntKind.u8.wrap (2 ^ r.val) := by decide

theorem bit_flip (c : UInt8) (r i : Nat) (hr : r < 8) : (c ^^^ one r).toNat.testBit i = (c.toNat.testBit i ^^ decide (i = r)) := by
  rw [UInt8.toNat_xor, Nat.testBit_xor, one_nat ⟨r, hr⟩, Nat.testBit_two_pow]
  congr 1
  simp [eq_comm]

theorem bitOf_flip (l : List UInt8) (p q : Nat) (hp : p / 8 < l.length) : bitOf (l.set (p / 8) (l[p / 8] ^^^ one (p % 8))) q = (bitOf l q ^^ decide (q = p)) := by
  unfold bitOf
  by_cases h : q / 8 = p / 8
  · rw [h, List.getD_eq_getElem?_getD, List.getElem?_set_self hp, Option.getD_some, bit_flip _ _ _ (Nat.mod_lt _ (by omega)), List.getD_eq_getElem?_getD, List.getElem?_eq_getElem hp, Option.getD_some]
    congr 1
    by_cases h2 : q = p
    · subst h2; simp
    · have : ¬ q % 8 = p % 8 := by omega
      simp [h2, this]
  · rw [List.getD_eq_getElem?_getD, List.getElem?_set_ne (by omega), ← List.getD_eq_getElem?_getD]
    have : ¬ q = p := fun e => h (by rw [e])
    simp [this]

theorem maskI (m : Crc.W) (k : Nat) : bits .and .u64 (I m / 2 ^ k) 1 = if m.getLsbD k then 1 else 0 := by
  have e : I m / 2 ^ k = I (m >>> k) := by
    unfold I
    rw [BitVec.toNat_ushiftRight, Nat.shiftRight_eq_div_pow]
    simp
  rw [e, lowI, BitVec.getLsbD_ushiftRight, Nat.add_zero]

/-- l is a with the mask's first k bits put over it from bit 'bit' on. -/
structure Flipd (a : List UInt8) (bit k : Nat) (m : Crc.W) (l : List UInt8) : Prop where
  len : l.length = a.length
  at' : ∀ q, bitOf l q = (bitOf a q ^^ (decide (bit ≤ q ∧ q < bit + k) && m.getLsbD (q - bit)))

theorem Flipd.zero (a : List UInt8) (bit : Nat) (m : Crc.W) : Flipd a bit 0 m a := by
  refine ⟨rfl, fun q => ?_⟩
  have : decide (bit ≤ q ∧ q < bit + 0) = false := by simp
  rw [this]; simp

theorem Flipd.skip {a l : List UInt8} {bit k : Nat} {m : Crc.W} (h : Flipd a bit k m l) (hm : m.getLsbD k = false) : Flipd a bit (k + 1) m l := by
  refine ⟨h.len, fun q => ?_⟩
  rw [h.at' q]
  congr 1
  by_cases hq : q = bit + k
  · subst hq
    rw [Nat.add_sub_cancel_left, hm]; simp
  · congr 1
    simp only [decide_eq_decide]
    omega

theorem Flipd.flip {a l : List UInt8} {bit k : Nat} {m : Crc.W} (h : Flipd a bit k m l) (hm : m.getLsbD k = true) (hp : (bit + k) / 8 < l.length) :
    Flipd a bit (k + 1) m (l.set ((bit + k) / 8) (l[(bit + k) / 8] ^^^ one ((bit + k) % 8))) := by
  refine ⟨by rw [List.length_set]; exact h.len, fun q => ?_⟩
  rw [bitOf_flip l (bit + k) q hp, h.at' q]
  by_cases hq : q = bit + k
  · subst hq
    rw [Nat.add_sub_cancel_left, hm]
    have e1 : decide (bit ≤ bit + k ∧ bit + k < bit + k) = false := by simp
    have e2 : decide (bit ≤ bit + k ∧ bit + k < bit + (k + 1)) = true := by simp
    rw [e1, e2]; simp
  · have e1 : decide (q = bit + k) = false := by simp [hq]
    rw [e1, Bool.xor_false]
    congr 2
    simp only [decide_eq_decide]
    omega

/-- Is one of the first k bits set? -/
def anyb (m : Crc.W) : Nat → Bool
  | 0 => false
  | k + 1 => anyb m k || m.getLsbD k

theorem anyb_spec (m : Crc.W) : ∀ k, anyb m k = true → ∃ j, j < k ∧ m.getLsbD j = true
  | 0, h => by cases h
  | k + 1, h => by
    simp only [anyb, Bool.or_eq_true] at h
    rcases h with h | h
    · obtain ⟨j, hj, hm⟩ := anyb_spec m k h
      exact ⟨j, by omega, hm⟩
    · exact ⟨k, by omega, h⟩

theorem anyb_none (m : Crc.W) : ∀ k, anyb m k = false → ∀ j, j < k → m.getLsbD j = false
  | 0, _, j, hj => by omega
  | k + 1, h, j, hj => by
    simp only [anyb, Bool.or_eq_false_iff] at h
    by_cases hk : j = k
    · subst hk; exact h.2
    · exact anyb_none m k h.1 j (by omega)

theorem bits_eq : ∀ (s t : List UInt8), s.length = t.length → (∀ q, bitOf s q = bitOf t q) → s = t := by
  intro s t hl h
  apply List.ext_getElem hl
  intro i h1 h2
  apply UInt8.toNat_inj.mp
  apply Nat.eq_of_testBit_eq
  intro j
  by_cases hj : j < 8
  · have := h (8 * i + j)
    unfold bitOf at this
    rw [show (8 * i + j) / 8 = i by omega, show (8 * i + j) % 8 = j by omega, List.getD_eq_getElem?_getD, List.getD_eq_getElem?_getD, List.getElem?_eq_getElem h1, List.getElem?_eq_getElem h2, Option.getD_some, Option.getD_some] at this
    exact this
  · have e : ∀ c : UInt8, c.toNat.testBit j = false := fun c => Nat.testBit_lt_two_pow (Nat.lt_of_lt_of_le c.toNat_lt (Nat.pow_le_pow_right (by omega) (by omega : 8 ≤ j)))
    rw [e, e]

/-- Another checksum just where something changed. -/
theorem flipd_sum {a l : List UInt8} {bit k : Nat} {m : Crc.W} (h : Flipd a bit k m l) (hk : k ≤ 64) (hb : k = 0 ∨ bit + k ≤ 8 * a.length) : (I (sum l) != I (sum a)) = anyb m k := by
  cases ha : anyb m k with
  | true =>
    obtain ⟨j, hj, hm⟩ := anyb_spec m k ha
    have hne : sum l ≠ sum a := by
      refine sum_ne l a h.len bit (bit + j) (fun q hq => ?_) (fun q hq => ?_) (by rw [h.len]; omega) ?_
      · rw [h.at' q]
        have : decide (bit ≤ q ∧ q < bit + k) = false := by simp; omega
        rw [this]; simp
      · rw [h.at' q]
        have : decide (bit ≤ q ∧ q < bit + k) = false := by simp; omega
        rw [this]; simp
      · rw [h.at' (bit + j), Nat.add_sub_cancel_left, hm]
        have : decide (bit ≤ bit + j ∧ bit + j < bit + k) = true := by simp; omega
        rw [this]
        cases bitOf a (bit + j) <;> simp
    rw [bne_iff_ne]
    exact fun e => hne (I_inj e)
  | false =>
    have he : l = a := by
      refine bits_eq l a h.len (fun q => ?_)
      rw [h.at' q]
      by_cases hq : bit ≤ q ∧ q < bit + k
      · rw [anyb_none m k ha (q - bit) (by omega)]; simp
      · have : decide (bit ≤ q ∧ q < bit + k) = false := by simp; omega
        rw [this]; simp
    rw [he]; simp

theorem xor8 (c : UInt8) (r : Nat) (hr : r < 8) : bits .xor .u8 (c.toNat : Int) (IntKind.u8.wrap (2 ^ r)) = ((c ^^^ one r).toNat : Int) := by
  have := one_int ⟨r, hr⟩
  simp only at this
  rw [← this, u8_xor]

/-- The first k bytes of l, and noughts. -/
def fill (l : List UInt8) (k : Nat) : List UInt8 := l.take k ++ List.replicate (l.length - k) 0

theorem fill_length (l : List UInt8) (k : Nat) (h : k ≤ l.length) : (fill l k).length = l.length := by simp [fill]; omega
theorem fill_zero (l : List UInt8) : fill l 0 = List.replicate l.length 0 := by simp [fill]
theorem fill_all (l : List UInt8) : fill l l.length = l := by simp [fill]
theorem fill_step (l : List UInt8) (k : Nat) (h : k < l.length) : (fill l k).set k l[k] = fill l (k + 1) := by
  unfold fill
  have hl : (l.take k).length = k := by rw [List.length_take]; omega
  have e0 : k - (l.take k).length = 0 := by omega
  rw [show l.length - k = (l.length - (k + 1)) + 1 by omega, List.replicate_succ, List.set_append_right _ _ (by omega), e0, List.set_cons_zero, List.take_succ_eq_append_getElem h, List.append_assoc]
  rfl

theorem over_at (s t : List UInt8) (k : Nat) (h : s.length = t.length) (h1 : k < (over s t).length) (h2 : k < s.length) (h3 : k < t.length) : (over s t)[k] = s[k] ^^^ t[k] := by
  have := over_getD s t k h
  rw [List.getD_eq_getElem?_getD, List.getD_eq_getElem?_getD, List.getD_eq_getElem?_getD, List.getElem?_eq_getElem h1, List.getElem?_eq_getElem h2, List.getElem?_eq_getElem h3] at this
  exact this

theorem ba_take (l : List UInt8) (n : Nat) : (⟨l.toArray⟩ : ByteArray).extract 0 n = ⟨(l.take n).toArray⟩ := by
  apply ByteArray.ext
  simp [ByteArray.data_extract]

/-- A byte of two texts, put over one another. -/
theorem bytes_over (a b : List UInt8) (n k : Nat) (ha : n ≤ a.length) (hb : n ≤ b.length) (hk : k < n) (ho : k < (over (a.take n) (b.take n)).length) (h : k < (⟨a.toArray⟩ : ByteArray).size) (h' : k < (⟨b.toArray⟩ : ByteArray).size) :
    bits .xor .u8 (((⟨a.toArray⟩ : ByteArray)[k]'h).toNat : Int) (((⟨b.toArray⟩ : ByteArray)[k]'h').toNat : Int) = (((over (a.take n) (b.take n))[k]'ho).toNat : Int) := by
  have e1 : (⟨a.toArray⟩ : ByteArray)[k]'h = a[k] := rfl
  have e2 : (⟨b.toArray⟩ : ByteArray)[k]'h' = b[k] := rfl
  rw [e1, e2, u8_xor, over_at (a.take n) (b.take n) k (by simp; omega) ho (by simp; omega) (by simp; omega), List.getElem_take, List.getElem_take]

end Go.Proofs.Ythhmeoenndimkaa
