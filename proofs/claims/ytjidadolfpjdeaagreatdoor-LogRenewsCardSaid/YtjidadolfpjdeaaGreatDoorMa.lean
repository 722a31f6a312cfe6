/-
A disk, plainly: its files in the order of their names, the room, the fuse, whether the power has gone; what each call answers and leaves.
The names of a log's segments: a letter, and eight digits.
Plain facts on the reader (no Go in it): what was put is read, bytes that are wholly one number are that number's bytes.
Plain facts (no Go in it) of layer 2: steps of a number of 64 bits, the checksum of a text, bits that changed.
Plain facts (no Go in it) of layer 2: a text bit by bit; up to 64 bits side by side that changed.
Plain facts of layer 3 (no Go in it): a frame's bytes, the frame at the beginning of bytes, all of them one behind the other.
Plain facts of layer 3 (no Go in it): frames in a row, as they are told one by one, and all at once.
Plain facts of layer 3 (no Go in it): what Walk tells next, and what Split has told of it.
Plain facts of layer 3 (no Go in it): frames in a row, cut anywhere, or with a byte turned in an inside or in a checksum.
Frames in a row, of insides of any length that a frame may have: told wholly, cut anywhere.
What stays behind a crash, file by file: plain facts.
A log on a disk, plainly: what Open, Add, Sync and Renew answer and leave, by the document's words; and what is there behind them.
A log's segments, plainly: their numbers, as the log keeps count of them, behind each of the disk's calls; and what Open tells, segment by segment.
A log's disk in its states: closed segments and the last one, torn or whole; what Add, Sync, Crash and Open make of it.
A log's disk in its states: what Add, Sync, Crash and Open make of it.
A log's disk in its states: what Renew makes of it; and a bit turned.
-/
import Derived.Test.YtjidadolfpjdeaaGreatDoorRows
import Derived.Test.YtjidadolfpjdeaaGreatDoorPure
import Derived.Sort.KeysCollected
import Derived.RowKit
namespace Go.Proofs.YtjidadolfpjdeaaGreatDoor
set_option linter.unusedVariables false

/-- A file. -/
structure PF where
  name : List UInt8
  bytes : List UInt8
  synced : Nat

/-- A disk. -/
structure PD where
  files : List PF
  room : Int
  fuse : Int
  dead : Bool

def PD.find (d : PD) (nm : List UInt8) : Option PF := d.files.find? fun f => f.name = nm
/-- The file of a name turned. -/
def setF (nm : List UInt8) (g : PF → PF) (l : List PF) : List PF := l.map fun f => if f.name = nm then g f else f
/-- A new file, in its place. -/
def insF (f : PF) : List PF → List PF
  | [] => [f]
  | g :: r => if f.name < g.name then f :: g :: r else g :: insF f r
def totF (l : List PF) : Nat := (l.map fun f => f.bytes.length).sum

/-- A file with more bytes. -/
def PF.more (f : PF) (s : List UInt8) : PF := { f with bytes := f.bytes ++ s }
/-- A disk that has the file. -/
def PD.withFile (d : PD) (nm : List UInt8) : PD := { d with files := if (d.find nm).isSome then d.files else insF ⟨nm, [], 0⟩ d.files }
/-- Bytes written behind a file that is there. -/
def PD.write (d : PD) (nm s : List UInt8) : PD × Int :=
  if 0 ≤ d.fuse ∧ d.fuse < s.length then ({ files := setF nm (fun f => f.more (s.take d.fuse.toNat)) d.files, room := d.room - d.fuse, fuse := -1, dead := true }, 9)
  else ({ files := setF nm (fun f => f.more s) d.files, room := d.room - s.length, fuse := if 0 ≤ d.fuse then d.fuse - s.length else d.fuse, dead := d.dead }, 0)
def PD.append (d : PD) (nm s : List UInt8) : PD × Int :=
  if d.dead then (d, 8)
  else if nm = [] ∨ 24 < nm.length then (d, 2)
  else if d.room < s.length ∨ (d.find nm = none ∧ 1000 ≤ d.files.length) then (d, 7)
  else (d.withFile nm).write nm s
/-- What asks for power and a file. -/
def PD.within (d : PD) (nm : List UInt8) (act : PF → PD × Int) : PD × Int :=
  if d.dead then (d, 8) else match d.find nm with
    | none => (d, 11)
    | some f => act f
def PD.sync (d : PD) (nm : List UInt8) : PD × Int :=
  d.within nm fun _ => ({ d with files := setF nm (fun f => { f with synced := f.bytes.length }) d.files }, 0)
def PD.cut (d : PD) (nm : List UInt8) (n : Int) : PD × Int :=
  d.within nm fun f => if n < f.synced ∨ f.bytes.length < n then (d, 2)
    else ({ d with files := setF nm (fun f => { f with bytes := f.bytes.take n.toNat }) d.files, room := d.room + (f.bytes.length - n) }, 0)
def PD.remove (d : PD) (nm : List UInt8) : PD × Int :=
  d.within nm fun f => ({ d with files := d.files.filter (fun g => g.name ≠ nm), room := d.room + f.bytes.length }, 0)
/-- Of the bytes that are not synced the first keep in all stay (none: all of them). -/
def crashF : Option Nat → List PF → List PF
  | _, [] => []
  | none, l => l
  | some k, f :: r => { f with bytes := f.bytes.take (f.synced + min k (f.bytes.length - f.synced)) } :: crashF (some (k - min k (f.bytes.length - f.synced))) r
def PD.crash (d : PD) (keep : Int) : PD × Int :=
  if d.dead then (d, 8)
  else ({ files := crashF (if keep < 0 then none else some keep.toNat) d.files, room := d.room + (totF d.files - totF (crashF (if keep < 0 then none else some keep.toNat) d.files) : Int), fuse := -1, dead := true }, 0)
def PD.setFuse (d : PD) (n : Int) : PD × Int := if d.dead then (d, 8) else ({ d with fuse := max n (-1) }, 0)
def PD.start (d : PD) : PD := { d with dead := false }
/-- A bit turned. -/
def flip (b : UInt8) (k : Nat) : UInt8 := b ^^^ (1 <<< k.toUInt8)
/-- The byte at a place of all files' bytes turned. -/
def turnF (at_ : Nat) (g : UInt8 → UInt8) : List PF → Option (List PF)
  | [] => none
  | f :: r => if at_ < f.bytes.length then some ({ f with bytes := f.bytes.set at_ (g (f.bytes.getD at_ 0)) } :: r) else (turnF (at_ - f.bytes.length) g r).map (f :: ·)
def PD.new : PD := { files := [], room := 4194304, fuse := -1, dead := false }

/-- A disk whose files stand in the order of their names, each once. -/
def sortedN (l : List (List UInt8)) : Prop := l.Pairwise (· < ·)

theorem nm_lt_irrefl (a : List UInt8) : ¬ a < a := List.lt_irrefl a
theorem nm_lt_of_le {a b : List UInt8} (h : ¬ b < a) (hne : a ≠ b) : a < b := by
  by_cases h' : a < b
  · exact h'
  · exact absurd (List.le_antisymm (show a ≤ b from h) (show b ≤ a from h')) hne

theorem sortedN_nodup {l : List (List UInt8)} (h : sortedN l) : l.Nodup := h.imp fun {a b} h e => by subst e; exact nm_lt_irrefl a h

/-- Sorting what is a permutation of names in order tells those names. -/
theorem sort_names {l ss : List (List UInt8)} (h : sortedN l) (hp : ss.Perm l) : ss.mergeSort (fun x y => decide (x ≤ y)) = l := by
  rw [show ss.mergeSort (fun x y => decide (x ≤ y)) = l.mergeSort (fun x y => decide (x ≤ y)) from mergeSort_of_perm hp]
  exact List.mergeSort_of_pairwise (h.imp fun {a b} h => by simpa using List.le_of_lt h)

end Go.Proofs.YtjidadolfpjdeaaGreatDoor

namespace Go.Proofs.YtjidadolfpjdeaaGreatDoor
set_option linter.unusedVariables false

/-- The last k digits of a number. -/
def digs : Nat → Nat → List UInt8
  | 0, _ => []
  | k + 1, n => digs k (n / 10) ++ [UInt8.ofNat (48 + n % 10)]
def nameL (n : Nat) : List UInt8 := 115 :: digs 8 n
def isDig (c : UInt8) : Bool := 48 ≤ c && c ≤ 57
def valL (s : List UInt8) : Nat := s.foldl (fun n c => 10 * n + (c.toNat - 48)) 0
/-- A segment's number; 0: it is none. -/
def numberL : List UInt8 → Nat
  | [] => 0
  | c :: s => if c = 115 ∧ s.length = 8 ∧ s.all isDig = true then valL s else 0

theorem digs_length : ∀ (k n : Nat), (digs k n).length = k
  | 0, n => rfl
  | k + 1, n => by rw [digs, List.length_append, digs_length k]; rfl
theorem dig_toNat (n : Nat) : (UInt8.ofNat (48 + n % 10)).toNat = 48 + n % 10 := by
  rw [UInt8.toNat_ofNat', Nat.mod_eq_of_lt (by omega)]
theorem digs_dig : ∀ (k n : Nat), (digs k n).all isDig = true
  | 0, n => rfl
  | k + 1, n => by
    rw [digs, List.all_append, digs_dig k, List.all_cons, List.all_nil]
    have h := dig_toNat n
    simp only [isDig, Bool.true_and, Bool.and_true, Bool.and_eq_true, decide_eq_true_eq, UInt8.le_iff_toNat_le]
    rw [h]
    refine ⟨?_, ?_⟩
    · show 48 ≤ 48 + n % 10; omega
    · show 48 + n % 10 ≤ 57; omega
theorem valL_digs : ∀ (k n : Nat), n < 10 ^ k → valL (digs k n) = n
  | 0, n, h => by simp at h; subst h; rfl
  | k + 1, n, h => by
    have ih := valL_digs k (n / 10) (by rw [Nat.pow_succ] at h; omega)
    unfold valL at ih ⊢
    rw [digs, List.foldl_append, ih]
    simp only [List.foldl_cons, List.foldl_nil, dig_toNat]
    omega
theorem number_cons (c : UInt8) (s : List UInt8) : numberL (c :: s) = if c = 115 ∧ s.length = 8 ∧ s.all isDig = true then valL s else 0 := rfl
theorem number_name {n : Nat} (h : n ≤ 99999999) : numberL (nameL n) = n := by
  unfold nameL
  rw [number_cons, if_pos ⟨rfl, digs_length 8 n, digs_dig 8 n⟩, valL_digs 8 n (by omega)]

/-- Digits told back. -/
theorem digs_val : ∀ (k : Nat) (s : List UInt8), s.length = k → s.all isDig = true → digs k (valL s) = s
  | 0, s, hl, _ => by rw [List.eq_nil_of_length_eq_zero hl]; rfl
  | k + 1, s, hl, h => by
    have hne : s ≠ [] := fun e => by rw [e] at hl; simp at hl
    obtain ⟨t, c, rfl⟩ : ∃ t c, s = t ++ [c] := ⟨s.dropLast, s.getLast hne, (List.dropLast_concat_getLast hne).symm⟩
    rw [List.all_append, Bool.and_eq_true] at h
    obtain ⟨h1, h2⟩ := h
    simp only [List.all_cons, List.all_nil, Bool.and_true, isDig, Bool.and_eq_true, decide_eq_true_eq, UInt8.le_iff_toNat_le] at h2
    have h3 : 48 ≤ c.toNat ∧ c.toNat ≤ 57 := h2
    have hv : valL (t ++ [c]) = 10 * valL t + (c.toNat - 48) := by unfold valL; rw [List.foldl_append]; rfl
    rw [digs, hv, show (10 * valL t + (c.toNat - 48)) / 10 = valL t from by omega, digs_val k t (by simpa using hl) h1, show 48 + (10 * valL t + (c.toNat - 48)) % 10 = c.toNat from by omega]
    simp
theorem name_number {s : List UInt8} (h : 0 < numberL s) : s = nameL (numberL s) := by
  cases s with
  | nil => simp [numberL] at h
  | cons c s =>
    rw [number_cons] at h ⊢
    by_cases hc : c = 115 ∧ s.length = 8 ∧ s.all isDig = true
    · rw [if_pos hc]
      unfold nameL
      rw [digs_val 8 s hc.2.1 hc.2.2, hc.1]
    · rw [if_neg hc] at h; omega

theorem lex_append : ∀ (a b : List UInt8) (c d : List UInt8), a.length = b.length → a < b → a ++ c < b ++ d
  | [], [], c, d, _, h => absurd h (List.lt_irrefl _)
  | [], _ :: _, _, _, h, _ => by simp at h
  | _ :: _, [], _, _, h, _ => by simp at h
  | x :: a, y :: b, c, d, hl, h => by
    rw [List.cons_append, List.cons_append]
    rcases List.cons_lt_cons_iff.1 h with h1 | ⟨h1, h2⟩
    · exact List.cons_lt_cons_iff.2 (.inl h1)
    · exact List.cons_lt_cons_iff.2 (.inr ⟨h1, lex_append a b c d (by simpa using hl) h2⟩)
theorem lex_same : ∀ (a : List UInt8) (c d : List UInt8), c < d → a ++ c < a ++ d
  | [], _, _, h => h
  | x :: a, c, d, h => by
    rw [List.cons_append, List.cons_append]
    exact List.cons_lt_cons_iff.2 (.inr ⟨rfl, lex_same a c d h⟩)
theorem digs_lt : ∀ (k a b : Nat), a < b → b < 10 ^ k → digs k a < digs k b
  | 0, a, b, h, h2 => by simp at h2; omega
  | k + 1, a, b, h, h2 => by
    rw [digs, digs]
    by_cases hq : a / 10 = b / 10
    · rw [hq]
      refine lex_same _ _ _ (List.cons_lt_cons_iff.2 (.inl ?_))
      rw [UInt8.lt_iff_toNat_lt, dig_toNat, dig_toNat]
      omega
    · exact lex_append _ _ _ _ (by rw [digs_length, digs_length]) (digs_lt k (a / 10) (b / 10) (by omega) (by rw [Nat.pow_succ] at h2; omega))
theorem name_lt {a b : Nat} (h : a < b) (hb : b ≤ 99999999) : nameL a < nameL b := by
  unfold nameL
  exact List.cons_lt_cons_iff.2 (.inr ⟨rfl, digs_lt 8 a b h (by omega)⟩)
theorem name_inj {a b : Nat} (ha : a ≤ 99999999) (hb : b ≤ 99999999) (h : nameL a = nameL b) : a = b := by
  rw [← number_name ha, h, number_name hb]
theorem name_length (n : Nat) : (nameL n).length = 9 := by unfold nameL; rw [List.length_cons, digs_length]

end Go.Proofs.YtjidadolfpjdeaaGreatDoor

namespace Go.Proofs.YtjidadolfpjdeaaGreatDoor

theorem longR_dig (n : Nat) (t : List UInt8) (h : n < 2 ^ 64) (h1 : 248 ≤ n) : longR (nb n) (dig (nb n) n ++ t) = (n, ⟨0, t⟩) := by
  have hl := dig_length (nb n) n
  have hb := be_dig (nb n) n (nb_lt h h1)
  have ht : (dig (nb n) n ++ t).take (nb n) = dig (nb n) n := by rw [List.take_append_of_le_length (by omega), List.take_of_length_le (by omega)]
  have hd : (dig (nb n) n ++ t).drop (nb n) = t := by rw [List.drop_append_of_le_length (by omega), List.drop_of_length_le (by omega)]; rfl
  have := longR_ok (nb n) (dig (nb n) n ++ t) (by simp; omega) (by rw [ht, hb])
  rw [this, ht, hb, hd]

/-- What was put is read. -/
theorem num_enc (n : Nat) (t : List UInt8) (h : n < 2 ^ 64) : St.num ⟨0, enc n ++ t⟩ = (n, ⟨0, t⟩) := by
  by_cases hn : n < 248
  · have e : (UInt8.ofNat n).toNat = n := by rw [UInt8.toNat_ofNat']; omega
    rw [enc_small hn]
    simp only [St.num, List.cons_append, List.nil_append, e, hn, if_true]
  · have h1 : 248 ≤ n := by omega
    have h8 := nb_bounds h h1
    have e : (UInt8.ofNat (247 + nb n)).toNat = 247 + nb n := by rw [UInt8.toNat_ofNat']; omega
    rw [enc_big h1]
    simp only [St.num, List.cons_append, e, if_true]
    rw [if_neg (by omega), show 247 + nb n - 247 = nb n from by omega]
    exact longR_dig n t h h1

theorem enc_inj {n m : Nat} (hn : n < 2 ^ 64) (hm : m < 2 ^ 64) (h : enc n = enc m) : n = m := by
  have a := num_enc n [] hn
  have b := num_enc m [] hm
  rw [h, b] at a
  exact (Prod.mk.inj a).1.symm

theorem nb_mono {n m : Nat} (h : n ≤ m) (hm : m < 2 ^ 64) : nb n ≤ nb m := by
  by_cases hn : n < 248
  · rw [nb_small hn]; omega
  · obtain ⟨a, b, c, d⟩ := nb_bounds (show n < 2 ^ 64 by omega) (by omega)
    have e := nb_lt hm (by omega)
    by_cases hh : nb m < nb n
    · have : 256 ^ nb m ≤ 256 ^ (nb n - 1) := Nat.pow_le_pow_right (by decide) (by omega)
      omega
    · omega

/-- Bytes that are wholly one number are that number's bytes. -/
theorem one_form (l : List UInt8) (h : (St.num ⟨0, l⟩).2.fin.e = 0) : enc (St.num ⟨0, l⟩).1 = l := by
  have hfin : ∀ s : St, s.fin.e = 0 → s.e = 0 ∧ s.l = [] := by
    intro s hs
    obtain ⟨e, l⟩ := s
    by_cases he : e = 0
    · subst he
      cases l with
      | nil => exact ⟨rfl, rfl⟩
      | cons c t => simp [St.fin, St.left, St.fail] at hs
    · simp [St.fin, St.left, he] at hs
  obtain ⟨he, hl⟩ := hfin _ h
  clear h hfin
  match l, he, hl with
  | [], he, hl => simp [St.num] at he
  | c :: t, he, hl =>
    have hcl := c.toNat_lt
    by_cases hc : c.toNat < 248
    · have e1 : St.num ⟨0, c :: t⟩ = (c.toNat, ⟨0, t⟩) := by simp [St.num, hc]
      rw [e1] at hl ⊢
      simp only at hl ⊢
      rw [hl, enc_small hc]; simp
    · have e1 : St.num ⟨0, c :: t⟩ = longR (c.toNat - 247) t := by simp [St.num, hc]
      rw [e1] at he hl ⊢
      generalize hk : c.toNat - 247 = k at he hl ⊢
      by_cases h1 : t.length < k
      · rw [longR_short k t h1] at he; simp at he
      · by_cases h2 : nb (be (t.take k)) = k
        · rw [longR_ok k t (by omega) h2] at hl ⊢
          simp only at hl ⊢
          have h3 : t.length ≤ k := by simpa using hl
          have h4 : t.take k = t := List.take_of_length_le h3
          rw [h4] at h2 ⊢
          have h5 : ¬ be t < 248 := fun hh => by rw [nb_small hh] at h2; omega
          rw [enc_big (by omega), h2, dig_be k t (by omega), show 247 + k = c.toNat from by omega]
          simp
        · rw [longR_form k t (by omega) h2] at he; simp at he

/-- One byte more, ahead. -/
theorem dig_cons : ∀ (j n : Nat), dig (j + 1) n = UInt8.ofNat (n / 256 ^ j % 256) :: dig j n
  | 0, n => by simp [dig]
  | j + 1, n => by
    have e : dig (j + 1 + 1) n = dig (j + 1) (n / 256) ++ [UInt8.ofNat (n % 256)] := rfl
    have e2 : dig (j + 1) n = dig j (n / 256) ++ [UInt8.ofNat (n % 256)] := rfl
    rw [e, dig_cons j (n / 256), Nat.div_div_eq_div_mul, ← Nat.pow_succ', List.cons_append, e2]

theorem more_left {n j : Nat} (h : n < 2 ^ 64) (h1 : 248 ≤ n) (hj : j < nb n) : 0 < n / 256 ^ j := by
  obtain ⟨a, b, c, d⟩ := nb_bounds h h1
  have : 256 ^ j ≤ 256 ^ (nb n - 1) := Nat.pow_le_pow_right (by decide) (by omega)
  exact Nat.div_pos (by omega) (Nat.pow_pos (by decide))

theorem none_left {n : Nat} (h : n < 2 ^ 64) (h1 : 248 ≤ n) : n / 256 ^ nb n = 0 := Nat.div_eq_of_lt (nb_lt h h1)

end Go.Proofs.YtjidadolfpjdeaaGreatDoor

namespace Go.Proofs.YtjidadolfpjdeaaGreatDoor.Crc

abbrev W := BitVec 64
def poly : W := 0xc96c5795d7870f42#64

def stp (x : W) : W := if x.getLsbD 0 then (x >>> 1) ^^^ poly else x >>> 1
def steps : Nat → W → W
  | 0, x => x
  | n + 1, x => stp (steps n x)

theorem xlc (x y z : W) : x ^^^ (y ^^^ z) = y ^^^ (x ^^^ z) := by rw [← BitVec.xor_assoc, BitVec.xor_comm x y, BitVec.xor_assoc]
theorem xcc (x y : W) : x ^^^ (x ^^^ y) = y := by rw [← BitVec.xor_assoc, BitVec.xor_self, BitVec.zero_xor]

theorem stp_zero : stp 0#64 = 0#64 := by decide

theorem stp_xor (x y : W) : stp (x ^^^ y) = stp x ^^^ stp y := by
  unfold stp
  rw [BitVec.getLsbD_xor, BitVec.ushiftRight_xor_distrib]
  generalize x >>> 1 = u
  generalize y >>> 1 = v
  generalize poly = p
  cases x.getLsbD 0 <;> cases y.getLsbD 0 <;> simp only [Bool.xor_false, Bool.xor_true, Bool.not_false, Bool.not_true, Bool.false_eq_true, if_true, if_false]
  · rw [BitVec.xor_assoc]
  · rw [BitVec.xor_assoc, BitVec.xor_assoc, BitVec.xor_comm v p]
  · rw [BitVec.xor_assoc, BitVec.xor_comm v, ← BitVec.xor_assoc, ← BitVec.xor_assoc, BitVec.xor_assoc u p p, BitVec.xor_self, BitVec.xor_zero]

theorem steps_zero : ∀ n, steps n 0#64 = 0#64
  | 0 => rfl
  | n + 1 => by rw [steps, steps_zero n, stp_zero]

theorem steps_xor : ∀ (n : Nat) (x y : W), steps n (x ^^^ y) = steps n x ^^^ steps n y
  | 0, _, _ => rfl
  | n + 1, x, y => by rw [steps, steps_xor n, stp_xor]; rfl

theorem steps_add (n : Nat) : ∀ (m : Nat) (x : W), steps (n + m) x = steps m (steps n x)
  | 0, _ => rfl
  | m + 1, x => by rw [← Nat.add_assoc, steps, steps_add n m x]; rfl

theorem steps_comm (n m : Nat) (x : W) : steps n (steps m x) = steps m (steps n x) := by
  rw [← steps_add, ← steps_add, Nat.add_comm]

theorem steps_one (x : W) : steps 1 x = stp x := rfl
theorem steps_succ' (n : Nat) (x : W) : steps (n + 1) x = steps n (stp x) := by rw [Nat.add_comm, steps_add]; rfl

/-- Only of 0 a stp is 0. -/
theorem stp_ne {x : W} (h : stp x = 0#64) : x = 0#64 := by
  unfold stp at h
  split at h
  · have h63 : ((x >>> 1) ^^^ poly).getLsbD 63 = (0#64 : W).getLsbD 63 := by rw [h]
    rw [BitVec.getLsbD_xor, BitVec.getLsbD_ushiftRight] at h63
    rw [BitVec.getLsbD_of_ge _ _ (by omega)] at h63
    exact absurd h63 (by decide)
  · rename_i h0
    apply BitVec.eq_of_getLsbD_eq
    intro i hi
    rw [BitVec.getLsbD_zero]
    cases i with
    | zero => simpa using h0
    | succ j =>
      have : (x >>> 1).getLsbD j = (0#64 : W).getLsbD j := by rw [h]
      rw [BitVec.getLsbD_ushiftRight, BitVec.getLsbD_zero, Nat.add_comm] at this
      exact this

theorem steps_ne : ∀ (n : Nat) {x : W}, steps n x = 0#64 → x = 0#64
  | 0, _, h => h
  | n + 1, _, h => steps_ne n (stp_ne h)

theorem xor_eq_zero {x y : W} (h : x ^^^ y = 0#64) : x = y := by
  have : x ^^^ y ^^^ y = 0#64 ^^^ y := by rw [h]
  rw [BitVec.xor_assoc, BitVec.xor_self, BitVec.xor_zero, BitVec.zero_xor] at this
  exact this

theorem steps_inj (n : Nat) {x y : W} (h : steps n x = steps n y) : x = y := by
  apply xor_eq_zero
  apply steps_ne n
  rw [steps_xor, h, BitVec.xor_self]

/-! ### A text's bytes -/
def byte (c : UInt8) : W := BitVec.ofNat 64 c.toNat

def feed : W → List UInt8 → W
  | x, [] => x
  | x, c :: t => feed (steps 8 (x ^^^ byte c)) t

theorem feed_append : ∀ (s t : List UInt8) (x : W), feed x (s ++ t) = feed (feed x s) t
  | [], _, _ => rfl
  | c :: s, t, x => by rw [List.cons_append, feed, feed_append s t]; rfl

theorem feed_snoc (x : W) (s : List UInt8) (c : UInt8) : feed x (s ++ [c]) = steps 8 (feed x s ^^^ byte c) := by rw [feed_append]; rfl

/-- What was there ahead goes on by itself. -/
theorem feed_ahead : ∀ (s : List UInt8) (x y : W), feed (x ^^^ y) s = steps (8 * s.length) x ^^^ feed y s
  | [], _, _ => rfl
  | c :: s, x, y => by
    rw [feed, BitVec.xor_assoc, steps_xor, feed_ahead s, feed, List.length_cons, Nat.mul_add, Nat.add_comm (8 * s.length), steps_add]

theorem feed_zero (s : List UInt8) (x : W) : feed x s = steps (8 * s.length) x ^^^ feed 0#64 s := by
  have := feed_ahead s x 0#64
  rwa [BitVec.xor_zero] at this

def allOnes : W := BitVec.allOnes 64
def more (sum : W) (s : List UInt8) : W := ~~~ feed (~~~ sum) s
def sum (s : List UInt8) : W := more 0#64 s
def join (a b : W) (n : Nat) : W := steps (8 * n) a ^^^ b

theorem not_xor (x : W) : ~~~ x = BitVec.allOnes 64 ^^^ x := by rw [BitVec.allOnes_xor]

theorem more_more (x : W) (s t : List UInt8) : more (more x s) t = more x (s ++ t) := by
  unfold more
  rw [BitVec.not_not, feed_append]

/-- The text's checksum is that of its parts, joined. -/
theorem sum_join (s t : List UInt8) : join (sum s) (sum t) t.length = sum (s ++ t) := by
  unfold join sum more
  rw [feed_append, feed_zero t (feed _ s), feed_zero t (~~~ 0#64)]
  generalize feed 0#64 t = z
  generalize feed (~~~ 0#64) s = y
  have h0 : ~~~ (0#64 : W) = BitVec.allOnes 64 := by decide
  rw [h0, not_xor, not_xor, not_xor, steps_xor]
  generalize steps (8 * t.length) (BitVec.allOnes 64) = u
  generalize steps (8 * t.length) y = v
  generalize (BitVec.allOnes 64 : W) = o
  simp only [BitVec.xor_assoc, xlc v o, xlc u o, xlc v u, xcc]

theorem join_join (a b c : W) (n m : Nat) : join (join a b n) c m = join a (join b c m) (n + m) := by
  unfold join
  rw [steps_xor, ← steps_add, Nat.mul_add, BitVec.xor_assoc]

theorem join_none (a : W) : join a 0#64 0 = a := by unfold join; rw [BitVec.xor_zero]; rfl

/-! ### Texts over one another -/
def over : List UInt8 → List UInt8 → List UInt8
  | c :: s, d :: t => (c ^^^ d) :: over s t
  | _, _ => []

theorem byte_xor (c d : UInt8) : byte (c ^^^ d) = byte c ^^^ byte d := by
  unfold byte
  rw [UInt8.toNat_xor]
  apply BitVec.eq_of_toNat_eq
  have h1 := c.toNat_lt
  have h2 := d.toNat_lt
  have h3 : c.toNat ^^^ d.toNat < 2 ^ 8 := Nat.xor_lt_two_pow h1 h2
  rw [BitVec.toNat_xor, BitVec.toNat_ofNat, BitVec.toNat_ofNat, BitVec.toNat_ofNat, Nat.mod_eq_of_lt (by omega), Nat.mod_eq_of_lt (by omega), Nat.mod_eq_of_lt (by omega)]

theorem feed_over : ∀ (s t : List UInt8) (x y : W), s.length = t.length → feed (x ^^^ y) (over s t) = feed x s ^^^ feed y t
  | [], [], _, _, _ => rfl
  | c :: s, d :: t, x, y, h => by
    rw [over, feed, feed, feed, byte_xor, ← feed_over s t _ _ (by simpa using h), ← steps_xor]
    congr 2
    simp only [BitVec.xor_assoc, xlc y (byte c)]

end Go.Proofs.YtjidadolfpjdeaaGreatDoor.Crc

namespace Go.Proofs.YtjidadolfpjdeaaGreatDoor.Crc

def bit (b : Bool) : W := if b then 1#64 else 0#64

/-- So many bits, one behind the other. -/
def G (x : W) (f : Nat → Bool) : Nat → W
  | 0 => x
  | n + 1 => stp (G x f n ^^^ bit (f n))

theorem G_congr (x : W) {f g : Nat → Bool} : ∀ n, (∀ i, i < n → f i = g i) → G x f n = G x g n
  | 0, _ => rfl
  | n + 1, h => by rw [G, G, G_congr x n (fun i hi => h i (by omega)), h n (by omega)]

theorem G_add (x : W) (f : Nat → Bool) (n : Nat) : ∀ m, G x f (n + m) = G (G x f n) (fun i => f (n + i)) m
  | 0 => rfl
  | m + 1 => by rw [← Nat.add_assoc, G, G_add x f n m]; rfl

theorem G_none (x : W) (f : Nat → Bool) : ∀ n, (∀ i, i < n → f i = false) → G x f n = steps n x
  | 0, _ => rfl
  | n + 1, h => by
    rw [G, G_none x f n (fun i hi => h i (by omega)), h n (by omega)]
    show stp (steps n x ^^^ 0#64) = _
    rw [BitVec.xor_zero]; rfl

theorem G_ahead (f : Nat → Bool) (x : W) : ∀ n, G x f n = steps n x ^^^ G 0#64 f n
  | 0 => by show x = x ^^^ 0#64; rw [BitVec.xor_zero]
  | n + 1 => by rw [G, G_ahead f x n, BitVec.xor_assoc, stp_xor]; rfl

/-- Bits as a number. -/
def word (f : Nat → Bool) : Nat → W
  | 0 => 0#64
  | k + 1 => word f k ^^^ (if f k then 1#64 <<< k else 0#64)

theorem stp_shl : ∀ k : Fin 63, stp (1#64 <<< (k.val + 1)) = 1#64 <<< k.val := by decide

theorem steps_shl : ∀ (k : Nat), k ≤ 63 → steps k (1#64 <<< k) = 1#64
  | 0, _ => by decide
  | k + 1, h => by rw [steps_succ', stp_shl ⟨k, by omega⟩]; exact steps_shl k (by omega)

theorem G_word (f : Nat → Bool) : ∀ k, k ≤ 64 → G 0#64 f k = steps k (word f k)
  | 0, _ => rfl
  | k + 1, h => by
    rw [G, G_word f k (by omega), word, steps, steps_xor]
    congr 2
    cases f k with
    | true => rw [if_pos rfl, steps_shl k (by omega)]; rfl
    | false => rw [if_neg (by simp), steps_zero]; rfl

theorem word_bit (f : Nat → Bool) : ∀ k, k ≤ 64 → ∀ i, i < 64 → (word f k).getLsbD i = (decide (i < k) && f i)
  | 0, _, i, _ => by simp [word]
  | k + 1, h, i, hi => by
    rw [word, BitVec.getLsbD_xor, word_bit f k (by omega) i hi]
    by_cases he : i = k
    · subst he
      cases f i <;> simp [hi]
    · have h1 : (if f k then 1#64 <<< k else 0#64 : W).getLsbD i = false := by
        cases f k with
        | true =>
          rw [if_pos rfl, BitVec.getLsbD_shiftLeft]
          by_cases hk : i < k
          · simp [hk]
          · have : (1#64 : W).getLsbD (i - k) = false := by
              obtain ⟨j, hj⟩ : ∃ j, i - k = j + 1 := ⟨i - k - 1, by omega⟩
              rw [hj]; simp [BitVec.getLsbD_one]
            simp [this]
        | false => rw [if_neg (by simp)]; exact BitVec.getLsbD_zero
      rw [h1, Bool.xor_false]
      by_cases hk : i < k
      · simp [hk, show i < k + 1 by omega]
      · simp [hk, show ¬ i < k + 1 by omega]

theorem word_ne (f : Nat → Bool) (k : Nat) (h : k ≤ 64) (i : Nat) (hi : i < k) (hf : f i = true) : word f k ≠ 0#64 := by
  intro h0
  have := word_bit f k h i (by omega)
  rw [h0, BitVec.getLsbD_zero, hf] at this
  simp [hi] at this

theorem word_all (f : Nat → Bool) (x : W) (k : Nat) (h : k ≤ 64) (hx : ∀ i, i < 64 → x.getLsbD i = (decide (i < k) && f i)) : word f k = x := by
  apply BitVec.eq_of_getLsbD_eq
  intro i hi
  rw [word_bit f k h i hi, hx i hi]

/-- One bit, or more, of 64 side by side. -/
theorem burst (f : Nat → Bool) (b N : Nat) (h0 : ∀ p, p < b → f p = false) (h1 : ∀ p, b + 64 ≤ p → f p = false) (p : Nat) (hp : p < N) (hf : f p = true) : G 0#64 f N ≠ 0#64 := by
  have hb : b ≤ p := by
    rcases Nat.lt_or_ge p b with h | h
    · rw [h0 p h] at hf; cases hf
    · exact h
  have hb64 : p < b + 64 := by
    rcases Nat.lt_or_ge p (b + 64) with h | h
    · exact h
    · rw [h1 p h] at hf; cases hf
  obtain ⟨k, r, hk, hN, hpk, hr⟩ : ∃ k r, k ≤ 64 ∧ N = b + k + r ∧ p < b + k ∧ (r = 0 ∨ k = 64) := by
    by_cases h : N ≤ b + 64
    · exact ⟨N - b, 0, by omega, by omega, by omega, .inl rfl⟩
    · exact ⟨64, N - b - 64, by omega, by omega, by omega, .inr rfl⟩
  subst hN
  rw [G_add, G_add, G_none _ f b h0, steps_zero, G_word _ k hk]
  rw [G_none]
  · intro h
    have h2 := steps_ne _ (steps_ne _ h)
    refine word_ne (fun i => f (b + i)) k hk (p - b) (by omega) ?_ h2
    show f (b + (p - b)) = true
    rw [show b + (p - b) = p by omega]; exact hf
  · intro i hi
    apply h1
    rcases hr with h | h <;> omega

/-! ### The bits of a text -/
def bitOf (l : List UInt8) (p : Nat) : Bool := (l.getD (p / 8) 0).toNat.testBit (p % 8)

theorem byte_bits (c : UInt8) : word (fun i => c.toNat.testBit i) 8 = byte c := by
  apply word_all _ _ _ (by omega)
  intro i hi
  unfold byte
  rw [BitVec.getLsbD_ofNat]
  by_cases h : i < 8
  · simp [h, hi]
  · have : c.toNat.testBit i = false := Nat.testBit_lt_two_pow (Nat.lt_of_lt_of_le c.toNat_lt (Nat.pow_le_pow_right (by omega) (by omega : 8 ≤ i)))
    simp [h, this]

theorem feed_bits : ∀ (l : List UInt8) (x : W), feed x l = G x (bitOf l) (8 * l.length)
  | [], _ => rfl
  | c :: t, x => by
    rw [feed, feed_bits t, List.length_cons, Nat.mul_add, Nat.add_comm (8 * t.length), G_add]
    have e1 : G x (bitOf (c :: t)) 8 = steps 8 (x ^^^ byte c) := by
      rw [G_ahead, steps_xor, ← byte_bits, ← G_word _ 8 (by omega)]
      congr 1
    rw [show 8 * 1 = 8 from rfl, e1]
    apply G_congr
    intro i _
    unfold bitOf
    rw [Nat.add_div_left i (by omega), Nat.add_mod_left]
    rfl

theorem over_length : ∀ (s t : List UInt8), s.length = t.length → (over s t).length = s.length
  | [], [], _ => rfl
  | c :: s, d :: t, h => by rw [over, List.length_cons, over_length s t (by simpa using h)]; rfl

theorem over_getD : ∀ (s t : List UInt8) (i : Nat), s.length = t.length → (over s t).getD i 0 = s.getD i 0 ^^^ t.getD i 0
  | [], [], i, _ => by simp [over]
  | c :: s, d :: t, 0, h => by simp [over]
  | c :: s, d :: t, i + 1, h => by
    have := over_getD s t i (by simpa using h)
    simpa [over] using this

theorem bitOf_over (s t : List UInt8) (p : Nat) (h : s.length = t.length) : bitOf (over s t) p = (bitOf s p ^^ bitOf t p) := by
  unfold bitOf
  rw [over_getD s t _ h, UInt8.toNat_xor, Nat.testBit_xor]

/-- Texts of one length that differ in a bit, but nowhere beside 64 bits side by side, have two checksums. -/
theorem sum_ne (s t : List UInt8) (h : s.length = t.length) (b p : Nat) (h0 : ∀ q, q < b → bitOf s q = bitOf t q) (h1 : ∀ q, b + 64 ≤ q → bitOf s q = bitOf t q) (hp : p < 8 * s.length)
    (hne : bitOf s p ≠ bitOf t p) : sum s ≠ sum t := by
  intro he
  unfold sum more at he
  have he : feed (~~~ 0#64) s = feed (~~~ 0#64) t := by
    have := congrArg (fun x : W => ~~~ x) he
    simpa only [BitVec.not_not] using this
  have h2 := feed_over s t (~~~ 0#64) (~~~ 0#64) h
  rw [he, BitVec.xor_self, BitVec.xor_self, feed_bits, over_length s t h] at h2
  refine burst _ b _ (fun q hq => ?_) (fun q hq => ?_) p hp ?_ h2
  · rw [bitOf_over s t q h, h0 q hq, Bool.xor_self]
  · rw [bitOf_over s t q h, h1 q hq, Bool.xor_self]
  · rw [bitOf_over s t p h]
    revert hne
    cases bitOf s p <;> cases bitOf t p <;> simp

theorem over_none : ∀ (s : List UInt8), over s (List.replicate s.length 0) = s
  | [] => rfl
  | c :: s => by rw [List.length_cons, List.replicate_succ, over, over_none s]; simp

/-- Three texts over one another. -/
theorem sum_over (s t : List UInt8) (h : s.length = t.length) : sum s ^^^ sum t ^^^ sum (List.replicate s.length 0) = sum (over s t) := by
  unfold sum more
  generalize ho : (~~~ 0#64 : W) = o
  have h1 := feed_over s t o o h
  have hl := over_length s t h
  have h2 := feed_over (over s t) (List.replicate s.length 0) (o ^^^ o) o (by rw [hl, List.length_replicate])
  rw [h1] at h2
  have h3 := over_none (over s t)
  rw [hl] at h3
  rw [h3, BitVec.xor_self, BitVec.zero_xor] at h2
  rw [h2]
  generalize feed o s = x
  generalize feed o t = y
  generalize feed o (List.replicate s.length 0) = z
  rw [not_xor x, not_xor y, not_xor z, not_xor (x ^^^ y ^^^ z)]
  generalize (BitVec.allOnes 64 : W) = u
  simp only [BitVec.xor_assoc, xlc x u, xlc y u, xcc]

end Go.Proofs.YtjidadolfpjdeaaGreatDoor.Crc

namespace Go.Proofs.YtjidadolfpjdeaaGreatDoor
set_option linter.unusedVariables false

/-- k bytes of n, the lowest first. -/
def low : Nat → Nat → List UInt8
  | 0, _ => []
  | k + 1, n => UInt8.ofNat (n % 256) :: low k (n / 256)

/-- Bytes as a number, the lowest first. -/
def ln : List UInt8 → Nat
  | [] => 0
  | c :: t => c.toNat + 256 * ln t

theorem low_length : ∀ (k n : Nat), (low k n).length = k
  | 0, _ => rfl
  | k + 1, n => by rw [low, List.length_cons, low_length k]

theorem low_snoc : ∀ (k n : Nat), low (k + 1) n = low k n ++ [UInt8.ofNat (n / 256 ^ k % 256)]
  | 0, n => by simp [low]
  | k + 1, n => by
    rw [low, low_snoc k (n / 256), low, List.cons_append, Nat.div_div_eq_div_mul, show 256 * 256 ^ k = 256 ^ (k + 1) from by rw [Nat.pow_succ, Nat.mul_comm]]

theorem low_ln : ∀ (t : List UInt8), low t.length (ln t) = t
  | [] => rfl
  | c :: t => by
    have hc := c.toNat_lt
    have e1 : (c.toNat + 256 * ln t) % 256 = c.toNat := by omega
    have e2 : (c.toNat + 256 * ln t) / 256 = ln t := by omega
    rw [List.length_cons, low, ln, e1, e2, low_ln t]
    simp

theorem ln_lt : ∀ (t : List UInt8), ln t < 256 ^ t.length
  | [] => by simp [ln]
  | c :: t => by
    have hc := c.toNat_lt
    have := ln_lt t
    rw [List.length_cons, ln, Nat.pow_succ]
    omega

theorem ln_low : ∀ (k n : Nat), n < 256 ^ k → ln (low k n) = n
  | 0, n, h => by simp at h; subst h; rfl
  | k + 1, n, h => by
    rw [low, ln, ln_low k (n / 256) (by rw [Nat.pow_succ] at h; omega), UInt8.toNat_ofNat']
    omega

theorem ln_snoc : ∀ (t : List UInt8) (c : UInt8), ln (t ++ [c]) = ln t + 256 ^ t.length * c.toNat
  | [], c => by simp [ln]
  | d :: t, c => by
    rw [List.cons_append, ln, ln_snoc t c, ln, List.length_cons, Nat.pow_succ, Nat.mul_add]
    rw [show 256 ^ t.length * 256 * c.toNat = 256 * (256 ^ t.length * c.toNat) from by rw [Nat.mul_comm (256 ^ t.length), Nat.mul_assoc]]
    omega

/-- Eight bytes and a number of 64 bits tell one another. -/
theorem low8 (t : List UInt8) (n : Nat) (ht : t.length = 8) (hn : n < 2 ^ 64) : t = low 8 n ↔ ln t = n := by
  constructor
  · rintro rfl; exact ln_low 8 n (by simpa using hn)
  · rintro rfl; rw [← ht, low_ln]

/-- A checksum's number. -/
def sm (l : List UInt8) : Nat := (Crc.sum l).toNat
theorem sm_lt (l : List UInt8) : sm l < 2 ^ 64 := (Crc.sum l).isLt

/-- A frame of l. -/
def frameL (l : List UInt8) : List UInt8 := enc l.length ++ (low 8 (sm l) ++ l)
theorem frameL_length (l : List UInt8) : (frameL l).length = (enc l.length).length + 8 + l.length := by
  simp [frameL, low_length]; omega

/-! ### A reader's eight bytes -/
/-- The reader behind k bytes. -/
def St.skip : Nat → St → St
  | 0, s => s
  | k + 1, s => (St.skip k s).byte.2
/-- What k bytes come to. -/
def St.low : Nat → St → Nat
  | 0, _ => 0
  | k + 1, s => St.low k s + 256 ^ k * (St.skip k s).byte.1.toNat

theorem St.low_lt (s : St) : ∀ k, St.low k s < 256 ^ k
  | 0 => by simp [St.low]
  | k + 1 => by
    have h := St.low_lt s k
    have hc := (St.skip k s).byte.1.toNat_lt
    generalize (St.skip k s).byte.1.toNat = c at hc
    rw [St.low, Nat.pow_succ]
    have : 256 ^ k * (St.skip k s).byte.1.toNat ≤ 256 ^ k * 255 := Nat.mul_le_mul_left _ (by have := (St.skip k s).byte.1.toNat_lt; omega)
    omega

theorem skip_err (e : Int) (l : List UInt8) (h : e ≠ 0) : ∀ k, St.skip k ⟨e, l⟩ = ⟨e, l⟩
  | 0 => rfl
  | k + 1 => by rw [St.skip, skip_err e l h k]; simp [St.byte, h]

theorem skip_ok (l : List UInt8) : ∀ k, k ≤ l.length → St.skip k ⟨0, l⟩ = ⟨0, l.drop k⟩
  | 0, _ => rfl
  | k + 1, h => by
    rw [St.skip, skip_ok l k (by omega), St.byte, if_pos rfl]
    simp only
    rw [List.drop_eq_getElem_cons (by omega : k < l.length)]

theorem skip_short (l : List UInt8) : ∀ k, l.length < k → St.skip k ⟨0, l⟩ = ⟨3, []⟩
  | 0, h => by omega
  | k + 1, h => by
    rw [St.skip]
    by_cases hk : l.length < k
    · rw [skip_short l k hk]; rfl
    · have e : l.length = k := by omega
      rw [skip_ok l k (by omega), List.drop_of_length_le (by omega)]
      rfl

theorem St.low_ok (l : List UInt8) : ∀ k, k ≤ l.length → St.low k ⟨0, l⟩ = ln (l.take k)
  | 0, _ => rfl
  | k + 1, h => by
    rw [St.low, St.low_ok l k (by omega), skip_ok l k (by omega), List.take_succ_eq_append_getElem (by omega : k < l.length), ln_snoc, List.length_take, Nat.min_eq_left (by omega : k ≤ l.length), St.byte, if_pos rfl]
    simp only
    rw [List.drop_eq_getElem_cons (by omega : k < l.length)]

theorem byte_e (s : St) (h : s.e ≠ 0) : s.byte = (0, s) := by simp [St.byte, h]
theorem skip_len (s : St) : ∀ k, (St.skip k s).l.length ≤ s.l.length
  | 0 => Nat.le_refl _
  | k + 1 => Nat.le_trans (byte_len _) (skip_len s k)

/-! ### The frame at the beginning -/
/-- A number that is read stands there as its own bytes. -/
theorem num_parts {s : List UInt8} {n : Nat} {r : List UInt8} (h : St.num ⟨0, s⟩ = (n, ⟨0, r⟩)) : s = enc n ++ r := by
  unfold St.num at h
  rw [if_pos rfl] at h
  cases s with
  | nil => simp at h
  | cons c t =>
    have hc := c.toNat_lt
    simp only at h
    split at h
    · rename_i h1
      obtain ⟨rfl, h2⟩ := Prod.mk.inj h
      obtain ⟨_, rfl⟩ := St.mk.inj h2
      rw [enc_small h1]; simp
    · rename_i h1
      unfold longR at h
      split at h
      · simp at h
      · rename_i h2
        split at h
        · rename_i h3
          obtain ⟨rfl, h4⟩ := Prod.mk.inj h
          obtain ⟨_, rfl⟩ := St.mk.inj h4
          generalize hk : c.toNat - 247 = k at h2 h3
          have hl : (t.take k).length = k := by simp; omega
          have hb : 248 ≤ be (t.take k) := by
            by_cases h5 : be (t.take k) < 248
            · rw [nb_small h5] at h3; omega
            · omega
          rw [enc_big hb, h3, dig_be k _ hl, show 247 + k = c.toNat from by omega]
          simp
        · simp at h

/-- The frame at the beginning: its inside, how many bytes it has, and the error. -/
def takeL (s : List UInt8) : List UInt8 × Nat × Int :=
  let r := St.num ⟨0, s⟩
  if r.2.e ≠ 0 then ([], 0, r.2.e)
  else if r.1 < 1 ∨ 65536 < r.1 then ([], 0, 4)
  else if r.2.l.length < 8 + r.1 then ([], 0, 3)
  else if ln (r.2.l.take 8) ≠ sm ((r.2.l.drop 8).take r.1) then ([], 0, 5)
  else ((r.2.l.drop 8).take r.1, s.length - r.2.l.length + 8 + r.1, 0)

theorem takeL_num {s : List UInt8} (h : (St.num ⟨0, s⟩).2.e ≠ 0) : takeL s = ([], 0, (St.num ⟨0, s⟩).2.e) := by
  unfold takeL; simp only; rw [if_pos h]
theorem takeL_size {s : List UInt8} {n : Nat} {r : List UInt8} (h : St.num ⟨0, s⟩ = (n, ⟨0, r⟩)) (hn : n < 1 ∨ 65536 < n) : takeL s = ([], 0, 4) := by
  unfold takeL; rw [h]; simp only; rw [if_neg (by simp), if_pos hn]
theorem takeL_short {s : List UInt8} {n : Nat} {r : List UInt8} (h : St.num ⟨0, s⟩ = (n, ⟨0, r⟩)) (h1 : 1 ≤ n) (h2 : n ≤ 65536) (hr : r.length < 8 + n) : takeL s = ([], 0, 3) := by
  unfold takeL; rw [h]; simp only; rw [if_neg (by simp), if_neg (by omega), if_pos hr]
theorem takeL_sum {s : List UInt8} {n : Nat} {r : List UInt8} (h : St.num ⟨0, s⟩ = (n, ⟨0, r⟩)) (h1 : 1 ≤ n) (h2 : n ≤ 65536) (hr : 8 + n ≤ r.length) (hs : ln (r.take 8) ≠ sm ((r.drop 8).take n)) : takeL s = ([], 0, 5) := by
  unfold takeL; rw [h]; simp only; rw [if_neg (by simp), if_neg (by omega), if_neg (by omega), if_pos hs]
theorem takeL_ok {s : List UInt8} {n : Nat} {r : List UInt8} (h : St.num ⟨0, s⟩ = (n, ⟨0, r⟩)) (h1 : 1 ≤ n) (h2 : n ≤ 65536) (hr : 8 + n ≤ r.length) (hs : ln (r.take 8) = sm ((r.drop 8).take n)) :
    takeL s = ((r.drop 8).take n, s.length - r.length + 8 + n, 0) := by
  unfold takeL; rw [h]; simp only; rw [if_neg (by simp), if_neg (by omega), if_neg (by omega), if_neg (by simp [hs])]

/-- What is told is a frame, and stands there. -/
theorem takeL_stands {s inside : List UInt8} {n : Nat} (h : takeL s = (inside, n, 0)) : 1 ≤ inside.length ∧ inside.length ≤ 65536 ∧ n = (frameL inside).length ∧ s = frameL inside ++ s.drop n := by
  generalize hp : St.num ⟨0, s⟩ = p
  obtain ⟨k, e, r⟩ := p
  by_cases he : e = 0
  · subst he
    by_cases hk : k < 1 ∨ 65536 < k
    · rw [takeL_size hp hk] at h; simp at h
    · by_cases hr : r.length < 8 + k
      · rw [takeL_short hp (by omega) (by omega) hr] at h; simp at h
      · by_cases hs : ln (r.take 8) = sm ((r.drop 8).take k)
        · rw [takeL_ok hp (by omega) (by omega) (by omega) hs] at h
          obtain ⟨rfl, h2⟩ := Prod.mk.inj h
          obtain ⟨rfl, _⟩ := Prod.mk.inj h2
          have hst := num_parts hp
          have hl : ((r.drop 8).take k).length = k := by simp; omega
          have h8 : (r.take 8).length = 8 := by simp; omega
          have hlow : r.take 8 = low 8 (sm ((r.drop 8).take k)) := (low8 _ _ h8 (sm_lt _)).2 hs
          have hfl : (frameL ((r.drop 8).take k)).length = (enc k).length + 8 + k := by rw [frameL_length, hl]
          have hsl : s.length = (enc k).length + r.length := by rw [hst]; simp
          refine ⟨by omega, by omega, by omega, ?_⟩
          have hfr : frameL ((r.drop 8).take k) ++ r.drop (8 + k) = s := by
            unfold frameL
            rw [hl, ← hlow, hst, List.append_assoc, List.append_assoc]
            congr 1
            rw [← List.drop_drop, List.take_append_drop, List.take_append_drop]
          have hdr : s.drop (s.length - r.length + 8 + k) = r.drop (8 + k) := by
            rw [← hfr, show (frameL ((r.drop 8).take k) ++ r.drop (8 + k)).length - r.length + 8 + k = (frameL ((r.drop 8).take k)).length from by rw [hfr]; omega, List.drop_left]
          rw [hdr, hfr]
        · rw [takeL_sum hp (by omega) (by omega) (by omega) hs] at h; simp at h
  · rw [takeL_num (by rw [hp]; exact he), hp] at h
    simp only [Prod.mk.injEq] at h
    exact absurd h.2.2 he

/-- A frame of what may be is told. -/
theorem takeL_frame (l t : List UInt8) (h1 : 1 ≤ l.length) (h2 : l.length ≤ 65536) : takeL (frameL l ++ t) = (l, (frameL l).length, 0) := by
  have hp : St.num ⟨0, frameL l ++ t⟩ = (l.length, ⟨0, low 8 (sm l) ++ l ++ t⟩) := by
    unfold frameL; rw [List.append_assoc, List.append_assoc]
    have := num_enc l.length (low 8 (sm l) ++ (l ++ t)) (by omega)
    rw [this]
  have ht : (low 8 (sm l) ++ l ++ t).take 8 = low 8 (sm l) := by
    rw [List.append_assoc, List.take_append_of_le_length (by rw [low_length]; omega), List.take_of_length_le (by rw [low_length]; omega)]
  have hd : ((low 8 (sm l) ++ l ++ t).drop 8).take l.length = l := by
    rw [List.append_assoc, List.drop_append_of_le_length (by rw [low_length]; omega), List.drop_of_length_le (by rw [low_length]; omega), List.nil_append, List.take_left]
  have hn : ln ((low 8 (sm l) ++ l ++ t).take 8) = sm l := by rw [ht]; exact ln_low 8 _ (by have := sm_lt l; simpa using this)
  rw [takeL_ok hp h1 h2 (by simp [low_length]) (by rw [hn, hd]), hd]
  simp [frameL, low_length]; omega

theorem takeL_bad {s : List UInt8} (h : (takeL s).2.2 ≠ 0) : takeL s = ([], 0, (takeL s).2.2) := by
  generalize hp : St.num ⟨0, s⟩ = p
  obtain ⟨k, e, r⟩ := p
  by_cases he : e = 0
  · subst he
    by_cases hk : k < 1 ∨ 65536 < k
    · rw [takeL_size hp hk]
    · by_cases hr : r.length < 8 + k
      · rw [takeL_short hp (by omega) (by omega) hr]
      · by_cases hs : ln (r.take 8) = sm ((r.drop 8).take k)
        · rw [takeL_ok hp (by omega) (by omega) (by omega) hs] at h; simp at h
        · rw [takeL_sum hp (by omega) (by omega) (by omega) hs]
  · rw [takeL_num (by rw [hp]; exact he)]

theorem takeL_pos {s : List UInt8} (h : (takeL s).2.2 = 0) : 10 ≤ (takeL s).2.1 ∧ (takeL s).2.1 ≤ s.length := by
  obtain ⟨a, b, c, d⟩ := takeL_stands (s := s) (inside := (takeL s).1) (n := (takeL s).2.1) (by rw [← h])
  have := congrArg List.length d
  rw [List.length_append] at this
  have hf := frameL_length (takeL s).1
  have he : (enc (takeL s).1.length).length = 1 + nb (takeL s).1.length := enc_length
  omega

/-! ### All of them -/
/-- What is told of bytes from a place on: (where, (inside, size, why)), the last one perhaps none. -/
def foundL (s : List UInt8) (at_ : Nat) : List (Nat × (List UInt8 × Nat × Int)) :=
  if s.length ≤ at_ then []
  else if h : (takeL (s.drop at_)).2.2 = 0 then (at_, takeL (s.drop at_)) :: foundL s (at_ + (takeL (s.drop at_)).2.1)
  else [(at_, takeL (s.drop at_))]
termination_by s.length - at_
decreasing_by
  have := takeL_pos h
  simp at this
  omega

theorem foundL_end {s : List UInt8} {a : Nat} (h : s.length ≤ a) : foundL s a = [] := by rw [foundL, if_pos h]
theorem foundL_go {s : List UInt8} {a : Nat} (h : a < s.length) (h0 : (takeL (s.drop a)).2.2 = 0) : foundL s a = (a, takeL (s.drop a)) :: foundL s (a + (takeL (s.drop a)).2.1) := by
  rw [foundL, if_neg (by omega), dif_pos h0]
theorem foundL_stop {s : List UInt8} {a : Nat} (h : a < s.length) (h0 : (takeL (s.drop a)).2.2 ≠ 0) : foundL s a = [(a, takeL (s.drop a))] := by
  rw [foundL, if_neg (by omega), dif_neg h0]

/-- All frames from a place on: the insides, where they end, and why. -/
def splitL (s : List UInt8) (at_ : Nat) : List (List UInt8) × Nat × Int :=
  if s.length ≤ at_ then ([], at_, 0)
  else if h : (takeL (s.drop at_)).2.2 = 0 then
    let r := splitL s (at_ + (takeL (s.drop at_)).2.1)
    ((takeL (s.drop at_)).1 :: r.1, r.2)
  else ([], at_, (takeL (s.drop at_)).2.2)
termination_by s.length - at_
decreasing_by
  have := takeL_pos h
  simp at this
  omega

theorem splitL_end {s : List UInt8} {a : Nat} (h : s.length ≤ a) : splitL s a = ([], a, 0) := by rw [splitL, if_pos h]
theorem splitL_go {s : List UInt8} {a : Nat} (h : a < s.length) (h0 : (takeL (s.drop a)).2.2 = 0) :
    splitL s a = ((takeL (s.drop a)).1 :: (splitL s (a + (takeL (s.drop a)).2.1)).1, (splitL s (a + (takeL (s.drop a)).2.1)).2) := by
  rw [splitL, if_neg (by omega), dif_pos h0]
theorem splitL_stop {s : List UInt8} {a : Nat} (h : a < s.length) (h0 : (takeL (s.drop a)).2.2 ≠ 0) : splitL s a = ([], a, (takeL (s.drop a)).2.2) := by
  rw [splitL, if_neg (by omega), dif_neg h0]

end Go.Proofs.YtjidadolfpjdeaaGreatDoor

namespace Go.Proofs.YtjidadolfpjdeaaGreatDoor
set_option linter.unusedVariables false

abbrev Found := Nat × (List UInt8 × Nat × Int)

def okL (xs : List Found) : Prop := ∀ x ∈ xs, x.2.2.2 = 0
def insides (xs : List Found) : List (List UInt8) := xs.map (·.2.1)
def endOf : Nat → List Found → Nat
  | a, [] => a
  | _, x :: t => endOf (x.1 + x.2.2.1) t
def told (x : Found) : Nat × List UInt8 := (x.1, x.2.1)

theorem okL_nil : okL [] := by intro x h; cases h
theorem okL_snoc {xs : List Found} {x : Found} (h : okL xs) (hx : x.2.2.2 = 0) : okL (xs ++ [x]) := by
  intro y hy
  rcases List.mem_append.1 hy with h1 | h1
  · exact h y h1
  · simp at h1; subst h1; exact hx
theorem insides_snoc (xs : List Found) (x : Found) : insides (xs ++ [x]) = insides xs ++ [x.2.1] := by simp [insides]
theorem insides_length (xs : List Found) : (insides xs).length = xs.length := by simp [insides]
theorem endOf_snoc : ∀ (xs : List Found) (a : Nat) (x : Found), endOf a (xs ++ [x]) = x.1 + x.2.2.1
  | [], _, _ => rfl
  | y :: t, a, x => by rw [List.cons_append, endOf, endOf_snoc t]

/-- What all that is told comes to. -/
def summed : Nat → List Found → List (List UInt8) × Nat × Int
  | a, [] => ([], a, 0)
  | _, x :: t => if x.2.2.2 = 0 then (x.2.1 :: (summed (x.1 + x.2.2.1) t).1, (summed (x.1 + x.2.2.1) t).2) else ([], x.1, x.2.2.2)

theorem split_found (l : List UInt8) : ∀ (m a : Nat), l.length - a ≤ m → splitL l a = summed a (foundL l a) := by
  intro m
  induction m with
  | zero => intro a h; rw [splitL_end (by omega), foundL_end (by omega), summed]
  | succ m ih =>
    intro a h
    by_cases ha : l.length ≤ a
    · rw [splitL_end ha, foundL_end ha, summed]
    · by_cases h0 : (takeL (l.drop a)).2.2 = 0
      · have hp := takeL_pos h0
        rw [splitL_go (by omega) h0, foundL_go (by omega) h0, summed, if_pos h0, ih _ (by simp at hp; omega)]
      · rw [splitL_stop (by omega) h0, foundL_stop (by omega) h0, summed, if_neg h0]

theorem summed_append : ∀ (xs ys : List Found) (a : Nat), okL xs → summed a (xs ++ ys) = (insides xs ++ (summed (endOf a xs) ys).1, (summed (endOf a xs) ys).2)
  | [], _, _, _ => rfl
  | x :: t, ys, a, h => by
    rw [List.cons_append, summed, if_pos (h x (by simp)), summed_append t ys _ (fun y hy => h y (by simp [hy]))]
    rfl

theorem found_length (l : List UInt8) : ∀ (m a : Nat), l.length - a ≤ m → (foundL l a).length ≤ l.length - a := by
  intro m
  induction m with
  | zero => intro a h; rw [foundL_end (by omega)]; simp
  | succ m ih =>
    intro a h
    by_cases ha : l.length ≤ a
    · rw [foundL_end ha]; simp
    · by_cases h0 : (takeL (l.drop a)).2.2 = 0
      · have hp := takeL_pos h0
        rw [foundL_go (by omega) h0, List.length_cons]
        simp at hp
        have := ih (a + (takeL (l.drop a)).2.1) (by omega)
        omega
      · rw [foundL_stop (by omega) h0]; simp; omega

theorem found_le (l : List UInt8) : ∀ (m a : Nat), l.length - a ≤ m → ∀ x ∈ foundL l a, x.1 + x.2.2.1 ≤ l.length := by
  intro m
  induction m with
  | zero => intro a h x hx; rw [foundL_end (by omega)] at hx; cases hx
  | succ m ih =>
    intro a h x hx
    by_cases ha : l.length ≤ a
    · rw [foundL_end ha] at hx; cases hx
    · by_cases h0 : (takeL (l.drop a)).2.2 = 0
      · have hp := takeL_pos h0
        simp at hp
        rw [foundL_go (by omega) h0] at hx
        rcases List.mem_cons.1 hx with rfl | hx
        · simp only; omega
        · exact ih _ (by omega) x hx
      · rw [foundL_stop (by omega) h0] at hx
        simp at hx
        subst hx
        have := takeL_bad h0
        rw [this]
        simp only
        omega

/-- One that is none is the last one. -/
theorem none_last (l : List UInt8) : ∀ (m a : Nat) (pre : List Found) (x : Found), l.length - a ≤ m → pre ++ [x] <+: foundL l a → x.2.2.2 ≠ 0 → foundL l a = pre ++ [x] := by
  intro m
  induction m with
  | zero =>
    intro a pre x h hp hx
    rw [foundL_end (by omega)] at hp
    have := hp.length_le
    simp at this
  | succ m ih =>
    intro a pre x h hp hx
    by_cases ha : l.length ≤ a
    · rw [foundL_end ha] at hp
      have := hp.length_le
      simp at this
    · by_cases h0 : (takeL (l.drop a)).2.2 = 0
      · have hpo := takeL_pos h0
        rw [foundL_go (by omega) h0] at hp ⊢
        cases pre with
        | nil =>
          obtain ⟨t, ht⟩ := hp
          simp at ht
          rw [ht.1] at hx
          exact absurd h0 hx
        | cons y t =>
          rw [List.cons_append, List.cons_prefix_cons] at hp
          obtain ⟨rfl, hp⟩ := hp
          rw [List.cons_append, ← ih _ t x (by simp at hpo; omega) hp hx]
      · rw [foundL_stop (by omega) h0] at hp ⊢
        have hl := hp.length_le
        simp at hl
        subst hl
        obtain ⟨t, ht⟩ := hp
        simp at ht
        simp [ht]

/-- Each one begins where those ahead of it end. -/
theorem found_at (l : List UInt8) : ∀ (m a : Nat) (pre : List Found) (x : Found), l.length - a ≤ m → pre ++ [x] <+: foundL l a → x.1 = endOf a pre := by
  intro m
  induction m with
  | zero =>
    intro a pre x h hp
    rw [foundL_end (by omega)] at hp
    have := hp.length_le
    simp at this
  | succ m ih =>
    intro a pre x h hp
    by_cases ha : l.length ≤ a
    · rw [foundL_end ha] at hp
      have := hp.length_le
      simp at this
    · by_cases h0 : (takeL (l.drop a)).2.2 = 0
      · have hpo := takeL_pos h0
        rw [foundL_go (by omega) h0] at hp
        cases pre with
        | nil =>
          obtain ⟨t, ht⟩ := hp
          simp at ht
          rw [ht.1]; rfl
        | cons y t =>
          rw [List.cons_append, List.cons_prefix_cons] at hp
          obtain ⟨rfl, hp⟩ := hp
          exact ih (a + (takeL (l.drop a)).2.1) t x (by simp at hpo; omega) hp
      · rw [foundL_stop (by omega) h0] at hp
        have hl := hp.length_le
        simp at hl
        subst hl
        obtain ⟨t, ht⟩ := hp
        simp at ht
        rw [ht.1]; rfl

/-- What Walk tells. -/
def walkF (x : Found) : Option (Nat × List UInt8) := if x.2.2.2 = 0 then some (told x) else none
def walkL (l : List UInt8) (a : Nat) : List (Nat × List UInt8) := (foundL l a).filterMap walkF

theorem walk_ok {xs : List Found} (h : okL xs) : xs.filterMap walkF = xs.map told := by
  induction xs with
  | nil => rfl
  | cons x t ih =>
    have hx : walkF x = some (told x) := by unfold walkF; rw [if_pos (h x (by simp))]
    rw [List.filterMap_cons, hx, List.map_cons, ih (fun y hy => h y (by simp [hy]))]

theorem walk_stop {xs : List Found} {x : Found} (h : okL xs) (hx : x.2.2.2 ≠ 0) : (xs ++ [x]).filterMap walkF = xs.map told := by
  have hx' : walkF x = none := by unfold walkF; rw [if_neg hx]
  rw [List.filterMap_append, walk_ok h, List.filterMap_cons, hx']
  simp

/-- Each begins where the one ahead of it ends. -/
def chain : Nat → List (Nat × List UInt8) → Prop
  | _, [] => True
  | a, y :: t => y.1 = a ∧ 1 ≤ y.2.length ∧ chain (a + (frameL y.2).length) t

theorem walk_split (l : List UInt8) : ∀ (m a : Nat), l.length - a ≤ m → chain a (walkL l a) ∧ (walkL l a).map (·.2) = (splitL l a).1 := by
  intro m
  induction m with
  | zero => intro a h; unfold walkL; rw [foundL_end (by omega), splitL_end (by omega)]; exact ⟨trivial, rfl⟩
  | succ m ih =>
    intro a h
    by_cases ha : l.length ≤ a
    · unfold walkL; rw [foundL_end ha, splitL_end ha]; exact ⟨trivial, rfl⟩
    · by_cases h0 : (takeL (l.drop a)).2.2 = 0
      · have hpo := takeL_pos h0
        obtain ⟨s1, s2, s3, s4⟩ := takeL_stands (s := l.drop a) (inside := (takeL (l.drop a)).1) (n := (takeL (l.drop a)).2.1) (by rw [← h0])
        obtain ⟨i1, i2⟩ := ih (a + (takeL (l.drop a)).2.1) (by simp at hpo; omega)
        have hw : walkL l a = (a, (takeL (l.drop a)).1) :: walkL l (a + (takeL (l.drop a)).2.1) := by
          unfold walkL
          rw [foundL_go (by omega) h0, List.filterMap_cons]
          have : walkF (a, takeL (l.drop a)) = some (a, (takeL (l.drop a)).1) := by unfold walkF; rw [if_pos h0]; rfl
          rw [this]
        rw [hw, splitL_go (by omega) h0]
        refine ⟨⟨rfl, s1, ?_⟩, ?_⟩
        · simp only; rw [← s3]; exact i1
        · rw [List.map_cons, i2]
      · have hw : walkL l a = [] := by
          unfold walkL
          rw [foundL_stop (by omega) h0, List.filterMap_cons]
          have : walkF (a, takeL (l.drop a)) = none := by unfold walkF; rw [if_neg h0]
          rw [this]; rfl
        rw [hw, splitL_stop (by omega) h0]
        exact ⟨trivial, rfl⟩

/-- Where the frames end. -/
def sizes : List (List UInt8) → Nat
  | [] => 0
  | x :: t => (frameL x).length + sizes t

theorem split_end (l : List UInt8) : ∀ (m a : Nat), l.length - a ≤ m → (splitL l a).2.1 = a + sizes (splitL l a).1 := by
  intro m
  induction m with
  | zero => intro a h; rw [splitL_end (by omega)]; rfl
  | succ m ih =>
    intro a h
    by_cases ha : l.length ≤ a
    · rw [splitL_end ha]; rfl
    · by_cases h0 : (takeL (l.drop a)).2.2 = 0
      · have hpo := takeL_pos h0
        obtain ⟨s1, s2, s3, s4⟩ := takeL_stands (s := l.drop a) (inside := (takeL (l.drop a)).1) (n := (takeL (l.drop a)).2.1) (by rw [← h0])
        rw [splitL_go (by omega) h0]
        simp only [sizes]
        rw [ih _ (by simp at hpo; omega), s3]; omega
      · rw [splitL_stop (by omega) h0]; rfl

end Go.Proofs.YtjidadolfpjdeaaGreatDoor

namespace Go.Proofs.YtjidadolfpjdeaaGreatDoor
set_option linter.unusedVariables false

theorem sizes_append : ∀ (xs ys : List (List UInt8)), sizes (xs ++ ys) = sizes xs + sizes ys
  | [], ys => by simp [sizes]
  | x :: t, ys => by rw [List.cons_append, sizes, sizes_append t, sizes]; omega
theorem sizes_snoc (xs : List (List UInt8)) (y : List UInt8) : sizes (xs ++ [y]) = sizes xs + (frameL y).length := by rw [sizes_append]; simp [sizes]

theorem split_le (l : List UInt8) : ∀ (m a : Nat), l.length - a ≤ m → a ≤ l.length → (splitL l a).2.1 ≤ l.length := by
  intro m
  induction m with
  | zero => intro a h ha; rw [splitL_end (by omega)]; exact ha
  | succ m ih =>
    intro a h ha
    by_cases he : l.length ≤ a
    · rw [splitL_end he]; exact ha
    · by_cases h0 : (takeL (l.drop a)).2.2 = 0
      · have hpo := takeL_pos h0
        simp at hpo
        rw [splitL_go (by omega) h0]
        exact ih _ (by omega) (by omega)
      · rw [splitL_stop (by omega) h0]; exact ha

theorem chain_at : ∀ (L : List (Nat × List UInt8)) (a : Nat) (pre : List (Nat × List UInt8)) (x : Nat × List UInt8), chain a L → pre ++ [x] <+: L →
    x.1 = a + sizes (pre.map (·.2)) ∧ 1 ≤ x.2.length
  | [], a, pre, x, _, hp => by have := hp.length_le; simp at this
  | y :: t, a, [], x, hc, hp => by
    obtain ⟨u, hu⟩ := hp
    simp at hu
    obtain ⟨rfl, _⟩ := hu
    exact ⟨by rw [hc.1]; simp [sizes], hc.2.1⟩
  | y :: t, a, z :: pre, x, hc, hp => by
    rw [List.cons_append, List.cons_prefix_cons] at hp
    obtain ⟨rfl, hp⟩ := hp
    obtain ⟨h1, h2⟩ := chain_at t _ pre x hc.2.2 hp
    refine ⟨?_, h2⟩
    rw [h1, List.map_cons, sizes]; omega

/-- What Walk tells next, and what Split has told of it. -/
theorem walk_next (l : List UInt8) (pre : List (Nat × List UInt8)) (x : Nat × List UInt8) (hp : pre ++ [x] <+: walkL l 0) :
    ∃ h : pre.length < (splitL l 0).1.length, (splitL l 0).1[pre.length] = x.2 ∧ x.1 = sizes (pre.map (·.2)) ∧ sizes (pre.map (·.2)) + (frameL x.2).length ≤ (splitL l 0).2.1 ∧ (splitL l 0).2.1 ≤ l.length := by
  obtain ⟨hc, hm⟩ := walk_split l l.length 0 (by omega)
  have he := split_end l l.length 0 (by omega)
  obtain ⟨t, ht⟩ := hp
  have hm' : (splitL l 0).1 = pre.map (·.2) ++ (x.2 :: t.map (·.2)) := by rw [← hm, ← ht]; simp
  have hx := chain_at _ 0 pre x hc ⟨t, ht⟩
  refine ⟨by rw [hm']; simp, ?_, by omega, ?_, split_le l l.length 0 (by omega) (by omega)⟩
  · simp only [hm']
    rw [List.getElem_append_right (by simp)]
    simp
  · rw [he, hm', sizes_append, sizes]; omega

theorem walk_all (l : List UInt8) : (walkL l 0).length = (splitL l 0).1.length := by
  obtain ⟨_, hm⟩ := walk_split l l.length 0 (by omega)
  rw [← hm]; simp

theorem frame_len (x : List UInt8) : x.length + 9 ≤ (frameL x).length := by
  rw [frameL_length, enc_length]; omega

end Go.Proofs.YtjidadolfpjdeaaGreatDoor

namespace Go.Proofs.YtjidadolfpjdeaaGreatDoor
set_option linter.unusedVariables false

/-- Frames in a row. -/
def rowL (ls : List (List UInt8)) : List UInt8 := ls.flatMap frameL
theorem rowL_nil : rowL [] = [] := rfl
theorem rowL_cons (x : List UInt8) (t : List (List UInt8)) : rowL (x :: t) = frameL x ++ rowL t := by simp [rowL]
theorem rowL_append (s t : List (List UInt8)) : rowL (s ++ t) = rowL s ++ rowL t := by simp [rowL]
theorem rowL_length : ∀ ls : List (List UInt8), (rowL ls).length = sizes ls
  | [] => rfl
  | x :: t => by rw [rowL_cons, List.length_append, rowL_length t, sizes]

/-- Insides of at least one byte and at most 200. -/
def Small (ls : List (List UInt8)) : Prop := ∀ x ∈ ls, 1 ≤ x.length ∧ x.length ≤ 200
theorem Small.take {ls : List (List UInt8)} (h : Small ls) (k : Nat) : Small (ls.take k) := fun x hx => h x (List.mem_of_mem_take hx)

theorem frame_small {x : List UInt8} (h : x.length ≤ 200) : frameL x = enc x.length ++ (low 8 (sm x) ++ x) := rfl
theorem enc_one {x : List UInt8} (h : x.length ≤ 200) : enc x.length = [UInt8.ofNat x.length] := enc_small (by omega)
theorem frame_small_length {x : List UInt8} (h : x.length ≤ 200) : (frameL x).length = x.length + 9 := by
  rw [frameL_length, enc_one h]; simp; omega

theorem sizes_take {ls : List (List UInt8)} (hs : Small ls) {m : Nat} (h : m < ls.length) : sizes (ls.take (m + 1)) = sizes (ls.take m) + (ls[m].length + 9) := by
  rw [List.take_succ_eq_append_getElem h, sizes_snoc, frame_small_length (hs _ (List.getElem_mem h)).2]
theorem rowL_take {ls : List (List UInt8)} {m : Nat} (h : m < ls.length) : rowL (ls.take (m + 1)) = rowL (ls.take m) ++ frameL ls[m] := by
  rw [List.take_succ_eq_append_getElem h, rowL_append, rowL_cons, rowL_nil, List.append_nil]
theorem sizes_take_le (ls : List (List UInt8)) (m : Nat) : sizes (ls.take m) ≤ sizes ls := by
  have h := congrArg sizes (List.take_append_drop m ls)
  rw [sizes_append] at h; omega
theorem sizes_take_mono (ls : List (List UInt8)) {m k : Nat} (h : m ≤ k) : sizes (ls.take m) ≤ sizes (ls.take k) := by
  have := sizes_take_le (ls.take k) m
  rwa [List.take_take, Nat.min_eq_left h] at this
theorem sizes_small : ∀ {ls : List (List UInt8)}, Small ls → sizes ls ≤ 209 * ls.length
  | [], _ => Nat.zero_le _
  | x :: t, hs => by
    have h1 := frame_small_length (hs x (by simp)).2
    have h2 := (hs x (by simp)).2
    have h3 := sizes_small (ls := t) (fun y hy => hs y (by simp [hy]))
    rw [sizes, List.length_cons]; omega

/-- All frames in a row are told. -/
theorem split_row : ∀ (ls : List (List UInt8)) (p t : List UInt8), Small ls →
    splitL (p ++ (rowL ls ++ t)) p.length = (ls ++ (splitL (p ++ (rowL ls ++ t)) (p.length + sizes ls)).1, (splitL (p ++ (rowL ls ++ t)) (p.length + sizes ls)).2)
  | [], p, t, _ => by simp [sizes]
  | x :: ls, p, t, hs => by
    obtain ⟨h1, h2⟩ := hs x (by simp)
    have hd : (p ++ (rowL (x :: ls) ++ t)).drop p.length = frameL x ++ (rowL ls ++ t) := by rw [List.drop_left, rowL_cons, List.append_assoc]
    have ht := takeL_frame x (rowL ls ++ t) h1 (by omega)
    have hl := frame_small_length h2
    have hlt : p.length < (p ++ (rowL (x :: ls) ++ t)).length := by rw [rowL_cons]; simp; omega
    rw [splitL_go hlt (by rw [hd, ht]), hd, ht]
    simp only
    have ih := split_row ls (p ++ frameL x) t (fun y hy => hs y (by simp [hy]))
    have e : p ++ frameL x ++ (rowL ls ++ t) = p ++ (rowL (x :: ls) ++ t) := by rw [rowL_cons]; simp
    rw [e, List.length_append] at ih
    rw [ih, sizes, Nat.add_assoc]
    simp

theorem split_then {ls : List (List UInt8)} {t : List UInt8} {e : Int} (hs : Small ls) (ht : t ≠ []) (h : (takeL t).2.2 = e) (he : e ≠ 0) : splitL (rowL ls ++ t) 0 = (ls, sizes ls, e) := by
  have h1 := split_row ls [] t hs
  simp only [List.nil_append, List.length_nil, Nat.zero_add] at h1
  have hd : (rowL ls ++ t).drop (sizes ls) = t := by rw [← rowL_length, List.drop_left]
  have hp : 0 < t.length := by cases t with | nil => exact absurd rfl ht | cons c t => simp
  have h2 := splitL_stop (s := rowL ls ++ t) (a := sizes ls) (by rw [List.length_append, rowL_length]; omega) (by rw [hd, h]; exact he)
  rw [h1, h2, hd, h, List.append_nil]

theorem split_whole {ls : List (List UInt8)} (hs : Small ls) : splitL (rowL ls) 0 = (ls, sizes ls, 0) := by
  have h1 := split_row ls [] [] hs
  simp only [List.nil_append, List.length_nil, Nat.zero_add, List.append_nil] at h1
  rw [h1, splitL_end (by rw [rowL_length]; omega), List.append_nil]

/-- A frame that is cut. -/
theorem takeL_cut {x : List UInt8} (h1 : 1 ≤ x.length) (h2 : x.length ≤ 200) {k : Nat} (h0 : 0 < k) (hk : k < x.length + 9) : (takeL ((frameL x).take k)).2.2 = 3 := by
  obtain ⟨j, rfl⟩ : ∃ j, k = j + 1 := ⟨k - 1, by omega⟩
  have e : (frameL x).take (j + 1) = enc x.length ++ (low 8 (sm x) ++ x).take j := by
    rw [frame_small h2, enc_one h2, List.cons_append, List.nil_append, List.take_succ_cons]; rfl
  rw [e, takeL_short (num_enc _ _ (by omega)) h1 (by omega) (by simp [low_length]; omega)]

/-- A row of frames that is cut. -/
theorem split_cut {ls : List (List UInt8)} {n m : Nat} (hs : Small ls) (hm : m ≤ ls.length) (h1 : sizes (ls.take m) ≤ n) (h2 : m < ls.length → n < sizes (ls.take (m + 1))) (hn : n ≤ sizes ls) :
    splitL ((rowL ls).take n) 0 = (ls.take m, sizes (ls.take m), if sizes (ls.take m) = n then 0 else 3) := by
  by_cases he : sizes (ls.take m) = n
  · rw [if_pos he]
    have e : (rowL ls).take n = rowL (ls.take m) := by
      conv => lhs; rw [← List.take_append_drop m ls, rowL_append]
      rw [← he, ← rowL_length, List.take_left]
    rw [e, split_whole (hs.take m)]
  · rw [if_neg he]
    by_cases hlt : m < ls.length
    · have h3 := h2 hlt
      have h4 := sizes_take hs hlt
      obtain ⟨s1, s2⟩ := hs _ (List.getElem_mem hlt)
      have e : (rowL ls).take n = rowL (ls.take m) ++ (frameL ls[m]).take (n - sizes (ls.take m)) := by
        have hx : rowL ls = rowL (ls.take m) ++ (frameL ls[m] ++ rowL (ls.drop (m + 1))) := by
          conv => lhs; rw [← List.take_append_drop m ls, List.drop_eq_getElem_cons hlt, rowL_append, rowL_cons]
        rw [hx, List.take_append, rowL_length, List.take_of_length_le (by rw [rowL_length]; omega), List.take_append_of_le_length (by rw [frame_small_length s2]; omega)]
      have h5 := takeL_cut s1 s2 (k := n - sizes (ls.take m)) (by omega) (by omega)
      rw [e]
      refine split_then (hs.take m) ?_ h5 (by decide)
      intro h6
      have := congrArg List.length h6
      rw [List.length_take, frame_small_length s2] at this
      simp at this
      omega
    · obtain rfl : m = ls.length := by omega
      rw [List.take_length] at h1 he
      omega

/-- Texts that differ in one byte have two checksums. -/
theorem sum_set_ne {x : List UInt8} {j : Nat} {c : UInt8} (hj : j < x.length) (hc : c ≠ x[j]) : sm (x.set j c) ≠ sm x := by
  have hb : ∃ i, i < 8 ∧ c.toNat.testBit i ≠ x[j].toNat.testBit i := by
    apply Classical.byContradiction
    intro h
    apply hc
    apply UInt8.toNat_inj.1
    apply Nat.eq_of_testBit_eq
    intro i
    by_cases hi : i < 8
    · exact Classical.byContradiction fun h2 => h ⟨i, hi, h2⟩
    · have e1 := Nat.testBit_lt_two_pow (i := i) (x := c.toNat) (Nat.lt_of_lt_of_le c.toNat_lt (Nat.pow_le_pow_right (by decide) (by omega)))
      have e2 := Nat.testBit_lt_two_pow (i := i) (x := x[j].toNat) (Nat.lt_of_lt_of_le x[j].toNat_lt (Nat.pow_le_pow_right (by decide) (by omega)))
      rw [e1, e2]
  obtain ⟨i, hi, hne⟩ := hb
  have hq : ∀ q, q / 8 ≠ j → Crc.bitOf (x.set j c) q = Crc.bitOf x q := fun q h => by
    unfold Crc.bitOf
    rw [List.getD_eq_getElem?_getD, List.getD_eq_getElem?_getD, List.getElem?_set_ne (by omega)]
  have h := Crc.sum_ne (x.set j c) x (by simp) (8 * j) (8 * j + i) (fun q h => hq q (by omega)) (fun q h => hq q (by omega)) (by simp; omega) (by
    unfold Crc.bitOf
    rw [show (8 * j + i) / 8 = j from by omega, show (8 * j + i) % 8 = i from by omega, List.getD_eq_getElem?_getD, List.getD_eq_getElem?_getD, List.getElem?_set_self hj, List.getElem?_eq_getElem hj]
    exact hne)
  intro he
  exact h (BitVec.eq_of_toNat_eq he)

/-- A frame in which a byte of the checksum or of the inside is turned. -/
theorem takeL_flip {x t : List UInt8} (h1 : 1 ≤ x.length) (h2 : x.length ≤ 200) {q : Nat} (hq : q < 8 + x.length) {c : UInt8} (hc : (low 8 (sm x) ++ x)[q]? ≠ some c) : (takeL ((frameL x).set (q + 1) c ++ t)).2.2 = 5 := by
  have hll := low_length 8 (sm x)
  have hln : ln (low 8 (sm x)) = sm x := ln_low 8 _ (by have := sm_lt x; simpa using this)
  have e : (frameL x).set (q + 1) c ++ t = enc x.length ++ ((low 8 (sm x) ++ x).set q c ++ t) := by
    rw [frame_small h2, enc_one h2]; simp
  have hYl : ((low 8 (sm x) ++ x).set q c).length = 8 + x.length := by simp [hll]
  have t8 : ((low 8 (sm x) ++ x).set q c ++ t).take 8 = ((low 8 (sm x) ++ x).set q c).take 8 := List.take_append_of_le_length (by omega)
  have d8 : (((low 8 (sm x) ++ x).set q c ++ t).drop 8).take x.length = ((low 8 (sm x) ++ x).set q c).drop 8 := by
    rw [List.drop_append_of_le_length (by omega), List.take_append_of_le_length (by simp [hll]), List.take_of_length_le (by simp [hll])]
  rw [e, takeL_sum (num_enc _ _ (by omega)) h1 (by omega) (by rw [List.length_append]; omega) ?_]
  rw [t8, d8]
  by_cases h8 : q < 8
  · have hne : (low 8 (sm x))[q]? ≠ some c := by rwa [List.getElem?_append_left (by omega)] at hc
    have a1 : ((low 8 (sm x) ++ x).set q c).take 8 = (low 8 (sm x)).set q c := by
      rw [List.set_append_left _ _ (by omega), List.take_append_of_le_length (by simp [hll]), List.take_of_length_le (by simp [hll])]
    have a2 : ((low 8 (sm x) ++ x).set q c).drop 8 = x := by
      rw [List.set_append_left _ _ (by omega), List.drop_append_of_le_length (by simp [hll]), List.drop_of_length_le (by simp [hll]), List.nil_append]
    rw [a1, a2]
    intro h
    have := (low8 ((low 8 (sm x)).set q c) (sm x) (by simp [hll]) (sm_lt x)).2 h
    apply hne
    rw [← this, List.getElem?_set_self (by omega)]
  · have hj : q - 8 < x.length := by omega
    have hne : c ≠ x[q - 8] := by
      rw [List.getElem?_append_right (by omega), hll, List.getElem?_eq_getElem hj] at hc
      intro h; exact hc (by rw [h])
    have a1 : ((low 8 (sm x) ++ x).set q c).take 8 = low 8 (sm x) := by
      rw [List.set_append_right _ _ (by omega), List.take_append_of_le_length (by omega), List.take_of_length_le (by omega)]
    have a2 : ((low 8 (sm x) ++ x).set q c).drop 8 = x.set (q - 8) c := by
      rw [List.set_append_right _ _ (by omega), hll, List.drop_append_of_le_length (by omega), List.drop_of_length_le (by omega), List.nil_append]
    rw [a1, a2, hln]
    exact fun h => sum_set_ne hj hne h.symm

/-- A row of frames in which a byte of a checksum or of an inside is turned. -/
theorem split_flip {ls : List (List UInt8)} {i q : Nat} {c : UInt8} (hs : Small ls) (hi : i < ls.length) (hq : q < 8 + ls[i].length) (hc : (rowL ls)[sizes (ls.take i) + (q + 1)]? ≠ some c) :
    splitL ((rowL ls).set (sizes (ls.take i) + (q + 1)) c) 0 = (ls.take i, sizes (ls.take i), 5) := by
  obtain ⟨s1, s2⟩ := hs _ (List.getElem_mem hi)
  have hx : rowL ls = rowL (ls.take i) ++ (frameL ls[i] ++ rowL (ls.drop (i + 1))) := by
    conv => lhs; rw [← List.take_append_drop i ls, List.drop_eq_getElem_cons hi, rowL_append, rowL_cons]
  have hfl := frame_small_length s2
  rw [hx, List.getElem?_append_right (by rw [rowL_length]; omega), rowL_length, Nat.add_sub_cancel_left, List.getElem?_append_left (by omega), frame_small s2, enc_one s2, List.cons_append, List.nil_append, List.getElem?_cons_succ] at hc
  have hcut := takeL_flip (t := rowL (ls.drop (i + 1))) s1 s2 hq hc
  rw [hx, List.set_append_right _ _ (by rw [rowL_length]; omega), rowL_length, Nat.add_sub_cancel_left, List.set_append_left _ _ (by omega)]
  refine split_then (hs.take i) ?_ hcut (by decide)
  intro h6
  have := congrArg List.length h6
  rw [List.length_append, List.length_set, hfl] at this
  simp at this

end Go.Proofs.YtjidadolfpjdeaaGreatDoor

namespace Go.Proofs.YtjidadolfpjdeaaGreatDoor
set_option linter.unusedVariables false

/-- Insides that frames may have. -/
def Fit (ls : List (List UInt8)) : Prop := ∀ x ∈ ls, 1 ≤ x.length ∧ x.length ≤ 65536
theorem Fit.nil : Fit [] := fun x hx => by cases hx
theorem Fit.take {ls : List (List UInt8)} (h : Fit ls) (k : Nat) : Fit (ls.take k) := fun x hx => h x (List.mem_of_mem_take hx)
theorem Fit.append {s t : List (List UInt8)} (h : Fit s) (k : Fit t) : Fit (s ++ t) := fun x hx => (List.mem_append.1 hx).elim (h x) (k x)
theorem Fit.left {s t : List (List UInt8)} (h : Fit (s ++ t)) : Fit s := fun x hx => h x (List.mem_append_left _ hx)
theorem Fit.right {s t : List (List UInt8)} (h : Fit (s ++ t)) : Fit t := fun x hx => h x (List.mem_append_right _ hx)

theorem frame_pos (x : List UInt8) : 9 ≤ (frameL x).length := by have := frame_len x; omega

theorem fit_row : ∀ (ls : List (List UInt8)) (p t : List UInt8), Fit ls →
    splitL (p ++ (rowL ls ++ t)) p.length = (ls ++ (splitL (p ++ (rowL ls ++ t)) (p.length + sizes ls)).1, (splitL (p ++ (rowL ls ++ t)) (p.length + sizes ls)).2)
  | [], p, t, _ => by simp [sizes]
  | x :: ls, p, t, hs => by
    obtain ⟨h1, h2⟩ := hs x (by simp)
    have hd : (p ++ (rowL (x :: ls) ++ t)).drop p.length = frameL x ++ (rowL ls ++ t) := by rw [List.drop_left, rowL_cons, List.append_assoc]
    have ht := takeL_frame x (rowL ls ++ t) h1 h2
    have hl := frame_pos x
    have hlt : p.length < (p ++ (rowL (x :: ls) ++ t)).length := by rw [rowL_cons]; simp; omega
    rw [splitL_go hlt (by rw [hd, ht]), hd, ht]
    simp only
    have ih := fit_row ls (p ++ frameL x) t (fun y hy => hs y (by simp [hy]))
    have e : p ++ frameL x ++ (rowL ls ++ t) = p ++ (rowL (x :: ls) ++ t) := by rw [rowL_cons]; simp
    rw [e, List.length_append] at ih
    rw [ih, sizes, Nat.add_assoc]
    simp

theorem fit_then {ls : List (List UInt8)} {t : List UInt8} (hs : Fit ls) (ht : t ≠ []) (he : (takeL t).2.2 ≠ 0) : splitL (rowL ls ++ t) 0 = (ls, sizes ls, (takeL t).2.2) := by
  have h1 := fit_row ls [] t hs
  simp only [List.nil_append, List.length_nil, Nat.zero_add] at h1
  have hd : (rowL ls ++ t).drop (sizes ls) = t := by rw [← rowL_length, List.drop_left]
  have hp : 0 < t.length := by cases t with | nil => exact absurd rfl ht | cons c t => simp
  have h2 := splitL_stop (s := rowL ls ++ t) (a := sizes ls) (by rw [List.length_append, rowL_length]; omega) (by rw [hd]; exact he)
  rw [h1, h2, hd, List.append_nil]

theorem fit_whole {ls : List (List UInt8)} (hs : Fit ls) : splitL (rowL ls) 0 = (ls, sizes ls, 0) := by
  have h1 := fit_row ls [] [] hs
  simp only [List.nil_append, List.length_nil, Nat.zero_add, List.append_nil] at h1
  rw [h1, splitL_end (by rw [rowL_length]; omega), List.append_nil]

/-- The beginning of a frame is no frame. -/
theorem frame_part {x : List UInt8} (h1 : 1 ≤ x.length) (h2 : x.length ≤ 65536) {k : Nat} (hk : k < (frameL x).length) : (takeL ((frameL x).take k)).2.2 ≠ 0 := by
  intro h0
  obtain ⟨ins, n, e, h⟩ : ∃ ins n e, takeL ((frameL x).take k) = (ins, n, e) := ⟨_, _, _, rfl⟩
  rw [h] at h0
  obtain rfl : e = 0 := h0
  obtain ⟨i1, i2, i3, i4⟩ := takeL_stands h
  have hx : frameL x = frameL ins ++ (((frameL x).take k).drop n ++ (frameL x).drop k) := by
    rw [← List.append_assoc, ← i4, List.take_append_drop]
  have a1 := takeL_frame x [] h1 h2
  have a2 := takeL_frame ins (((frameL x).take k).drop n ++ (frameL x).drop k) i1 i2
  rw [List.append_nil] at a1
  rw [← hx, a1] at a2
  have e1 : x = ins := by simpa using congrArg Prod.fst a2
  have := congrArg List.length i4
  rw [List.length_append, ← e1, List.length_take] at this
  omega

theorem fit_take_row {ls : List (List UInt8)} {m : Nat} (h : m < ls.length) : rowL (ls.take (m + 1)) = rowL (ls.take m) ++ frameL ls[m] := rowL_take h
theorem fit_take_sizes {ls : List (List UInt8)} {m : Nat} (h : m < ls.length) : sizes (ls.take (m + 1)) = sizes (ls.take m) + (frameL ls[m]).length := by
  rw [List.take_succ_eq_append_getElem h, sizes_snoc]

/-- How many frames are whole within the first n bytes. -/
theorem cut_place : ∀ (ls : List (List UInt8)) (n : Nat), n ≤ sizes ls → ∃ m, m ≤ ls.length ∧ sizes (ls.take m) ≤ n ∧ (m < ls.length → n < sizes (ls.take (m + 1)))
  | [], n, h => ⟨0, Nat.le_refl _, by simp [sizes], fun h => absurd h (by simp)⟩
  | x :: ls, n, h => by
    by_cases hx : n < (frameL x).length
    · exact ⟨0, Nat.zero_le _, by simp [sizes], fun _ => by simpa [sizes] using hx⟩
    · obtain ⟨m, h1, h2, h3⟩ := cut_place ls (n - (frameL x).length) (by rw [sizes] at h; omega)
      refine ⟨m + 1, by simp; omega, by rw [List.take_succ_cons, sizes]; omega, fun hm => ?_⟩
      have := h3 (by simpa using hm)
      rw [List.take_succ_cons, sizes]
      omega

/-- A row of frames that is cut. -/
theorem fit_cut {ls : List (List UInt8)} {n m : Nat} (hs : Fit ls) (hm : m ≤ ls.length) (h1 : sizes (ls.take m) ≤ n) (h2 : m < ls.length → n < sizes (ls.take (m + 1))) (hn : n ≤ sizes ls) :
    ∃ e, splitL ((rowL ls).take n) 0 = (ls.take m, sizes (ls.take m), e) ∧ (e = 0 ↔ sizes (ls.take m) = n) ∧ (rowL ls).take (sizes (ls.take m)) = rowL (ls.take m) := by
  have hpre : (rowL ls).take (sizes (ls.take m)) = rowL (ls.take m) := by
    conv => lhs; rw [← List.take_append_drop m ls, rowL_append]
    rw [show sizes (List.take m (List.take m ls ++ List.drop m ls)) = (rowL (ls.take m)).length from by rw [List.take_append_drop, rowL_length], List.take_left]
  by_cases he : sizes (ls.take m) = n
  · refine ⟨0, ?_, by simp [he], hpre⟩
    rw [← he, hpre, fit_whole (hs.take m)]
  · by_cases hlt : m < ls.length
    · have h3 := h2 hlt
      have h4 := fit_take_sizes hlt
      obtain ⟨s1, s2⟩ := hs _ (List.getElem_mem hlt)
      have e : (rowL ls).take n = rowL (ls.take m) ++ (frameL ls[m]).take (n - sizes (ls.take m)) := by
        have hx : rowL ls = rowL (ls.take m) ++ (frameL ls[m] ++ rowL (ls.drop (m + 1))) := by
          conv => lhs; rw [← List.take_append_drop m ls, List.drop_eq_getElem_cons hlt, rowL_append, rowL_cons]
        rw [hx, List.take_append, rowL_length, List.take_of_length_le (by rw [rowL_length]; omega), List.take_append_of_le_length (by omega)]
      have h5 := frame_part s1 s2 (k := n - sizes (ls.take m)) (by omega)
      have h7 : (frameL ls[m]).take (n - sizes (ls.take m)) ≠ [] := by
        intro h6
        have := congrArg List.length h6
        rw [List.length_take] at this
        simp only [List.length_nil] at this
        omega
      exact ⟨_, by rw [e]; exact fit_then (hs.take m) h7 h5, ⟨fun h => absurd h h5, fun h => absurd h he⟩, hpre⟩
    · obtain rfl : m = ls.length := by omega
      rw [List.take_length] at h1 he
      omega

end Go.Proofs.YtjidadolfpjdeaaGreatDoor

namespace Go.Proofs.YtjidadolfpjdeaaGreatDoor
set_option linter.unusedVariables false

/-- How many of a file's bytes that are not synced stay. -/
def stayF (k : Nat) (f : PF) : Nat := min k (f.bytes.length - f.synced)
def cutF (n : Nat) (f : PF) : PF := { f with bytes := f.bytes.take n }
def crL : Nat → List PF → List PF
  | _, [] => []
  | k, f :: r => cutF (f.synced + stayF k f) f :: crL (k - stayF k f) r
def leftN : Nat → List PF → Nat
  | k, [] => k
  | k, f :: r => leftN (k - stayF k f) r

theorem crL_some (k : Nat) (l : List PF) : crashF (some k) l = crL k l := by
  induction l generalizing k with
  | nil => rfl
  | cons f r ih => unfold crashF crL; rw [ih]; rfl
theorem crL_snoc (f : PF) : ∀ (l : List PF) (k : Nat), crL k (l ++ [f]) = crL k l ++ [cutF (f.synced + stayF (leftN k l) f) f]
  | [], k => rfl
  | g :: l, k => by
    rw [List.cons_append, crL, crL_snoc f l, crL, leftN, List.cons_append]
theorem leftN_snoc (f : PF) : ∀ (l : List PF) (k : Nat), leftN k (l ++ [f]) = leftN k l - stayF (leftN k l) f
  | [], k => rfl
  | g :: l, k => by
    rw [List.cons_append, leftN, leftN_snoc f l, leftN]
theorem leftN_le : ∀ (l : List PF) (k : Nat), leftN k l ≤ k
  | [], k => Nat.le_refl _
  | g :: l, k => Nat.le_trans (leftN_le l _) (Nat.sub_le _ _)
theorem totF_append (l m : List PF) : totF (l ++ m) = totF l + totF m := by simp [totF]
theorem totF_one (f : PF) : totF [f] = f.bytes.length := by simp [totF]
theorem totF_cons (f : PF) (l : List PF) : totF (f :: l) = f.bytes.length + totF l := by simp [totF]
theorem cutF_length {f : PF} (hs : f.synced ≤ f.bytes.length) (k : Nat) : (cutF (f.synced + stayF k f) f).bytes.length = f.synced + stayF k f := by
  unfold cutF stayF
  simp
  omega
theorem crL_le : ∀ (l : List PF) (k : Nat), totF (crL k l) ≤ totF l
  | [], k => Nat.le_refl _
  | f :: r, k => by
    have := crL_le r (k - stayF k f)
    rw [crL, totF_cons, totF_cons]
    have h2 : (cutF (f.synced + stayF k f) f).bytes.length ≤ f.bytes.length := by unfold cutF; simp; omega
    omega
/-- Room enough: all stays. -/
theorem crL_all : ∀ (l : List PF) (k : Nat), (∀ f ∈ l, f.synced ≤ f.bytes.length) → totF l ≤ k → crL k l = l
  | [], k, _, _ => rfl
  | f :: r, k, hs, hk => by
    rw [totF_cons] at hk
    have h1 := hs f (List.mem_cons_self ..)
    have h2 : stayF k f = f.bytes.length - f.synced := by unfold stayF; omega
    rw [crL, crL_all r _ (fun g hg => hs g (List.mem_cons_of_mem _ hg)) (by rw [h2]; omega), h2]
    congr 1
    unfold cutF
    rw [List.take_of_length_le (by omega)]

/-- How many stay, as the call counts. -/
def keepN (keep : Int) : Nat := if keep < 0 then 9223372036854775807 else keep.toNat
theorem crash_keep (l : List PF) (keep : Int) (hs : ∀ f ∈ l, f.synced ≤ f.bytes.length) (ht : totF l ≤ 9223372036854775807) : crashF (if keep < 0 then none else some keep.toNat) l = crL (keepN keep) l := by
  unfold keepN
  by_cases h : keep < 0
  · rw [if_pos h, if_pos h, crL_all l _ hs ht]
    cases l <;> rfl
  · rw [if_neg h, if_neg h, crL_some]

end Go.Proofs.YtjidadolfpjdeaaGreatDoor

namespace Go.Proofs.YtjidadolfpjdeaaGreatDoor
set_option linter.unusedVariables false

abbrev Rec := List UInt8

/-- The segments of a disk, each with its number. -/
def segsL (l : List PF) : List (Nat × PF) := l.filterMap fun f => if 0 < numberL f.name then some (numberL f.name, f) else none
def goodSeg (f : PF) : Bool := (splitL (f.bytes.take f.synced) 0).2.2 = 0
def openGo : Option Nat → List (Nat × PF) → Option (List Rec)
  | _, [] => some []
  | prev, [(n, f)] => if goodSeg f = true ∧ (∀ m, prev = some m → n = m + 1) then some (splitL f.bytes 0).1 else none
  | prev, (n, f) :: s :: r => if goodSeg f = true ∧ (∀ m, prev = some m → n = m + 1) ∧ (splitL f.bytes 0).2.2 = 0 ∧ f.synced = f.bytes.length then (openGo (some n) (s :: r)).map ((splitL f.bytes 0).1 ++ ·) else none
def openL (d : PD) : PD × List Rec × Int :=
  if d.dead then (d, [], 8) else match openGo none (segsL d.files) with
    | none => (d, [], 10)
    | some recs => match (segsL d.files).getLast? with
      | none => (d, recs, 0)
      | some (n, f) => (((d.cut f.name (splitL f.bytes 0).2.1).1.sync f.name).1, recs, 0)
/-- Frames written: behind the last segment, or in the next one. -/
def putL (d : PD) (frames : List UInt8) (fresh : Bool) : PD × Int :=
  match (segsL d.files).getLast? with
  | none => d.append (nameL 1) frames
  | some (n, f) => if fresh = true ∨ 1024 ≤ f.bytes.length then (if n = 99999999 then (d, 7) else if (d.sync f.name).2 ≠ 0 then d.sync f.name else (d.sync f.name).1.append (nameL (n + 1)) frames)
    else d.append f.name frames
def addL (d : PD) (r : Rec) : PD × Int := if r.length < 1 ∨ 65536 < r.length then (d, 6) else putL d (frameL r) false
def syncL (d : PD) : PD × Int := match (segsL d.files).getLast? with
  | none => (d, 0)
  | some (n, f) => d.sync f.name
def removeAll : PD → List (Nat × PF) → PD × Int
  | d, [] => (d, 0)
  | d, (n, f) :: r => if (d.remove f.name).2 ≠ 0 then d.remove f.name else removeAll (d.remove f.name).1 r
def renewL (d : PD) (rs : List Rec) : PD × Int :=
  if rs.any (fun r => r.length < 1 ∨ 65536 < r.length) then (d, 6)
  else if (putL d (rowL rs) true).2 ≠ 0 then putL d (rowL rs) true
  else removeAll (syncL (putL d (rowL rs) true).1).1 (segsL (syncL (putL d (rowL rs) true).1).1.files).dropLast

/-! ### files that are segments -/
/-- Segments that are closed: whole frames, all synced; n: the first one's number. -/
def segFiles : Nat → List (List Rec) → List PF
  | _, [] => []
  | n, s :: r => { name := nameL n, bytes := rowL s, synced := sizes s } :: segFiles (n + 1) r
theorem segFiles_length : ∀ (n : Nat) (cl : List (List Rec)), (segFiles n cl).length = cl.length
  | _, [] => rfl
  | n, s :: r => by rw [segFiles, List.length_cons, segFiles_length (n + 1) r, List.length_cons]
theorem segFiles_mem : ∀ (n : Nat) (cl : List (List Rec)) (f : PF), f ∈ segFiles n cl → ∃ k s, n ≤ k ∧ k < n + cl.length ∧ s ∈ cl ∧ f = { name := nameL k, bytes := rowL s, synced := sizes s }
  | _, [], f, h => by cases h
  | n, s :: r, f, h => by
    rw [segFiles] at h
    rcases List.mem_cons.1 h with rfl | h
    · exact ⟨n, s, Nat.le_refl _, by simp, by simp, rfl⟩
    · obtain ⟨k, t, h1, h2, h3, h4⟩ := segFiles_mem (n + 1) r f h
      exact ⟨k, t, by omega, by simp; omega, by simp [h3], h4⟩
theorem segFiles_snoc : ∀ (n : Nat) (cl : List (List Rec)) (s : List Rec), segFiles n (cl ++ [s]) = segFiles n cl ++ [{ name := nameL (n + cl.length), bytes := rowL s, synced := sizes s }]
  | n, [], s => rfl
  | n, t :: r, s => by
    rw [List.cons_append, segFiles, segFiles_snoc (n + 1) r s, segFiles, List.cons_append, List.length_cons]
    rw [show n + 1 + r.length = n + (r.length + 1) from by omega]
theorem segFiles_tot : ∀ (n : Nat) (cl : List (List Rec)), totF (segFiles n cl) = sizes cl.flatten
  | _, [] => rfl
  | n, s :: r => by rw [segFiles, totF_cons, segFiles_tot (n + 1) r, List.flatten_cons, sizes_append, rowL_length]

theorem segsL_append (a b : List PF) : segsL (a ++ b) = segsL a ++ segsL b := by unfold segsL; rw [List.filterMap_append]
theorem segsL_one {k : Nat} (h : 0 < k) (h2 : k ≤ 99999999) (bs : List UInt8) (sy : Nat) : segsL [⟨nameL k, bs, sy⟩] = [(k, ⟨nameL k, bs, sy⟩)] := by
  unfold segsL
  simp only [List.filterMap_cons, List.filterMap_nil, number_name h2, if_pos h]
theorem segsL_files : ∀ (n : Nat) (cl : List (List Rec)), 0 < n → n + cl.length ≤ 100000000 → ∀ x ∈ segsL (segFiles n cl), x.2 ∈ segFiles n cl
  | n, cl, _, _, x, hx => by
    unfold segsL at hx
    obtain ⟨f, hf, h⟩ := List.mem_filterMap.1 hx
    by_cases h0 : 0 < numberL f.name
    · rw [if_pos h0] at h; cases h; exact hf
    · rw [if_neg h0] at h; cases h

/-- The names ahead are others, and lesser. -/
theorem seg_name_lt {n : Nat} {cl : List (List Rec)} (hm : n + cl.length ≤ 99999999) {f : PF} (hf : f ∈ segFiles n cl) : f.name < nameL (n + cl.length) := by
  obtain ⟨k, s, h1, h2, _, rfl⟩ := segFiles_mem n cl f hf
  exact name_lt h2 hm
theorem seg_name_ne {n : Nat} {cl : List (List Rec)} (hm : n + cl.length ≤ 99999999) {f : PF} (hf : f ∈ segFiles n cl) : f.name ≠ nameL (n + cl.length) := fun e => nm_lt_irrefl _ (e ▸ seg_name_lt hm hf)

theorem find_last {n : Nat} {cl : List (List Rec)} (hm : n + cl.length ≤ 99999999) (f : PF) (hf : f.name = nameL (n + cl.length)) : (segFiles n cl ++ [f]).find? (fun g => g.name = nameL (n + cl.length)) = some f := by
  rw [List.find?_append]
  have : (segFiles n cl).find? (fun g => g.name = nameL (n + cl.length)) = none := List.find?_eq_none.2 (fun g hg => by simpa using seg_name_ne hm hg)
  rw [this]
  simp [hf]
theorem find_next {n : Nat} {cl : List (List Rec)} (hm : n + cl.length ≤ 99999999) : (segFiles n cl).find? (fun g => g.name = nameL (n + cl.length)) = none := List.find?_eq_none.2 (fun g hg => by simpa using seg_name_ne hm hg)
theorem set_last {n : Nat} {cl : List (List Rec)} (hm : n + cl.length ≤ 99999999) (f : PF) (hf : f.name = nameL (n + cl.length)) (g : PF → PF) : setF (nameL (n + cl.length)) g (segFiles n cl ++ [f]) = segFiles n cl ++ [g f] := by
  unfold setF
  rw [List.map_append, List.map_cons, List.map_nil, if_pos hf]
  congr 1
  conv => rhs; rw [← List.map_id (segFiles n cl)]
  exact List.map_congr_left fun x hx => if_neg (seg_name_ne hm hx)
theorem ins_end : ∀ (l : List PF) (f : PF), (∀ g ∈ l, g.name < f.name) → insF f l = l ++ [f]
  | [], f, _ => rfl
  | g :: r, f, h => by
    have hg := h g (by simp)
    rw [insF, if_neg (fun h2 => nm_lt_irrefl _ (List.lt_trans hg h2)), ins_end r f (fun x hx => h x (by simp [hx])), List.cons_append]

/-! ### what Open tells -/
theorem open_closed : ∀ (n : Nat) (cl : List (List Rec)) (prev : Option Nat) (f : PF), (∀ s ∈ cl, Fit s) → 0 < n → n + cl.length ≤ 99999999 → (∀ m, prev = some m → n = m + 1) → goodSeg f = true →
    openGo prev (segsL (segFiles n cl) ++ [(n + cl.length, f)]) = some (cl.flatten ++ (splitL f.bytes 0).1)
  | n, [], prev, f, _, _, _, hp, hg => by
    show openGo prev [(n, f)] = _
    rw [openGo, if_pos ⟨hg, hp⟩]
    rfl
  | n, s :: r, prev, f, hs, h0, hm, hp, hg => by
    have hf := hs s (by simp)
    have hw := fit_whole hf
    have e1 : segsL (segFiles n (s :: r)) = (n, { name := nameL n, bytes := rowL s, synced := sizes s }) :: segsL (segFiles (n + 1) r) := by
      rw [segFiles, ← List.singleton_append, segsL_append, segsL_one h0 (by simp at hm; omega)]
      rfl
    have hgs : goodSeg { name := nameL n, bytes := rowL s, synced := sizes s } = true := by
      unfold goodSeg
      simp only [decide_eq_true_eq]
      rw [List.take_of_length_le (by rw [rowL_length]; omega), hw]
    have ih := open_closed (n + 1) r (some n) f (fun x hx => hs x (by simp [hx])) (by omega) (by simp at hm; omega) (fun m hm => by cases hm; rfl) hg
    rw [e1, List.cons_append]
    rw [show n + (s :: r).length = n + 1 + r.length from by simp; omega]
    obtain ⟨y, ys, hy⟩ : ∃ y ys, segsL (segFiles (n + 1) r) ++ [(n + 1 + r.length, f)] = y :: ys := by
      cases h : segsL (segFiles (n + 1) r) with
      | nil => exact ⟨_, _, rfl⟩
      | cons a b => exact ⟨_, _, rfl⟩
    rw [hy] at ih ⊢
    rw [openGo, if_pos ⟨hgs, hp, by rw [hw], by rw [rowL_length]⟩, ih]
    simp only [Option.map_some]
    rw [hw, List.flatten_cons, List.append_assoc]

theorem last_seg {n : Nat} {cl : List (List Rec)} (h0 : 0 < n) (hm : n + cl.length ≤ 99999999) (bs : List UInt8) (sy : Nat) :
    segsL (segFiles n cl ++ [⟨nameL (n + cl.length), bs, sy⟩]) = segsL (segFiles n cl) ++ [(n + cl.length, ⟨nameL (n + cl.length), bs, sy⟩)] := by
  rw [segsL_append, segsL_one (by omega) hm]

end Go.Proofs.YtjidadolfpjdeaaGreatDoor

namespace Go.Proofs.YtjidadolfpjdeaaGreatDoor
set_option linter.unusedVariables false

/-! ### numbers of names -/
/-- The numbers of the names that are segments'. -/
def segN (l : List (List UInt8)) : List Nat := l.filterMap fun nm => if 0 < numberL nm then some (numberL nm) else none
theorem segN_nil : segN [] = [] := rfl
theorem segN_cons (nm : List UInt8) (l : List (List UInt8)) : segN (nm :: l) = (if 0 < numberL nm then [numberL nm] else []) ++ segN l := by
  unfold segN
  rw [List.filterMap_cons]
  by_cases h : 0 < numberL nm
  · simp [h]
  · simp [h]
theorem segsL_cons (f : PF) (l : List PF) : segsL (f :: l) = (if 0 < numberL f.name then [(numberL f.name, f)] else []) ++ segsL l := by
  unfold segsL
  rw [List.filterMap_cons]
  by_cases h : 0 < numberL f.name
  · simp [h]
  · simp [h]
theorem segsL_N : ∀ l : List PF, (segsL l).map (·.1) = segN (l.map PF.name)
  | [] => rfl
  | f :: l => by
    rw [segsL_cons, List.map_append, segsL_N l, List.map_cons, segN_cons]
    by_cases h : 0 < numberL f.name
    · simp [h]
    · simp [h]
theorem segsL_mem {l : List PF} {n : Nat} {f : PF} (h : (n, f) ∈ segsL l) : f ∈ l ∧ 0 < n ∧ numberL f.name = n ∧ f.name = nameL n := by
  unfold segsL at h
  obtain ⟨g, hg, h⟩ := List.mem_filterMap.1 h
  by_cases h0 : 0 < numberL g.name
  · rw [if_pos h0] at h
    cases h
    exact ⟨hg, h0, rfl, name_number h0⟩
  · rw [if_neg h0] at h; cases h
theorem segN_mem {l : List (List UInt8)} {nm : List UInt8} (h : nm ∈ l) (h0 : 0 < numberL nm) : numberL nm ∈ segN l :=
  List.mem_filterMap.2 ⟨nm, h, if_pos h0⟩

/-- How the log counts its segments. -/
structure LogAt (d : PD) (last count : Nat) : Prop where
  nums : segN (d.files.map PF.name) = List.range' (last + 1 - count) count
  le : count ≤ last
  max : last ≤ 99999999
  zero : count = 0 → last = 0

def Srt (d : PD) : Prop := sortedN (d.files.map PF.name)

theorem Srt.find {d : PD} (h : Srt d) {f : PF} (hf : f ∈ d.files) : d.find f.name = some f := by
  unfold PD.find
  unfold Srt at h
  generalize d.files = l at h hf
  induction l with
  | nil => cases hf
  | cons g r ih =>
    rw [List.map_cons, sortedN, List.pairwise_cons] at h
    rw [List.find?_cons]
    rcases List.mem_cons.1 hf with rfl | hf'
    · simp
    · have : g.name ≠ f.name := fun e => nm_lt_irrefl _ (e ▸ h.1 f.name (List.mem_map_of_mem hf'))
      rw [show (decide (g.name = f.name)) = false from by simp [this]]
      exact ih h.2 hf'

theorem LogAt.len {d : PD} {last count : Nat} (h : LogAt d last count) : (segsL d.files).length = count := by
  rw [← List.length_map (f := (·.1)), segsL_N, h.nums, List.length_range']
theorem LogAt.none {d : PD} {last : Nat} (h : LogAt d last 0) : segsL d.files = [] := List.eq_nil_of_length_eq_zero h.len
/-- The last segment. -/
theorem LogAt.last {d : PD} {last count : Nat} (h : LogAt d last count) (hs : Srt d) (h0 : 0 < count) :
    ∃ f, (segsL d.files).getLast? = some (last, f) ∧ f ∈ d.files ∧ f.name = nameL last ∧ d.find (nameL last) = some f := by
  have hl := h.len
  have hle := h.le
  have hne : segsL d.files ≠ [] := fun e => by rw [e] at hl; simp at hl; omega
  have hg := List.getLast?_eq_some_getLast hne
  rcases hx : (segsL d.files).getLast hne with ⟨n, f⟩
  rw [hx] at hg
  have hn : n = last := by
    have h1 : ((segsL d.files).map (·.1)).getLast? = some n := by rw [List.getLast?_map, hg]; rfl
    rw [segsL_N, h.nums, List.getLast?_range'] at h1
    rw [if_neg (by omega)] at h1
    simp at h1
    omega
  subst hn
  obtain ⟨m1, m2, m3, m4⟩ := segsL_mem (List.mem_of_getLast? hg)
  exact ⟨f, hg, m1, m4, m4 ▸ hs.find m1⟩
/-- Of any place. -/
theorem LogAt.first {d : PD} {last count : Nat} (h : LogAt d last count) (h0 : 0 < count) :
    ∃ f r, segsL d.files = (last + 1 - count, f) :: r ∧ f ∈ d.files ∧ f.name = nameL (last + 1 - count) := by
  have hl := h.len
  have hn := h.nums
  rw [← segsL_N] at hn
  obtain ⟨c, rfl⟩ : ∃ c, count = c + 1 := ⟨count - 1, by omega⟩
  cases hs : segsL d.files with
  | nil => rw [hs] at hl; simp at hl
  | cons x r =>
    rw [hs, List.map_cons, List.range'_succ] at hn
    obtain ⟨n, f⟩ := x
    have e : n = last + 1 - (c + 1) := (List.cons.inj hn).1
    subst e
    obtain ⟨m1, m2, m3, m4⟩ := segsL_mem (l := d.files) (n := last + 1 - (c + 1)) (f := f) (by rw [hs]; simp)
    exact ⟨f, r, rfl, m1, m4⟩

/-! ### behind the disk's calls -/
theorem setF_names (nm : List UInt8) (g : PF → PF) (hg : ∀ f, (g f).name = f.name) (l : List PF) : (setF nm g l).map PF.name = l.map PF.name := by
  unfold setF
  rw [List.map_map]
  refine List.map_congr_left fun f _ => ?_
  simp only [Function.comp]
  split
  · exact hg f
  · rfl
theorem LogAt.same {d d' : PD} {last count : Nat} (h : LogAt d last count) (he : d'.files.map PF.name = d.files.map PF.name) : LogAt d' last count := ⟨by rw [he]; exact h.nums, h.le, h.max, h.zero⟩
theorem Srt.same {d d' : PD} (h : Srt d) (he : d'.files.map PF.name = d.files.map PF.name) : Srt d' := by unfold Srt; rw [he]; exact h

/-- Sync, where there is power, and the file. -/
theorem sync_found {d : PD} {nm : List UInt8} {f : PF} (hd : d.dead = false) (hf : d.find nm = some f) :
    d.sync nm = ({ d with files := setF nm (fun f => { f with synced := f.bytes.length }) d.files }, 0) := by
  unfold PD.sync PD.within
  rw [if_neg (by simp [hd]), hf]
theorem syncL_at {d : PD} {last count : Nat} (h : LogAt d last count) (hs : Srt d) (hd : d.dead = false) :
    (syncL d).2 = 0 ∧ (syncL d).1.dead = false ∧ (syncL d).1.files.map PF.name = d.files.map PF.name ∧ (syncL d).1.room = d.room ∧ (syncL d).1.fuse = d.fuse ∧ totF (syncL d).1.files = totF d.files ∧ (syncL d).1.files.length = d.files.length ∧
    syncL d = if count = 0 then (d, 0) else d.sync (nameL last) := by
  by_cases h0 : count = 0
  · subst h0
    have hn := h.none
    have e : syncL d = (d, 0) := by unfold syncL; rw [hn]; rfl
    rw [e, if_pos rfl]
    exact ⟨rfl, hd, rfl, rfl, rfl, rfl, rfl, rfl⟩
  · obtain ⟨f, h1, h2, h3, h4⟩ := h.last hs (by omega)
    have e : syncL d = d.sync (nameL last) := by unfold syncL; rw [h1, ← h3]
    rw [e, if_neg h0, sync_found hd h4]
    refine ⟨rfl, hd, setF_names (nameL last) (fun f => { f with synced := f.bytes.length }) (fun _ => rfl) d.files, rfl, rfl, ?_, by unfold setF; rw [List.length_map], rfl⟩
    unfold totF setF
    rw [List.map_map]
    congr 1
    refine List.map_congr_left fun g _ => ?_
    simp only [Function.comp]
    split <;> rfl

/-- What begin writes. -/
def nextL (d : PD) (last : Nat) (fr : List UInt8) : PD × Int := if last = 99999999 then (d, 7) else (syncL d).1.append (nameL (last + 1)) fr
theorem putL_behind {d : PD} {last count : Nat} (h : LogAt d last count) (hs : Srt d) (h0 : 0 < count) {f : PF} (hf : d.find (nameL last) = some f) (hl : f.bytes.length < 1024) (fr : List UInt8) : putL d fr false = d.append (nameL last) fr := by
  obtain ⟨g, h1, h2, h3, h4⟩ := h.last hs h0
  obtain rfl : g = f := by rw [h4] at hf; exact Option.some.inj hf
  unfold putL
  rw [h1]
  simp only
  rw [if_neg (by simp; omega), h3]
theorem putL_next {d : PD} {last count : Nat} (h : LogAt d last count) (hs : Srt d) (hd : d.dead = false) (fr : List UInt8) (fresh : Bool) (hfr : fresh = true ∨ ∀ f, d.find (nameL last) = some f → 1024 ≤ f.bytes.length) : putL d fr fresh = nextL d last fr := by
  obtain ⟨s1, s2, s3, _, _, _, _, s4⟩ := syncL_at h hs hd
  unfold nextL
  by_cases h0 : count = 0
  · subst h0
    obtain rfl := h.zero rfl
    have e := s4
    rw [if_pos rfl] at e
    rw [if_neg (by decide), e]
    unfold putL
    rw [h.none]
    rfl
  · obtain ⟨g, h1, h2, h3, h4⟩ := h.last hs (by omega)
    rw [if_neg h0] at s4
    unfold putL
    rw [h1]
    simp only
    rw [if_pos (by rcases hfr with h' | h'; exact .inl h'; exact .inr (h' g h4)), h3, ← s4]
    by_cases hl : last = 99999999
    · rw [if_pos hl, if_pos hl]
    · rw [if_neg hl, if_neg (by rw [s1]; simp), if_neg hl]

/-- A name put in its place. -/
def insN (nm : List UInt8) : List (List UInt8) → List (List UInt8)
  | [] => [nm]
  | g :: r => if nm < g then nm :: g :: r else g :: insN nm r
theorem insF_names (f : PF) : ∀ l : List PF, (insF f l).map PF.name = insN f.name (l.map PF.name)
  | [] => rfl
  | g :: r => by
    rw [insF, List.map_cons, insN]
    by_cases h : f.name < g.name
    · rw [if_pos h, if_pos h]; rfl
    · rw [if_neg h, if_neg h, List.map_cons, insF_names f r]
theorem segN_none {l : List (List UInt8)} {m : Nat} (hm : m ≤ 99999999) (hg : ∀ g ∈ l, nameL m < g) (hl : ∀ k ∈ segN l, k ≤ m) : segN l = [] := by
  refine List.eq_nil_iff_forall_not_mem.2 fun k hk => ?_
  obtain ⟨g, h1, h2⟩ := List.mem_filterMap.1 hk
  by_cases h0 : 0 < numberL g
  · rw [if_pos h0] at h2
    cases h2
    have := hl _ hk
    have h3 := hg g h1
    have h4 := name_number h0
    rcases Nat.lt_or_ge (numberL g) m with h5 | h5
    · have := name_lt h5 hm
      rw [← h4] at this
      exact nm_lt_irrefl _ (List.lt_trans this h3)
    · obtain rfl : numberL g = m := by omega
      rw [← h4] at h3
      exact nm_lt_irrefl _ h3
  · rw [if_neg h0] at h2; cases h2
theorem segN_ins {m : Nat} (h0 : 0 < m) (hm : m ≤ 99999999) : ∀ (l : List (List UInt8)), sortedN l → (∀ k ∈ segN l, k ≤ m) → segN (insN (nameL m) l) = segN l ++ [m]
  | [], _, _ => by
    rw [insN, segN_cons, number_name hm, if_pos h0]
    rfl
  | g :: r, hs, hl => by
    rw [sortedN, List.pairwise_cons] at hs
    rw [insN]
    by_cases h : nameL m < g
    · have e : segN (g :: r) = [] := segN_none hm (fun x hx => by
        rcases List.mem_cons.1 hx with rfl | hx
        · exact h
        · exact List.lt_trans h (hs.1 x hx)) hl
      rw [if_pos h, segN_cons, number_name hm, if_pos h0, e]
      rfl
    · rw [if_neg h, segN_cons, segN_ins h0 hm r hs.2 (fun k hk => hl k (by rw [segN_cons]; exact List.mem_append_right _ hk)), segN_cons, List.append_assoc]

theorem insN_sorted {nm : List UInt8} : ∀ (l : List (List UInt8)), sortedN l → nm ∉ l → sortedN (insN nm l)
  | [], _, _ => by simp [insN, sortedN]
  | g :: r, hs, hn => by
    have hs0 := hs
    rw [sortedN, List.pairwise_cons] at hs
    rw [insN]
    by_cases h : nm < g
    · rw [if_pos h, sortedN, List.pairwise_cons]
      exact ⟨fun x hx => by
        rcases List.mem_cons.1 hx with rfl | hx
        · exact h
        · exact List.lt_trans h (hs.1 x hx), hs0⟩
    · rw [if_neg h, sortedN, List.pairwise_cons]
      have hlt : g < nm := nm_lt_of_le h (fun e => hn (by simp [e]))
      refine ⟨fun x hx => ?_, insN_sorted r hs.2 (fun h' => hn (by simp [h']))⟩
      have : ∀ (l : List (List UInt8)), x ∈ insN nm l → x = nm ∨ x ∈ l := by
        intro l
        induction l with
        | nil => intro h'; left; simpa [insN] using h'
        | cons a b ih =>
          intro h'
          rw [insN] at h'
          by_cases h2 : nm < a
          · rw [if_pos h2] at h'
            rcases List.mem_cons.1 h' with rfl | h'
            · exact .inl rfl
            · exact .inr h'
          · rw [if_neg h2] at h'
            rcases List.mem_cons.1 h' with rfl | h'
            · exact .inr (by simp)
            · rcases ih h' with h3 | h3
              · exact .inl h3
              · exact .inr (by simp [h3])
      rcases this r hx with rfl | hx
      · exact hlt
      · exact hs.1 x hx

theorem write_names (d : PD) (nm s : List UInt8) : (d.write nm s).1.files.map PF.name = d.files.map PF.name := by
  unfold PD.write
  split
  · exact setF_names nm (fun f => f.more (s.take d.fuse.toNat)) (fun _ => rfl) d.files
  · exact setF_names nm (fun f => f.more s) (fun _ => rfl) d.files
theorem write_dead (d : PD) (nm s : List UInt8) (hd : d.dead = false) : ((d.write nm s).2 = 0 ∧ (d.write nm s).1.dead = false) ∨ ((d.write nm s).2 = 9 ∧ (d.write nm s).1.dead = true) := by
  unfold PD.write
  split
  · exact .inr ⟨rfl, rfl⟩
  · exact .inl ⟨rfl, hd⟩
theorem find_names {d : PD} {nm : List UInt8} (h : d.find nm = none) : nm ∉ d.files.map PF.name := by
  intro hm
  obtain ⟨f, hf, rfl⟩ := List.mem_map.1 hm
  have := List.find?_eq_none.1 h f hf
  simp at this
/-- Append behind a file that is there. -/
theorem append_behind {d : PD} {nm : List UInt8} {f : PF} (hd : d.dead = false) (hf : d.find nm = some f) (s : List UInt8) :
    (d.append nm s).1.files.map PF.name = d.files.map PF.name ∧ ((d.append nm s).1.dead = false ∨ (d.append nm s).2 = 9) := by
  unfold PD.append
  rw [if_neg (by simp [hd])]
  split
  · exact ⟨rfl, .inl hd⟩
  · split
    · exact ⟨rfl, .inl hd⟩
    · have e : d.withFile nm = d := by unfold PD.withFile; rw [hf]; rfl
      rw [e]
      refine ⟨write_names d nm s, ?_⟩
      rcases write_dead d nm s hd with h | h
      · exact .inl h.2
      · exact .inr h.1
/-- Append to a new one. -/
theorem append_next {d : PD} {last count : Nat} (h : LogAt d last count) (hs : Srt d) (hd : d.dead = false) (hl : last + 1 ≤ 99999999) (s : List UInt8) :
    ((d.append (nameL (last + 1)) s).2 ≠ 0 ∧ (d.append (nameL (last + 1)) s).2 ≠ 9 ∧ (d.append (nameL (last + 1)) s).1 = d) ∨
    (((d.append (nameL (last + 1)) s).2 = 0 ∧ (d.append (nameL (last + 1)) s).1.dead = false ∨ (d.append (nameL (last + 1)) s).2 = 9 ∧ (d.append (nameL (last + 1)) s).1.dead = true) ∧
      LogAt (d.append (nameL (last + 1)) s).1 (last + 1) (count + 1) ∧ Srt (d.append (nameL (last + 1)) s).1) := by
  have hn : d.find (nameL (last + 1)) = none := by
    refine List.find?_eq_none.2 fun f hf => ?_
    simp only [decide_eq_true_eq]
    intro e
    have h1 : numberL f.name = last + 1 := by rw [e, number_name hl]
    have h2 := segN_mem (List.mem_map_of_mem hf) (show 0 < numberL f.name by omega)
    rw [h.nums, h1, List.mem_range'] at h2
    obtain ⟨i, h3, h4⟩ := h2
    have := h.le
    omega
  unfold PD.append
  rw [if_neg (by simp [hd])]
  split
  · exact .inl ⟨fun h => absurd (show (2 : Int) = 0 from h) (by decide), fun h => absurd (show (2 : Int) = 9 from h) (by decide), rfl⟩
  · split
    · exact .inl ⟨fun h => absurd (show (7 : Int) = 0 from h) (by decide), fun h => absurd (show (7 : Int) = 9 from h) (by decide), rfl⟩
    · right
      have e : (d.withFile (nameL (last + 1))).files.map PF.name = insN (nameL (last + 1)) (d.files.map PF.name) := by
        unfold PD.withFile
        rw [hn]
        exact insF_names _ _
      have hdd : (d.withFile (nameL (last + 1))).dead = false := hd
      refine ⟨write_dead _ _ _ hdd, ⟨?_, by have := h.le; omega, hl, fun h' => by omega⟩, ?_⟩
      · rw [write_names, e, segN_ins (by omega) hl _ hs (fun k hk => by
          rw [h.nums, List.mem_range'] at hk
          obtain ⟨i, h3, h4⟩ := hk
          have := h.le
          omega), h.nums]
        rw [show last + 1 + 1 - (count + 1) = last + 1 - count from by omega, List.range'_concat, show last + 1 - count + 1 * count = last + 1 from by have := h.le; omega]
      · unfold Srt
        rw [write_names, e]
        exact insN_sorted _ hs (find_names hn)

/-- Of the first file, removed. -/
theorem remove_found {d : PD} {nm : List UInt8} {f : PF} (hd : d.dead = false) (hf : d.find nm = some f) :
    d.remove nm = ({ d with files := d.files.filter (fun g => g.name ≠ nm), room := d.room + f.bytes.length }, 0) := by
  unfold PD.remove PD.within
  rw [if_neg (by simp [hd]), hf]
theorem segN_filter (m : Nat) : ∀ l : List (List UInt8), m ≤ 99999999 → segN (l.filter fun nm => nm ≠ nameL m) = (segN l).filter fun k => k ≠ m
  | [], _ => rfl
  | g :: r, hm => by
    rw [List.filter_cons, segN_cons, List.filter_append, ← segN_filter m r hm]
    by_cases h : g = nameL m
    · subst h
      rw [if_neg (by simp), number_name hm]
      by_cases h0 : 0 < m
      · simp [h0]
      · simp [h0]
    · rw [if_pos (by simp [h]), segN_cons]
      congr 1
      by_cases h0 : 0 < numberL g
      · have : numberL g ≠ m := fun e => h (by rw [← e]; exact name_number h0)
        simp [h0, this]
      · simp [h0]
theorem LogAt.removed {d : PD} {last count : Nat} (h : LogAt d last count) (hs : Srt d) (hd : d.dead = false) (h1 : 1 < count) :
    ∃ f d', d.find (nameL (last + 1 - count)) = some f ∧ d.remove (nameL (last + 1 - count)) = (d', 0) ∧ LogAt d' last (count - 1) ∧ Srt d' ∧ d'.dead = false ∧ segsL d'.files = (segsL d.files).tail ∧ d'.fuse = d.fuse ∧ d'.room + totF d'.files = d.room + totF d.files ∧ d'.files.length ≤ d.files.length ∧
      (∀ g ∈ d'.files, g ∈ d.files) ∧ d.room ≤ d'.room := by
  obtain ⟨f, r, e, m1, m2⟩ := h.first (by omega)
  have hfd := hs.find m1
  rw [m2] at hfd
  have hle := h.le
  have hmx := h.max
  refine ⟨f, _, hfd, remove_found hd hfd, ⟨?_, by omega, h.max, fun h' => by omega⟩, ?_, hd, ?_, rfl, ?_, List.length_filter_le _ _, fun g hg => (List.mem_filter.1 hg).1, by simp only; omega⟩
  · have e1 : (d.files.filter (fun g => g.name ≠ nameL (last + 1 - count))).map PF.name = (d.files.map PF.name).filter (fun nm => nm ≠ nameL (last + 1 - count)) := by
      rw [List.filter_map]; rfl
    show segN ((d.files.filter (fun g => g.name ≠ nameL (last + 1 - count))).map PF.name) = _
    rw [e1, segN_filter _ _ (by omega), h.nums]
    obtain ⟨c, rfl⟩ : ∃ c, count = c + 1 := ⟨count - 1, by omega⟩
    rw [List.range'_succ, List.filter_cons, if_neg (by simp)]
    rw [List.filter_eq_self.2 (fun k hk => by
      obtain ⟨i, h3, h4⟩ := List.mem_range'.1 hk
      simp only [ne_eq, decide_eq_true_eq]
      omega)]
    congr 1
    omega
  · exact List.Pairwise.sublist (List.Sublist.map _ List.filter_sublist) hs
  · have hnd : (d.files.map PF.name).Nodup := sortedN_nodup hs
    rw [e, List.tail_cons]
    have : segsL (d.files.filter (fun g => g.name ≠ nameL (last + 1 - count))) = (segsL d.files).filter (fun x => x.1 ≠ last + 1 - count) := by
      generalize d.files = l
      induction l with
      | nil => rfl
      | cons g t ih =>
        rw [segsL_cons, List.filter_append, ← ih, List.filter_cons]
        by_cases h : g.name = nameL (last + 1 - count)
        · rw [if_neg (by simp [h]), h, number_name (by omega)]
          by_cases h0 : 0 < last + 1 - count
          · simp [h0]
          · simp [h0]
        · rw [if_pos (by simp [h]), segsL_cons]
          congr 1
          by_cases h0 : 0 < numberL g.name
          · have : numberL g.name ≠ last + 1 - count := fun e => h (by rw [← e]; exact name_number h0)
            simp [h0, this]
          · simp [h0]
    rw [this, e, List.filter_cons, if_neg (by simp)]
    refine List.filter_eq_self.2 fun x hx => ?_
    have hn := h.nums
    rw [← segsL_N, e, List.map_cons] at hn
    obtain ⟨c, rfl⟩ : ∃ c, count = c + 1 := ⟨count - 1, by omega⟩
    rw [List.range'_succ] at hn
    have hx1 : x.1 ∈ r.map (·.1) := List.mem_map_of_mem hx
    rw [(List.cons.inj hn).2, List.mem_range'] at hx1
    obtain ⟨i, h3, h4⟩ := hx1
    simp only [ne_eq, decide_eq_true_eq]
    omega
  · have : ∀ l : List PF, (l.map PF.name).Nodup → f ∈ l → (totF (l.filter (fun g => g.name ≠ f.name)) : Int) + f.bytes.length = totF l := by
      intro l
      induction l with
      | nil => intro _ hf; cases hf
      | cons g t ih =>
        intro hnd hf
        rw [List.map_cons, List.nodup_cons] at hnd
        rw [List.filter_cons, totF_cons]
        rcases List.mem_cons.1 hf with rfl | hf'
        · rw [if_neg (by simp), List.filter_eq_self.2 (fun x hx => by
            simp only [ne_eq, decide_eq_true_eq]
            intro e
            exact hnd.1 (e ▸ List.mem_map_of_mem hx))]
          omega
        · have hne : g.name ≠ f.name := fun e => hnd.1 (e ▸ List.mem_map_of_mem hf')
          rw [if_pos (by simp [hne]), totF_cons]
          have := ih hnd.2 hf'
          omega
    have := this d.files (sortedN_nodup hs) m1
    rw [m2] at this
    simp only
    omega

/-! ### what Open tells -/
theorem splitL_fit (s : List UInt8) : ∀ (m a : Nat), s.length - a ≤ m → (splitL s a).2.2 = 0 → a ≤ s.length → Fit (splitL s a).1 ∧ s.drop a = rowL (splitL s a).1
  | m, a, hm, h, ha => by
    by_cases h1 : s.length ≤ a
    · rw [splitL_end h1]
      exact ⟨Fit.nil, by rw [List.drop_eq_nil_of_le h1]; rfl⟩
    · by_cases h0 : (takeL (s.drop a)).2.2 = 0
      · obtain ⟨p1, p2⟩ := takeL_pos h0
        rw [List.length_drop] at p2
        rw [splitL_go (by omega) h0] at h ⊢
        cases m with
        | zero => omega
        | succ m =>
          obtain ⟨i1, i2⟩ := splitL_fit s m (a + (takeL (s.drop a)).2.1) (by omega) h (by omega)
          obtain ⟨t1, t2, t3, t4⟩ := takeL_stands (s := s.drop a) (inside := (takeL (s.drop a)).1) (n := (takeL (s.drop a)).2.1) (by rw [← h0])
          refine ⟨fun x hx => ?_, ?_⟩
          · rcases List.mem_cons.1 hx with rfl | hx
            · exact ⟨t1, t2⟩
            · exact i1 x hx
          · simp only
            rw [rowL_cons, ← i2, ← List.drop_drop]
            exact t4
      · rw [splitL_stop (by omega) h0] at h
        exact absurd h h0
theorem split_parts {a b : List UInt8} (h : (splitL a 0).2.2 = 0) : splitL (a ++ b) 0 = ((splitL a 0).1 ++ (splitL b 0).1, a.length + (splitL b 0).2.1, (splitL b 0).2.2) := by
  obtain ⟨h1, h2⟩ := splitL_fit a a.length 0 (by omega) h (by omega)
  rw [List.drop_zero] at h2
  generalize hls : (splitL a 0).1 = ls at h1 h2
  have h3 := fit_row ls [] b h1
  simp only [List.nil_append, List.length_nil, Nat.zero_add] at h3
  rw [h2, h3]
  have shift : ∀ (m k : Nat), b.length - k ≤ m → splitL (rowL ls ++ b) ((rowL ls).length + k) = ((splitL b k).1, (rowL ls).length + (splitL b k).2.1, (splitL b k).2.2) := by
    intro m
    induction m with
    | zero =>
      intro k hk
      rw [splitL_end (by rw [List.length_append]; omega), splitL_end (s := b) (by omega)]
    | succ m ih =>
      intro k hk
      by_cases hb : b.length ≤ k
      · rw [splitL_end (by rw [List.length_append]; omega), splitL_end (s := b) hb]
      · have hd : (rowL ls ++ b).drop ((rowL ls).length + k) = b.drop k := by rw [← List.drop_drop, List.drop_left]
        by_cases h0 : (takeL (b.drop k)).2.2 = 0
        · have hp := takeL_pos h0
          rw [splitL_go (by rw [List.length_append]; omega) (by rw [hd]; exact h0), splitL_go (s := b) (by omega) h0, hd, Nat.add_assoc, ih _ (by omega)]
        · rw [splitL_stop (by rw [List.length_append]; omega) (by rw [hd]; exact h0), splitL_stop (s := b) (by omega) h0, hd]
  have h4 := shift b.length 0 (by omega)
  rw [Nat.add_zero, rowL_length] at h4
  rw [h4]
  simp only [rowL_length]

/-- What Open asks of all segments. -/
def okSegs (l : List (Nat × PF)) : Prop := ∀ i (h : i < l.length), l[i].1 = (l[0]'(by omega)).1 + i ∧ goodSeg l[i].2 = true ∧ (i + 1 < l.length → l[i].2.bytes.length ≤ l[i].2.synced)
def recsOf (l : List (Nat × PF)) : List Rec := l.flatMap fun x => (splitL x.2.bytes 0).1
theorem good_all {f : PF} (h : goodSeg f = true) (hl : f.bytes.length ≤ f.synced) : (splitL f.bytes 0).2.2 = 0 := by
  unfold goodSeg at h
  rw [List.take_of_length_le hl] at h
  simpa using h

theorem openGo_some : ∀ (l : List (Nat × PF)) (prev : Option Nat), (∀ x ∈ l, x.2.synced ≤ x.2.bytes.length) → okSegs l → (∀ m x, prev = some m → l.head? = some x → x.1 = m + 1) → openGo prev l = some (recsOf l)
  | [], prev, _, _, _ => by cases prev <;> rfl
  | [(n, f)], prev, _, ho, hp => by
    have h := ho 0 (by simp)
    rw [openGo, if_pos ⟨h.2.1, fun m hm => hp m (n, f) hm rfl⟩]
    simp [recsOf]
  | (n, f) :: s :: r, prev, hs, ho, hp => by
    have h := ho 0 (by simp)
    have h2 := h.2.2 (by simp)
    have h3 : f.synced ≤ f.bytes.length := hs (n, f) (by simp)
    simp only [List.getElem_cons_zero] at h h2
    have h2 : f.bytes.length ≤ f.synced := h2
    have hall := good_all h.2.1 h2
    have h1 := ho 1 (by simp)
    simp only [List.getElem_cons_zero, List.getElem_cons_succ] at h1
    rw [openGo, if_pos ⟨h.2.1, fun m hm => hp m (n, f) hm rfl, hall, Nat.le_antisymm h3 h2⟩, openGo_some (s :: r) (some n) (fun x hx => hs x (by simp [hx])) ?_ ?_]
    · simp [recsOf]
    · intro i hi
      have := ho (i + 1) (by simp at hi ⊢; omega)
      simp only [List.getElem_cons_zero, List.getElem_cons_succ] at this ⊢
      refine ⟨by rw [this.1, h1.1]; omega, this.2.1, fun hl => this.2.2 (by simp at hl ⊢; omega)⟩
    · intro m x hm hx
      cases hm
      simp at hx
      subst hx
      exact h1.1
theorem openGo_ok : ∀ (l : List (Nat × PF)) (prev : Option Nat) (rs : List Rec), openGo prev l = some rs → okSegs l ∧ ∀ m x, prev = some m → l.head? = some x → x.1 = m + 1
  | [], prev, rs, _ => ⟨fun i hi => by simp at hi, fun m x _ hx => by cases hx⟩
  | [(n, f)], prev, rs, h => by
    rw [openGo] at h
    split at h
    · rename_i hc
      refine ⟨fun i hi => ?_, fun m x hm hx => by cases hx; exact hc.2 m hm⟩
      have : i = 0 := by simp at hi; omega
      subst this
      exact ⟨rfl, hc.1, fun h' => by simp at h'⟩
    · cases h
  | (n, f) :: s :: r, prev, rs, h => by
    rw [openGo] at h
    split at h
    · rename_i hc
      obtain ⟨rs', h', _⟩ := Option.map_eq_some_iff.1 h
      obtain ⟨i1, i2⟩ := openGo_ok (s :: r) (some n) rs' h'
      refine ⟨fun i hi => ?_, fun m x hm hx => by cases hx; exact hc.2.1 m hm⟩
      cases i with
      | zero => exact ⟨rfl, hc.1, fun _ => Nat.le_of_eq hc.2.2.2.symm⟩
      | succ i =>
        have h1 := i1 i (by simp at hi ⊢; omega)
        have h2 := i2 n s rfl rfl
        simp only [List.getElem_cons_zero, List.getElem_cons_succ] at h1 ⊢
        exact ⟨by rw [h1.1, h2]; omega, h1.2.1, fun hl => h1.2.2 (by simp at hl ⊢; omega)⟩
    · cases h
theorem open_ok {d : PD} (hd : d.dead = false) (hsy : ∀ f ∈ d.files, f.synced ≤ f.bytes.length) (ho : okSegs (segsL d.files)) :
    openL d = (match (segsL d.files).getLast? with | none => (d, [], 0) | some (n, f) => (((d.cut f.name (splitL f.bytes 0).2.1).1.sync f.name).1, recsOf (segsL d.files), 0)) := by
  unfold openL
  rw [if_neg (by simp [hd]), openGo_some _ none (fun x hx => hsy _ (segsL_mem (n := x.1) (f := x.2) hx).1) ho (fun m x hm => by cases hm)]
  simp only
  cases hl : (segsL d.files).getLast? with
  | none =>
    have : segsL d.files = [] := List.getLast?_eq_none_iff.1 hl
    rw [this]
    rfl
  | some x => rfl
theorem open_halt {d : PD} (hd : d.dead = false) (ho : ¬ okSegs (segsL d.files)) : openL d = (d, [], 10) := by
  unfold openL
  rw [if_neg (by simp [hd])]
  cases h : openGo none (segsL d.files) with
  | none => rfl
  | some rs => exact absurd (openGo_ok _ _ _ h).1 ho
theorem open_at {d : PD} (ho : okSegs (segsL d.files)) (hne : segsL d.files ≠ []) : ∃ n f, (segsL d.files).getLast? = some (n, f) ∧ LogAt d n (segsL d.files).length := by
  have hg := List.getLast?_eq_some_getLast hne
  rcases hx : (segsL d.files).getLast hne with ⟨n, f⟩
  rw [hx] at hg
  have hpos : 0 < (segsL d.files).length := List.length_pos_iff.2 hne
  have h0 : 0 < ((segsL d.files)[0]'hpos).1 := (segsL_mem (n := ((segsL d.files)[0]'hpos).1) (f := ((segsL d.files)[0]'hpos).2) (List.getElem_mem hpos)).2.1
  have hn : n = ((segsL d.files)[0]'hpos).1 + ((segsL d.files).length - 1) := by
    have h1 := (ho ((segsL d.files).length - 1) (by omega)).1
    rw [List.getLast_eq_getElem] at hx
    rw [hx] at h1
    exact h1
  have hm : n ≤ 99999999 := by
    obtain ⟨m1, m2, m3, m4⟩ := segsL_mem (List.mem_of_getLast? hg)
    have hv : ∀ s : List UInt8, s.length = 8 → s.all isDig = true → valL s ≤ 99999999 := by
      intro s h8 hd
      have e := digs_val 8 s h8 hd
      rcases Nat.lt_or_ge 99999999 (valL s) with hlt | hge
      · exfalso
        have hb : ∀ (k : Nat) (s : List UInt8), s.length = k → s.all isDig = true → valL s < 10 ^ k := by
          intro k
          induction k with
          | zero => intro s hk _; rw [List.eq_nil_of_length_eq_zero hk]; decide
          | succ k ih =>
            intro s hk hs
            obtain ⟨t, c, rfl⟩ : ∃ t c, s = t ++ [c] := ⟨s.dropLast, s.getLast (fun h => by rw [h] at hk; simp at hk), (List.dropLast_concat_getLast _).symm⟩
            rw [List.length_append] at hk
            simp only [List.length_cons, List.length_nil] at hk
            rw [List.all_append, Bool.and_eq_true] at hs
            have := ih t (by omega) hs.1
            have hc : c.toNat - 48 ≤ 9 := by
              have h2 := hs.2
              simp only [List.all_cons, List.all_nil, Bool.and_true, isDig, Bool.and_eq_true, decide_eq_true_eq, UInt8.le_iff_toNat_le] at h2
              have := h2.2
              have e57 : (57 : UInt8).toNat = 57 := rfl
              omega
            unfold valL at this ⊢
            rw [List.foldl_append]
            simp only [List.foldl_cons, List.foldl_nil]
            rw [Nat.pow_succ]
            omega
        have := hb 8 s h8 hd
        omega
      · exact hge
    cases hfn : f.name with
    | nil => rw [hfn] at m3; rw [← m3]; exact Nat.zero_le _
    | cons c s =>
      rw [hfn, number_cons] at m3
      split at m3
      · rename_i hc
        rw [← m3]
        exact hv s hc.2.1 hc.2.2
      · omega
  refine ⟨n, f, hg, ?_, by omega, hm, fun h' => by omega⟩
  rw [← segsL_N]
  refine List.ext_getElem (by rw [List.length_map, List.length_range']) fun i h1 h2 => ?_
  rw [List.length_map] at h1
  rw [List.getElem_map, List.getElem_range', (ho i h1).1]
  omega

end Go.Proofs.YtjidadolfpjdeaaGreatDoor

namespace Go.Proofs.YtjidadolfpjdeaaGreatDoor
set_option linter.unusedVariables false

/-- Closed segments, and the last one: n bytes of its records' frames are there, the frames of sy records are synced. -/
structure TornAt (d : PD) (first : Nat) (cl : List (List Rec)) (la : List Rec) (sy n : Nat) : Prop where
  files : d.files = segFiles first cl ++ [⟨nameL (first + cl.length), (rowL la).take n, sizes (la.take sy)⟩]
  f0 : 0 < first
  fit : ∀ s ∈ cl, Fit s
  fitL : Fit la
  syn : sizes (la.take sy) ≤ n
  le : n ≤ sizes la
  sle : sy ≤ la.length
  room : d.room = 4194304 - ((sizes cl.flatten + n : Nat) : Int)
  num : first + cl.length ≤ 99999998

/-- R: all records that were written; sure: so many are synced at least; M: a bound of the last segment's number. -/
def TornSt (d : PD) (R : List Rec) (sure M : Nat) : Prop :=
  (d.files = [] ∧ R = [] ∧ sure = 0 ∧ d.room = 4194304) ∨ ∃ first cl la sy n, TornAt d first cl la sy n ∧ R = cl.flatten ++ la ∧ sure ≤ cl.flatten.length + sy ∧ first + cl.length ≤ M
/-- .. and the last one is whole. -/
def LogSt (d : PD) (R : List Rec) (sure M : Nat) : Prop :=
  (d.files = [] ∧ R = [] ∧ sure = 0 ∧ d.room = 4194304) ∨ ∃ first cl la sy, TornAt d first cl la sy (sizes la) ∧ R = cl.flatten ++ la ∧ sure ≤ cl.flatten.length + sy ∧ first + cl.length ≤ M

theorem LogSt.torn {d : PD} {R : List Rec} {sure M : Nat} (h : LogSt d R sure M) : TornSt d R sure M := by
  rcases h with h | ⟨first, cl, la, sy, h⟩
  · exact .inl h
  · exact .inr ⟨first, cl, la, sy, _, h⟩
theorem LogSt.mono {d : PD} {R : List Rec} {sure M M' : Nat} (h : LogSt d R sure M) (hm : M ≤ M') : LogSt d R sure M' := by
  rcases h with h | ⟨first, cl, la, sy, h1, h2, h3, h4⟩
  · exact .inl h
  · exact .inr ⟨first, cl, la, sy, h1, h2, h3, by omega⟩
/-- Only files and room count. -/
theorem TornSt.same {d d' : PD} {R : List Rec} {sure M : Nat} (h : TornSt d R sure M) (hf : d'.files = d.files) (hr : d'.room = d.room) : TornSt d' R sure M := by
  rcases h with ⟨h1, h2, h3, h4⟩ | ⟨first, cl, la, sy, n, h1, h2⟩
  · exact .inl ⟨hf.trans h1, h2, h3, hr.trans h4⟩
  · exact .inr ⟨first, cl, la, sy, n, ⟨hf.trans h1.files, h1.f0, h1.fit, h1.fitL, h1.syn, h1.le, h1.sle, hr.trans h1.room, h1.num⟩, h2⟩
theorem LogSt.same {d d' : PD} {R : List Rec} {sure M : Nat} (h : LogSt d R sure M) (hf : d'.files = d.files) (hr : d'.room = d.room) : LogSt d' R sure M := by
  rcases h with ⟨h1, h2, h3, h4⟩ | ⟨first, cl, la, sy, h1, h2⟩
  · exact .inl ⟨hf.trans h1, h2, h3, hr.trans h4⟩
  · exact .inr ⟨first, cl, la, sy, ⟨hf.trans h1.files, h1.f0, h1.fit, h1.fitL, h1.syn, h1.le, h1.sle, hr.trans h1.room, h1.num⟩, h2⟩

theorem TornAt.last {d : PD} {first : Nat} {cl : List (List Rec)} {la : List Rec} {sy n : Nat} (h : TornAt d first cl la sy n) :
    (segsL d.files).getLast? = some (first + cl.length, ⟨nameL (first + cl.length), (rowL la).take n, sizes (la.take sy)⟩) := by
  rw [h.files, last_seg h.f0 (by have := h.num; omega)]
  simp
theorem TornAt.find {d : PD} {first : Nat} {cl : List (List Rec)} {la : List Rec} {sy n : Nat} (h : TornAt d first cl la sy n) :
    d.find (nameL (first + cl.length)) = some ⟨nameL (first + cl.length), (rowL la).take n, sizes (la.take sy)⟩ := by
  unfold PD.find
  rw [h.files]
  exact find_last (by have := h.num; omega) _ rfl

/-! ### Append, by its two ways -/
theorem app_ok {d : PD} {nm s : List UInt8} (hd : d.dead = false) (hn : nm ≠ []) (hn2 : nm.length ≤ 24) (hr : (s.length : Int) ≤ d.room) (hl : d.find nm = none → d.files.length < 1000) (hf : ¬ (0 ≤ d.fuse ∧ d.fuse < s.length)) :
    d.append nm s = ({ files := setF nm (fun f => f.more s) (d.withFile nm).files, room := d.room - s.length, fuse := if 0 ≤ d.fuse then d.fuse - s.length else d.fuse, dead := false }, 0) := by
  unfold PD.append
  rw [if_neg (by simp [hd]), if_neg (by simp [hn]; omega), if_neg (by rintro (h | ⟨h, h2⟩); omega; have := hl h; omega)]
  unfold PD.write
  rw [if_neg (show ¬ (0 ≤ (d.withFile nm).fuse ∧ (d.withFile nm).fuse < s.length) from hf)]
  rw [show (d.withFile nm).dead = false from hd]
  rfl
theorem app_torn {d : PD} {nm s : List UInt8} (hd : d.dead = false) (hn : nm ≠ []) (hn2 : nm.length ≤ 24) (hr : (s.length : Int) ≤ d.room) (hl : d.find nm = none → d.files.length < 1000) {f : Nat} (hf : d.fuse = f) (hf2 : f < s.length) :
    d.append nm s = ({ files := setF nm (fun g => g.more (s.take f)) (d.withFile nm).files, room := d.room - f, fuse := -1, dead := true }, 9) := by
  unfold PD.append
  rw [if_neg (by simp [hd]), if_neg (by simp [hn]; omega), if_neg (by rintro (h | ⟨h, h2⟩); omega; have := hl h; omega)]
  unfold PD.write
  have e1 : (d.withFile nm).fuse = f := hf
  rw [if_pos (by rw [e1]; omega), e1, Int.toNat_natCast]
  rfl

theorem name_ne (n : Nat) : nameL n ≠ [] := by unfold nameL; simp

/-- The files behind text that was appended to the last segment. -/
theorem with_last {d : PD} {first : Nat} {cl : List (List Rec)} {la : List Rec} {sy n : Nat} (h : TornAt d first cl la sy n) (t : List UInt8) :
    setF (nameL (first + cl.length)) (fun g => g.more t) (d.withFile (nameL (first + cl.length))).files = segFiles first cl ++ [⟨nameL (first + cl.length), (rowL la).take n ++ t, sizes (la.take sy)⟩] := by
  unfold PD.withFile
  rw [h.find]
  simp only [Option.isSome_some, if_true]
  rw [h.files, set_last (by have := h.num; omega) _ rfl]
  rfl
/-- .. to a new one. -/
theorem with_next {d : PD} {first : Nat} {cl : List (List Rec)} (hf : d.files = segFiles first cl) (hm : first + cl.length ≤ 99999999) (t : List UInt8) :
    setF (nameL (first + cl.length)) (fun g => g.more t) (d.withFile (nameL (first + cl.length))).files = segFiles first cl ++ [⟨nameL (first + cl.length), t, 0⟩] := by
  unfold PD.withFile
  have : d.find (nameL (first + cl.length)) = none := by unfold PD.find; rw [hf]; exact find_next hm
  rw [this]
  simp only [Option.isSome_none]
  rw [if_neg (by simp), hf, ins_end _ _ (fun g hg => seg_name_lt hm hg), set_last hm _ rfl]
  rfl

/-- The last segment synced: it is closed, if it is whole. -/
theorem sync_last {d : PD} {first : Nat} {cl : List (List Rec)} {la : List Rec} {sy n : Nat} (h : TornAt d first cl la sy n) (hd : d.dead = false) :
    d.sync (nameL (first + cl.length)) = ({ d with files := segFiles first cl ++ [⟨nameL (first + cl.length), (rowL la).take n, n⟩] }, 0) := by
  unfold PD.sync PD.within
  rw [if_neg (by simp [hd]), h.find]
  simp only
  rw [h.files, set_last (by have := h.num; omega) _ rfl]
  simp only [List.length_take, rowL_length, Nat.min_eq_left h.le]

theorem row_all (la : List Rec) : (rowL la).take (sizes la) = rowL la := List.take_of_length_le (by rw [rowL_length]; omega)

/-! ### Add -/
/-- Records put behind the last segment: whole. -/
theorem put_behind {d : PD} {first : Nat} {cl : List (List Rec)} {la : List Rec} {sy : Nat} (h : TornAt d first cl la sy (sizes la)) (hd : d.dead = false) (rs : List Rec) (hrs : Fit rs) (hroom : ((sizes cl.flatten + sizes la + sizes rs : Nat) : Int) ≤ 4194304) (hsmall : (rowL la).length < 1024) :
    putL d (rowL rs) false = d.append (nameL (first + cl.length)) (rowL rs) ∧
    (¬ (0 ≤ d.fuse ∧ d.fuse < (rowL rs).length) → ∃ d', d.append (nameL (first + cl.length)) (rowL rs) = (d', 0) ∧ TornAt d' first cl (la ++ rs) sy (sizes (la ++ rs)) ∧ d'.dead = false ∧ d'.fuse = if 0 ≤ d.fuse then d.fuse - (rowL rs).length else d.fuse) ∧
    (∀ f : Nat, d.fuse = f → f < (rowL rs).length → ∃ d', d.append (nameL (first + cl.length)) (rowL rs) = (d', 9) ∧ TornAt d' first cl (la ++ rs) sy (sizes la + f) ∧ d'.dead = true ∧ d'.fuse = -1) := by
  have hsy : (la ++ rs).take sy = la.take sy := List.take_append_of_le_length h.sle
  have hlen : (rowL rs).length = sizes rs := rowL_length rs
  have hr0 : ((rowL rs).length : Int) ≤ d.room := by rw [h.room, hlen]; omega
  have hno : d.find (nameL (first + cl.length)) = none → d.files.length < 1000 := fun e => by rw [h.find] at e; cases e
  refine ⟨?_, ?_, ?_⟩
  · unfold putL
    rw [h.last]
    simp only
    rw [if_neg (by rw [row_all]; simp; omega)]
  · intro hf
    refine ⟨_, app_ok hd (name_ne _) (by rw [name_length]; omega) hr0 hno hf, ⟨?_, h.f0, h.fit, h.fitL.append hrs, ?_, Nat.le_refl _, ?_, ?_, h.num⟩, rfl, rfl⟩
    · simp only
      rw [with_last h, row_all, row_all, hsy, rowL_append]
    · rw [hsy, sizes_append]; have := h.syn; omega
    · have := h.sle; simp; omega
    · simp only
      rw [h.room, hlen, sizes_append]; omega
  · intro f hf hf2
    refine ⟨_, app_torn hd (name_ne _) (by rw [name_length]; omega) hr0 hno hf hf2, ⟨?_, h.f0, h.fit, h.fitL.append hrs, ?_, ?_, ?_, ?_, h.num⟩, rfl, rfl⟩
    · have e1 : (rowL (la ++ rs)).take (sizes la + f) = rowL la ++ (rowL rs).take f := by
        rw [rowL_append, List.take_append, rowL_length, List.take_of_length_le (by rw [rowL_length]; omega), show sizes la + f - sizes la = f from by omega]
      simp only
      rw [with_last h, row_all, hsy, e1]
    · rw [hsy]; have := h.syn; omega
    · rw [sizes_append]; omega
    · have := h.sle; simp; omega
    · simp only
      rw [h.room]; omega

/-- Records put into the next segment. -/
theorem put_next {d : PD} {first : Nat} {cl : List (List Rec)} (hfiles : d.files = segFiles first cl) (h0 : 0 < first) (hfit : ∀ s ∈ cl, Fit s) (hroomE : d.room = 4194304 - ((sizes cl.flatten : Nat) : Int)) (hnum : first + cl.length ≤ 99999998) (hlenF : cl.length < 1000) (hd : d.dead = false) (rs : List Rec) (hrs : Fit rs)
    (hroom : ((sizes cl.flatten + sizes rs : Nat) : Int) ≤ 4194304) :
    (¬ (0 ≤ d.fuse ∧ d.fuse < (rowL rs).length) → ∃ d', d.append (nameL (first + cl.length)) (rowL rs) = (d', 0) ∧ TornAt d' first cl rs 0 (sizes rs) ∧ d'.dead = false ∧ d'.fuse = if 0 ≤ d.fuse then d.fuse - (rowL rs).length else d.fuse) ∧
    (∀ f : Nat, d.fuse = f → f < (rowL rs).length → ∃ d', d.append (nameL (first + cl.length)) (rowL rs) = (d', 9) ∧ TornAt d' first cl rs 0 f ∧ d'.dead = true ∧ d'.fuse = -1) := by
  have hlen : (rowL rs).length = sizes rs := rowL_length rs
  have hr0 : ((rowL rs).length : Int) ≤ d.room := by rw [hroomE, hlen]; omega
  have hno : d.find (nameL (first + cl.length)) = none → d.files.length < 1000 := fun _ => by rw [hfiles, segFiles_length]; exact hlenF
  refine ⟨?_, ?_⟩
  · intro hf
    refine ⟨_, app_ok hd (name_ne _) (by rw [name_length]; omega) hr0 hno hf, ⟨?_, h0, hfit, hrs, by simp [sizes], Nat.le_refl _, Nat.zero_le _, ?_, hnum⟩, rfl, rfl⟩
    · simp only
      rw [with_next hfiles (by omega), row_all]
      rfl
    · simp only
      rw [hroomE, hlen]; omega
  · intro f hf hf2
    refine ⟨_, app_torn hd (name_ne _) (by rw [name_length]; omega) hr0 hno hf hf2, ⟨?_, h0, hfit, hrs, by simp [sizes], by omega, Nat.zero_le _, ?_, hnum⟩, rfl, rfl⟩
    · simp only
      rw [with_next hfiles (by omega)]
      rfl
    · simp only
      rw [hroomE]; omega

end Go.Proofs.YtjidadolfpjdeaaGreatDoor

namespace Go.Proofs.YtjidadolfpjdeaaGreatDoor
set_option linter.unusedVariables false

theorem flat_snoc (cl : List (List Rec)) (la : List Rec) : (cl ++ [la]).flatten = cl.flatten ++ la := by simp
theorem fit_snoc {cl : List (List Rec)} {la : List Rec} (h : ∀ s ∈ cl, Fit s) (hl : Fit la) : ∀ s ∈ cl ++ [la], Fit s := fun s hs => by
  rcases List.mem_append.1 hs with hs | hs
  · exact h s hs
  · rw [List.mem_singleton.1 hs]; exact hl

/-- The last segment synced is closed. -/
theorem TornAt.closed {d : PD} {first : Nat} {cl : List (List Rec)} {la : List Rec} {sy : Nat} (h : TornAt d first cl la sy (sizes la)) (hd : d.dead = false) :
    d.sync (nameL (first + cl.length)) = ({ d with files := segFiles first (cl ++ [la]) }, 0) := by
  rw [sync_last h hd, row_all, segFiles_snoc]

/-- Frames put into the next segment, behind the last one that is synced ahead. -/
theorem put_fresh {d : PD} {first : Nat} {cl : List (List Rec)} {la : List Rec} {sy : Nat} (h : TornAt d first cl la sy (sizes la)) (hd : d.dead = false) (rs : List Rec) (fresh : Bool) (hfr : fresh = true ∨ 1024 ≤ (rowL la).length) :
    putL d (rowL rs) fresh = ({ d with files := segFiles first (cl ++ [la]) } : PD).append (nameL (first + (cl ++ [la]).length)) (rowL rs) := by
  unfold putL
  rw [h.last]
  simp only
  rw [if_pos (by rw [row_all]; exact hfr), if_neg (by have := h.num; omega), h.closed hd]
  simp only
  rw [if_neg (by simp)]
  congr 2
  simp
  omega

theorem put_none {d : PD} (hf : d.files = []) (fr : List UInt8) (fresh : Bool) : putL d fr fresh = d.append (nameL (1 + ([] : List (List Rec)).length)) fr := by
  unfold putL
  rw [hf]
  rfl

theorem add_st {d : PD} {R : List Rec} {sure M : Nat} (h : LogSt d R sure M) (hd : d.dead = false) {r : Rec} (h1 : 1 ≤ r.length) (h2 : r.length ≤ 65536) (hroom : sizes R + (frameL r).length ≤ 4194304) (hM : M ≤ 900) :
    (¬ (0 ≤ d.fuse ∧ d.fuse < (frameL r).length) → ∃ d', addL d r = (d', 0) ∧ LogSt d' (R ++ [r]) sure (M + 1) ∧ d'.dead = false ∧ d'.fuse = if 0 ≤ d.fuse then d.fuse - (frameL r).length else d.fuse) ∧
    (∀ f : Nat, d.fuse = f → f < (frameL r).length → ∃ d', addL d r = (d', 9) ∧ TornSt d' (R ++ [r]) sure (M + 1) ∧ d'.dead = true ∧ d'.fuse = -1) := by
  have hrow : rowL [r] = frameL r := by rw [rowL_cons, rowL_nil, List.append_nil]
  have hfit : Fit [r] := fun x hx => by rw [List.mem_singleton.1 hx]; exact ⟨h1, h2⟩
  have hsz : sizes [r] = (frameL r).length := by simp [sizes]
  have hadd : addL d r = putL d (rowL [r]) false := by unfold addL; rw [if_neg (by omega), hrow]
  rw [hadd, ← hrow]
  rcases h with ⟨e1, rfl, rfl, e4⟩ | ⟨first, cl, la, sy, t, rfl, e3, e4⟩
  · have hp := put_next (d := d) (first := 1) (cl := []) e1 (by omega) (fun s hs => by cases hs) (by rw [e4]; simp [sizes]) (by simp) (by simp) hd [r] hfit (by simp [sizes] at hroom ⊢; omega)
    rw [put_none e1]
    refine ⟨fun hf => ?_, fun f hf hf2 => ?_⟩
    · obtain ⟨d', a1, a2, a3, a4⟩ := hp.1 hf
      exact ⟨d', a1, .inr ⟨1, [], [r], 0, a2, rfl, by simp, by simp⟩, a3, a4⟩
    · obtain ⟨d', a1, a2, a3, a4⟩ := hp.2 f hf hf2
      exact ⟨d', a1, .inr ⟨1, [], [r], 0, f, a2, rfl, by simp, by simp⟩, a3, a4⟩
  · rw [sizes_append] at hroom
    by_cases hlt : (rowL la).length < 1024
    · obtain ⟨p1, p2, p3⟩ := put_behind t hd [r] hfit (by rw [hsz]; omega) hlt
      rw [p1]
      refine ⟨fun hf => ?_, fun f hf hf2 => ?_⟩
      · obtain ⟨d', a1, a2, a3, a4⟩ := p2 hf
        exact ⟨d', a1, .inr ⟨first, cl, la ++ [r], sy, a2, by simp, e3, by omega⟩, a3, a4⟩
      · obtain ⟨d', a1, a2, a3, a4⟩ := p3 f hf hf2
        exact ⟨d', a1, .inr ⟨first, cl, la ++ [r], sy, _, a2, by simp, e3, by omega⟩, a3, a4⟩
    · have hsle := t.sle
      have hnum := t.num
      have hp := put_next (d := { d with files := segFiles first (cl ++ [la]) }) (first := first) (cl := cl ++ [la]) rfl t.f0 (fit_snoc t.fit t.fitL) (by rw [flat_snoc, sizes_append]; exact t.room) (by simp; omega) (by have := t.f0; simp; omega) hd [r] hfit (by rw [flat_snoc, sizes_append, hsz]; omega)
      rw [put_fresh t hd [r] false (.inr (by omega))]
      refine ⟨fun hf => ?_, fun f hf hf2 => ?_⟩
      · obtain ⟨d', a1, a2, a3, a4⟩ := hp.1 hf
        exact ⟨d', a1, .inr ⟨first, cl ++ [la], [r], 0, a2, by simp, by rw [flat_snoc, List.length_append]; omega, by simp; omega⟩, a3, a4⟩
      · obtain ⟨d', a1, a2, a3, a4⟩ := hp.2 f hf hf2
        exact ⟨d', a1, .inr ⟨first, cl ++ [la], [r], 0, f, a2, by simp, by rw [flat_snoc, List.length_append]; omega, by simp; omega⟩, a3, a4⟩

/-- .. the record's bytes fit: the number of the last segment stays below what the model bounds. -/
theorem sync_st {d : PD} {R : List Rec} {sure M : Nat} (h : LogSt d R sure M) (hd : d.dead = false) :
    ∃ d', syncL d = (d', 0) ∧ LogSt d' R R.length M ∧ d'.dead = false ∧ d'.fuse = d.fuse := by
  rcases h with ⟨e1, rfl, rfl, e4⟩ | ⟨first, cl, la, sy, t, rfl, e3, e4⟩
  · refine ⟨d, ?_, .inl ⟨e1, rfl, rfl, e4⟩, hd, rfl⟩
    unfold syncL
    rw [e1]
    rfl
  · refine ⟨{ d with files := segFiles first cl ++ [⟨nameL (first + cl.length), (rowL la).take (sizes la), sizes la⟩] }, ?_, .inr ⟨first, cl, la, la.length, ⟨?_, t.f0, t.fit, t.fitL, ?_, Nat.le_refl _, Nat.le_refl _, t.room, t.num⟩, rfl, by simp, e4⟩, hd, rfl⟩
    · unfold syncL
      rw [t.last]
      simp only
      rw [sync_last t hd]
    · simp only
      rw [List.take_length]
    · rw [List.take_length]; exact Nat.le_refl _

/-! ### Crash -/
theorem crL_last : ∀ (n : Nat) (cl : List (List Rec)) (k : Nat) (f : PF), crL k (segFiles n cl ++ [f]) = segFiles n cl ++ [cutF (f.synced + stayF k f) f]
  | n, [], k, f => rfl
  | n, s :: r, k, f => by
    have h0 : stayF k { name := nameL n, bytes := rowL s, synced := sizes s } = 0 := by unfold stayF; simp [rowL_length]
    rw [segFiles, List.cons_append, crL, h0]
    rw [show k - 0 = k from rfl, crL_last (n + 1) r k f]
    congr 1
    unfold cutF
    simp only [Nat.add_zero]
    rw [List.take_of_length_le (by rw [rowL_length]; omega)]

theorem TornAt.files_ok {d : PD} {first : Nat} {cl : List (List Rec)} {la : List Rec} {sy n : Nat} (h : TornAt d first cl la sy n) :
    (∀ f ∈ d.files, f.synced ≤ f.bytes.length) ∧ (∀ f ∈ d.files, f.name.length ≤ 24) ∧ d.files.length = cl.length + 1 ∧ totF d.files = sizes cl.flatten + n := by
  have hle := h.le
  refine ⟨?_, ?_, ?_, ?_⟩
  · rw [h.files]
    intro f hf
    rcases List.mem_append.1 hf with hf | hf
    · obtain ⟨k, s, _, _, _, rfl⟩ := segFiles_mem _ _ _ hf
      simp [rowL_length]
    · rw [List.mem_singleton.1 hf]
      simp only [List.length_take, rowL_length, Nat.min_eq_left hle]
      exact h.syn
  · rw [h.files]
    intro f hf
    rcases List.mem_append.1 hf with hf | hf
    · obtain ⟨k, s, _, _, _, rfl⟩ := segFiles_mem _ _ _ hf
      simp [name_length]
    · rw [List.mem_singleton.1 hf]
      simp [name_length]
  · rw [h.files, List.length_append, segFiles_length]; rfl
  · rw [h.files, totF_append, segFiles_tot, totF_one]
    simp only [List.length_take, rowL_length, Nat.min_eq_left hle]

theorem crash_st {d : PD} {R : List Rec} {sure M : Nat} (h : TornSt d R sure M) (hd : d.dead = false) (hsz : sizes R ≤ 4194304) (keep : Int) :
    ∃ d', d.crash keep = (d', 0) ∧ TornSt d' R sure M ∧ d'.dead = true ∧ d'.fuse = -1 := by
  have hc : ∀ (hs : ∀ f ∈ d.files, f.synced ≤ f.bytes.length) (ht : totF d.files ≤ 9223372036854775807), d.crash keep = ({ files := crL (keepN keep) d.files, room := d.room + (totF d.files - totF (crL (keepN keep) d.files) : Int), fuse := -1, dead := true }, 0) := by
    intro hs ht
    unfold PD.crash
    rw [if_neg (by simp [hd]), crash_keep d.files keep hs ht]
  rcases h with ⟨e1, rfl, rfl, e4⟩ | ⟨first, cl, la, sy, n, t, rfl, e3, e4⟩
  · refine ⟨_, hc (by rw [e1]; intro f hf; cases hf) (by rw [e1]; simp [totF]), .inl ⟨?_, rfl, rfl, ?_⟩, rfl, rfl⟩
    · simp only; rw [e1]; rfl
    · simp only; rw [e1, e4]; rfl
  · obtain ⟨o1, o2, o3, o4⟩ := t.files_ok
    have hle := t.le
    rw [sizes_append] at hsz
    refine ⟨_, hc o1 (by rw [o4]; omega), ?_, rfl, rfl⟩
    obtain ⟨st, hst⟩ : ∃ st, stayF (keepN keep) ⟨nameL (first + cl.length), (rowL la).take n, sizes (la.take sy)⟩ = st := ⟨_, rfl⟩
    have hst2 : sizes (la.take sy) + st ≤ n := by
      rw [← hst]
      unfold stayF
      simp only [List.length_take, rowL_length, Nat.min_eq_left hle]
      have := t.syn
      omega
    have hfiles : crL (keepN keep) d.files = segFiles first cl ++ [⟨nameL (first + cl.length), (rowL la).take (sizes (la.take sy) + st), sizes (la.take sy)⟩] := by
      rw [t.files, crL_last, hst]
      congr 2
      unfold cutF
      simp only
      rw [List.take_take, Nat.min_eq_left hst2]
    refine .inr ⟨first, cl, la, sy, sizes (la.take sy) + st, ⟨hfiles, t.f0, t.fit, t.fitL, by omega, by omega, t.sle, ?_, t.num⟩, rfl, e3, e4⟩
    simp only
    rw [o4, hfiles, totF_append, segFiles_tot, totF_one, t.room]
    simp only [List.length_take, rowL_length, Nat.min_eq_left (show sizes (la.take sy) + st ≤ sizes la by omega)]
    omega

/-! ### Open -/
theorem open_st {d : PD} {R : List Rec} {sure M : Nat} (h : TornSt d R sure M) (hd : d.dead = false) :
    ∃ d' k, openL d = (d', R.take k, 0) ∧ LogSt d' (R.take k) k M ∧ sure ≤ k ∧ k ≤ R.length ∧ d'.dead = false ∧ d'.fuse = d.fuse ∧ (LogSt d R sure M → k = R.length) := by
  rcases h with ⟨e1, rfl, rfl, e4⟩ | ⟨first, cl, la, sy, n, t, rfl, e3, e4⟩
  · refine ⟨d, 0, ?_, .inl ⟨e1, rfl, rfl, e4⟩, Nat.le_refl _, Nat.le_refl _, hd, rfl, fun _ => rfl⟩
    unfold openL
    rw [if_neg (by simp [hd]), e1]
    rfl
  · obtain ⟨m, m1, m2, m3⟩ := cut_place la n t.le
    obtain ⟨e, c1, c2, c3⟩ := fit_cut t.fitL m1 m2 m3 t.le
    have hsym : sy ≤ m := by
      by_cases hlt : m < la.length
      · have h3 := m3 hlt
        apply Nat.le_of_not_lt
        intro hc
        have := sizes_take_mono la (show m + 1 ≤ sy by omega)
        have := t.syn
        omega
      · have := t.sle; omega
    have hnum := t.num
    have hgood : goodSeg ⟨nameL (first + cl.length), (rowL la).take n, sizes (la.take sy)⟩ = true := by
      unfold goodSeg
      simp only [decide_eq_true_eq]
      rw [List.take_take, Nat.min_eq_left t.syn]
      have hpre : (rowL la).take (sizes (la.take sy)) = rowL (la.take sy) := by
        conv => lhs; rw [← List.take_append_drop sy la, rowL_append]
        rw [show sizes (List.take sy (List.take sy la ++ List.drop sy la)) = (rowL (la.take sy)).length from by rw [List.take_append_drop, rowL_length], List.take_left]
      rw [hpre, fit_whole (t.fitL.take sy)]
    have hopen : openGo none (segsL d.files) = some (cl.flatten ++ la.take m) := by
      rw [t.files, last_seg t.f0 (by omega), open_closed first cl none _ t.fit t.f0 (by omega) (fun m hm => by cases hm) hgood, c1]
    have hcut : d.cut (nameL (first + cl.length)) ((sizes (la.take m) : Nat) : Int) = ({ d with files := segFiles first cl ++ [⟨nameL (first + cl.length), rowL (la.take m), sizes (la.take sy)⟩], room := d.room + ((n : Int) - (sizes (la.take m) : Nat)) }, 0) := by
      unfold PD.cut PD.within
      rw [if_neg (by simp [hd]), t.find]
      simp only
      have hmn := sizes_take_mono la hsym
      have hle := t.le
      rw [if_neg (by simp only [List.length_take, rowL_length, Nat.min_eq_left hle]; omega), t.files, set_last (by omega) _ rfl]
      simp only [Int.toNat_natCast, List.length_take, rowL_length, Nat.min_eq_left hle]
      rw [List.take_take, Nat.min_eq_left m2, c3]
    have t2 : TornAt ({ d with files := segFiles first cl ++ [⟨nameL (first + cl.length), rowL (la.take m), sizes (la.take sy)⟩], room := d.room + ((n : Int) - (sizes (la.take m) : Nat)) } : PD) first cl (la.take m) sy (sizes (la.take m)) := by
      refine ⟨?_, t.f0, t.fit, t.fitL.take m, ?_, Nat.le_refl _, by simp; omega, ?_, t.num⟩
      · simp only
        rw [row_all, List.take_take, Nat.min_eq_left hsym]
      · rw [List.take_take, Nat.min_eq_left hsym]; exact sizes_take_mono la hsym
      · simp only
        rw [t.room]; omega
    have hs := sync_last t2 hd
    rw [row_all] at hs
    have hRt : (cl.flatten ++ la).take (cl.flatten.length + m) = cl.flatten ++ la.take m := by
      rw [List.take_append, List.take_of_length_le (by omega), Nat.add_sub_cancel_left]
    refine ⟨{ d with files := segFiles first cl ++ [⟨nameL (first + cl.length), rowL (la.take m), sizes (la.take m)⟩], room := d.room + ((n : Int) - (sizes (la.take m) : Nat)) }, cl.flatten.length + m, ?_, .inr ⟨first, cl, la.take m, m, ⟨?_, t.f0, t.fit, t.fitL.take m, ?_, Nat.le_refl _, by simp; omega, t2.room, t.num⟩, hRt, Nat.le_refl _, e4⟩, by omega, by rw [List.length_append]; omega, ?_, ?_, ?_⟩
    · rw [hRt]
      unfold openL
      rw [if_neg (by simp [hd]), hopen, t.last]
      simp only
      rw [c1]
      simp only
      rw [hcut]
      simp only
      rw [hs]
    · simp only
      rw [row_all, List.take_take, Nat.min_self]
    · rw [List.take_take, Nat.min_self]; exact Nat.le_refl _
    · exact hd
    · rfl
    · intro hlog
      rcases hlog with ⟨e1, _⟩ | ⟨first', cl', la', sy', t', hR, _⟩
      · rw [t.files] at e1; simp at e1
      · have hl := congrArg totF (t.files.symm.trans t'.files)
        rw [totF_append, totF_append, segFiles_tot, segFiles_tot, totF_one, totF_one] at hl
        simp only [List.length_take, rowL_length, Nat.min_eq_left t.le, Nat.min_eq_left t'.le] at hl
        have hsum := congrArg sizes hR
        rw [sizes_append, sizes_append] at hsum
        have hn : n = sizes la := by omega
        rw [List.length_append]
        by_cases hlt : m < la.length
        · have := m3 hlt
          have := sizes_take_le la (m + 1)
          omega
        · omega

end Go.Proofs.YtjidadolfpjdeaaGreatDoor

namespace Go.Proofs.YtjidadolfpjdeaaGreatDoor
set_option linter.unusedVariables false

/-! ### Renew -/
theorem filter_seg {n : Nat} {cl : List (List Rec)} {m : Nat} (hm : n + cl.length ≤ 99999999) (h1 : m < n) : (segFiles n cl).filter (fun g => g.name ≠ nameL m) = segFiles n cl := by
  refine List.filter_eq_self.2 (fun g hg => ?_)
  obtain ⟨k, s, k1, k2, _, rfl⟩ := segFiles_mem n cl g hg
  have : nameL k ≠ nameL m := fun e => by have := name_inj (by omega) (by omega) e; omega
  simpa using this

theorem remove_first {d : PD} {n : Nat} {s : List Rec} {r : List (List Rec)} {f : PF} (hf : d.files = segFiles n (s :: r) ++ [f]) (hd : d.dead = false) (hm : n + (s :: r).length ≤ 99999998) (hlast : f.name = nameL (n + (s :: r).length)) :
    d.remove (nameL n) = ({ d with files := segFiles (n + 1) r ++ [f], room := d.room + (sizes s : Nat) }, 0) := by
  have hl : (s :: r).length = r.length + 1 := rfl
  unfold PD.remove PD.within
  have hfind : d.find (nameL n) = some { name := nameL n, bytes := rowL s, synced := sizes s } := by
    unfold PD.find
    rw [hf, segFiles, List.cons_append, List.find?_cons_of_pos (by simp)]
  rw [if_neg (by simp [hd]), hfind]
  simp only
  rw [hf, segFiles, List.cons_append, List.filter_cons_of_neg (by simp), List.filter_append, filter_seg (by omega) (Nat.lt_succ_self n), rowL_length]
  have hne : f.name ≠ nameL n := fun e => by rw [hlast] at e; have := name_inj (by omega) (by omega) e; omega
  rw [List.filter_cons_of_pos (by simpa using hne)]
  rfl

theorem remove_all : ∀ (cl : List (List Rec)) (d : PD) (n : Nat) (f : PF), d.files = segFiles n cl ++ [f] → d.dead = false → 0 < n → n + cl.length ≤ 99999998 → f.name = nameL (n + cl.length) →
    removeAll d (segsL (segFiles n cl)) = ({ d with files := [f], room := d.room + (sizes cl.flatten : Nat) }, 0)
  | [], d, n, f, hf, _, _, _, _ => by
    show removeAll d [] = _
    rw [removeAll]
    have : d.room + ((sizes ([] : List (List Rec)).flatten : Nat) : Int) = d.room := by simp [sizes]
    rw [this]
    cases d
    simp only at hf
    rw [hf]
    rfl
  | s :: r, d, n, f, hf, hd, h0, hm, hlast => by
    have hl : (s :: r).length = r.length + 1 := rfl
    have e1 : segsL (segFiles n (s :: r)) = (n, { name := nameL n, bytes := rowL s, synced := sizes s }) :: segsL (segFiles (n + 1) r) := by
      rw [segFiles, ← List.singleton_append, segsL_append, segsL_one h0 (by omega)]
      rfl
    have hrm := remove_first hf hd hm hlast
    rw [e1, removeAll]
    simp only
    rw [hrm]
    simp only
    rw [if_neg (by simp)]
    have ih := remove_all r { d with files := segFiles (n + 1) r ++ [f], room := d.room + (sizes s : Nat) } (n + 1) f rfl hd (by omega) (by omega) (by rw [hlast, hl]; congr 1; omega)
    rw [ih]
    simp only
    rw [List.flatten_cons, sizes_append]
    congr 2
    omega

theorem renew_st {d : PD} {R : List Rec} {sure M : Nat} (h : LogSt d R sure M) (hd : d.dead = false) {rs : List Rec} (hrs : Fit rs) (hroom : sizes R + sizes rs ≤ 4194304) (hM : M ≤ 900) :
    (¬ (0 ≤ d.fuse ∧ d.fuse < (rowL rs).length) → ∃ d', renewL d rs = (d', 0) ∧ LogSt d' rs rs.length (M + 1) ∧ d'.dead = false ∧ (segsL d'.files).length = 1) ∧
    (∀ f : Nat, d.fuse = f → f < (rowL rs).length → ∃ d', renewL d rs = (d', 9) ∧ TornSt d' (R ++ rs) R.length (M + 1) ∧ d'.dead = true ∧ d'.fuse = -1) := by
  have hany : rs.any (fun r => decide (r.length < 1 ∨ 65536 < r.length)) = false := by
    rw [List.any_eq_false]
    intro x hx
    have := hrs x hx
    simp only [decide_eq_true_eq]
    omega
  have hren : renewL d rs = if (putL d (rowL rs) true).2 ≠ 0 then putL d (rowL rs) true
      else removeAll (syncL (putL d (rowL rs) true).1).1 (segsL (syncL (putL d (rowL rs) true).1).1.files).dropLast := by
    unfold renewL
    rw [hany]
    rfl
  -- behind the frames: synced, and all ahead removed
  have hend : ∀ (d1 : PD) (first : Nat) (cl : List (List Rec)), TornAt d1 first cl rs 0 (sizes rs) → d1.dead = false → ∃ d', removeAll (syncL d1).1 (segsL (syncL d1).1.files).dropLast = (d', 0) ∧ TornAt d' (first + cl.length) [] rs rs.length (sizes rs) ∧ d'.dead = false ∧ (segsL d'.files).length = 1 := by
    intro d1 first cl t hd1
    have hs : syncL d1 = ({ d1 with files := segFiles first cl ++ [⟨nameL (first + cl.length), rowL rs, sizes rs⟩] }, 0) := by
      unfold syncL
      rw [t.last]
      simp only
      rw [sync_last t hd1, row_all]
    rw [hs]
    simp only
    have hnum := t.num
    have hf0 := t.f0
    rw [last_seg t.f0 (by omega), List.dropLast_concat]
    refine ⟨_, remove_all cl _ first ⟨nameL (first + cl.length), rowL rs, sizes rs⟩ rfl hd1 t.f0 t.num rfl, ⟨?_, by omega, (fun s hs => by cases hs), t.fitL, ?_, Nat.le_refl _, Nat.le_refl _, ?_, by simpa using hnum⟩, hd1, ?_⟩
    · simp only [segFiles, List.nil_append, List.length_nil, Nat.add_zero]
      rw [row_all, List.take_length]
    · rw [List.take_length]; exact Nat.le_refl _
    · simp only
      rw [t.room]
      simp [sizes]
      omega
    · simp only
      rw [segsL_one (by omega) (by omega)]
      rfl
  rw [hren]
  rcases h with ⟨e1, rfl, rfl, e4⟩ | ⟨first, cl, la, sy, t, rfl, e3, e4⟩
  · have hp := put_next (d := d) (first := 1) (cl := []) e1 (by omega) (fun s hs => by cases hs) (by rw [e4]; simp [sizes]) (by simp) (by simp) hd rs hrs (by simp [sizes] at hroom ⊢; omega)
    rw [put_none e1]
    refine ⟨fun hf => ?_, fun f hf hf2 => ?_⟩
    · obtain ⟨d1, a1, a2, a3, a4⟩ := hp.1 hf
      rw [a1]
      simp only
      rw [if_neg (by simp)]
      obtain ⟨d', b1, b2, b3, b4⟩ := hend d1 1 [] a2 a3
      exact ⟨d', b1, .inr ⟨1, [], rs, rs.length, b2, by simp, by simp, by simp⟩, b3, b4⟩
    · obtain ⟨d', a1, a2, a3, a4⟩ := hp.2 f hf hf2
      rw [a1]
      simp only
      rw [if_pos (by simp)]
      exact ⟨d', rfl, .inr ⟨1, [], rs, 0, f, a2, by simp, by simp, by simp⟩, a3, a4⟩
  · rw [sizes_append] at hroom
    have hnum := t.num
    have hp := put_next (d := { d with files := segFiles first (cl ++ [la]) }) (first := first) (cl := cl ++ [la]) rfl t.f0 (fit_snoc t.fit t.fitL) (by rw [flat_snoc, sizes_append]; exact t.room) (by simp; omega) (by have := t.f0; simp; omega) hd rs hrs (by rw [flat_snoc, sizes_append]; omega)
    rw [put_fresh t hd rs true (.inl rfl)]
    refine ⟨fun hf => ?_, fun f hf hf2 => ?_⟩
    · obtain ⟨d1, a1, a2, a3, a4⟩ := hp.1 hf
      rw [a1]
      simp only
      rw [if_neg (by simp)]
      obtain ⟨d', b1, b2, b3, b4⟩ := hend d1 first (cl ++ [la]) a2 a3
      exact ⟨d', b1, .inr ⟨first + (cl ++ [la]).length, [], rs, rs.length, b2, by simp, by simp, by simp; omega⟩, b3, b4⟩
    · obtain ⟨d', a1, a2, a3, a4⟩ := hp.2 f hf hf2
      rw [a1]
      simp only
      rw [if_pos (by simp)]
      exact ⟨d', rfl, .inr ⟨first, cl ++ [la], rs, 0, f, a2, by simp, by rw [flat_snoc]; simp, by simp; omega⟩, a3, a4⟩

end Go.Proofs.YtjidadolfpjdeaaGreatDoor
