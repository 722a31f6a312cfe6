/-
  The Reader's Byte, Num, Below, Left, End over this translation: what each answers and what it leaves, in the words of the plain reader of the Pure text.
-/
import Derived.Test.YtefocgifgphgiaaRd
import Derived.Test.YtefocgifgphgiaaPure
import Derived.Test.YtefocgifgphgiaaLen
import Derived.Laws.BitsAllLaws
import Derived.Lib.Hide
namespace Go.Proofs.Ytefocgifgphgiaa
open Go.RowKit
set_option linter.unusedVariables false

/-- A text of these bytes. -/
abbrev B (l : List UInt8) : ByteArray := ⟨l.toArray⟩

theorem B_size (l : List UInt8) : (B l).size = l.length := by simp [ByteArray.size]
theorem B_extract (l : List UInt8) (a b : Nat) : (B l).extract a b = B ((l.drop a).take (b - a)) := by
  apply ByteArray.ext; apply Array.ext'
  rw [Lib.extract_data]
theorem B_take (l : List UInt8) (n : Nat) : (B l).extract 0 n = B (l.take n) := by rw [B_extract]; simp
theorem B_drop (l : List UInt8) (n : Nat) : (B l).extract n (B l).size = B (l.drop n) := by
  rw [B_extract, B_size, List.take_of_length_le (by simp)]
theorem B_data (s : ByteArray) : s = B s.data.toList := by apply ByteArray.ext; simp
theorem B_inj {l m : List UInt8} (h : B l = B m) : l = m := by
  have := congrArg (fun s => s.data.toList) h; simpa using this

theorem or_num (a c : Nat) (ha : a < 72057594037927936) (hc : c < 256) : bits .or .u64 (IntKind.u64.wrap ((a : Int) * 256)) (IntKind.u64.wrap (c : Int)) = ((a * 256 + c : Nat) : Int) := by
  have e1 : IntKind.u64.wrap ((a : Int) * 256) = ((a * 256 : Nat) : Int) := by rw [IntKind.wrap_u64]; omega
  have e2 : IntKind.u64.wrap (c : Int) = ((c : Nat) : Int) := by rw [IntKind.wrap_u64]; omega
  rw [e1, e2, u64_or_nat _ _ (by omega) (by omega), nat_join 8 _ _ (by omega) hc]

theorem be_take_succ (u : List UInt8) (j : Nat) (hj : j < u.length) : be (u.take (j + 1)) = be (u.take j) * 256 + u[j].toNat := by
  rw [List.take_succ_eq_append_getElem hj, be_snoc]

theorem or_step (u : List UInt8) (j : Nat) (hj : j < u.length) (h8 : u.length ≤ 8) (h : j < (B u).size) :
    bits .or .u64 (IntKind.u64.wrap ((be (u.take j) : Nat) * 256 : Int)) (IntKind.u64.wrap (((B u)[j]'h).toNat : Int)) = ((be (u.take (j + 1)) : Nat) : Int) := by
  have e : (B u)[j]'h = u[j] := rfl
  have hl := be_lt j (u.take j) (by simp; omega)
  have hp : 256 ^ j ≤ 256 ^ 7 := Nat.pow_le_pow_right (by decide) (by omega)
  rw [e, or_num _ _ (by omega) (u[j].toNat_lt), be_take_succ u j hj]

end Go.Proofs.Ytefocgifgphgiaa
