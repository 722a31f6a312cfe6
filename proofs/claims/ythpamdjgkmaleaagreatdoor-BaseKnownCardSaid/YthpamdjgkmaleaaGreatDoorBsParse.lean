/-
  strconv's ParseUint over this translation, to the base 16; the slot of a file's name.
-/
import Derived.Test.YthpamdjgkmaleaaGreatDoorBsFmt
import Derived.Lib.ConvBytes
import Derived.Lib.IfaceEq
namespace Go.Proofs.YthpamdjgkmaleaaGreatDoor
open Go.RowKit
set_option linter.unusedVariables false

def puV : PU → Value
  | .ok n => .tuple #[.int .u64 n, .nilIface]
  | .far => .tuple #[.int .u64 18446744073709551615, .iface 167 (.int .i64 1)]
  | .bad => .tuple #[.int .u64 0, .iface 167 (.int .i64 2)]
def pu0 (l : List UInt8) : PU := if l = [] then .bad else pu 0 l
theorem lowI (c : UInt8) : bits .or .u8 (c.toNat : Int) 32 = ((low_ c).toNat : Int) := by
  have all : ∀ n < 256, bits .or .u8 ((UInt8.ofNat n).toNat : Int) 32 = ((low_ (UInt8.ofNat n)).toNat : Int) := by decide +kernel
  have := all c.toNat c.toNat_lt
  simpa using this

set_option maxHeartbeats 8000000 in
set_option maxRecDepth 100000 in
theorem iparse16 (l : List UInt8) (hl : l.length ≤ 1000000) (w : World) : Calls Tryz.prog 103 #[.string (B l), .int .i64 16, .int .i64 64] w fun e w' => e = .returned (puV (pu0 l)) ∧ Below w.heap.size w w' := by
  by_cases hnil : l = []
  · subst hnil
    go_enter Tryz.func103, Tryz.ntmps103
    go_wp2
    go_ret2
    exact ⟨rfl, Below.refl _ _⟩
  have hp : pu0 l = pu 0 l := if_neg hnil
  rw [hp]
  have hne : (B l).size ≠ 0 := by rw [B_size]; exact fun e => hnil (List.eq_nil_of_length_eq_zero e)
  have hemp : l.isEmpty = false := by cases l with
    | nil => exact absurd rfl hnil
    | cons c t => rfl
  have hcv := Lib.run_convert_string_bytes (P := Tryz.prog) w 9 50 5 (B l) (u := .string) Tryz.underlying9 Tryz.underlying50 Tryz.underlying5
  have hB : ∀ j, j < l.length → (Lib.bytesWorld w 5 (B l)).cell? ⟨w.heap.size, j, none⟩ = some (.int .u8 (l.getD j 0).toNat) := fun j hj => Lib.bytesWorld_cell w 5 (B l) j (by rw [B_size]; exact hj)
  have hBel : Below w.heap.size w (Lib.bytesWorld w 5 (B l)) := Lib.bytesWorld_below _ _ _
  obtain ⟨W1, hW1⟩ : ∃ W1, W1 = Lib.bytesWorld w 5 (B l) := ⟨_, rfl⟩
  rw [← hW1] at hcv hB hBel
  clear hW1
  have hsz : ((B l).size : Int) = (l.length : Int) := by rw [B_size]
  have HBel := Lib.hid hBel
  clear hBel hp
  have hmv : IntKind.u64.wrap (IntKind.u64.wrap 18446744073709551616 - 1) = 18446744073709551615 := by
    rw [IntKind.wrap_u64, IntKind.wrap_u64]
    decide
  go_enter Tryz.func103, Tryz.ntmps103
  go_wp2
  go_loop [12, 13, 101] (fun vu vn vi => ∃ (k acc : Nat) (a : Int), vu = .bool false ∧ vn = .int .u64 a ∧ vi = .int .i64 k ∧ k ≤ l.length ∧ Hid (a = (acc : Int) ∧ acc < 18446744073709551616 ∧ pu 0 l = pu acc (l.drop k)))
    (fun _ _ vi => l.length - (intOf vi).toNat)
  case atStart => exact ⟨0, 0, 0, rfl, rfl, rfl, by omega, rfl, by omega, rfl⟩
  case round =>
    obtain ⟨k, acc, a, rfl, rfl, rfl, hk, hh⟩ := hrel
    obtain ⟨ha, hacc, hdec⟩ := hh.out
    clear hh
    have a0 : 0 ≤ a := by omega
    have a1 : a < 18446744073709551616 := by omega
    by_cases hkn : k < l.length
    · have hc := hB k hkn
      have hdrop : l.drop k = l[k]'(by omega) :: l.drop (k + 1) := List.drop_eq_getElem_cons (by omega)
      have hget : l.getD k 0 = l[k]'(by omega) := by simp [List.getD, List.getElem?_eq_getElem (show k < l.length by omega)]
      rw [hdrop] at hdec
      rw [hget] at hc
      generalize l[k]'(by omega) = c at hc hdec
      have hc256 : c.toNat < 256 := c.toNat_lt
      have hlow := lowI c
      have hlow256 : (low_ c).toNat < 256 := (low_ c).toNat_lt
      clear hB hdrop hget
      by_cases hdig : 48 ≤ c.toNat ∧ c.toNat ≤ 57
      · obtain ⟨hd0, hd1⟩ := hdig
        have hD : dg c = some (c.toNat - 48) := if_pos ⟨hd0, hd1⟩
        by_cases hcut : 1152921504606846976 ≤ acc
        · have hF : pu acc (c :: l.drop (k + 1)) = .far := by rw [pu, hD]; simp only; rw [if_pos hcut]
          rw [hF] at hdec
          have icut : 1152921504606846976 ≤ a := by omega
          have HD := Lib.hid hdec
          clear hcut hacc hF ha hD hdec hlow hlow256
          go_wp2
          go_ret2
          exact ⟨by rw [HD.out]; rfl, HBel.out⟩
        · have hF : pu acc (c :: l.drop (k + 1)) = pu (acc * 16 + (c.toNat - 48)) (l.drop (k + 1)) := by rw [pu, hD]; simp only; rw [if_neg hcut]
          have HN : Hid (a * 16 + ((c.toNat : Int) - 48) = ((acc * 16 + (c.toNat - 48) : Nat) : Int) ∧ acc * 16 + (c.toNat - 48) < 18446744073709551616 ∧ pu 0 l = pu (acc * 16 + (c.toNat - 48)) (l.drop (k + 1))) := Lib.hid ⟨by omega, by omega, hdec.trans hF⟩
          have icut : a < 1152921504606846976 := by omega
          have iov : a * 16 + ((c.toNat : Int) - 48) < 18446744073709551616 := by omega
          clear hcut hacc hF hdec ha hD hlow hlow256
          go_wp2
          refine ⟨⟨k + 1, acc * 16 + (c.toNat - 48), a * 16 + ((c.toNat : Int) - 48), rfl, (by first | rfl | (congr 1; omega)), (by first | rfl | (congr 1; omega)), by omega, HN⟩, by simp [intOf]; omega⟩
      · by_cases hlet : 97 ≤ (low_ c).toNat ∧ (low_ c).toNat ≤ 102
        · obtain ⟨hd0, hd1⟩ := hlet
          have hD : dg c = some ((low_ c).toNat - 87) := by unfold dg; rw [if_neg hdig, if_pos ⟨hd0, hd1⟩]
          have h95 : ¬ (c.toNat : Int) = 95 := by
            intro e
            have e2 : c = 95 := by apply UInt8.toNat_inj.1; have : c.toNat = 95 := by omega
                                   rw [this]; rfl
            rw [e2] at hd1
            exact absurd hd1 (by decide)
          have hnd : ¬ (48 ≤ (c.toNat : Int) ∧ (c.toNat : Int) ≤ 57) := by omega
          generalize (low_ c).toNat = y at *
          by_cases hcut : 1152921504606846976 ≤ acc
          · have hF : pu acc (c :: l.drop (k + 1)) = .far := by rw [pu, hD]; simp only; rw [if_pos hcut]
            rw [hF] at hdec
            have icut : 1152921504606846976 ≤ a := by omega
            have HD := Lib.hid hdec
            clear hcut hacc hF ha hD hdec hdig
            go_wp2_with (go_at_call 126; refine (sh_internal_strconv_lower _ _).mono ?_; rintro e w' ⟨rfl, rfl⟩)
            all_goals (go_ret2; exact ⟨by rw [HD.out]; rfl, HBel.out⟩)
          · have hF : pu acc (c :: l.drop (k + 1)) = pu (acc * 16 + (y - 87)) (l.drop (k + 1)) := by rw [pu, hD]; simp only; rw [if_neg hcut]
            have HN : Hid (a * 16 + ((y : Int) - 87) = ((acc * 16 + (y - 87) : Nat) : Int) ∧ acc * 16 + (y - 87) < 18446744073709551616 ∧ pu 0 l = pu (acc * 16 + (y - 87)) (l.drop (k + 1))) := Lib.hid ⟨by omega, by omega, hdec.trans hF⟩
            have icut : a < 1152921504606846976 := by omega
            have iov : a * 16 + ((y : Int) - 87) < 18446744073709551616 := by omega
            clear hcut hacc hF hdec ha hD hdig
            go_wp2_with (go_at_call 126; refine (sh_internal_strconv_lower _ _).mono ?_; rintro e w' ⟨rfl, rfl⟩)
            all_goals exact ⟨⟨k + 1, acc * 16 + (y - 87), a * 16 + ((y : Int) - 87), rfl, (by congr 1; omega), (by first | rfl | (congr 1; omega)), by omega, HN⟩, by simp [intOf]; omega⟩
        · have hD : dg c = none := by unfold dg; rw [if_neg hdig, if_neg hlet]
          have hF : pu acc (c :: l.drop (k + 1)) = .bad := by rw [pu, hD]
          rw [hF] at hdec
          have HD := Lib.hid hdec
          by_cases h95 : c.toNat = 95
          · have hc2 : W1.cell? ⟨w.heap.size, k, none⟩ = some (.int .u8 95) := by rw [hc, h95]; rfl
            have hl2 : bits .or .u8 95 32 = 127 := by kernel_rfl
            clear hacc hF ha hD hdec hdig hlet hlow hlow256 hc hc256 h95
            go_wp2_with (go_at_call 126; refine (sh_internal_strconv_lower _ _).mono ?_; rintro e w' ⟨rfl, rfl⟩)
            all_goals (go_ret2; exact ⟨by rw [HD.out]; rfl, HBel.out⟩)
          · have h95' : ¬ (c.toNat : Int) = 95 := by omega
            have hnd : ¬ (48 ≤ (c.toNat : Int) ∧ (c.toNat : Int) ≤ 57) := by omega
            generalize (low_ c).toNat = y at *
            clear hacc hF ha hD hdec hdig h95
            go_wp2_with (go_at_call 126; refine (sh_internal_strconv_lower _ _).mono ?_; rintro e w' ⟨rfl, rfl⟩)
            all_goals (go_ret2; exact ⟨by rw [HD.out]; rfl, HBel.out⟩)
    · have hkk : k = l.length := by omega
      subst hkk
      have hF : pu acc (l.drop l.length) = .ok acc := by rw [List.drop_eq_nil_of_le (Nat.le_refl _)]; rfl
      rw [hF] at hdec
      subst ha
      have HD := Lib.hid hdec
      clear hacc hF a0 a1 hdec
      go_wp2
      go_ret2
      exact ⟨by rw [HD.out]; rfl, HBel.out⟩

/-- What strconv's own answers. -/
def puR : PU → Ending → Prop
  | .ok n, e => e = .returned (.tuple #[.int .u64 n, .nilIface])
  | _, e => ∃ (v : Int) (tp : TypeId) (pe : Value), e = .returned (.tuple #[.int .u64 v, .iface tp pe])
set_option maxHeartbeats 2000000 in
set_option maxRecDepth 100000 in
theorem parse16 (l : List UInt8) (hl : l.length ≤ 1000000) (w : World) (E : Env w) : Calls Tryz.prog 78 #[.string (B l), .int .i64 16, .int .i64 64] w fun e w' => puR (pu0 l) e ∧ Below w.heap.size w w' := by
  have hi := iparse16 l hl w
  have hl2 : (B l).size ≤ 281474976710656 := by rw [B_size]; omega
  have HL2 := Lib.hid hl2
  clear hl2
  cases hp : pu0 l with
  | ok n =>
    rw [hp] at hi
    have HI := Lib.hid hi
    clear hi hp
    go_enter Tryz.func78, Tryz.ntmps78
    go_wp2_with (go_at_call 103; refine HI.out.mono ?_; rintro r w1 ⟨rfl, b1⟩; unfold puV)
    go_ret2
    exact ⟨rfl, b1⟩
  | far =>
    rw [hp] at hi
    have HI := Lib.hid hi
    clear hi hp
    go_enter Tryz.func78, Tryz.ntmps78
    go_wp2_with (first
      | (go_at_call 103; refine HI.out.mono ?_; rintro r w1 ⟨rfl, b1⟩; unfold puV; obtain ⟨tp, pe, hv⟩ := (E.below b1).rng)
      | (go_at_call 104; refine (sh_strconv_toError_range _ _ _ _ _ _ HL2.out hv (.inr ⟨tp, pe, rfl⟩)).mono ?_; rintro r w2 ⟨N, rfl, _, _, b2⟩))
    go_ret2
    exact ⟨⟨_, _, _, rfl⟩, b1.trans (b2.mono b1.size)⟩
  | bad =>
    rw [hp] at hi
    have HI := Lib.hid hi
    clear hi hp
    go_enter Tryz.func78, Tryz.ntmps78
    go_wp2_with (first
      | (go_at_call 103; refine HI.out.mono ?_; rintro r w1 ⟨rfl, b1⟩; unfold puV; obtain ⟨tp, pe, hv⟩ := (E.below b1).syn)
      | (go_at_call 104; refine (sh_strconv_toError_syntax _ _ _ _ _ _ HL2.out hv (.inr ⟨tp, pe, rfl⟩)).mono ?_; rintro r w2 ⟨N, rfl, _, _, b2⟩))
    go_ret2
    exact ⟨⟨_, _, _, rfl⟩, b1.trans (b2.mono b1.size)⟩

end Go.Proofs.YthpamdjgkmaleaaGreatDoor
