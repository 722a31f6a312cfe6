/-
  Package base over this translation: slotOf, look, framed.
-/
import Derived.Test.YthpamdjgkmaleaaGreatDoorBsParse
import Derived.Test.YthpamdjgkmaleaaGreatDoorMo
import Derived.Test.YthpamdjgkmaleaaGreatDoorDkRead
import Derived.Test.YthpamdjgkmaleaaGreatDoorFrTake
import Derived.Test.YthpamdjgkmaleaaGreatDoorFrPut
namespace Go.Proofs.YthpamdjgkmaleaaGreatDoor
open Go.RowKit
set_option linter.unusedVariables false

theorem trim_strip (nm : List UInt8) : Lib.trimPrefix nm [98] = strip nm := by
  cases nm with
  | nil => rfl
  | cons c s =>
    unfold Lib.trimPrefix Lib.hasPrefix
    rw [strip]
    by_cases hc : c = 98
    · subst hc
      rw [if_pos rfl, if_pos (by simp [List.isPrefixOf])]
      rfl
    · rw [if_neg hc, if_neg]
      simp [List.isPrefixOf]
      exact fun e => hc e.symm
def slotP (nm : List UInt8) : PU → Nat
  | .ok v => if bname v = nm then v else 0
  | _ => 0
theorem slot_p (nm : List UInt8) : bnum nm = slotP nm (pu0 (strip nm)) := by
  rw [← slot_bnum]
  have h : slotL nm = slotP nm (pu 0 (strip nm)) := by
    unfold slotL
    cases pu 0 (strip nm) <;> rfl
  rw [h]
  unfold pu0
  by_cases hn : strip nm = []
  · rw [if_pos hn, hn, pu]
    simp [slotP]
  · rw [if_neg hn]

set_option maxHeartbeats 2000000 in
set_option maxRecDepth 100000 in
theorem slotOf_is (nm : List UInt8) (hl : nm.length ≤ 100000) (w : World) (E : Env w) : Calls Tryz.prog 54 #[.string (B nm)] w fun r w' => r = .returned (.int .u64 (bnum nm : Nat)) ∧ Below w.heap.size w w' := by
  have hcp := sh_strings_CutPrefix (B nm) (B [98]) w
  have e0 : Lib.trimPrefix (B nm).data.toList (B [98]).data.toList = strip nm := trim_strip nm
  rw [e0] at hcp
  have hsl : (strip nm).length ≤ 1000000 := by
    cases nm with
    | nil => simp [strip]
    | cons c s => rw [strip]; split <;> simp at hl ⊢ <;> omega
  have hpa := parse16 (strip nm) hsl w E
  have hv : ∀ v, pu0 (strip nm) = .ok v → v < 2 ^ 64 := by
    intro v h
    unfold pu0 at h
    split at h
    · cases h
    · exact pu_lt _ 0 v (by decide) h
  have hs := slot_p nm
  generalize hP : pu0 (strip nm) = P at *
  have HC := Lib.hid hcp
  cases P with
  | ok v =>
    have HP := Lib.hid hpa
    have HN := Lib.hid (fun w1 (b : Below w.heap.size w w1) => name_is v (hv v rfl) w1 (E.below b))
    have HS := Lib.hid hs
    by_cases hb : bname v = nm
    · clear hcp e0 hsl hpa hv hs hP
      subst hb
      go_enter Tryz.func54, Tryz.ntmps54
      go_wp2_with (first
        | (go_at_call 77; refine HC.out.mono ?_; rintro r w1 ⟨rfl, rfl⟩)
        | (go_at_call 78; refine HP.out.mono ?_; rintro r w2 ⟨hr, b2⟩; unfold puR at hr; subst hr)
        | (go_at_call 25; refine (HN.out _ b2).mono ?_; rintro r w3 ⟨rfl, b3⟩))
      have hv2 : bnum (bname v) = v := by rw [HS.out, slotP, if_pos rfl]
      go_ret
      exact ⟨by rw [hv2]; rfl, b2.trans (b3.mono b2.size)⟩
    · clear hcp e0 hsl hpa hv hs hP
      have hb2 : (bname v == nm) = false := beq_eq_false_iff_ne.2 hb
      go_enter Tryz.func54, Tryz.ntmps54
      go_wp2_with (first
        | (go_at_call 77; refine HC.out.mono ?_; rintro r w1 ⟨rfl, rfl⟩)
        | (go_at_call 78; refine HP.out.mono ?_; rintro r w2 ⟨hr, b2⟩; unfold puR at hr; subst hr)
        | (go_at_call 25; refine (HN.out _ b2).mono ?_; rintro r w3 ⟨rfl, b3⟩))
      have hv2 : bnum nm = 0 := by rw [HS.out, slotP, if_neg hb]
      go_ret
      exact ⟨by rw [hv2]; rfl, b2.trans (b3.mono b2.size)⟩
  | far =>
    have HP := Lib.hid hpa
    have hv2 : bnum nm = 0 := hs
    have HV := Lib.hid hv2
    clear hcp e0 hsl hpa hv hs hP hv2
    go_enter Tryz.func54, Tryz.ntmps54
    go_wp2_with (first
      | (go_at_call 77; refine HC.out.mono ?_; rintro r w1 ⟨rfl, rfl⟩)
      | (go_at_call 78; refine HP.out.mono ?_; rintro r w2 ⟨⟨x, tp, pe, rfl⟩, b2⟩))
    go_ret
    exact ⟨by rw [HV.out]; rfl, b2⟩
  | bad =>
    have HP := Lib.hid hpa
    have hv2 : bnum nm = 0 := hs
    have HV := Lib.hid hv2
    clear hcp e0 hsl hpa hv hs hP hv2
    go_enter Tryz.func54, Tryz.ntmps54
    go_wp2_with (first
      | (go_at_call 77; refine HC.out.mono ?_; rintro r w1 ⟨rfl, rfl⟩)
      | (go_at_call 78; refine HP.out.mono ?_; rintro r w2 ⟨⟨x, tp, pe, rfl⟩, b2⟩))
    go_ret
    exact ⟨by rw [HV.out]; rfl, b2⟩

/-! ### look -/
def lookL (n : Nat) (f : PF) : List UInt8 × Int :=
  if f.synced = 0 then ([], 0) else if f.synced < f.bytes.length then ([], 2) else if (takeL f.bytes).2.1 < f.bytes.length then ([], 2)
  else if (readB (takeL f.bytes).1).2.2 ≠ 0 then ([], 2) else if (readB (takeL f.bytes).1).1 ≠ n then ([], 2) else ((readB (takeL f.bytes).1).2.1, 1)
theorem take_small (l : List UInt8) : (takeL l).1.length ≤ 65536 := by
  by_cases h : (takeL l).2.2 = 0
  · exact (takeL_stands (s := l) (inside := (takeL l).1) (n := (takeL l).2.1) (by rw [← h])).2.1
  · rw [takeL_bad h]; simp

theorem fileB_new (w : World) (f : PF) : FileB w.heap.size f (w.alloc (.cells #[.string (B f.name), .string (B f.bytes), .int .i64 f.synced] 44)) := heap_alloc_new w _

theorem look_below {w W w1 w2 w3 w4 w5 : World} (c0 : Below w.heap.size w W) (c1 : Below W.heap.size W w1) (c2 : Below w1.heap.size w1 w2) (g3 : w2.grownBy w3 (some w1.heap.size)) (g4 : w3.grownBy w4 (some w1.heap.size)) (g5 : w4.grownBy w5 (some w1.heap.size)) : Below w.heap.size w w5 := by
  have c := (c0.trans (c1.mono c0.size)).trans (c2.mono (Nat.le_trans c0.size c1.size))
  have hx : w.heap.size ≤ w1.heap.size := Nat.le_trans c0.size c1.size
  have hk : ∀ k, some w1.heap.size = some k → w.heap.size ≤ k := by rintro k ⟨rfl⟩; exact hx
  exact ((c.grown g3 c.size hk).grown g4 (Nat.le_trans c.size g3.size) hk).grown g5 (Nat.le_trans c.size (Nat.le_trans g3.size g4.size)) hk

set_option maxHeartbeats 2000000 in
set_option maxRecDepth 100000 in
theorem look_is (n : Nat) (f : PF) (hb : f.bytes.length ≤ 5000000) (w : World) : Calls Tryz.prog 40 #[.int .u64 n, fileV f] w fun r w' => r = .returned (.tuple #[.string (B (lookL n f).1), .int .i64 (lookL n f).2]) ∧ Below w.heap.size w w' := by
  have ba : Below w.heap.size w (w.alloc (.cells #[.string (B f.name), .string (B f.bytes), .int .i64 f.synced] 44)) := (Below.refl _ w).alloc (Nat.le_refl _) _
  have hF := fileB_new w f
  obtain ⟨q0, q1, q2⟩ := hF.vals
  have hT := fun w1 => take_frame f.bytes w1 (by omega)
  have hts := take_small f.bytes
  have hlk : lookL n f = lookL n f := rfl
  conv at hlk => rhs; unfold lookL
  unfold readB at hlk
  generalize hTT : takeL f.bytes = T at *
  obtain ⟨ins, size, te⟩ := T
  simp only at hT hts hlk
  have hnl := num_len ⟨0, ins⟩
  have hO := fun w1 => of_any ins w1
  have hN := fun b w1 (h : RS w1 b ⟨0, ins⟩) => num_any b ⟨0, ins⟩ w1 h (by simp only; omega)
  have hS := fun b w1 (h : RS w1 b (St.num ⟨0, ins⟩).2) => str_any b (St.num ⟨0, ins⟩).2 65536 w1 h (by simp only at hnl; omega) (by decide) (by decide)
  have hE := fun b w1 (h : RS w1 b ((St.num ⟨0, ins⟩).2.str 65536).2) => end_st b ((St.num ⟨0, ins⟩).2.str 65536).2 w1 h
  generalize (St.num ⟨0, ins⟩).2.str 65536 = U at *
  generalize St.num ⟨0, ins⟩ = V at *
  obtain ⟨v, sv⟩ := V
  obtain ⟨tx, su⟩ := U
  simp only at hN hS hE hlk
  generalize hfe : su.fin.e = fe at *
  have HF := Lib.hid hF
  have HT := Lib.hid hT
  have HO := Lib.hid hO
  have HN := Lib.hid hN
  have HS := Lib.hid hS
  have HE := Lib.hid hE
  have HLK := Lib.hid hlk
  clear hF hT hO hN hS hE hlk hnl hTT hfe hts
  by_cases h1 : f.synced = 0
  · have h1' : (f.synced : Int) = 0 := by omega
    go_enter Tryz.func40, Tryz.ntmps40
    unfold fileV
    go_wp2
    go_ret2
    exact ⟨by rw [HLK.out, if_pos h1]; rfl, (Below.refl _ w).alloc (Nat.le_refl _) _⟩
  have h1' : ¬ (f.synced : Int) = 0 := by omega
  by_cases h2 : f.synced < f.bytes.length
  · have h2' : (f.synced : Int) < (f.bytes.length : Int) := by omega
    go_enter Tryz.func40, Tryz.ntmps40
    unfold fileV
    go_wp2_with (go_at_call 55; refine (HT.out _).mono ?_; rintro r w1 ⟨rfl, b1⟩; obtain ⟨p0, p1, p2⟩ := (HF.out.below b1).vals)
    go_ret2
    exact ⟨by rw [HLK.out, if_neg h1, if_pos h2]; rfl, ba.trans (b1.mono ba.size)⟩
  have h2' : ¬ (f.synced : Int) < (f.bytes.length : Int) := by omega
  by_cases h3 : size < f.bytes.length
  · have h3' : (size : Int) < (f.bytes.length : Int) := by omega
    go_enter Tryz.func40, Tryz.ntmps40
    unfold fileV
    go_wp2_with (go_at_call 55; refine (HT.out _).mono ?_; rintro r w1 ⟨rfl, b1⟩; obtain ⟨p0, p1, p2⟩ := (HF.out.below b1).vals)
    go_ret2
    exact ⟨by rw [HLK.out, if_neg h1, if_neg h2, if_pos h3]; rfl, ba.trans (b1.mono ba.size)⟩
  have h3' : ¬ (size : Int) < (f.bytes.length : Int) := by omega
  by_cases h4 : fe ≠ 0
  · have h4' : (fe != 0) = true := by simpa using h4
    go_enter Tryz.func40, Tryz.ntmps40
    unfold fileV
    go_wp2_with (first
      | (go_at_call 55; refine (HT.out _).mono ?_; rintro r w1 ⟨rfl, b1⟩; obtain ⟨p0, p1, p2⟩ := (HF.out.below b1).vals)
      | (go_at_call 56; refine (HO.out _).mono ?_; rintro r w2 ⟨rfl, r2, b2⟩)
      | (go_at_call 57; refine (HN.out _ _ r2).mono ?_; rintro r w3 ⟨rfl, r3, g3⟩)
      | (go_at_call 58; refine (HS.out _ _ r3).mono ?_; rintro r w4 ⟨rfl, r4, g4⟩)
      | (go_at_call 59; refine (HE.out _ _ r4).mono ?_; rintro r w5 ⟨rfl, r5, g5⟩))
    go_ret2
    exact ⟨by rw [HLK.out, if_neg h1, if_neg h2, if_neg h3, if_pos h4]; rfl, look_below ba b1 b2 g3 g4 g5⟩
  have h4' : fe = 0 := Classical.not_not.1 h4
  subst h4'
  by_cases h5 : v ≠ n
  · have h5' : ¬ (v : Int) = (n : Int) := by omega
    go_enter Tryz.func40, Tryz.ntmps40
    unfold fileV
    go_wp2_with (first
      | (go_at_call 55; refine (HT.out _).mono ?_; rintro r w1 ⟨rfl, b1⟩; obtain ⟨p0, p1, p2⟩ := (HF.out.below b1).vals)
      | (go_at_call 56; refine (HO.out _).mono ?_; rintro r w2 ⟨rfl, r2, b2⟩)
      | (go_at_call 57; refine (HN.out _ _ r2).mono ?_; rintro r w3 ⟨rfl, r3, g3⟩)
      | (go_at_call 58; refine (HS.out _ _ r3).mono ?_; rintro r w4 ⟨rfl, r4, g4⟩)
      | (go_at_call 59; refine (HE.out _ _ r4).mono ?_; rintro r w5 ⟨rfl, r5, g5⟩))
    go_ret2
    exact ⟨by rw [HLK.out, if_neg h1, if_neg h2, if_neg h3, if_neg h4, if_pos h5]; rfl, look_below ba b1 b2 g3 g4 g5⟩
  · have h5' : v = n := Classical.not_not.1 h5
    subst h5'
    go_enter Tryz.func40, Tryz.ntmps40
    unfold fileV
    go_wp2_with (first
      | (go_at_call 55; refine (HT.out _).mono ?_; rintro r w1 ⟨rfl, b1⟩; obtain ⟨p0, p1, p2⟩ := (HF.out.below b1).vals)
      | (go_at_call 56; refine (HO.out _).mono ?_; rintro r w2 ⟨rfl, r2, b2⟩)
      | (go_at_call 57; refine (HN.out _ _ r2).mono ?_; rintro r w3 ⟨rfl, r3, g3⟩)
      | (go_at_call 58; refine (HS.out _ _ r3).mono ?_; rintro r w4 ⟨rfl, r4, g4⟩)
      | (go_at_call 59; refine (HE.out _ _ r4).mono ?_; rintro r w5 ⟨rfl, r5, g5⟩))
    go_ret2
    exact ⟨by rw [HLK.out, if_neg h1, if_neg h2, if_neg h3, if_neg h4, if_neg h5]; rfl, look_below ba b1 b2 g3 g4 g5⟩

/-! ### framed -/
set_option maxHeartbeats 2000000 in
set_option maxRecDepth 100000 in
theorem framed_is (n : Nat) (hn : n < 2 ^ 64) (t : List UInt8) (ht : t.length ≤ 100000) (w : World) : Calls Tryz.prog 23 #[.int .u64 n, .string (B t)] w fun r w' =>
    r = .returned (.tuple #[.string (B (if 65536 < (insideB n t).length then [] else frameL (insideB n t))), .int .i64 (if 65536 < (insideB n t).length then 6 else 0)]) ∧ Below w.heap.size w w' := by
  have hN := fun w1 => wnum_any none 0 0 [] (n : Int) w1 (Src.nil w1) (by decide) (by omega) (by omega)
  simp only [Int.toNat_natCast, List.nil_append] at hN
  have hen := (enc_len_le hn).2
  have hin : insideB n t = enc n ++ encS t := rfl
  have hil := inside_length n t
  have hp1 := (enc_len_le hn).1
  have hetl := (enc_len_le (show t.length < 2 ^ 64 by omega)).2
  have hS := fun a (m : Nat) c w1 (hs : Src w1 a m c (enc n)) (hm : m ≤ 35184372088832) => wstr_any a m c (enc n) t w1 hs hm (by omega)
  have hP := fun w1 (hx : insideB n t ≠ []) (hy : (insideB n t).length ≤ 65536) => put_ok none 0 0 [] (insideB n t) w1 (Src.nil w1) (by decide) hx hy
  have hL := fun w1 (hy : 65536 < (insideB n t).length) => put_long none 0 0 [] (insideB n t) w1 (Src.nil w1) (by decide) (.inr hy)
  simp only [List.nil_append] at hP
  simp only [← hin] at hS
  have HN := Lib.hid hN
  have HS := Lib.hid hS
  have HP := Lib.hid hP
  have HL := Lib.hid hL
  have hne : insideB n t ≠ [] := fun e => by rw [e] at hil; simp at hil; omega
  have hle : (enc n).length ≤ 9 := hen
  generalize insideB n t = X at *
  clear hN hS hP hL hin hil hetl hp1 hen
  by_cases hx : 65536 < X.length
  · rw [if_pos hx, if_pos hx]
    go_enter Tryz.func23, Tryz.ntmps23
    go_wp2_with (first
      | (go_at_call 44; refine (HN.out _).mono ?_; rintro r w1 ⟨g1, n1, c1, rfl, o1, b1⟩; have e1 := o1.len)
      | (go_at_call 43; refine (HS.out _ _ _ _ (Src.of_own o1) (by omega)).mono ?_; rintro r w2 ⟨g2, n2, c2, rfl, o2, b2⟩; have hcv := (Src.of_own o2).string)
      | (go_at_call 42; refine (HL.out _ hx).mono ?_; rintro r w3 ⟨a3, c3, rfl, s3, b3⟩))
    go_ret2
    exact ⟨rfl, bthen (bthen b1 b2) b3⟩
  · rw [if_neg hx, if_neg hx]
    have hx2 : X.length ≤ 65536 := by omega
    go_enter Tryz.func23, Tryz.ntmps23
    go_wp2_with (first
      | (go_at_call 44; refine (HN.out _).mono ?_; rintro r w1 ⟨g1, n1, c1, rfl, o1, b1⟩; have e1 := o1.len)
      | (go_at_call 43; refine (HS.out _ _ _ _ (Src.of_own o1) (by omega)).mono ?_; rintro r w2 ⟨g2, n2, c2, rfl, o2, b2⟩; have hcv := (Src.of_own o2).string)
      | (go_at_call 42; refine (HP.out _ hne hx2).mono ?_; rintro r w3 ⟨g3, n3, c3, rfl, o3, b3⟩; have hcv2 := (Src.of_own o3).string))
    go_ret2
    exact ⟨rfl, bthen (bthen b1 b2) b3⟩

end Go.Proofs.YthpamdjgkmaleaaGreatDoor
