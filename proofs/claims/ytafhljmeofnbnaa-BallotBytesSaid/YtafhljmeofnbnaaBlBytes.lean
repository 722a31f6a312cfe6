/-
  The document's own Bytes and Take of ballots: contracts.
-/
import Derived.Test.YtafhljmeofnbnaaBlRef
namespace Go.Proofs.Ytafhljmeofnbnaa
open Go.RowKit
set_option linter.unusedVariables false

theorem enc_len9 {n : Nat} (h : n < 2 ^ 64) : 1 ≤ (enc n).length ∧ (enc n).length ≤ 9 := by
  rw [enc_length]
  have := nb_le8 h
  omega
set_option maxRecDepth 100000 in
set_option maxHeartbeats 1000000 in
theorem refBytes_is (b : Bal) (w : World) (hb : okBal b) :
    Calls Try.prog 18 #[balV b] w fun r w' => r = .returned (.string (B (bytesL b))) ∧ Below w.heap.size w w' := by
  have K1 := Lib.hid (BalB.new w b)
  have HBe := Lib.hid ((Below.refl w.heap.size w).alloc (Nat.le_refl _) (.cells #[.int .u64 (b.1 : Nat), .int .u8 (b.2 : Nat)] 25))
  have HN := Lib.hid (fun v => refNum_any (b.1 : Nat) v (by omega) (by have := hb.1; omega))
  rw [Int.toNat_natCast] at HN
  go_enter Try.func18, Try.ntmps18
  unfold balV at *
  go_upto_region 1 with fail
  generalize (w.alloc (.cells #[.int .u64 (b.1 : Nat), .int .u8 (b.2 : Nat)] 25)) = V at *
  obtain ⟨k0, k1⟩ := K1.out.vals
  have e3 : ((UInt8.ofNat b.2).toNat : Int) = ((b.2 : Nat) : Int) := by have := hb.2; rw [UInt8.toNat_ofNat']; omega
  have hX : Below V.heap.size V (V.alloc (.cells #[.int .u8 ((b.2 : Nat) : Int)] 5)) := (Below.refl V.heap.size V).alloc (Nat.le_refl _) _
  have HO1 := Lib.hid (fun v1 => (Src.of_own (own_one v1 (UInt8.ofNat b.2) _ e3)).string)
  have HO2 := Lib.hid (fun v1 (hh : Below (V.alloc (.cells #[.int .u8 ((b.2 : Nat) : Int)] 5)).drew.heap.size (V.alloc (.cells #[.int .u8 ((b.2 : Nat) : Int)] 5)).drew v1) => (((Src.of_own (own_one V (UInt8.ofNat b.2) _ e3)).below ((Below.refl _ _).drew)).below hh).string)
  have HO3 := Lib.hid (fun v1 (hh : Below (V.drew.alloc (.cells #[.int .u8 ((b.2 : Nat) : Int)] 5)).heap.size (V.drew.alloc (.cells #[.int .u8 ((b.2 : Nat) : Int)] 5)) v1) => ((Src.of_own (own_one V.drew (UInt8.ofNat b.2) _ e3)).below hh).string)
  obtain ⟨g0, g1⟩ := (K1.out.below hX.drew).vals
  clear e3 hX
  have HEND := Lib.hid (show B (enc b.1) ++ B [UInt8.ofNat b.2] = B (bytesL b) from B_append _ _)
  have hcvV := HO2.out _ (Below.refl _ _)
  obtain ⟨kz, hsz⟩ : ∃ k, (B (enc b.1)).size = k := ⟨_, rfl⟩
  have hk9 : (kz : Int) ≤ 9 := by have := (enc_len9 (n := b.1) hb.1).2; rw [B_size] at hsz; omega
  have hsy : (B [UInt8.ofNat b.2]).size = 1 := rfl
  go_region_with (go_at_call 30; (with_reducible refine (HN.out _).mono ?_); rintro r v1 ⟨rfl, b1⟩; have hu : Below V.heap.size V v1 := (by first | exact (Below.refl V.heap.size V).drew.trans b1 | exact (((Below.refl V.heap.size V).alloc (Nat.le_refl _) _).drew).trans (b1.mono (by simp)) | exact (((Below.refl V.heap.size V).drew).alloc (Nat.le_refl _) _).trans (b1.mono (by simp))); obtain ⟨e0, e1⟩ := (K1.out.below hu).vals; have hcv1 := HO1.out v1; (first | have e2 := HO2.out _ b1 | have e2 := HO3.out _ b1 | skip))
  all_goals
    go_wp2_with fail
    go_ret
    refine ⟨congrArg (fun x => Ending.returned (Value.string x)) HEND.out, ?_⟩
    first
      | exact HBe.out.trans (hu.mono HBe.out.size)
      | exact (HBe.out.trans (hu.mono HBe.out.size)).alloc (by have h1 := HBe.out.size; have h2 := hu.size; omega) _
end Go.Proofs.Ytafhljmeofnbnaa
