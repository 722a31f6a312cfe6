/-
  The document's own Split (package palaverref03), and its Same of two rows of texts, over this translation.
-/
import Derived.Test.YtddicpgkagkmiaaFrRef
namespace Go.Proofs.Ytddicpgkagkmiaa
open Go.RowKit
set_option linter.unusedVariables false

/-- An owned row of texts whose value is written out. -/
theorem row_val {W : World} {b : Nat} {e : TypeId} {size : Nat} {v : Value} {k : Nat} {xs : List Value} (h : W.ownsRow b e size v k xs) : ∃ a c, v = .slice a k c := by
  rcases h.2 with ⟨rfl, rfl⟩ | ⟨g, cap, cur, rfl, _⟩
  · exact ⟨_, _, rfl⟩
  · exact ⟨_, _, rfl⟩

theorem ownsRow_below {W W' : World} {b : Nat} {e : TypeId} {size : Nat} {v : Value} {k : Nat} {xs : List Value} (h : W.ownsRow b e size v k xs) (hb : Below W.heap.size W W') : W'.ownsRow b e size v k xs := by
  refine h.kept (grown_of_below (row := none) hb) ?_
  cases hv : v.ownBlock with
  | none => exact .inl rfl
  | some g => exact .inr (by simp)

set_option maxRecDepth 100000 in
set_option maxHeartbeats 1000000 in
theorem refSplit_any (l : List UInt8) (w : World) (hl : l.length ≤ 1000000) :
    Calls Try.prog 14 #[.string (B l)] w fun r w' => ∃ v, r = .returned (.tuple #[v, .int .i64 (splitL l 0).2.1, .int .i64 (splitL l 0).2.2]) ∧ w'.ownsRow w.heap.size 9 1 v (splitL l 0).1.length (strV (splitL l 0).1) ∧ Below w.heap.size w w' := by
  obtain ⟨ti, hi, hz, hs1, hby⟩ := info_parts info_str
  go_enter Try.func14, Try.ntmps14
  go_wp2
  go_loopw [5, 6] (fun ov av wr => ∃ (acc : List (List UInt8)) (a : Nat), av = .int .i64 a ∧ a ≤ l.length ∧ acc.length ≤ a ∧ splitL l 0 = (acc ++ (splitL l a).1, (splitL l a).2) ∧ wr.ownsRow w.heap.size 9 1 ov acc.length (strV acc) ∧ Below w.heap.size w wr) (fun _ av _ => l.length - (intOf av).toNat)
  case atStart => exact ⟨[], 0, rfl, Nat.zero_le _, Nat.le_refl _, rfl, World.ownsRow_nil _ _ _ _, Below.refl _ _⟩
  case round =>
    obtain ⟨acc, a, rfl, hal, hacc, hsp, hown, hb⟩ := hrel
    obtain ⟨va, vc, rfl⟩ := row_val hown
    by_cases hlt : a < l.length
    · have hex : (B l).extract a l.length = B (l.drop a) := by rw [B_extract, List.take_of_length_le (by simp)]
      have htk := fun w1 => refTake_any (l.drop a) w1 (by simp; omega)
      have hgo := splitL_go hlt
      have hstop := splitL_stop hlt
      have hpos := takeL_pos (s := l.drop a)
      generalize takeL (l.drop a) = tk at htk hgo hstop hpos
      obtain ⟨ins, n, e⟩ := tk
      simp only at htk hgo hstop hpos
      have HT := Lib.hid htk
      have HSP := Lib.hid hsp
      clear htk hsp
      by_cases he : e = 0
      · subst he
        obtain ⟨hp1, hp2⟩ := hpos rfl
        simp at hp2
        have hg := hgo rfl
        have HG := Lib.hid hg
        have hb9 : (a : Int) + n ≤ 1000000 := by omega
        clear hgo hstop hpos hg
        have hsn := strV_snoc acc ins
        have HSN := Lib.hid hsn
        clear hsn
        go_wp2_with (first
          | (go_at_call 12; refine (HT.out _).mono ?_; rintro r w1 ⟨rfl, b1⟩; have hown1 := (ownsRow_below hown b1).alloc (.cells #[.string (B ins)] 9))
          | (at_builtin; refine wpList_append_own _ rfl _ _ 31 rfl w.heap.size 9 ti (.string ⟨#[]⟩) 1 16 Try.underlying31 hi hz hs1 hby rfl (by decide) _ _ _ rfl hown1 ⟨_, 0, none⟩ 1 1 [.string (B ins)] rfl rfl (cell_one_new _ _ _) (by simp [Value.oneCell']) (by unfold maxLen; omega) (by omega) (by have := hb.size; have := b1.size; simp; omega) ?_; intro v2 w2 hown2 hg2 _))
        have hb2 : Below w.heap.size w w2 := bgo ((bb hb b1).alloc (bb hb b1).size _) hg2 (fun j hj => (hown1.lt j hj).1)
        go_roundw
        case rel => exact ⟨acc ++ [ins], a + n, by go_num, by omega, by simp; omega, by rw [HSP.out, HG.out]; simp, by rw [HSN.out, List.length_append]; exact hown2, hb2⟩
        case measure => simp [intOf]; omega
      · have hne : (e != 0) = true := by simpa using he
        have hst := hstop he
        have HST := Lib.hid hst
        clear hgo hstop hpos hst
        go_wp2_with (go_at_call 12; refine (HT.out _).mono ?_; rintro r w1 ⟨rfl, b1⟩)
        go_ret3
        have hs := HSP.out
        rw [HST.out, List.append_nil] at hs
        rw [hs]
        exact ⟨_, rfl, ownsRow_below hown b1, bb hb b1⟩
    · have he := splitL_end (Nat.le_of_not_lt hlt)
      obtain rfl : a = l.length := by omega
      rw [he, List.append_nil] at hsp
      have HSP := Lib.hid hsp
      clear hsp he
      go_wp2
      go_ret3
      rw [HSP.out]
      exact ⟨_, rfl, hown, hb⟩

end Go.Proofs.Ytddicpgkagkmiaa
