/-
  The law BallotTurns over this translation, over a BallotSpec.
-/
import Derived.Test.YtafhljmeofnbnaaBlRows
import Derived.Deep.DeepCutAuto
import Derived.Deep.CutBlock
namespace Go.Proofs.Ytafhljmeofnbnaa
open Go.RowKit
set_option linter.unusedVariables false

/-- The byte at an index of a source. -/
theorem Src.at {w : World} {a : Option Addr} {n c : Nat} {l : List UInt8} (h : Src w a n c l) (h0 : 0 < n) : ∃ b off, a = some ⟨b, off, none⟩ ∧ ∀ j (hj : j < l.length), w.cell? ⟨b, off + j, none⟩ = some (.int .u8 (l[j].toNat : Nat)) := by
  cases a with
  | none => exact absurd (h.nul rfl).1 (by omega)
  | some ad =>
    obtain ⟨b, off, sp⟩ := ad
    have hl := h.len
    have key : ∀ j (hj : j < l.length), (Lib.byteCells l)[j]? = some (.int .u8 (l[j].toNat : Nat)) := by
      intro j hj
      simp [Lib.byteCells, hj]
    have hs : sp = none := by
      have := World.cell?_spot (h.cell _ rfl 0 _ (key 0 (by omega)))
      simpa [Addr.add] using this
    subst hs
    refine ⟨b, off, rfl, fun j hj => ?_⟩
    have := h.cell _ rfl j _ (key j hj)
    rwa [Addr.add_lit] at this
/-- The ballot's box, those that were told. -/
structure TnS (w0 : World) (b : Bal) (T : List Bal) (tv : Value) (w : World) : Prop where
  box : BalB w0.heap.size b w
  told : OwnB w (w0.heap.size + 1) tv T
  bel : Below w0.heap.size w0 w
theorem TnS.below {w0 : World} {b : Bal} {T : List Bal} {tv : Value} {w w' : World} (h : TnS w0 b T tv w) (hb : Below w.heap.size w w') : TnS w0 b T tv w' :=
  ⟨h.box.below hb, ownsRow_below h.told hb, h.bel.trans (hb.mono h.bel.size)⟩
/-- A box behind all of them. -/
structure TxS (w0 : World) (b : Bal) (T : List Bal) (tv : Value) (q9 : Nat) (x : Bal) (w : World) : Prop where
  s : TnS w0 b T tv w
  x : BalB q9 x w
  lt : w0.heap.size < q9
  far : ∀ g, tv.ownBlock = some g → g < q9
theorem TxS.below {w0 : World} {b : Bal} {T : List Bal} {tv : Value} {q9 : Nat} {x : Bal} {w w' : World} (h : TxS w0 b T tv q9 x w) (hb : Below w.heap.size w w') : TxS w0 b T tv q9 x w' := ⟨h.s.below hb, h.x.below hb, h.lt, h.far⟩
theorem TnS.far {w0 : World} {b : Bal} {T : List Bal} {tv : Value} {w : World} (h : TnS w0 b T tv w) : ∀ g, tv.ownBlock = some g → g < w.heap.size := fun g hg => (h.told.lt g hg).2
/-- A new box of a ballot, written to. -/
theorem TnS.put {w0 : World} {b : Bal} {T : List Bal} {tv : Value} {w : World} (h : TnS w0 b T tv w) (q9 : Nat) (y x : Bal) (hq : BalB q9 y w) (hlt : w0.heap.size < q9) (hfar : ∀ g, tv.ownBlock = some g → g < q9) :
    TxS w0 b T tv q9 x ((w.setCell ⟨q9, 0, none⟩ (.int .u64 (x.1 : Nat))).setCell ⟨q9, 1, none⟩ (.int .u8 (x.2 : Nat))) := by
  have hg : w.grownBy ((w.setCell ⟨q9, 0, none⟩ (.int .u64 (x.1 : Nat))).setCell ⟨q9, 1, none⟩ (.int .u8 (x.2 : Nat))) (some q9) := grown_trans (grown_setCell w q9 0 _) (grown_setCell _ q9 1 _)
  refine ⟨⟨?_, h.told.kept hg ?_, h.bel.grown hg h.bel.size (by rintro k ⟨rfl⟩; omega)⟩, hq.store x, hlt, hfar⟩
  · unfold BalB
    rw [hg.block _ h.box.lt (by simp; omega)]
    exact h.box
  · cases hv : tv.ownBlock with
    | none => exact .inl rfl
    | some g => have := hfar g hv; exact .inr (by simp; omega)
theorem TnS.putnew {w0 : World} {b : Bal} {T : List Bal} {tv : Value} {w : World} (h : TnS w0 b T tv w) (x : Bal) (hlt : w0.heap.size < w.heap.size) :
    TxS w0 b T tv w.heap.size x (w.alloc (.cells #[.int .u64 (x.1 : Nat), .int .u8 (x.2 : Nat)] 25)) :=
  ⟨h.below ((Below.refl _ w).alloc (Nat.le_refl _) _), BalB.new w x, hlt, h.far⟩
/-- The ballot becomes the turn, which is told. -/
theorem TxS.next {w0 : World} {b : Bal} {T : List Bal} {tv v' : Value} {q9 : Nat} {x : Bal} {w w2 : World} (h : TxS w0 b T tv q9 x w)
    (hp : w2.ownsRow (w0.heap.size + 1) 25 2 v' (T.length + 1) (balCells T ++ [.int .u64 (x.1 : Nat), .int .u8 (x.2 : Nat)])) (hg : (w.alloc (.cells #[.int .u64 (x.1 : Nat), .int .u8 (x.2 : Nat)] 25)).grownBy w2 tv.ownBlock) :
    BalB q9 x w2 ∧ BalB w0.heap.size b w2 ∧ TnS w0 x (T ++ [x]) v' ((w2.setCell ⟨w0.heap.size, 0, none⟩ (.int .u64 (x.1 : Nat))).setCell ⟨w0.heap.size, 1, none⟩ (.int .u8 (x.2 : Nat))) := by
  have hal := (Below.refl w.heap.size w).alloc (Nat.le_refl _) (.cells #[.int .u64 (x.1 : Nat), .int .u8 (x.2 : Nat)] 25)
  have h1 := h.below hal
  have hb : BalB w0.heap.size b w2 := by
    unfold BalB
    rw [hg.block _ h1.s.box.lt (fun e => by have := (h1.s.told.lt _ e.symm).1; omega)]
    exact h1.s.box
  have hx : BalB q9 x w2 := by
    unfold BalB
    rw [hg.block _ h1.x.lt (fun e => by have := h.far _ e.symm; omega)]
    exact h1.x
  have ho : OwnB w2 (w0.heap.size + 1) v' (T ++ [x]) := by
    unfold OwnB
    rw [List.length_append, List.length_singleton, balCells_snoc]
    exact hp
  have hbe : Below w0.heap.size w0 w2 := h1.s.bel.grown hg h1.s.bel.size (fun k hk => by have := (h1.s.told.lt k hk).1; omega)
  have hg2 : w2.grownBy ((w2.setCell ⟨w0.heap.size, 0, none⟩ (.int .u64 (x.1 : Nat))).setCell ⟨w0.heap.size, 1, none⟩ (.int .u8 (x.2 : Nat))) (some w0.heap.size) := grown_trans (grown_setCell w2 w0.heap.size 0 _) (grown_setCell _ w0.heap.size 1 _)
  exact ⟨hx, hb, ⟨hb.store x, ho.box (Nat.lt_succ_self _) hg2, hbe.grown hg2 hbe.size (by rintro k ⟨rfl⟩; exact Nat.le_refl _)⟩⟩
/-- What was told is below the ballot, or is it. -/
def ToldL (T : List Bal) (b : Bal) : Prop := ∀ y ∈ T, okBal y ∧ (y = b ∨ belowL y b = true)
theorem ToldL.under {T : List Bal} {b x : Bal} (h : ToldL T b) (hx : belowL b x = true) : ∀ y ∈ T, okBal y ∧ belowL y x = true := by
  intro y hy
  obtain ⟨h1, h2⟩ := h y hy
  rcases h2 with rfl | h2
  · exact ⟨h1, hx⟩
  · exact ⟨h1, below_trans h2 hx⟩
theorem ToldL.next {T : List Bal} {b x : Bal} (h : ToldL T b) (hx : belowL b x = true) (hok : okBal x) : ToldL (T ++ [x]) x := by
  intro y hy
  rcases List.mem_append.1 hy with h' | h'
  · obtain ⟨h1, h2⟩ := h.under hx y h'
    exact ⟨h1, .inr h2⟩
  · simp at h'
    subst h'
    exact ⟨hok, .inl rfl⟩
def BalC2 (q : Nat) (b : Bal) (w : World) : Prop := w.cell? ⟨q, 0, none⟩ = some (.int .u64 (b.1 : Nat)) ∧ w.cell? ⟨q, 1, none⟩ = some (.int .u8 (b.2 : Nat))
theorem BalB.mk2 (w : World) : BalB w.heap.size (0, 0) (w.alloc (.cells #[.int .u64 0, .int .u8 0] 25)) := BalB.new w (0, 0)
/-- What region 12 reads. -/
def TnC (q q9 q11 : Nat) (b x y : Bal) (bb i : Nat) (r : Nat) (w : World) : Prop := (w.cell? ⟨q, 0, none⟩ = some (.int .u64 (b.1 : Nat)) ∧ w.cell? ⟨q, 1, none⟩ = some (.int .u8 (b.2 : Nat))) ∧ (w.cell? ⟨q9, 0, none⟩ = some (.int .u64 (x.1 : Nat)) ∧ w.cell? ⟨q9, 1, none⟩ = some (.int .u8 (x.2 : Nat))) ∧ (w.cell? ⟨q11, 0, none⟩ = some (.int .u64 (y.1 : Nat)) ∧ w.cell? ⟨q11, 1, none⟩ = some (.int .u8 (y.2 : Nat))) ∧ w.cell? ⟨bb, i, none⟩ = some (.int .u8 (r : Nat))
/-- The three boxes, and the bytes. -/
structure T12 (w0 : World) (b : Bal) (T : List Bal) (tv : Value) (q9 q11 : Nat) (x y : Bal) (bb i r : Nat) (w : World) : Prop where
  t : TxS w0 b T tv q9 x w
  y : BalB q11 y w
  at_ : w.cell? ⟨bb, i, none⟩ = some (.int .u8 (r : Nat))
theorem T12.below {w0 : World} {b : Bal} {T : List Bal} {tv : Value} {q9 q11 : Nat} {x y : Bal} {bb i r : Nat} {w w' : World} (h : T12 w0 b T tv q9 q11 x y bb i r w) (hb : Below w.heap.size w w') : T12 w0 b T tv q9 q11 x y bb i r w' :=
  ⟨h.t.below hb, h.y.below hb, (hb.cell (World.block_lt_of_cell? _ _ h.at_)).trans h.at_⟩
theorem T12.c {w0 : World} {b : Bal} {T : List Bal} {tv : Value} {q9 q11 : Nat} {x y : Bal} {bb i r : Nat} {w : World} (h : T12 w0 b T tv q9 q11 x y bb i r w) : TnC w0.heap.size q9 q11 b x y bb i r w := ⟨h.t.s.box.vals, h.t.x.vals, h.y.vals, h.at_⟩

set_option maxRecDepth 100000 in
theorem turns_long (S : BallotSpec) (b : Bal) (sl : Option Addr) (n cap : Nat) (z : Int) (w : World) (h : 60 < (n : Int)) :
    Calls Try.prog 6 #[balV b, .slice sl n cap, .int .u64 z] w fun e w' => e = .returned (.bool true) ∧ Below w.heap.size w w' := by
  have HW := Lib.hid S.wakes
  have HK := Lib.hid ((Below.refl w.heap.size w).alloc (Nat.le_refl _) (.cells #[.int .u64 (b.1 : Nat), .int .u8 (b.2 : Nat)] 25))
  go_enter Try.func6, Try.ntmps6
  unfold balV
  go_wp2_with (go_at_call 8; refine (HW.out _).mono ?_; rintro r w1 ⟨rfl, b1⟩)
  go_ret
  exact ⟨rfl, HK.out.trans (b1.mono HK.out.size)⟩

set_option maxRecDepth 100000 in
set_option maxHeartbeats 4000000 in
theorem turns_some (S : BallotSpec) (b0 : Bal) (hb0 : okBal b0) (sl : Option Addr) (n cap : Nat) (lb : List UInt8) (z : Nat) (hz : z < 18446744073709551616) (w : World) (hB : Src w sl n cap lb) (h : ¬ 60 < (n : Int)) :
    Calls Try.prog 6 #[balV b0, .slice sl n cap, .int .u64 (z : Nat)] w fun e w' => e = .returned (.bool true) ∧ Below w.heap.size w w' := by
  have HW := Lib.hid S.wakes
  have HCK := Lib.hid S.check
  have HBL := Lib.hid S.below
  have HTU := Lib.hid S.turn
  have HLN := Lib.hid hB.len
  have HB := Lib.hid hB
  have hn : n ≤ 60 := by omega
  have HN := Lib.hid hn
  have HZ := Lib.hid hz
  obtain ⟨ti, hi, hzz, hs1, hby⟩ := info_parts info_bal
  have HTI := Lib.hid (show Try.prog.info? 25 = some ti ∧ ti.zero = some (.agg #[.int .u64 0, .int .u8 0]) ∧ ti.size = 2 ∧ ti.bytes = 16 from ⟨hi, hzz, hs1, hby⟩)
  have HSTART := Lib.hid (show TnS w b0 [] (.slice none 0 0) (w.alloc (.cells #[.int .u64 (b0.1 : Nat), .int .u8 (b0.2 : Nat)] 25)) from ⟨BalB.new w b0, OwnB.nil _ _, (Below.refl _ _).alloc (Nat.le_refl _) _⟩)
  have HOK0 := Lib.hid hb0
  clear hB hi hzz hs1 hby hn hb0 hz
  go_enter Try.func6, Try.ntmps6
  unfold balV at *
  go_wp2_with fail
  generalize (w.alloc (.cells #[.int .u64 (b0.1 : Nat), .int .u8 (b0.2 : Nat)] 25)) = V0 at *
  go_loopw [7, 8] (fun tv iv wx => ∃ (i : Nat) (T : List Bal) (b : Bal), i ≤ n ∧ iv = .int .i64 i ∧ (∃ a4 c4, tv = .slice a4 T.length c4) ∧ T.length ≤ i ∧ okBal b ∧ ToldL T b ∧ TnS w b T tv wx) (fun _ iv _ => n - (intOf iv).toNat)
  case atStart => exact ⟨0, [], b0, by omega, rfl, ⟨none, 0, rfl⟩, by simp, HOK0.out, fun y hy => (by cases hy), HSTART.out⟩
  case round =>
    obtain ⟨i, T, b, hi, rfl, ⟨a4, c4, rfl⟩, hTi, hok, htold, hJ⟩ := hrel
    have HJ := Lib.hid hJ
    have HTI2 := Lib.hid hTi
    have HOK := Lib.hid hok
    have HTD := Lib.hid htold
    clear hJ HSTART HOK0 hTi hok htold
    generalize hpn : T.length = pn at *
    have HPN := Lib.hid hpn
    clear hpn
    by_cases hlt : i < n
    · have hil : i < lb.length := by rw [HLN.out]; exact hlt
      obtain ⟨bb, off, rfl, hcc⟩ := HB.out.at (by omega)
      have hc0 := hcc i hil
      have hr := (lb[i]).toNat_lt
      generalize hrr : (lb[i]).toNat = r at *
      clear hcc hrr
      have HC0 := Lib.hid hc0
      have HR := Lib.hid hr
      clear hc0 hr
      obtain ⟨X, hX⟩ : ∃ X, turnL b r = X := ⟨_, rfl⟩
      obtain ⟨x, e⟩ := X
      have htu := fun v => HTU.out v b r HOK.out HR.out
      rw [hX] at htu
      simp only at htu
      have HT := Lib.hid htu
      have HX := Lib.hid hX
      clear htu hX
      have hcw := (HJ.out.bel.cell (World.block_lt_of_cell? _ _ HC0.out)).trans HC0.out
      have HDR := Lib.hid (HJ.out.below ((Below.refl _ wr).drew))
      have HFAR := Lib.hid HJ.out.far
      have HSZ := Lib.hid HJ.out.box.lt
      go_upto_region 7 with fail
      go_cut [9, 10] (fun pv ev wx => ∃ q9, pv = .pointer (some ⟨q9, 0, none⟩) ∧ ev = .int .i64 e ∧ TxS w b T (.slice a4 pn c4) q9 x wx)
      case first =>
        refine wp_region_held_drew (S := fun wx => BalC2 w.heap.size b wx ∧ wx.cell? ⟨bb, off + i, none⟩ = some (.int .u8 (r : Nat))) (by kernel_rfl) (⟨HDR.out.box.vals, hcw⟩) (fun hHeld => ?_)
        refine take_run (i := 0) (v := ?_) rfl (by kernel_rfl) (by kernel_rfl) (by kernel_rfl) (fun _ _ _ h => h) (by kernel_rfl) ?_ (by assumption) ?_
        rotate_left
        · (intro w5 hSw; obtain ⟨⟨s0, s1⟩, s2⟩ := hSw; go_simp); all_goals with_reducible rfl
        try simp only [Act.put, List.setIfInBounds_toArray, List.set_cons_zero, List.set_cons_succ]
        refine take_run (i := 1) (v := ?_) rfl (by kernel_rfl) (by kernel_rfl) (by kernel_rfl) (fun _ _ _ h => h) (by kernel_rfl) ?_ (by assumption) ?_
        rotate_left
        · (intro w5 hSw; obtain ⟨⟨s0, s1⟩, s2⟩ := hSw; go_simp); all_goals with_reducible rfl
        try simp only [Act.put, List.setIfInBounds_toArray, List.set_cons_zero, List.set_cons_succ]
        refine take_run (i := 2) (v := ?_) rfl (by kernel_rfl) (by kernel_rfl) (by kernel_rfl) (fun _ _ _ h => h) (by kernel_rfl) ?_ (by assumption) ?_
        rotate_left
        · (intro w5 hSw; obtain ⟨⟨s0, s1⟩, s2⟩ := hSw; go_simp); all_goals with_reducible rfl
        try simp only [Act.put, List.setIfInBounds_toArray, List.set_cons_zero, List.set_cons_succ]
        refine take_run (i := 3) (v := ?_) rfl (by kernel_rfl) (by kernel_rfl) (by kernel_rfl) (fun _ _ _ h => h) (by kernel_rfl) ?_ (by assumption) ?_
        rotate_left
        · (intro w5 hSw; obtain ⟨⟨s0, s1⟩, s2⟩ := hSw; go_simp); all_goals with_reducible rfl
        try simp only [Act.put, List.setIfInBounds_toArray, List.set_cons_zero, List.set_cons_succ]
        refine take_run (i := 4) (v := ?_) rfl (by kernel_rfl) (by kernel_rfl) (by kernel_rfl) (fun _ _ _ h => h) (by kernel_rfl) ?_ (by assumption) ?_
        rotate_left
        · (intro w5 hSw; obtain ⟨⟨s0, s1⟩, s2⟩ := hSw; go_simp); all_goals with_reducible rfl
        try simp only [Act.put, List.setIfInBounds_toArray, List.set_cons_zero, List.set_cons_succ]
        refine take_two (i := 5) (j := 9) rfl rfl (by kernel_rfl) (by kernel_rfl) (by kernel_rfl) (fun K hK => ?_) (fun K hK => ?_)
        · go_simp; refine (HT.out _).mono ?_; rintro rr w21 ⟨rfl, bb1⟩; have HA1 := Lib.hid (HDR.out.below bb1); have HA2 := Lib.hid ((bb1.cell (World.block_lt_of_cell? _ _ (hcw))).trans (hcw)); have HA3 := Lib.hid bb1; clear bb1
          (try go_wp2_with fail)
          clear hHeld
          refine hK.out _ _ ?_ (fun hHeld => ?_)
          · exact ⟨HA1.out.box.vals, HA2.out⟩
          clear hK K
          try simp only [Act.put, List.setIfInBounds_toArray, List.set_cons_zero, List.set_cons_succ]
          refine take_run (i := 6) (v := ?_) rfl (by kernel_rfl) (by kernel_rfl) (by kernel_rfl) (fun _ _ _ h => h) (by kernel_rfl) ?_ (by assumption) ?_
          rotate_left
          · (intro w5 hSw; obtain ⟨⟨s0, s1⟩, s2⟩ := hSw; go_simp); all_goals with_reducible rfl
          try simp only [Act.put, List.setIfInBounds_toArray, List.set_cons_zero, List.set_cons_succ]
          refine take_run (i := 7) (v := ?_) rfl (by kernel_rfl) (by kernel_rfl) (by kernel_rfl) (fun _ _ _ h => h) (by kernel_rfl) ?_ (by assumption) ?_
          rotate_left
          · (intro w5 hSw; obtain ⟨⟨s0, s1⟩, s2⟩ := hSw; go_simp); all_goals with_reducible rfl
          try simp only [Act.put, List.setIfInBounds_toArray, List.set_cons_zero, List.set_cons_succ]
          refine take_run (i := 8) (v := ?_) rfl (by kernel_rfl) (by kernel_rfl) (by kernel_rfl) (fun _ _ _ h => h) (by kernel_rfl) ?_ (by assumption) ?_
          rotate_left
          · (intro w5 hSw; obtain ⟨⟨s0, s1⟩, s2⟩ := hSw; go_simp); all_goals with_reducible rfl
          try simp only [Act.put, List.setIfInBounds_toArray, List.set_cons_zero, List.set_cons_succ]
          refine take_call (i := 9) rfl (by kernel_rfl) (by kernel_rfl) (fun K hK => ?_)
          go_simp; have HN1 := Lib.hid (HA1.out.below ((Below.refl _ w21).alloc (Nat.le_refl _) (.cells #[.int .u64 0, .int .u8 0] 25))); have HN2 := Lib.hid (BalB.mk2 w21); have HN3 := Lib.hid (((Below.refl _ w21).alloc (Nat.le_refl _) (.cells #[.int .u64 0, .int .u8 0] 25)).cell (World.block_lt_of_cell? _ _ HA2.out) |>.trans HA2.out)
          (try go_wp2_with fail)
          clear hHeld
          refine hK.out _ _ ?_ (fun hHeld => ?_)
          · exact ⟨HN1.out.box.vals, HN3.out⟩
          clear hK K
          try simp only [Act.put, List.setIfInBounds_toArray, List.set_cons_zero, List.set_cons_succ]
          refine take_call (i := 10) rfl (by kernel_rfl) (by kernel_rfl) (fun K hK => ?_)
          have f0 := HN2.out.frozen 0; have f1 := HN2.out.frozen 1; obtain ⟨p0, p1⟩ := HN2.out.vals; go_simp; have HP := Lib.hid (HA1.out.putnew x (Nat.lt_of_lt_of_le HSZ.out HA3.out.size)); clear f0 f1 p0 p1
          (try go_wp2_with fail)
          clear hHeld
          refine hK.out _ _ ?_ (fun hHeld => ?_)
          · exact ⟨HP.out.s.box.vals, (HP.out.s.bel.cell (World.block_lt_of_cell? _ _ HC0.out)).trans HC0.out⟩
          clear hK K
          try simp only [Act.put, List.setIfInBounds_toArray, List.set_cons_zero, List.set_cons_succ]
          refine take_run (i := 11) (v := ?_) rfl (by kernel_rfl) (by kernel_rfl) (by kernel_rfl) (fun _ _ _ h => h) (by kernel_rfl) ?_ (by assumption) ?_
          rotate_left
          · (intro w5 hSw; obtain ⟨⟨s0, s1⟩, s2⟩ := hSw; go_simp); all_goals with_reducible rfl
          try simp only [Act.put, List.setIfInBounds_toArray, List.set_cons_zero, List.set_cons_succ]
          refine wpAnyH_done (by kernel_rfl) ?_ _
          go_wp2_with fail
          go_meet
          case rel => exact ⟨_, rfl, rfl, HP.out⟩
        · go_simp; have HN1 := Lib.hid (HDR.out.below ((Below.refl _ wr.drew).alloc (Nat.le_refl _) (.cells #[.int .u64 0, .int .u8 0] 25))); have HN2 := Lib.hid (show BalB wr.heap.size (0, 0) (wr.drew.alloc (.cells #[.int .u64 0, .int .u8 0] 25)) from BalB.mk2 wr.drew); have HN3 := Lib.hid (((Below.refl _ wr.drew).alloc (Nat.le_refl _) (.cells #[.int .u64 0, .int .u8 0] 25)).cell (World.block_lt_of_cell? _ _ hcw) |>.trans hcw)
          (try go_wp2_with fail)
          clear hHeld
          refine hK.out _ _ ?_ (fun hHeld => ?_)
          · exact ⟨HN1.out.box.vals, HN3.out⟩
          clear hK K
          try simp only [Act.put, List.setIfInBounds_toArray, List.set_cons_zero, List.set_cons_succ]
          refine take_call (i := 5) rfl (by kernel_rfl) (by kernel_rfl) (fun K hK => ?_)
          go_simp; refine (HT.out _).mono ?_; rintro rr w21 ⟨rfl, bb1⟩; have HA1 := Lib.hid (HN1.out.below bb1); have HA2 := Lib.hid ((bb1.cell (World.block_lt_of_cell? _ _ (HN3.out))).trans (HN3.out)); have HA3 := Lib.hid bb1; clear bb1
          (try go_wp2_with fail)
          clear hHeld
          refine hK.out _ _ ?_ (fun hHeld => ?_)
          · exact ⟨HA1.out.box.vals, HA2.out⟩
          clear hK K
          try simp only [Act.put, List.setIfInBounds_toArray, List.set_cons_zero, List.set_cons_succ]
          have HN5 := Lib.hid (HN2.out.below HA3.out)
          refine take_run (i := 6) (v := ?_) rfl (by kernel_rfl) (by kernel_rfl) (by kernel_rfl) (fun _ _ _ h => h) (by kernel_rfl) ?_ (by assumption) ?_
          rotate_left
          · (intro w5 hSw; obtain ⟨⟨s0, s1⟩, s2⟩ := hSw; go_simp); all_goals with_reducible rfl
          try simp only [Act.put, List.setIfInBounds_toArray, List.set_cons_zero, List.set_cons_succ]
          refine take_run (i := 7) (v := ?_) rfl (by kernel_rfl) (by kernel_rfl) (by kernel_rfl) (fun _ _ _ h => h) (by kernel_rfl) ?_ (by assumption) ?_
          rotate_left
          · (intro w5 hSw; obtain ⟨⟨s0, s1⟩, s2⟩ := hSw; go_simp); all_goals with_reducible rfl
          try simp only [Act.put, List.setIfInBounds_toArray, List.set_cons_zero, List.set_cons_succ]
          refine take_run (i := 8) (v := ?_) rfl (by kernel_rfl) (by kernel_rfl) (by kernel_rfl) (fun _ _ _ h => h) (by kernel_rfl) ?_ (by assumption) ?_
          rotate_left
          · (intro w5 hSw; obtain ⟨⟨s0, s1⟩, s2⟩ := hSw; go_simp); all_goals with_reducible rfl
          try simp only [Act.put, List.setIfInBounds_toArray, List.set_cons_zero, List.set_cons_succ]
          refine take_call (i := 10) rfl (by kernel_rfl) (by kernel_rfl) (fun K hK => ?_)
          have f0 := HN5.out.frozen 0; have f1 := HN5.out.frozen 1; obtain ⟨p0, p1⟩ := HN5.out.vals; go_simp; have HP := Lib.hid (HA1.out.put wr.heap.size (0, 0) x HN5.out HSZ.out HFAR.out); clear f0 f1 p0 p1
          (try go_wp2_with fail)
          clear hHeld
          refine hK.out _ _ ?_ (fun hHeld => ?_)
          · exact ⟨HP.out.s.box.vals, (HP.out.s.bel.cell (World.block_lt_of_cell? _ _ HC0.out)).trans HC0.out⟩
          clear hK K
          try simp only [Act.put, List.setIfInBounds_toArray, List.set_cons_zero, List.set_cons_succ]
          refine take_run (i := 11) (v := ?_) rfl (by kernel_rfl) (by kernel_rfl) (by kernel_rfl) (fun _ _ _ h => h) (by kernel_rfl) ?_ (by assumption) ?_
          rotate_left
          · (intro w5 hSw; obtain ⟨⟨s0, s1⟩, s2⟩ := hSw; go_simp); all_goals with_reducible rfl
          try simp only [Act.put, List.setIfInBounds_toArray, List.set_cons_zero, List.set_cons_succ]
          refine wpAnyH_done (by kernel_rfl) ?_ _
          go_wp2_with fail
          go_meet
          case rel => exact ⟨_, rfl, rfl, HP.out⟩
      case rest =>
        obtain ⟨q9, rfl, rfl, hT⟩ := hcut
        have HX9 := Lib.hid hT
        have hcw2 := (hT.s.bel.cell (World.block_lt_of_cell? _ _ HC0.out)).trans HC0.out
        clear hT hcw HDR HFAR HSZ
        by_cases he : e = 0
        · subst he
          obtain ⟨hx2, hbx, hmx, hokx, hr6, hleast⟩ := turn_spec HOK.out HX.out
          subst hx2
          have H1 := Lib.hid (show ∀ v, Calls Try.prog 13 #[balV b, balV x] v fun r w' => r = .returned (.bool true) ∧ Below v.heap.size v w' from fun v => by have := S.below v b x HOK.out hokx; rwa [hbx] at this)
          have H2 := Lib.hid (show ∀ v, Calls Try.prog 12 #[balV x] v fun r w' => r = .returned (.int .i64 0) ∧ Below v.heap.size v w' from fun v => by have := S.check v x hokx; rwa [hmx] at this)
          have H3 := fun v => S.check v (z, x.2) ⟨HZ.out, hokx.2⟩
          have H4 := fun v => S.below v b (z, x.2) HOK.out ⟨HZ.out, hokx.2⟩
          have H5 := fun v => S.below v (z, x.2) x ⟨HZ.out, hokx.2⟩ hokx
          have HOF := Lib.hid (fun v => of_is (z : Nat) (x.2 : Nat) v)
          have HLS := Lib.hid (hleast (z, x.2) rfl)
          have HBX := Lib.hid hbx
          have HOX := Lib.hid hokx
          unfold balV at H1 H2 H3 H4 H5
          simp only at H3 H4 H5
          have HH3 := Lib.hid H3
          have HH4 := Lib.hid H4
          have HH5 := Lib.hid H5
          clear H3 H4 H5 hleast hbx hmx hokx hr6
          go_upto_region 12 with (go_at_call 24; (with_reducible refine (HOF.out _).mono ?_); rintro r w11 ⟨rfl, b11⟩)
          have hy := BalB.new w11 (z, x.2)
          have hal : Below w11.heap.size w11 (w11.alloc (.cells #[.int .u64 (((z, x.2) : Bal).1 : Nat), .int .u8 (((z, x.2) : Bal).2 : Nat)] 25)) := (Below.refl _ w11).alloc (Nat.le_refl _) _
          have h12 := (HX9.out.below b11).below hal
          have hcw3 := (h12.s.bel.cell (World.block_lt_of_cell? _ _ HC0.out)).trans HC0.out
          simp only at hy hal h12 hcw3
          generalize (w11.alloc (.cells #[.int .u64 (z : Nat), .int .u8 (x.2 : Nat)] 25)) = V12 at *
          generalize w11.heap.size = q11 at *
          have HK := Lib.hid ((show T12 w b T (.slice a4 pn c4) q9 q11 x (z, x.2) bb (off + i) x.2 V12 from ⟨h12, hy, hcw3⟩).below ((Below.refl _ V12).drew))
          clear b11 hal hy h12 hcw3 hcw2 HX9
          go_cut [95] (fun bv wx => bv = .bool false ∧ TxS w b T (.slice a4 pn c4) q9 x wx)
          case first =>
            rcases hm : mayL (z, x.2) with _ | _
            · have h3 := HH3.out
              rw [hm] at h3
              have H3 := Lib.hid h3
              clear h3 hm
              refine wp_region_held_drew (S := TnC w.heap.size q9 q11 b x (z, x.2) bb (off + i) x.2) (by kernel_rfl) (HK.out.c) (fun hHeld => ?_)
              refine take_run (i := 0) (v := ?_) rfl (by kernel_rfl) (by kernel_rfl) (by kernel_rfl) (fun _ _ _ h => h) (by kernel_rfl) ?_ (by assumption) ?_
              rotate_left
              · (intro w5 hSw; obtain ⟨⟨s0, s1⟩, ⟨s2, s3⟩, ⟨s4, s5⟩, s6⟩ := hSw; go_simp); all_goals with_reducible rfl
              try simp only [Act.put, List.setIfInBounds_toArray, List.set_cons_zero, List.set_cons_succ]
              refine take_run (i := 1) (v := ?_) rfl (by kernel_rfl) (by kernel_rfl) (by kernel_rfl) (fun _ _ _ h => h) (by kernel_rfl) ?_ (by assumption) ?_
              rotate_left
              · (intro w5 hSw; obtain ⟨⟨s0, s1⟩, ⟨s2, s3⟩, ⟨s4, s5⟩, s6⟩ := hSw; go_simp); all_goals with_reducible rfl
              try simp only [Act.put, List.setIfInBounds_toArray, List.set_cons_zero, List.set_cons_succ]
              refine take_run (i := 2) (v := ?_) rfl (by kernel_rfl) (by kernel_rfl) (by kernel_rfl) (fun _ _ _ h => h) (by kernel_rfl) ?_ (by assumption) ?_
              rotate_left
              · (intro w5 hSw; obtain ⟨⟨s0, s1⟩, ⟨s2, s3⟩, ⟨s4, s5⟩, s6⟩ := hSw; go_simp); all_goals with_reducible rfl
              try simp only [Act.put, List.setIfInBounds_toArray, List.set_cons_zero, List.set_cons_succ]
              refine take_run (i := 3) (v := ?_) rfl (by kernel_rfl) (by kernel_rfl) (by kernel_rfl) (fun _ _ _ h => h) (by kernel_rfl) ?_ (by assumption) ?_
              rotate_left
              · (intro w5 hSw; obtain ⟨⟨s0, s1⟩, ⟨s2, s3⟩, ⟨s4, s5⟩, s6⟩ := hSw; go_simp); all_goals with_reducible rfl
              try simp only [Act.put, List.setIfInBounds_toArray, List.set_cons_zero, List.set_cons_succ]
              refine take_run (i := 4) (v := ?_) rfl (by kernel_rfl) (by kernel_rfl) (by kernel_rfl) (fun _ _ _ h => h) (by kernel_rfl) ?_ (by assumption) ?_
              rotate_left
              · (intro w5 hSw; obtain ⟨⟨s0, s1⟩, ⟨s2, s3⟩, ⟨s4, s5⟩, s6⟩ := hSw; go_simp); all_goals with_reducible rfl
              try simp only [Act.put, List.setIfInBounds_toArray, List.set_cons_zero, List.set_cons_succ]
              refine take_run (i := 5) (v := ?_) rfl (by kernel_rfl) (by kernel_rfl) (by kernel_rfl) (fun _ _ _ h => h) (by kernel_rfl) ?_ (by assumption) ?_
              rotate_left
              · (intro w5 hSw; obtain ⟨⟨s0, s1⟩, ⟨s2, s3⟩, ⟨s4, s5⟩, s6⟩ := hSw; go_simp); all_goals with_reducible rfl
              try simp only [Act.put, List.setIfInBounds_toArray, List.set_cons_zero, List.set_cons_succ]
              refine take_run (i := 6) (v := ?_) rfl (by kernel_rfl) (by kernel_rfl) (by kernel_rfl) (fun _ _ _ h => h) (by kernel_rfl) ?_ (by assumption) ?_
              rotate_left
              · (intro w5 hSw; obtain ⟨⟨s0, s1⟩, ⟨s2, s3⟩, ⟨s4, s5⟩, s6⟩ := hSw; go_simp); all_goals with_reducible rfl
              try simp only [Act.put, List.setIfInBounds_toArray, List.set_cons_zero, List.set_cons_succ]
              refine take_run (i := 7) (v := ?_) rfl (by kernel_rfl) (by kernel_rfl) (by kernel_rfl) (fun _ _ _ h => h) (by kernel_rfl) ?_ (by assumption) ?_
              rotate_left
              · (intro w5 hSw; obtain ⟨⟨s0, s1⟩, ⟨s2, s3⟩, ⟨s4, s5⟩, s6⟩ := hSw; go_simp); all_goals with_reducible rfl
              try simp only [Act.put, List.setIfInBounds_toArray, List.set_cons_zero, List.set_cons_succ]
              refine take_run (i := 8) (v := ?_) rfl (by kernel_rfl) (by kernel_rfl) (by kernel_rfl) (fun _ _ _ h => h) (by kernel_rfl) ?_ (by assumption) ?_
              rotate_left
              · (intro w5 hSw; obtain ⟨⟨s0, s1⟩, ⟨s2, s3⟩, ⟨s4, s5⟩, s6⟩ := hSw; go_simp); all_goals with_reducible rfl
              try simp only [Act.put, List.setIfInBounds_toArray, List.set_cons_zero, List.set_cons_succ]
              refine take_run (i := 9) (v := ?_) rfl (by kernel_rfl) (by kernel_rfl) (by kernel_rfl) (fun _ _ _ h => h) (by kernel_rfl) ?_ (by assumption) ?_
              rotate_left
              · (intro w5 hSw; obtain ⟨⟨s0, s1⟩, ⟨s2, s3⟩, ⟨s4, s5⟩, s6⟩ := hSw; go_simp); all_goals with_reducible rfl
              try simp only [Act.put, List.setIfInBounds_toArray, List.set_cons_zero, List.set_cons_succ]
              refine take_call (i := 10) rfl (by kernel_rfl) (by kernel_rfl) (fun K hK => ?_)
              go_simp; refine (H1.out _).mono ?_; rintro rr w30 ⟨rfl, bb9⟩; have HK1 := Lib.hid (HK.out.below bb9); clear bb9
              (try go_wp2_with fail)
              clear hHeld
              refine hK.out _ _ ?_ (fun hHeld => ?_)
              · exact HK1.out.c
              clear hK K
              try simp only [Act.put, List.setIfInBounds_toArray, List.set_cons_zero, List.set_cons_succ]
              refine take_run (i := 11) (v := ?_) rfl (by kernel_rfl) (by kernel_rfl) (by kernel_rfl) (fun _ _ _ h => h) (by kernel_rfl) ?_ (by assumption) ?_
              rotate_left
              · (intro w5 hSw; obtain ⟨⟨s0, s1⟩, ⟨s2, s3⟩, ⟨s4, s5⟩, s6⟩ := hSw; go_simp); all_goals with_reducible rfl
              try simp only [Act.put, List.setIfInBounds_toArray, List.set_cons_zero, List.set_cons_succ]
              refine take_run (i := 12) (v := ?_) rfl (by kernel_rfl) (by kernel_rfl) (by kernel_rfl) (fun _ _ _ h => h) (by kernel_rfl) ?_ (by assumption) ?_
              rotate_left
              · (intro w5 hSw; obtain ⟨⟨s0, s1⟩, ⟨s2, s3⟩, ⟨s4, s5⟩, s6⟩ := hSw; go_simp); all_goals with_reducible rfl
              try simp only [Act.put, List.setIfInBounds_toArray, List.set_cons_zero, List.set_cons_succ]
              refine take_run (i := 13) (v := ?_) rfl (by kernel_rfl) (by kernel_rfl) (by kernel_rfl) (fun _ _ _ h => h) (by kernel_rfl) ?_ (by assumption) ?_
              rotate_left
              · (intro w5 hSw; obtain ⟨⟨s0, s1⟩, ⟨s2, s3⟩, ⟨s4, s5⟩, s6⟩ := hSw; go_simp); all_goals with_reducible rfl
              try simp only [Act.put, List.setIfInBounds_toArray, List.set_cons_zero, List.set_cons_succ]
              refine take_run (i := 14) (v := ?_) rfl (by kernel_rfl) (by kernel_rfl) (by kernel_rfl) (fun _ _ _ h => h) (by kernel_rfl) ?_ (by assumption) ?_
              rotate_left
              · (intro w5 hSw; obtain ⟨⟨s0, s1⟩, ⟨s2, s3⟩, ⟨s4, s5⟩, s6⟩ := hSw; go_simp); all_goals with_reducible rfl
              try simp only [Act.put, List.setIfInBounds_toArray, List.set_cons_zero, List.set_cons_succ]
              refine take_call (i := 15) rfl (by kernel_rfl) (by kernel_rfl) (fun K hK => ?_)
              go_simp; refine (H2.out _).mono ?_; rintro rr w31 ⟨rfl, bb9⟩; have HK2 := Lib.hid (HK1.out.below bb9); clear bb9
              (try go_wp2_with fail)
              clear hHeld
              refine hK.out _ _ ?_ (fun hHeld => ?_)
              · exact HK2.out.c
              clear hK K
              try simp only [Act.put, List.setIfInBounds_toArray, List.set_cons_zero, List.set_cons_succ]
              refine take_run (i := 16) (v := ?_) rfl (by kernel_rfl) (by kernel_rfl) (by kernel_rfl) (fun _ _ _ h => h) (by kernel_rfl) ?_ (by assumption) ?_
              rotate_left
              · (intro w5 hSw; obtain ⟨⟨s0, s1⟩, ⟨s2, s3⟩, ⟨s4, s5⟩, s6⟩ := hSw; go_simp); all_goals with_reducible rfl
              try simp only [Act.put, List.setIfInBounds_toArray, List.set_cons_zero, List.set_cons_succ]
              refine take_run (i := 17) (v := ?_) rfl (by kernel_rfl) (by kernel_rfl) (by kernel_rfl) (fun _ _ _ h => h) (by kernel_rfl) ?_ (by assumption) ?_
              rotate_left
              · (intro w5 hSw; obtain ⟨⟨s0, s1⟩, ⟨s2, s3⟩, ⟨s4, s5⟩, s6⟩ := hSw; go_simp); all_goals with_reducible rfl
              try simp only [Act.put, List.setIfInBounds_toArray, List.set_cons_zero, List.set_cons_succ]
              refine take_run (i := 18) (v := ?_) rfl (by kernel_rfl) (by kernel_rfl) (by kernel_rfl) (fun _ _ _ h => h) (by kernel_rfl) ?_ (by assumption) ?_
              rotate_left
              · (intro w5 hSw; obtain ⟨⟨s0, s1⟩, ⟨s2, s3⟩, ⟨s4, s5⟩, s6⟩ := hSw; go_simp); all_goals with_reducible rfl
              try simp only [Act.put, List.setIfInBounds_toArray, List.set_cons_zero, List.set_cons_succ]
              refine take_run (i := 19) (v := ?_) rfl (by kernel_rfl) (by kernel_rfl) (by kernel_rfl) (fun _ _ _ h => h) (by kernel_rfl) ?_ (by assumption) ?_
              rotate_left
              · (intro w5 hSw; obtain ⟨⟨s0, s1⟩, ⟨s2, s3⟩, ⟨s4, s5⟩, s6⟩ := hSw; go_simp); all_goals with_reducible rfl
              try simp only [Act.put, List.setIfInBounds_toArray, List.set_cons_zero, List.set_cons_succ]
              refine take_call (i := 20) rfl (by kernel_rfl) (by kernel_rfl) (fun K hK => ?_)
              go_simp; refine (H3.out _).mono ?_; rintro rr w32 ⟨rfl, bb9⟩; have HK3 := Lib.hid (HK2.out.below bb9); clear bb9
              (try go_wp2_with fail)
              clear hHeld
              refine hK.out _ _ ?_ (fun hHeld => ?_)
              · exact HK3.out.c
              clear hK K
              try simp only [Act.put, List.setIfInBounds_toArray, List.set_cons_zero, List.set_cons_succ]
              refine take_run (i := 21) (v := ?_) rfl (by kernel_rfl) (by kernel_rfl) (by kernel_rfl) (fun _ _ _ h => h) (by kernel_rfl) ?_ (by assumption) ?_
              rotate_left
              · (intro w5 hSw; obtain ⟨⟨s0, s1⟩, ⟨s2, s3⟩, ⟨s4, s5⟩, s6⟩ := hSw; go_simp); all_goals with_reducible rfl
              try simp only [Act.put, List.setIfInBounds_toArray, List.set_cons_zero, List.set_cons_succ]
              refine take_run (i := 22) (v := ?_) rfl (by kernel_rfl) (by kernel_rfl) (by kernel_rfl) (fun _ _ _ h => h) (by kernel_rfl) ?_ (by assumption) ?_
              rotate_left
              · (intro w5 hSw; obtain ⟨⟨s0, s1⟩, ⟨s2, s3⟩, ⟨s4, s5⟩, s6⟩ := hSw; go_simp); all_goals with_reducible rfl
              try simp only [Act.put, List.setIfInBounds_toArray, List.set_cons_zero, List.set_cons_succ]
              refine take_skip (i := 23) rfl (by kernel_rfl) (by kernel_rfl) (by kernel_rfl) (fun _ _ _ h => h) (by kernel_rfl) (by assumption) ?_
              try simp only [Act.put, List.setIfInBounds_toArray, List.set_cons_zero, List.set_cons_succ]
              refine take_skip (i := 24) rfl (by kernel_rfl) (by kernel_rfl) (by kernel_rfl) (fun _ _ _ h => h) (by kernel_rfl) (by assumption) ?_
              try simp only [Act.put, List.setIfInBounds_toArray, List.set_cons_zero, List.set_cons_succ]
              refine take_skip (i := 25) rfl (by kernel_rfl) (by kernel_rfl) (by kernel_rfl) (fun _ _ _ h => h) (by kernel_rfl) (by assumption) ?_
              try simp only [Act.put, List.setIfInBounds_toArray, List.set_cons_zero, List.set_cons_succ]
              refine take_run (i := 26) (v := ?_) rfl (by kernel_rfl) (by kernel_rfl) (by kernel_rfl) (fun _ _ _ h => h) (by kernel_rfl) ?_ (by assumption) ?_
              rotate_left
              · (intro w5 hSw; obtain ⟨⟨s0, s1⟩, ⟨s2, s3⟩, ⟨s4, s5⟩, s6⟩ := hSw; go_simp); all_goals with_reducible rfl
              try simp only [Act.put, List.setIfInBounds_toArray, List.set_cons_zero, List.set_cons_succ]
              refine take_run (i := 27) (v := ?_) rfl (by kernel_rfl) (by kernel_rfl) (by kernel_rfl) (fun _ _ _ h => h) (by kernel_rfl) ?_ (by assumption) ?_
              rotate_left
              · (intro w5 hSw; obtain ⟨⟨s0, s1⟩, ⟨s2, s3⟩, ⟨s4, s5⟩, s6⟩ := hSw; go_simp); all_goals with_reducible rfl
              try simp only [Act.put, List.setIfInBounds_toArray, List.set_cons_zero, List.set_cons_succ]
              refine take_skip (i := 28) rfl (by kernel_rfl) (by kernel_rfl) (by kernel_rfl) (fun _ _ _ h => h) (by kernel_rfl) (by assumption) ?_
              try simp only [Act.put, List.setIfInBounds_toArray, List.set_cons_zero, List.set_cons_succ]
              refine take_skip (i := 29) rfl (by kernel_rfl) (by kernel_rfl) (by kernel_rfl) (fun _ _ _ h => h) (by kernel_rfl) (by assumption) ?_
              try simp only [Act.put, List.setIfInBounds_toArray, List.set_cons_zero, List.set_cons_succ]
              refine take_skip (i := 30) rfl (by kernel_rfl) (by kernel_rfl) (by kernel_rfl) (fun _ _ _ h => h) (by kernel_rfl) (by assumption) ?_
              try simp only [Act.put, List.setIfInBounds_toArray, List.set_cons_zero, List.set_cons_succ]
              refine take_run (i := 31) (v := ?_) rfl (by kernel_rfl) (by kernel_rfl) (by kernel_rfl) (fun _ _ _ h => h) (by kernel_rfl) ?_ (by assumption) ?_
              rotate_left
              · (intro w5 hSw; obtain ⟨⟨s0, s1⟩, ⟨s2, s3⟩, ⟨s4, s5⟩, s6⟩ := hSw; go_simp); all_goals with_reducible rfl
              try simp only [Act.put, List.setIfInBounds_toArray, List.set_cons_zero, List.set_cons_succ]
              refine take_run (i := 32) (v := ?_) rfl (by kernel_rfl) (by kernel_rfl) (by kernel_rfl) (fun _ _ _ h => h) (by kernel_rfl) ?_ (by assumption) ?_
              rotate_left
              · (intro w5 hSw; obtain ⟨⟨s0, s1⟩, ⟨s2, s3⟩, ⟨s4, s5⟩, s6⟩ := hSw; go_simp); all_goals with_reducible rfl
              try simp only [Act.put, List.setIfInBounds_toArray, List.set_cons_zero, List.set_cons_succ]
              refine wpAnyH_done (by kernel_rfl) ?_ _
              go_wp2_with fail
              go_meet
              case rel => exact ⟨rfl, HK3.out.t⟩
            · have h3 := HH3.out
              rw [hm] at h3
              have H3 := Lib.hid h3
              rcases hbl : belowL b (z, x.2) with _ | _
              · have h4 := HH4.out
                rw [hbl] at h4
                have H4 := Lib.hid h4
                clear h3 h4 hm hbl
                refine wp_region_held_drew (S := TnC w.heap.size q9 q11 b x (z, x.2) bb (off + i) x.2) (by kernel_rfl) (HK.out.c) (fun hHeld => ?_)
                refine take_run (i := 0) (v := ?_) rfl (by kernel_rfl) (by kernel_rfl) (by kernel_rfl) (fun _ _ _ h => h) (by kernel_rfl) ?_ (by assumption) ?_
                rotate_left
                · (intro w5 hSw; obtain ⟨⟨s0, s1⟩, ⟨s2, s3⟩, ⟨s4, s5⟩, s6⟩ := hSw; go_simp); all_goals with_reducible rfl
                try simp only [Act.put, List.setIfInBounds_toArray, List.set_cons_zero, List.set_cons_succ]
                refine take_run (i := 1) (v := ?_) rfl (by kernel_rfl) (by kernel_rfl) (by kernel_rfl) (fun _ _ _ h => h) (by kernel_rfl) ?_ (by assumption) ?_
                rotate_left
                · (intro w5 hSw; obtain ⟨⟨s0, s1⟩, ⟨s2, s3⟩, ⟨s4, s5⟩, s6⟩ := hSw; go_simp); all_goals with_reducible rfl
                try simp only [Act.put, List.setIfInBounds_toArray, List.set_cons_zero, List.set_cons_succ]
                refine take_run (i := 2) (v := ?_) rfl (by kernel_rfl) (by kernel_rfl) (by kernel_rfl) (fun _ _ _ h => h) (by kernel_rfl) ?_ (by assumption) ?_
                rotate_left
                · (intro w5 hSw; obtain ⟨⟨s0, s1⟩, ⟨s2, s3⟩, ⟨s4, s5⟩, s6⟩ := hSw; go_simp); all_goals with_reducible rfl
                try simp only [Act.put, List.setIfInBounds_toArray, List.set_cons_zero, List.set_cons_succ]
                refine take_run (i := 3) (v := ?_) rfl (by kernel_rfl) (by kernel_rfl) (by kernel_rfl) (fun _ _ _ h => h) (by kernel_rfl) ?_ (by assumption) ?_
                rotate_left
                · (intro w5 hSw; obtain ⟨⟨s0, s1⟩, ⟨s2, s3⟩, ⟨s4, s5⟩, s6⟩ := hSw; go_simp); all_goals with_reducible rfl
                try simp only [Act.put, List.setIfInBounds_toArray, List.set_cons_zero, List.set_cons_succ]
                refine take_run (i := 4) (v := ?_) rfl (by kernel_rfl) (by kernel_rfl) (by kernel_rfl) (fun _ _ _ h => h) (by kernel_rfl) ?_ (by assumption) ?_
                rotate_left
                · (intro w5 hSw; obtain ⟨⟨s0, s1⟩, ⟨s2, s3⟩, ⟨s4, s5⟩, s6⟩ := hSw; go_simp); all_goals with_reducible rfl
                try simp only [Act.put, List.setIfInBounds_toArray, List.set_cons_zero, List.set_cons_succ]
                refine take_run (i := 5) (v := ?_) rfl (by kernel_rfl) (by kernel_rfl) (by kernel_rfl) (fun _ _ _ h => h) (by kernel_rfl) ?_ (by assumption) ?_
                rotate_left
                · (intro w5 hSw; obtain ⟨⟨s0, s1⟩, ⟨s2, s3⟩, ⟨s4, s5⟩, s6⟩ := hSw; go_simp); all_goals with_reducible rfl
                try simp only [Act.put, List.setIfInBounds_toArray, List.set_cons_zero, List.set_cons_succ]
                refine take_run (i := 6) (v := ?_) rfl (by kernel_rfl) (by kernel_rfl) (by kernel_rfl) (fun _ _ _ h => h) (by kernel_rfl) ?_ (by assumption) ?_
                rotate_left
                · (intro w5 hSw; obtain ⟨⟨s0, s1⟩, ⟨s2, s3⟩, ⟨s4, s5⟩, s6⟩ := hSw; go_simp); all_goals with_reducible rfl
                try simp only [Act.put, List.setIfInBounds_toArray, List.set_cons_zero, List.set_cons_succ]
                refine take_run (i := 7) (v := ?_) rfl (by kernel_rfl) (by kernel_rfl) (by kernel_rfl) (fun _ _ _ h => h) (by kernel_rfl) ?_ (by assumption) ?_
                rotate_left
                · (intro w5 hSw; obtain ⟨⟨s0, s1⟩, ⟨s2, s3⟩, ⟨s4, s5⟩, s6⟩ := hSw; go_simp); all_goals with_reducible rfl
                try simp only [Act.put, List.setIfInBounds_toArray, List.set_cons_zero, List.set_cons_succ]
                refine take_run (i := 8) (v := ?_) rfl (by kernel_rfl) (by kernel_rfl) (by kernel_rfl) (fun _ _ _ h => h) (by kernel_rfl) ?_ (by assumption) ?_
                rotate_left
                · (intro w5 hSw; obtain ⟨⟨s0, s1⟩, ⟨s2, s3⟩, ⟨s4, s5⟩, s6⟩ := hSw; go_simp); all_goals with_reducible rfl
                try simp only [Act.put, List.setIfInBounds_toArray, List.set_cons_zero, List.set_cons_succ]
                refine take_run (i := 9) (v := ?_) rfl (by kernel_rfl) (by kernel_rfl) (by kernel_rfl) (fun _ _ _ h => h) (by kernel_rfl) ?_ (by assumption) ?_
                rotate_left
                · (intro w5 hSw; obtain ⟨⟨s0, s1⟩, ⟨s2, s3⟩, ⟨s4, s5⟩, s6⟩ := hSw; go_simp); all_goals with_reducible rfl
                try simp only [Act.put, List.setIfInBounds_toArray, List.set_cons_zero, List.set_cons_succ]
                refine take_call (i := 10) rfl (by kernel_rfl) (by kernel_rfl) (fun K hK => ?_)
                go_simp; refine (H1.out _).mono ?_; rintro rr w30 ⟨rfl, bb9⟩; have HK1 := Lib.hid (HK.out.below bb9); clear bb9
                (try go_wp2_with fail)
                clear hHeld
                refine hK.out _ _ ?_ (fun hHeld => ?_)
                · exact HK1.out.c
                clear hK K
                try simp only [Act.put, List.setIfInBounds_toArray, List.set_cons_zero, List.set_cons_succ]
                refine take_run (i := 11) (v := ?_) rfl (by kernel_rfl) (by kernel_rfl) (by kernel_rfl) (fun _ _ _ h => h) (by kernel_rfl) ?_ (by assumption) ?_
                rotate_left
                · (intro w5 hSw; obtain ⟨⟨s0, s1⟩, ⟨s2, s3⟩, ⟨s4, s5⟩, s6⟩ := hSw; go_simp); all_goals with_reducible rfl
                try simp only [Act.put, List.setIfInBounds_toArray, List.set_cons_zero, List.set_cons_succ]
                refine take_run (i := 12) (v := ?_) rfl (by kernel_rfl) (by kernel_rfl) (by kernel_rfl) (fun _ _ _ h => h) (by kernel_rfl) ?_ (by assumption) ?_
                rotate_left
                · (intro w5 hSw; obtain ⟨⟨s0, s1⟩, ⟨s2, s3⟩, ⟨s4, s5⟩, s6⟩ := hSw; go_simp); all_goals with_reducible rfl
                try simp only [Act.put, List.setIfInBounds_toArray, List.set_cons_zero, List.set_cons_succ]
                refine take_run (i := 13) (v := ?_) rfl (by kernel_rfl) (by kernel_rfl) (by kernel_rfl) (fun _ _ _ h => h) (by kernel_rfl) ?_ (by assumption) ?_
                rotate_left
                · (intro w5 hSw; obtain ⟨⟨s0, s1⟩, ⟨s2, s3⟩, ⟨s4, s5⟩, s6⟩ := hSw; go_simp); all_goals with_reducible rfl
                try simp only [Act.put, List.setIfInBounds_toArray, List.set_cons_zero, List.set_cons_succ]
                refine take_run (i := 14) (v := ?_) rfl (by kernel_rfl) (by kernel_rfl) (by kernel_rfl) (fun _ _ _ h => h) (by kernel_rfl) ?_ (by assumption) ?_
                rotate_left
                · (intro w5 hSw; obtain ⟨⟨s0, s1⟩, ⟨s2, s3⟩, ⟨s4, s5⟩, s6⟩ := hSw; go_simp); all_goals with_reducible rfl
                try simp only [Act.put, List.setIfInBounds_toArray, List.set_cons_zero, List.set_cons_succ]
                refine take_call (i := 15) rfl (by kernel_rfl) (by kernel_rfl) (fun K hK => ?_)
                go_simp; refine (H2.out _).mono ?_; rintro rr w31 ⟨rfl, bb9⟩; have HK2 := Lib.hid (HK1.out.below bb9); clear bb9
                (try go_wp2_with fail)
                clear hHeld
                refine hK.out _ _ ?_ (fun hHeld => ?_)
                · exact HK2.out.c
                clear hK K
                try simp only [Act.put, List.setIfInBounds_toArray, List.set_cons_zero, List.set_cons_succ]
                refine take_run (i := 16) (v := ?_) rfl (by kernel_rfl) (by kernel_rfl) (by kernel_rfl) (fun _ _ _ h => h) (by kernel_rfl) ?_ (by assumption) ?_
                rotate_left
                · (intro w5 hSw; obtain ⟨⟨s0, s1⟩, ⟨s2, s3⟩, ⟨s4, s5⟩, s6⟩ := hSw; go_simp); all_goals with_reducible rfl
                try simp only [Act.put, List.setIfInBounds_toArray, List.set_cons_zero, List.set_cons_succ]
                refine take_run (i := 17) (v := ?_) rfl (by kernel_rfl) (by kernel_rfl) (by kernel_rfl) (fun _ _ _ h => h) (by kernel_rfl) ?_ (by assumption) ?_
                rotate_left
                · (intro w5 hSw; obtain ⟨⟨s0, s1⟩, ⟨s2, s3⟩, ⟨s4, s5⟩, s6⟩ := hSw; go_simp); all_goals with_reducible rfl
                try simp only [Act.put, List.setIfInBounds_toArray, List.set_cons_zero, List.set_cons_succ]
                refine take_run (i := 18) (v := ?_) rfl (by kernel_rfl) (by kernel_rfl) (by kernel_rfl) (fun _ _ _ h => h) (by kernel_rfl) ?_ (by assumption) ?_
                rotate_left
                · (intro w5 hSw; obtain ⟨⟨s0, s1⟩, ⟨s2, s3⟩, ⟨s4, s5⟩, s6⟩ := hSw; go_simp); all_goals with_reducible rfl
                try simp only [Act.put, List.setIfInBounds_toArray, List.set_cons_zero, List.set_cons_succ]
                refine take_run (i := 19) (v := ?_) rfl (by kernel_rfl) (by kernel_rfl) (by kernel_rfl) (fun _ _ _ h => h) (by kernel_rfl) ?_ (by assumption) ?_
                rotate_left
                · (intro w5 hSw; obtain ⟨⟨s0, s1⟩, ⟨s2, s3⟩, ⟨s4, s5⟩, s6⟩ := hSw; go_simp); all_goals with_reducible rfl
                try simp only [Act.put, List.setIfInBounds_toArray, List.set_cons_zero, List.set_cons_succ]
                refine take_call (i := 20) rfl (by kernel_rfl) (by kernel_rfl) (fun K hK => ?_)
                go_simp; refine (H3.out _).mono ?_; rintro rr w32 ⟨rfl, bb9⟩; have HK3 := Lib.hid (HK2.out.below bb9); clear bb9
                (try go_wp2_with fail)
                clear hHeld
                refine hK.out _ _ ?_ (fun hHeld => ?_)
                · exact HK3.out.c
                clear hK K
                try simp only [Act.put, List.setIfInBounds_toArray, List.set_cons_zero, List.set_cons_succ]
                refine take_run (i := 21) (v := ?_) rfl (by kernel_rfl) (by kernel_rfl) (by kernel_rfl) (fun _ _ _ h => h) (by kernel_rfl) ?_ (by assumption) ?_
                rotate_left
                · (intro w5 hSw; obtain ⟨⟨s0, s1⟩, ⟨s2, s3⟩, ⟨s4, s5⟩, s6⟩ := hSw; go_simp); all_goals with_reducible rfl
                try simp only [Act.put, List.setIfInBounds_toArray, List.set_cons_zero, List.set_cons_succ]
                refine take_run (i := 22) (v := ?_) rfl (by kernel_rfl) (by kernel_rfl) (by kernel_rfl) (fun _ _ _ h => h) (by kernel_rfl) ?_ (by assumption) ?_
                rotate_left
                · (intro w5 hSw; obtain ⟨⟨s0, s1⟩, ⟨s2, s3⟩, ⟨s4, s5⟩, s6⟩ := hSw; go_simp); all_goals with_reducible rfl
                try simp only [Act.put, List.setIfInBounds_toArray, List.set_cons_zero, List.set_cons_succ]
                refine take_run (i := 23) (v := ?_) rfl (by kernel_rfl) (by kernel_rfl) (by kernel_rfl) (fun _ _ _ h => h) (by kernel_rfl) ?_ (by assumption) ?_
                rotate_left
                · (intro w5 hSw; obtain ⟨⟨s0, s1⟩, ⟨s2, s3⟩, ⟨s4, s5⟩, s6⟩ := hSw; go_simp); all_goals with_reducible rfl
                try simp only [Act.put, List.setIfInBounds_toArray, List.set_cons_zero, List.set_cons_succ]
                refine take_run (i := 24) (v := ?_) rfl (by kernel_rfl) (by kernel_rfl) (by kernel_rfl) (fun _ _ _ h => h) (by kernel_rfl) ?_ (by assumption) ?_
                rotate_left
                · (intro w5 hSw; obtain ⟨⟨s0, s1⟩, ⟨s2, s3⟩, ⟨s4, s5⟩, s6⟩ := hSw; go_simp); all_goals with_reducible rfl
                try simp only [Act.put, List.setIfInBounds_toArray, List.set_cons_zero, List.set_cons_succ]
                refine take_call (i := 25) rfl (by kernel_rfl) (by kernel_rfl) (fun K hK => ?_)
                go_simp; refine (H4.out _).mono ?_; rintro rr w33 ⟨rfl, bb9⟩; have HK4 := Lib.hid (HK3.out.below bb9); clear bb9
                (try go_wp2_with fail)
                clear hHeld
                refine hK.out _ _ ?_ (fun hHeld => ?_)
                · exact HK4.out.c
                clear hK K
                try simp only [Act.put, List.setIfInBounds_toArray, List.set_cons_zero, List.set_cons_succ]
                refine take_run (i := 26) (v := ?_) rfl (by kernel_rfl) (by kernel_rfl) (by kernel_rfl) (fun _ _ _ h => h) (by kernel_rfl) ?_ (by assumption) ?_
                rotate_left
                · (intro w5 hSw; obtain ⟨⟨s0, s1⟩, ⟨s2, s3⟩, ⟨s4, s5⟩, s6⟩ := hSw; go_simp); all_goals with_reducible rfl
                try simp only [Act.put, List.setIfInBounds_toArray, List.set_cons_zero, List.set_cons_succ]
                refine take_run (i := 27) (v := ?_) rfl (by kernel_rfl) (by kernel_rfl) (by kernel_rfl) (fun _ _ _ h => h) (by kernel_rfl) ?_ (by assumption) ?_
                rotate_left
                · (intro w5 hSw; obtain ⟨⟨s0, s1⟩, ⟨s2, s3⟩, ⟨s4, s5⟩, s6⟩ := hSw; go_simp); all_goals with_reducible rfl
                try simp only [Act.put, List.setIfInBounds_toArray, List.set_cons_zero, List.set_cons_succ]
                refine take_skip (i := 28) rfl (by kernel_rfl) (by kernel_rfl) (by kernel_rfl) (fun _ _ _ h => h) (by kernel_rfl) (by assumption) ?_
                try simp only [Act.put, List.setIfInBounds_toArray, List.set_cons_zero, List.set_cons_succ]
                refine take_skip (i := 29) rfl (by kernel_rfl) (by kernel_rfl) (by kernel_rfl) (fun _ _ _ h => h) (by kernel_rfl) (by assumption) ?_
                try simp only [Act.put, List.setIfInBounds_toArray, List.set_cons_zero, List.set_cons_succ]
                refine take_skip (i := 30) rfl (by kernel_rfl) (by kernel_rfl) (by kernel_rfl) (fun _ _ _ h => h) (by kernel_rfl) (by assumption) ?_
                try simp only [Act.put, List.setIfInBounds_toArray, List.set_cons_zero, List.set_cons_succ]
                refine take_run (i := 31) (v := ?_) rfl (by kernel_rfl) (by kernel_rfl) (by kernel_rfl) (fun _ _ _ h => h) (by kernel_rfl) ?_ (by assumption) ?_
                rotate_left
                · (intro w5 hSw; obtain ⟨⟨s0, s1⟩, ⟨s2, s3⟩, ⟨s4, s5⟩, s6⟩ := hSw; go_simp); all_goals with_reducible rfl
                try simp only [Act.put, List.setIfInBounds_toArray, List.set_cons_zero, List.set_cons_succ]
                refine take_run (i := 32) (v := ?_) rfl (by kernel_rfl) (by kernel_rfl) (by kernel_rfl) (fun _ _ _ h => h) (by kernel_rfl) ?_ (by assumption) ?_
                rotate_left
                · (intro w5 hSw; obtain ⟨⟨s0, s1⟩, ⟨s2, s3⟩, ⟨s4, s5⟩, s6⟩ := hSw; go_simp); all_goals with_reducible rfl
                try simp only [Act.put, List.setIfInBounds_toArray, List.set_cons_zero, List.set_cons_succ]
                refine wpAnyH_done (by kernel_rfl) ?_ _
                go_wp2_with fail
                go_meet
                case rel => exact ⟨rfl, HK4.out.t⟩
              · have h4 := HH4.out
                rw [hbl] at h4
                have H4 := Lib.hid h4
                have h5 := HH5.out
                rw [HLS.out hm hbl] at h5
                have H5 := Lib.hid h5
                clear h3 h4 h5 hm hbl
                refine wp_region_held_drew (S := TnC w.heap.size q9 q11 b x (z, x.2) bb (off + i) x.2) (by kernel_rfl) (HK.out.c) (fun hHeld => ?_)
                refine take_run (i := 0) (v := ?_) rfl (by kernel_rfl) (by kernel_rfl) (by kernel_rfl) (fun _ _ _ h => h) (by kernel_rfl) ?_ (by assumption) ?_
                rotate_left
                · (intro w5 hSw; obtain ⟨⟨s0, s1⟩, ⟨s2, s3⟩, ⟨s4, s5⟩, s6⟩ := hSw; go_simp); all_goals with_reducible rfl
                try simp only [Act.put, List.setIfInBounds_toArray, List.set_cons_zero, List.set_cons_succ]
                refine take_run (i := 1) (v := ?_) rfl (by kernel_rfl) (by kernel_rfl) (by kernel_rfl) (fun _ _ _ h => h) (by kernel_rfl) ?_ (by assumption) ?_
                rotate_left
                · (intro w5 hSw; obtain ⟨⟨s0, s1⟩, ⟨s2, s3⟩, ⟨s4, s5⟩, s6⟩ := hSw; go_simp); all_goals with_reducible rfl
                try simp only [Act.put, List.setIfInBounds_toArray, List.set_cons_zero, List.set_cons_succ]
                refine take_run (i := 2) (v := ?_) rfl (by kernel_rfl) (by kernel_rfl) (by kernel_rfl) (fun _ _ _ h => h) (by kernel_rfl) ?_ (by assumption) ?_
                rotate_left
                · (intro w5 hSw; obtain ⟨⟨s0, s1⟩, ⟨s2, s3⟩, ⟨s4, s5⟩, s6⟩ := hSw; go_simp); all_goals with_reducible rfl
                try simp only [Act.put, List.setIfInBounds_toArray, List.set_cons_zero, List.set_cons_succ]
                refine take_run (i := 3) (v := ?_) rfl (by kernel_rfl) (by kernel_rfl) (by kernel_rfl) (fun _ _ _ h => h) (by kernel_rfl) ?_ (by assumption) ?_
                rotate_left
                · (intro w5 hSw; obtain ⟨⟨s0, s1⟩, ⟨s2, s3⟩, ⟨s4, s5⟩, s6⟩ := hSw; go_simp); all_goals with_reducible rfl
                try simp only [Act.put, List.setIfInBounds_toArray, List.set_cons_zero, List.set_cons_succ]
                refine take_run (i := 4) (v := ?_) rfl (by kernel_rfl) (by kernel_rfl) (by kernel_rfl) (fun _ _ _ h => h) (by kernel_rfl) ?_ (by assumption) ?_
                rotate_left
                · (intro w5 hSw; obtain ⟨⟨s0, s1⟩, ⟨s2, s3⟩, ⟨s4, s5⟩, s6⟩ := hSw; go_simp); all_goals with_reducible rfl
                try simp only [Act.put, List.setIfInBounds_toArray, List.set_cons_zero, List.set_cons_succ]
                refine take_run (i := 5) (v := ?_) rfl (by kernel_rfl) (by kernel_rfl) (by kernel_rfl) (fun _ _ _ h => h) (by kernel_rfl) ?_ (by assumption) ?_
                rotate_left
                · (intro w5 hSw; obtain ⟨⟨s0, s1⟩, ⟨s2, s3⟩, ⟨s4, s5⟩, s6⟩ := hSw; go_simp); all_goals with_reducible rfl
                try simp only [Act.put, List.setIfInBounds_toArray, List.set_cons_zero, List.set_cons_succ]
                refine take_run (i := 6) (v := ?_) rfl (by kernel_rfl) (by kernel_rfl) (by kernel_rfl) (fun _ _ _ h => h) (by kernel_rfl) ?_ (by assumption) ?_
                rotate_left
                · (intro w5 hSw; obtain ⟨⟨s0, s1⟩, ⟨s2, s3⟩, ⟨s4, s5⟩, s6⟩ := hSw; go_simp); all_goals with_reducible rfl
                try simp only [Act.put, List.setIfInBounds_toArray, List.set_cons_zero, List.set_cons_succ]
                refine take_run (i := 7) (v := ?_) rfl (by kernel_rfl) (by kernel_rfl) (by kernel_rfl) (fun _ _ _ h => h) (by kernel_rfl) ?_ (by assumption) ?_
                rotate_left
                · (intro w5 hSw; obtain ⟨⟨s0, s1⟩, ⟨s2, s3⟩, ⟨s4, s5⟩, s6⟩ := hSw; go_simp); all_goals with_reducible rfl
                try simp only [Act.put, List.setIfInBounds_toArray, List.set_cons_zero, List.set_cons_succ]
                refine take_run (i := 8) (v := ?_) rfl (by kernel_rfl) (by kernel_rfl) (by kernel_rfl) (fun _ _ _ h => h) (by kernel_rfl) ?_ (by assumption) ?_
                rotate_left
                · (intro w5 hSw; obtain ⟨⟨s0, s1⟩, ⟨s2, s3⟩, ⟨s4, s5⟩, s6⟩ := hSw; go_simp); all_goals with_reducible rfl
                try simp only [Act.put, List.setIfInBounds_toArray, List.set_cons_zero, List.set_cons_succ]
                refine take_run (i := 9) (v := ?_) rfl (by kernel_rfl) (by kernel_rfl) (by kernel_rfl) (fun _ _ _ h => h) (by kernel_rfl) ?_ (by assumption) ?_
                rotate_left
                · (intro w5 hSw; obtain ⟨⟨s0, s1⟩, ⟨s2, s3⟩, ⟨s4, s5⟩, s6⟩ := hSw; go_simp); all_goals with_reducible rfl
                try simp only [Act.put, List.setIfInBounds_toArray, List.set_cons_zero, List.set_cons_succ]
                refine take_call (i := 10) rfl (by kernel_rfl) (by kernel_rfl) (fun K hK => ?_)
                go_simp; refine (H1.out _).mono ?_; rintro rr w30 ⟨rfl, bb9⟩; have HK1 := Lib.hid (HK.out.below bb9); clear bb9
                (try go_wp2_with fail)
                clear hHeld
                refine hK.out _ _ ?_ (fun hHeld => ?_)
                · exact HK1.out.c
                clear hK K
                try simp only [Act.put, List.setIfInBounds_toArray, List.set_cons_zero, List.set_cons_succ]
                refine take_run (i := 11) (v := ?_) rfl (by kernel_rfl) (by kernel_rfl) (by kernel_rfl) (fun _ _ _ h => h) (by kernel_rfl) ?_ (by assumption) ?_
                rotate_left
                · (intro w5 hSw; obtain ⟨⟨s0, s1⟩, ⟨s2, s3⟩, ⟨s4, s5⟩, s6⟩ := hSw; go_simp); all_goals with_reducible rfl
                try simp only [Act.put, List.setIfInBounds_toArray, List.set_cons_zero, List.set_cons_succ]
                refine take_run (i := 12) (v := ?_) rfl (by kernel_rfl) (by kernel_rfl) (by kernel_rfl) (fun _ _ _ h => h) (by kernel_rfl) ?_ (by assumption) ?_
                rotate_left
                · (intro w5 hSw; obtain ⟨⟨s0, s1⟩, ⟨s2, s3⟩, ⟨s4, s5⟩, s6⟩ := hSw; go_simp); all_goals with_reducible rfl
                try simp only [Act.put, List.setIfInBounds_toArray, List.set_cons_zero, List.set_cons_succ]
                refine take_run (i := 13) (v := ?_) rfl (by kernel_rfl) (by kernel_rfl) (by kernel_rfl) (fun _ _ _ h => h) (by kernel_rfl) ?_ (by assumption) ?_
                rotate_left
                · (intro w5 hSw; obtain ⟨⟨s0, s1⟩, ⟨s2, s3⟩, ⟨s4, s5⟩, s6⟩ := hSw; go_simp); all_goals with_reducible rfl
                try simp only [Act.put, List.setIfInBounds_toArray, List.set_cons_zero, List.set_cons_succ]
                refine take_run (i := 14) (v := ?_) rfl (by kernel_rfl) (by kernel_rfl) (by kernel_rfl) (fun _ _ _ h => h) (by kernel_rfl) ?_ (by assumption) ?_
                rotate_left
                · (intro w5 hSw; obtain ⟨⟨s0, s1⟩, ⟨s2, s3⟩, ⟨s4, s5⟩, s6⟩ := hSw; go_simp); all_goals with_reducible rfl
                try simp only [Act.put, List.setIfInBounds_toArray, List.set_cons_zero, List.set_cons_succ]
                refine take_call (i := 15) rfl (by kernel_rfl) (by kernel_rfl) (fun K hK => ?_)
                go_simp; refine (H2.out _).mono ?_; rintro rr w31 ⟨rfl, bb9⟩; have HK2 := Lib.hid (HK1.out.below bb9); clear bb9
                (try go_wp2_with fail)
                clear hHeld
                refine hK.out _ _ ?_ (fun hHeld => ?_)
                · exact HK2.out.c
                clear hK K
                try simp only [Act.put, List.setIfInBounds_toArray, List.set_cons_zero, List.set_cons_succ]
                refine take_run (i := 16) (v := ?_) rfl (by kernel_rfl) (by kernel_rfl) (by kernel_rfl) (fun _ _ _ h => h) (by kernel_rfl) ?_ (by assumption) ?_
                rotate_left
                · (intro w5 hSw; obtain ⟨⟨s0, s1⟩, ⟨s2, s3⟩, ⟨s4, s5⟩, s6⟩ := hSw; go_simp); all_goals with_reducible rfl
                try simp only [Act.put, List.setIfInBounds_toArray, List.set_cons_zero, List.set_cons_succ]
                refine take_run (i := 17) (v := ?_) rfl (by kernel_rfl) (by kernel_rfl) (by kernel_rfl) (fun _ _ _ h => h) (by kernel_rfl) ?_ (by assumption) ?_
                rotate_left
                · (intro w5 hSw; obtain ⟨⟨s0, s1⟩, ⟨s2, s3⟩, ⟨s4, s5⟩, s6⟩ := hSw; go_simp); all_goals with_reducible rfl
                try simp only [Act.put, List.setIfInBounds_toArray, List.set_cons_zero, List.set_cons_succ]
                refine take_run (i := 18) (v := ?_) rfl (by kernel_rfl) (by kernel_rfl) (by kernel_rfl) (fun _ _ _ h => h) (by kernel_rfl) ?_ (by assumption) ?_
                rotate_left
                · (intro w5 hSw; obtain ⟨⟨s0, s1⟩, ⟨s2, s3⟩, ⟨s4, s5⟩, s6⟩ := hSw; go_simp); all_goals with_reducible rfl
                try simp only [Act.put, List.setIfInBounds_toArray, List.set_cons_zero, List.set_cons_succ]
                refine take_run (i := 19) (v := ?_) rfl (by kernel_rfl) (by kernel_rfl) (by kernel_rfl) (fun _ _ _ h => h) (by kernel_rfl) ?_ (by assumption) ?_
                rotate_left
                · (intro w5 hSw; obtain ⟨⟨s0, s1⟩, ⟨s2, s3⟩, ⟨s4, s5⟩, s6⟩ := hSw; go_simp); all_goals with_reducible rfl
                try simp only [Act.put, List.setIfInBounds_toArray, List.set_cons_zero, List.set_cons_succ]
                refine take_call (i := 20) rfl (by kernel_rfl) (by kernel_rfl) (fun K hK => ?_)
                go_simp; refine (H3.out _).mono ?_; rintro rr w32 ⟨rfl, bb9⟩; have HK3 := Lib.hid (HK2.out.below bb9); clear bb9
                (try go_wp2_with fail)
                clear hHeld
                refine hK.out _ _ ?_ (fun hHeld => ?_)
                · exact HK3.out.c
                clear hK K
                try simp only [Act.put, List.setIfInBounds_toArray, List.set_cons_zero, List.set_cons_succ]
                refine take_run (i := 21) (v := ?_) rfl (by kernel_rfl) (by kernel_rfl) (by kernel_rfl) (fun _ _ _ h => h) (by kernel_rfl) ?_ (by assumption) ?_
                rotate_left
                · (intro w5 hSw; obtain ⟨⟨s0, s1⟩, ⟨s2, s3⟩, ⟨s4, s5⟩, s6⟩ := hSw; go_simp); all_goals with_reducible rfl
                try simp only [Act.put, List.setIfInBounds_toArray, List.set_cons_zero, List.set_cons_succ]
                refine take_run (i := 22) (v := ?_) rfl (by kernel_rfl) (by kernel_rfl) (by kernel_rfl) (fun _ _ _ h => h) (by kernel_rfl) ?_ (by assumption) ?_
                rotate_left
                · (intro w5 hSw; obtain ⟨⟨s0, s1⟩, ⟨s2, s3⟩, ⟨s4, s5⟩, s6⟩ := hSw; go_simp); all_goals with_reducible rfl
                try simp only [Act.put, List.setIfInBounds_toArray, List.set_cons_zero, List.set_cons_succ]
                refine take_run (i := 23) (v := ?_) rfl (by kernel_rfl) (by kernel_rfl) (by kernel_rfl) (fun _ _ _ h => h) (by kernel_rfl) ?_ (by assumption) ?_
                rotate_left
                · (intro w5 hSw; obtain ⟨⟨s0, s1⟩, ⟨s2, s3⟩, ⟨s4, s5⟩, s6⟩ := hSw; go_simp); all_goals with_reducible rfl
                try simp only [Act.put, List.setIfInBounds_toArray, List.set_cons_zero, List.set_cons_succ]
                refine take_run (i := 24) (v := ?_) rfl (by kernel_rfl) (by kernel_rfl) (by kernel_rfl) (fun _ _ _ h => h) (by kernel_rfl) ?_ (by assumption) ?_
                rotate_left
                · (intro w5 hSw; obtain ⟨⟨s0, s1⟩, ⟨s2, s3⟩, ⟨s4, s5⟩, s6⟩ := hSw; go_simp); all_goals with_reducible rfl
                try simp only [Act.put, List.setIfInBounds_toArray, List.set_cons_zero, List.set_cons_succ]
                refine take_call (i := 25) rfl (by kernel_rfl) (by kernel_rfl) (fun K hK => ?_)
                go_simp; refine (H4.out _).mono ?_; rintro rr w33 ⟨rfl, bb9⟩; have HK4 := Lib.hid (HK3.out.below bb9); clear bb9
                (try go_wp2_with fail)
                clear hHeld
                refine hK.out _ _ ?_ (fun hHeld => ?_)
                · exact HK4.out.c
                clear hK K
                try simp only [Act.put, List.setIfInBounds_toArray, List.set_cons_zero, List.set_cons_succ]
                refine take_run (i := 26) (v := ?_) rfl (by kernel_rfl) (by kernel_rfl) (by kernel_rfl) (fun _ _ _ h => h) (by kernel_rfl) ?_ (by assumption) ?_
                rotate_left
                · (intro w5 hSw; obtain ⟨⟨s0, s1⟩, ⟨s2, s3⟩, ⟨s4, s5⟩, s6⟩ := hSw; go_simp); all_goals with_reducible rfl
                try simp only [Act.put, List.setIfInBounds_toArray, List.set_cons_zero, List.set_cons_succ]
                refine take_run (i := 27) (v := ?_) rfl (by kernel_rfl) (by kernel_rfl) (by kernel_rfl) (fun _ _ _ h => h) (by kernel_rfl) ?_ (by assumption) ?_
                rotate_left
                · (intro w5 hSw; obtain ⟨⟨s0, s1⟩, ⟨s2, s3⟩, ⟨s4, s5⟩, s6⟩ := hSw; go_simp); all_goals with_reducible rfl
                try simp only [Act.put, List.setIfInBounds_toArray, List.set_cons_zero, List.set_cons_succ]
                refine take_run (i := 28) (v := ?_) rfl (by kernel_rfl) (by kernel_rfl) (by kernel_rfl) (fun _ _ _ h => h) (by kernel_rfl) ?_ (by assumption) ?_
                rotate_left
                · (intro w5 hSw; obtain ⟨⟨s0, s1⟩, ⟨s2, s3⟩, ⟨s4, s5⟩, s6⟩ := hSw; go_simp); all_goals with_reducible rfl
                try simp only [Act.put, List.setIfInBounds_toArray, List.set_cons_zero, List.set_cons_succ]
                refine take_run (i := 29) (v := ?_) rfl (by kernel_rfl) (by kernel_rfl) (by kernel_rfl) (fun _ _ _ h => h) (by kernel_rfl) ?_ (by assumption) ?_
                rotate_left
                · (intro w5 hSw; obtain ⟨⟨s0, s1⟩, ⟨s2, s3⟩, ⟨s4, s5⟩, s6⟩ := hSw; go_simp); all_goals with_reducible rfl
                try simp only [Act.put, List.setIfInBounds_toArray, List.set_cons_zero, List.set_cons_succ]
                refine take_call (i := 30) rfl (by kernel_rfl) (by kernel_rfl) (fun K hK => ?_)
                go_simp; refine (H5.out _).mono ?_; rintro rr w34 ⟨rfl, bb9⟩; have HK5 := Lib.hid (HK4.out.below bb9); clear bb9
                (try go_wp2_with fail)
                clear hHeld
                refine hK.out _ _ ?_ (fun hHeld => ?_)
                · exact HK5.out.c
                clear hK K
                try simp only [Act.put, List.setIfInBounds_toArray, List.set_cons_zero, List.set_cons_succ]
                refine take_run (i := 31) (v := ?_) rfl (by kernel_rfl) (by kernel_rfl) (by kernel_rfl) (fun _ _ _ h => h) (by kernel_rfl) ?_ (by assumption) ?_
                rotate_left
                · (intro w5 hSw; obtain ⟨⟨s0, s1⟩, ⟨s2, s3⟩, ⟨s4, s5⟩, s6⟩ := hSw; go_simp); all_goals with_reducible rfl
                try simp only [Act.put, List.setIfInBounds_toArray, List.set_cons_zero, List.set_cons_succ]
                refine take_run (i := 32) (v := ?_) rfl (by kernel_rfl) (by kernel_rfl) (by kernel_rfl) (fun _ _ _ h => h) (by kernel_rfl) ?_ (by assumption) ?_
                rotate_left
                · (intro w5 hSw; obtain ⟨⟨s0, s1⟩, ⟨s2, s3⟩, ⟨s4, s5⟩, s6⟩ := hSw; go_simp); all_goals with_reducible rfl
                try simp only [Act.put, List.setIfInBounds_toArray, List.set_cons_zero, List.set_cons_succ]
                refine wpAnyH_done (by kernel_rfl) ?_ _
                go_wp2_with fail
                go_meet
                case rel => exact ⟨rfl, HK5.out.t⟩
          case rest =>
            obtain ⟨rfl, hT⟩ := hcut
            have HT9 := Lib.hid hT
            clear hT HK
            go_wp2_with fail
            go_loopw [12] (fun kv wx => ∃ k : Nat, k ≤ pn ∧ kv = .int .i64 k ∧ TxS w b T (.slice a4 pn c4) q9 x wx) (fun kv _ => pn - (intOf kv).toNat)
            case atStart => exact ⟨0, by omega, rfl, HT9.out⟩
            case round =>
              obtain ⟨k, hk, rfl, hK⟩ := hrel
              have HK2 := Lib.hid hK
              clear hK HT9
              by_cases hkn : k < pn
              · have hkT : k < T.length := by rw [HPN.out]; exact hkn
                obtain ⟨hyo, hyx⟩ := HTD.out.under HBX.out _ (List.getElem_mem hkT)
                obtain ⟨b4, o4, rfl, hcc⟩ := (HK2.out.s.told.bals (fun y hy => (HTD.out y hy).1)).base (by omega)
                obtain ⟨d0, d1⟩ := hcc k hkT
                obtain ⟨p0, p1⟩ := HK2.out.x.vals
                have hyne : ¬ ((T[k]).1 = x.1 ∧ (T[k]).2 = x.2) := fun hh => by have e : T[k] = x := bal_ext.2 hh; rw [e, below_refl] at hyx; cases hyx
                have h6 := fun v => S.below v T[k] x hyo HOX.out
                rw [hyx] at h6
                generalize T[k] = y at *
                unfold balV at h6
                have H6 := Lib.hid (show ∀ (v : World) (t : Int), t = (y.1 : Nat) → Calls Try.prog 13 #[.agg #[.int .u64 t, .int .u8 (y.2 : Nat)], .agg #[.int .u64 (x.1 : Nat), .int .u8 (x.2 : Nat)]] v fun r w' => r = .returned (.bool true) ∧ Below v.heap.size v w' from fun v t ht => by subst ht; exact h6 v)
                clear h6 hcc hyo hyx
                have HKD := Lib.hid (HK2.out.below ((Below.refl _ wr).drew))
                go_upto_region 17 with fail
                go_cut [116] (fun bv wx => bv = .bool false ∧ TxS w b T (.slice (some ⟨b4, o4, none⟩) pn c4) q9 x wx)
                case first =>
                  by_cases hn1 : (y.1 : Int) = (x.1 : Int)
                  · have hn2 : ¬ (y.2 : Int) = (x.2 : Int) := fun hh => hyne ⟨by omega, by omega⟩
                    clear hyne
                    go_region_with (go_at_call 13; (with_reducible refine (H6.out _ _ (by omega)).mono ?_); rintro r w17 ⟨rfl, b17⟩)
                    all_goals (go_wp2_with fail; go_meet; (case rel => exact ⟨rfl, HKD.out.below b17⟩))
                  · clear hyne
                    go_region_with (go_at_call 13; (with_reducible refine (H6.out _ _ (by omega)).mono ?_); rintro r w17 ⟨rfl, b17⟩)
                    all_goals (go_wp2_with fail; go_meet; (case rel => exact ⟨rfl, HKD.out.below b17⟩))
                case rest =>
                  obtain ⟨rfl, hT⟩ := hcut
                  have HT9 := Lib.hid hT
                  clear hT
                  have hpi := HTI2.out
                  go_wp2_with fail
                  go_roundw
                  case rel => exact ⟨k + 1, by omega, by go_num, HT9.out⟩
                  case measure => simp [intOf]; omega
              · have hke : k = pn := by omega
                obtain ⟨p0, p1⟩ := HK2.out.x.vals
                obtain ⟨t1, t2, t3, t4⟩ := HTI.out
                go_wp2_with (at_builtin; refine wpList_append_own _ rfl _ _ 22 rfl (w.heap.size + 1) 25 ti (.agg #[.int .u64 0, .int .u8 0]) 2 16 Try.underlying22 t1 t2 t3 t4 rfl (by decide) _ pn _ rfl (by have := HK2.out.s.told; unfold OwnB at this; rw [HPN.out] at this; exact ownsRow_below this ((Below.refl _ _).alloc (Nat.le_refl _) _)) ⟨wr.heap.size, 0, none⟩ 1 1 [.int .u64 (x.1 : Nat), .int .u8 (x.2 : Nat)] rfl rfl (bal_cells_new _ x) (by simp [Value.oneCell']) (by have := HTI2.out; unfold maxLen; omega) (by have := HTI2.out; omega) (by have := HK2.out.s.box.lt; simp; omega) ?_; intro v' w3 hown hgrow _; rw [← HPN.out] at hown; obtain ⟨hxb, hbb, hfin⟩ := HK2.out.next hown hgrow; have HFIN := Lib.hid hfin; clear p0 p1 hown hgrow hfin; obtain ⟨p0, p1⟩ := hxb.vals; obtain ⟨k0, k1⟩ := hbb.vals; have f0 := hbb.frozen 0; have f1 := hbb.frozen 1; clear hxb hbb)
                obtain ⟨a5, c5, rfl⟩ := HFIN.out.told.form
                go_roundw
                case rel => exact ⟨i + 1, T ++ [x], x, by omega, by go_num, ⟨a5, c5, rfl⟩, by rw [List.length_append, HPN.out, List.length_singleton]; have := HTI2.out; omega, HOX.out, HTD.out.next HBX.out HOX.out, HFIN.out⟩
                case measure => simp [intOf]; omega
        · obtain ⟨_, hbad⟩ := turn_bad HX.out he
          have hcke := fun v => S.check v b HOK.out
          unfold balV at hcke
          obtain ⟨k0, k1⟩ := HX9.out.s.box.vals
          rcases hbad with ⟨rfl, hbad⟩ | ⟨rfl, hbad⟩
          · clear he
            rcases hm : mayL b with _ | _
            · rw [hm] at hcke
              have H2 := Lib.hid hcke
              clear hcke hbad hm
              go_wp2_with (go_at_call 12; (with_reducible refine (H2.out _).mono ?_); rintro r w9 ⟨rfl, b9⟩; have HX10 := Lib.hid (HX9.out.below b9); clear b9 hcw2 k0 k1)
              go_roundw
              case rel => exact ⟨i + 1, T, b, by omega, by go_num, ⟨a4, c4, by rw [HPN.out]⟩, by rw [HPN.out]; have := HTI2.out; omega, HOK.out, HTD.out, HX10.out.s⟩
              case measure => simp [intOf]; omega
            · rw [hm] at hcke
              have H2 := Lib.hid hcke
              have hr7 : ¬ (r : Int) < 7 := by rcases hbad with hb | hb; (rw [hm] at hb; cases hb); omega
              clear hcke hbad hm
              go_wp2_with (go_at_call 12; (with_reducible refine (H2.out _).mono ?_); rintro r w9 ⟨rfl, b9⟩; have HX10 := Lib.hid (HX9.out.below b9); clear b9 hcw2 k0 k1; have hcw2 := (HX10.out.s.bel.cell (World.block_lt_of_cell? _ _ HC0.out)).trans HC0.out)
              go_roundw
              case rel => exact ⟨i + 1, T, b, by omega, by go_num, ⟨a4, c4, by rw [HPN.out]⟩, by rw [HPN.out]; have := HTI2.out; omega, HOK.out, HTD.out, HX10.out.s⟩
              case measure => simp [intOf]; omega
          · have hbn : (b.1 : Int) = 18446744073709551615 := by omega
            clear hcke hbad he
            go_wp2_with fail
            go_roundw
            case rel => exact ⟨i + 1, T, b, by omega, by go_num, ⟨a4, c4, by rw [HPN.out]⟩, by rw [HPN.out]; have := HTI2.out; omega, HOK.out, HTD.out, HX9.out.s⟩
            case measure => simp [intOf]; omega
    · go_wp2_with (go_at_call 8; refine (HW.out _).mono ?_; rintro r w9 ⟨rfl, b9⟩)
      go_ret
      exact ⟨rfl, HJ.out.bel.trans (b9.mono HJ.out.bel.size)⟩
end Go.Proofs.Ytafhljmeofnbnaa
