/-
  Layer 2's law CrcFinds over what the calls of package crc answer.
-/
import Derived.Test.YthhmeoenndimkaaCrcRow
import Derived.Test.YthhmeoenndimkaaRegion
import Derived.Deep.DeepCutAuto
import Derived.Deep.CutBlock
import Derived.Lib.Hide
namespace Go.Proofs.Ythhmeoenndimkaa
open Go.RowKit Crc Go.ChangeShapes
set_option linter.unusedVariables false

set_option maxRecDepth 100000 in
set_option maxHeartbeats 4000000 in
theorem crcFinds_main (C : CrcSpec) (a b : List UInt8) (at' : Nat) (mask : Crc.W) (w : World) (ha : (a.length : Int) ≤ 5000) (hb : (b.length : Int) ≤ 5000) (hat : (at' : Int) ≤ 65535) :
    Calls Try.prog 6 #[.string ⟨a.toArray⟩, .string ⟨b.toArray⟩, .int .u16 (at' : Int), .int .u64 (I mask)] w fun e w' => e = .returned (.bool true) ∧ Below w.heap.size w w' := by
  have HC := Lib.hid C
  clear C
  obtain ⟨xc, W1, hcv, hx, hb1, hlt1⟩ := bytes_made w a
  have hbits : ∃ bit : Nat, (bit : Int) ≤ 40000 ∧ (0 < a.length → (at' : Int).tmod (8 * (a.length : Int)) = (bit : Int)) ∧ (a.length = 0 → bit = 0) := by
    by_cases h0 : 0 < a.length
    · refine ⟨at' % (8 * a.length), ?_, fun _ => by rw [Int.tmod_eq_emod_of_nonneg (by omega)]; rfl, fun h => by omega⟩
      have := Nat.mod_lt at' (show 0 < 8 * a.length by omega)
      omega
    · exact ⟨0, by decide, fun h => absurd h h0, fun _ => rfl⟩
  obtain ⟨bit, hbl, hbit, hbz⟩ := hbits
  have HBIT := Lib.hid hbit
  have HBZ := Lib.hid hbz
  clear hbit hbz
  go_enter Try.func6, Try.ntmps6
  go_upto_if 30 with fail
  go_cut [10] (fun bv wx => bv = .int .i64 (bit : Int) ∧ wx = W1)
  case first =>
    by_cases h0 : 0 < a.length
    · have h0' : (0 : Int) < (a.length : Int) := by omega
      have hbit := HBIT.out h0
      go_wp2_with fail
      go_meet
      case rel => exact ⟨rfl, rfl⟩
    · have h0' : (a.length : Int) = 0 := by omega
      have hbz := HBZ.out (by omega)
      go_wp2_with fail
      go_meet
      case rel => exact ⟨by rw [hbz]; rfl, rfl⟩
  case rest =>
  obtain ⟨rfl, rfl⟩ := hcut
  clear HBIT HBZ
  go_upto_block 0 with fail
  generalize hg : w.heap.size = g at hx hlt1
  have hgw : w.heap.size ≤ g := by omega
  go_cut [11] (fun cv wx => ∃ (ch : Bool) (l : List UInt8), cv = .bool ch ∧ l.length = a.length ∧ (I (sum l) != I (sum a)) = ch ∧ BR wx g l ∧ Below w.heap.size w wx ∧ g < wx.heap.size)
  case first =>
    go_wp2_with fail
    go_loopw [11, 12] (fun cv iv wr => ∃ (k : Nat) (l : List UInt8), k ≤ 64 ∧ iv = .int .i64 k ∧ cv = .bool (anyb mask k) ∧ Flipd a bit k mask l ∧ (k = 0 ∨ bit + k ≤ 8 * a.length) ∧ BR wr g l ∧ Below w.heap.size w wr ∧ g < wr.heap.size) (fun _ iv _ => 64 - (intOf iv).toNat)
    case atStart => exact ⟨0, a, by omega, rfl, rfl, Flipd.zero a bit mask, .inl rfl, hx, hb1, hlt1⟩
    case round =>
      clear hx hb1 hlt1 hcv
      obtain ⟨k, l, hk, rfl, rfl, hf, hkb, hr, hB, hlt⟩ := hrel
      have hll := hf.len
      have hF := Lib.hid hf
      by_cases hc : k < 64 ∧ bit + k < 8 * a.length
      · obtain ⟨hc1, hc2⟩ := hc
        have i0 : (k : Int) < 64 := by omega
        have i1 : (bit : Int) + (k : Int) < 8 * (a.length : Int) := by omega
        have hmk := maskI mask k
        by_cases hm : mask.getLsbD k = true
        · rw [if_pos hm] at hmk
          have hq : ((bit : Int) + (k : Int)) / 8 = (((bit + k) / 8 : Nat) : Int) := by omega
          have hrr : ((bit : Int) + (k : Int)) % 8 = (((bit + k) % 8 : Nat) : Int) := by omega
          have hq' : ((bit : Int) + (k : Int)).tdiv 8 = (((bit + k) / 8 : Nat) : Int) := by rw [Int.tdiv_eq_ediv_of_nonneg (by omega)]; exact hq
          have hrr' : ((bit : Int) + (k : Int)).tmod 8 = (((bit + k) % 8 : Nat) : Int) := by rw [Int.tmod_eq_emod_of_nonneg (by omega)]; exact hrr
          have hq8 : (bit + k) / 8 < l.length := by omega
          have hr8 : (bit + k) % 8 < 8 := by omega
          have hfl := hf.flip hm hq8
          have hst := (hr.set ((bit + k) / 8) (l[(bit + k) / 8] ^^^ one ((bit + k) % 8)) hq8).drew
          rw [UInt8.toNat_xor] at hst
          have hc0 := hr.drew.cell _ hq8
          have hf0 := hr.drew.fz _ hq8
          have hB' := hB.drew
          have hlt' : g < wr.drew.heap.size := hlt
          have hx8 := xor8 l[(bit + k) / 8] _ hr8
          have j0 : (0 : Int) ≤ (((bit + k) / 8 : Nat) : Int) := by omega
          have j1 : (((bit + k) / 8 : Nat) : Int) < (a.length : Int) := by omega
          have j2 : (0 : Int) ≤ (((bit + k) % 8 : Nat) : Int) := by omega
          have j3 : (((bit + k) % 8 : Nat) : Int) ≤ 8 := by omega
          generalize hcc : l[(bit + k) / 8] = cc at hc0 hx8 hst hfl
          generalize hqq : (bit + k) / 8 = qq at *
          generalize hrq : (bit + k) % 8 = rq at *
          have HST := Lib.hid hst
          have HFL := Lib.hid hfl
          clear hst hfl hqq hrq hq8 hr8 hcc
          have hwq : IntKind.i64.wrap (qq : Int) = (qq : Int) := by rw [IntKind.wrap_i64]; omega
          have hwr : IntKind.i64.wrap (rq : Int) = (rq : Int) := by rw [IntKind.wrap_i64]; omega
          have hw : IntKind.i64.wrap ((bit : Int) + (k : Int)) = (bit : Int) + (k : Int) := by rw [IntKind.wrap_i64]; omega
          go_upto_region 12 with fail
          go_cut [] (fun wx => BR wx g (l.set qq (cc ^^^ one rq)) ∧ Below w.heap.size w wx ∧ g < wx.heap.size)
          case first =>
            go_region_with fail
            go_wp2_with fail
            go_meet
            case rel => exact ⟨HST.out, (hB.setCell (p := ⟨g, qq, none⟩) hgw _).drew, by show g < (wr.setCell _ _).heap.size; simpa using hlt⟩
          case rest =>
            obtain ⟨R1, R2, R3⟩ := hcut
            clear hw hwq hwr
            go_wp2_with fail
            go_roundw
            case rel => exact ⟨k + 1, l.set qq (cc ^^^ one rq), by omega, by go_num, by simp [anyb, hm], HFL.out, .inr (by omega), R1, R2, R3⟩
            case measure => simp [intOf]; omega
        · have hm' : mask.getLsbD k = false := by simpa using hm
          rw [if_neg hm] at hmk
          go_wp2_with fail
          go_roundw
          case rel => exact ⟨k + 1, l, by omega, by go_num, by simp [anyb, hm'], hF.out.skip hm', .inr (by omega), hr, hB, hlt⟩
          case measure => simp [intOf]; omega
      · have hbne := flipd_sum hf hk hkb
        clear hf
        by_cases hc1 : k < 64
        · have i0 : (k : Int) < 64 := by omega
          have i1 : ¬ (bit : Int) + (k : Int) < 8 * (a.length : Int) := by omega
          go_wp2_with fail
          go_meet
          case rel => exact ⟨_, l, rfl, hll, hbne, hr, hB, hlt⟩
        · have i0 : ¬ (k : Int) < 64 := by omega
          go_wp2_with fail
          go_meet
          case rel => exact ⟨_, l, rfl, hll, hbne, hr, hB, hlt⟩
  case rest =>
    clear hx hb1 hlt1 hcv
    obtain ⟨ch, l, rfl, hll, hbne, hr, hB, hlt⟩ := hcut
    have hcvx := hr.string xc
    rw [hll] at hcvx
    have s1 := fun w1 => HC.out.sum l w1 (by omega)
    have s2 := fun w1 => HC.out.sum a w1 (by omega)
    have S1 := Lib.hid s1
    have S2 := Lib.hid s2
    clear s1 s2
    generalize sum l = x1 at hbne S1
    generalize hx2 : sum a = x2 at hbne S2
    have HX2 := Lib.hid hx2
    clear hx2
    go_upto_region 16 with (first
      | (go_at_call 9; (with_reducible refine (S1.out _).mono ?_); rintro r w1 ⟨rfl, b1⟩; have hB := crb hB b1)
      | (go_at_call 9; (with_reducible refine (S2.out _).mono ?_); rintro r w2 ⟨rfl, b2⟩; have hB := crb hB b2))
    obtain ⟨n, hn⟩ : ∃ n : Nat, n = min a.length b.length := ⟨_, rfl⟩
    have HN := Lib.hid hn
    go_cut [13] (fun nv wx => nv = .int .i64 (n : Int) ∧ wx = w2)
    case first =>
      by_cases hab : (a.length : Int) ≤ (b.length : Int)
      · have he : (n : Int) = (a.length : Int) := by omega
        have HE := Lib.hid he
        clear he hn
        go_wp2_with fail
        all_goals go_meet
        case rel => exact ⟨by rw [HE.out], rfl⟩
      · have he : (n : Int) = (b.length : Int) := by omega
        have HE := Lib.hid he
        clear he hn
        go_wp2_with fail
        all_goals go_meet
        case rel => exact ⟨by rw [HE.out], rfl⟩
    case rest =>
      obtain ⟨rfl, rfl⟩ := hcut
      have hna : n ≤ a.length := by omega
      have hnb : n ≤ b.length := by omega
      clear hn hcvx hr hlt S1 hbne hll
      have n0 : (0 : Int) ≤ (n : Int) := by omega
      have n1 : (n : Int) ≤ 5000 := by omega
      go_upto_region 17 with fail
      go_cut [14, 15] (fun ov zv wx => ∃ (go gz : Nat), ov = .slice (some ⟨go, 0, none⟩) n n ∧ zv = .slice (some ⟨gz, 0, none⟩) n n ∧ go ≠ gz ∧ w.heap.size ≤ go ∧ w.heap.size ≤ gz ∧ go < wx.heap.size ∧ gz < wx.heap.size ∧ BR wx go (List.replicate n 0) ∧ BR wx gz (List.replicate n 0) ∧ Below w.heap.size w wx)
      case first =>
        have mk := make_bytes n (by omega)
        go_region_with fail
        all_goals go_wp2_with fail
        all_goals go_meet
        all_goals obtain ⟨z1, z2, z3, z4⟩ := two_made w wc n hB
        all_goals have hsz := hB.size
        case rel => exact ⟨_, _, rfl, rfl, by omega, by omega, by omega, by omega, by omega, z2, z3, z4⟩
        case rel => exact ⟨_, _, rfl, rfl, by omega, by omega, by omega, by omega, by omega, z3, z2, z4⟩
      case rest =>
        obtain ⟨go, gz, rfl, rfl, hgg, g1, g2, g3, g4, ro, rz, hB⟩ := hcut
        have hta : (a.take n).length = n := by rw [List.length_take]; omega
        have htb : (b.take n).length = n := by rw [List.length_take]; omega
        have hol := over_length (a.take n) (b.take n) (by omega)
        rw [hta] at hol
        have hsum := sum_over (a.take n) (b.take n) (by omega)
        rw [hta] at hsum
        have hbo := fun k hk ho => bytes_over a b n k hna hnb hk ho
        generalize over (a.take n) (b.take n) = o at hol hsum hbo
        have HBO := Lib.hid hbo
        have HSUM := Lib.hid hsum
        clear hbo hsum
        have r0 : BR wc go (fill o 0) := by rw [fill_zero, hol]; exact ro
        go_wp2_with fail
        go_loopw [16] (fun iv wr => ∃ k : Nat, k ≤ n ∧ iv = .int .i64 k ∧ BR wr go (fill o k) ∧ BR wr gz (List.replicate n 0) ∧ go < wr.heap.size ∧ gz < wr.heap.size ∧ Below w.heap.size w wr) (fun iv _ => n - (intOf iv).toNat)
        case atStart => exact ⟨0, by omega, rfl, r0, rz, g3, g4, hB⟩
        case round =>
          clear r0 ro rz g3 g4 hB
          obtain ⟨k, hk, rfl, ro, rz, g3, g4, hB⟩ := hrel
          by_cases hlt : k < n
          · have hko : k < o.length := by omega
            have hfl := fill_length o k (by omega)
            have hst := (ro.set k o[k] (by omega)).drew
            rw [fill_step o k hko] at hst
            have hrz := (rz.other k (.int .u8 (o[k].toNat : Int)) hgg).drew
            have hf0 := ro.drew.fz k (by omega)
            have hc0 := ro.drew.cell k (by omega)
            have hx8 := HBO.out k hlt hko
            have j0 : (0 : Int) ≤ (k : Int) := by omega
            have j1 : (k : Int) < (a.length : Int) := by omega
            have j2 : (k : Int) < (b.length : Int) := by omega
            have j3 : (k : Int) < (n : Int) := by omega
            generalize (fill o k)[k] = oc at hc0
            generalize o[k] = cc at hst hrz hx8
            have HST := Lib.hid hst
            have HRZ := Lib.hid hrz
            clear hst hrz
            go_upto_region 21 with fail
            go_region_with fail
            all_goals go_wp2_with fail
            all_goals exact ⟨⟨k + 1, by omega, by go_num, HST.out, HRZ.out, by show go < (wr.setCell _ _).heap.size; simpa using g3, by show gz < (wr.setCell _ _).heap.size; simpa using g4, (hB.setCell (p := ⟨go, k, none⟩) g1 _).drew⟩, by simp [intOf]; omega⟩
          · obtain rfl : k = n := by omega
            have hfa : fill o k = o := by rw [← hol]; exact fill_all o
            rw [hfa] at ro
            have ea := ba_take a k
            have eb := ba_take b k
            have sa := fun w1 => HC.out.sum (a.take k) w1 (by omega)
            have sb := fun w1 => HC.out.sum (b.take k) w1 (by omega)
            have sz := fun w1 => HC.out.sum (List.replicate k 0) w1 (by rw [List.length_replicate]; omega)
            have so := fun w1 => HC.out.sum o w1 (by omega)
            have SA := Lib.hid sa
            have SB := Lib.hid sb
            have SZ := Lib.hid sz
            have SO := Lib.hid so
            have WK := Lib.hid fun w1 => cwakes_any HC.out w1
            have hsum := HSUM.out
            clear sa sb sz so
            generalize sum (a.take k) = xa at *
            generalize sum (b.take k) = xb at *
            generalize sum (List.replicate k 0) = xz at *
            generalize sum o = xo at *
            have hx1 := xorI xa xb
            have hx2 := xorI (xa ^^^ xb) xz
            rw [hsum] at hx2
            clear hsum HSUM
            have hBd := hB.drew
            have rod := ro.drew
            have rzd := rz.drew
            have g3d : go < wr.drew.heap.size := g3
            have g4d : gz < wr.drew.heap.size := g4
            go_upto_region 22 with fail
            refine wp_region_held_drew (S := fun w' => BR w' go o ∧ BR w' gz (List.replicate k 0)) (by kernel_rfl) ?_ (fun hHeld => ?_)
            · exact ⟨rod, rzd⟩
            refine take_run (i := 0) (v := ?_) rfl (by kernel_rfl) (by kernel_rfl) (by kernel_rfl) (fun _ _ _ h => h) (by kernel_rfl) ?_ (by assumption) ?_
            rotate_left
            · (intro w hSw; (try dsimp only at hSw); go_simp); all_goals with_reducible rfl
            try simp only [Act.put, List.setIfInBounds_toArray, List.set_cons_zero, List.set_cons_succ]
            refine take_run (i := 1) (v := ?_) rfl (by kernel_rfl) (by kernel_rfl) (by kernel_rfl) (fun _ _ _ h => h) (by kernel_rfl) ?_ (by assumption) ?_
            rotate_left
            · (intro w hSw; (try dsimp only at hSw); go_simp); all_goals with_reducible rfl
            try simp only [Act.put, List.setIfInBounds_toArray, List.set_cons_zero, List.set_cons_succ]
            refine take_run (i := 2) (v := ?_) rfl (by kernel_rfl) (by kernel_rfl) (by kernel_rfl) (fun _ _ _ h => h) (by kernel_rfl) ?_ (by assumption) ?_
            rotate_left
            · (intro w hSw; (try dsimp only at hSw); go_simp); all_goals with_reducible rfl
            try simp only [Act.put, List.setIfInBounds_toArray, List.set_cons_zero, List.set_cons_succ]
            refine take_run (i := 4) (v := ?_) rfl (by kernel_rfl) (by kernel_rfl) (by kernel_rfl) (fun _ _ _ h => h) (by kernel_rfl) ?_ (by assumption) ?_
            rotate_left
            · (intro w hSw; (try dsimp only at hSw); go_simp); all_goals with_reducible rfl
            try simp only [Act.put, List.setIfInBounds_toArray, List.set_cons_zero, List.set_cons_succ]
            refine take_run (i := 5) (v := ?_) rfl (by kernel_rfl) (by kernel_rfl) (by kernel_rfl) (fun _ _ _ h => h) (by kernel_rfl) ?_ (by assumption) ?_
            rotate_left
            · (intro w hSw; (try dsimp only at hSw); go_simp); all_goals with_reducible rfl
            try simp only [Act.put, List.setIfInBounds_toArray, List.set_cons_zero, List.set_cons_succ]
            refine take_run (i := 6) (v := ?_) rfl (by kernel_rfl) (by kernel_rfl) (by kernel_rfl) (fun _ _ _ h => h) (by kernel_rfl) ?_ (by assumption) ?_
            rotate_left
            · (intro w hSw; (try dsimp only at hSw); go_simp); all_goals with_reducible rfl
            try simp only [Act.put, List.setIfInBounds_toArray, List.set_cons_zero, List.set_cons_succ]
            refine take_run (i := 9) (v := ?_) rfl (by kernel_rfl) (by kernel_rfl) (by kernel_rfl) (fun _ _ _ h => h) (by kernel_rfl) ?_ (by assumption) ?_
            rotate_left
            · (intro w hSw; (try dsimp only at hSw); go_simp); all_goals with_reducible rfl
            try simp only [Act.put, List.setIfInBounds_toArray, List.set_cons_zero, List.set_cons_succ]
            refine take_run (i := 10) (v := ?_) rfl (by kernel_rfl) (by kernel_rfl) (by kernel_rfl) (fun _ _ _ h => h) (by kernel_rfl) ?_ (by assumption) ?_
            rotate_left
            · (intro w hSw; have h1 := hSw.1.string k; have h2 := hSw.2.string k; rw [hol] at h1; rw [List.length_replicate] at h2; clear hSw; go_simp); all_goals with_reducible rfl
            try simp only [Act.put, List.setIfInBounds_toArray, List.set_cons_zero, List.set_cons_succ]
            refine take_run (i := 13) (v := ?_) rfl (by kernel_rfl) (by kernel_rfl) (by kernel_rfl) (fun _ _ _ h => h) (by kernel_rfl) ?_ (by assumption) ?_
            rotate_left
            · (intro w hSw; (try dsimp only at hSw); go_simp); all_goals with_reducible rfl
            try simp only [Act.put, List.setIfInBounds_toArray, List.set_cons_zero, List.set_cons_succ]
            refine take_run (i := 14) (v := ?_) rfl (by kernel_rfl) (by kernel_rfl) (by kernel_rfl) (fun _ _ _ h => h) (by kernel_rfl) ?_ (by assumption) ?_
            rotate_left
            · (intro w hSw; have h1 := hSw.1.string k; have h2 := hSw.2.string k; rw [hol] at h1; rw [List.length_replicate] at h2; clear hSw; go_simp); all_goals with_reducible rfl
            try simp only [Act.put, List.setIfInBounds_toArray, List.set_cons_zero, List.set_cons_succ]
            refine take_call (i := 3) rfl (by kernel_rfl) (by kernel_rfl) (fun K hK => ?_)
            go_simp; refine (SA.out _).mono ?_; rintro r w3 ⟨rfl, b3⟩; have hB3 := crb hBd b3; have ro3 := rod.below b3 g3d; have rz3 := rzd.below b3 g4d; have g33 := Nat.lt_of_lt_of_le g3d b3.size; have g43 := Nat.lt_of_lt_of_le g4d b3.size
            go_wp2_with fail
            clear hHeld
            refine hK.out _ _ ?_ (fun hHeld => ?_)
            · exact ⟨ro3, rz3⟩
            clear hK K
            try simp only [Act.put, List.setIfInBounds_toArray, List.set_cons_zero, List.set_cons_succ]
            refine take_call (i := 7) rfl (by kernel_rfl) (by kernel_rfl) (fun K hK => ?_)
            go_simp; refine (SB.out _).mono ?_; rintro r w4 ⟨rfl, b4⟩; have hB4 := crb hB3 b4; have ro4 := ro3.below b4 g33; have rz4 := rz3.below b4 g43; have g34 := Nat.lt_of_lt_of_le g33 b4.size; have g44 := Nat.lt_of_lt_of_le g43 b4.size
            go_wp2_with fail
            clear hHeld
            refine hK.out _ _ ?_ (fun hHeld => ?_)
            · exact ⟨ro4, rz4⟩
            clear hK K
            try simp only [Act.put, List.setIfInBounds_toArray, List.set_cons_zero, List.set_cons_succ]
            refine take_run (i := 8) (v := ?_) rfl (by kernel_rfl) (by kernel_rfl) (by kernel_rfl) (fun _ _ _ h => h) (by kernel_rfl) ?_ (by assumption) ?_
            rotate_left
            · (intro w hSw; (try dsimp only at hSw); go_simp); all_goals with_reducible rfl
            try simp only [Act.put, List.setIfInBounds_toArray, List.set_cons_zero, List.set_cons_succ]
            refine take_call (i := 11) rfl (by kernel_rfl) (by kernel_rfl) (fun K hK => ?_)
            go_simp; refine (SZ.out _).mono ?_; rintro r w5 ⟨rfl, b5⟩; have hB5 := crb hB4 b5; have ro5 := ro4.below b5 g34; have rz5 := rz4.below b5 g44; have g35 := Nat.lt_of_lt_of_le g34 b5.size; have g45 := Nat.lt_of_lt_of_le g44 b5.size
            go_wp2_with fail
            clear hHeld
            refine hK.out _ _ ?_ (fun hHeld => ?_)
            · exact ⟨ro5, rz5⟩
            clear hK K
            try simp only [Act.put, List.setIfInBounds_toArray, List.set_cons_zero, List.set_cons_succ]
            refine take_run (i := 12) (v := ?_) rfl (by kernel_rfl) (by kernel_rfl) (by kernel_rfl) (fun _ _ _ h => h) (by kernel_rfl) ?_ (by assumption) ?_
            rotate_left
            · (intro w hSw; (try dsimp only at hSw); go_simp); all_goals with_reducible rfl
            try simp only [Act.put, List.setIfInBounds_toArray, List.set_cons_zero, List.set_cons_succ]
            refine take_call (i := 15) rfl (by kernel_rfl) (by kernel_rfl) (fun K hK => ?_)
            go_simp; refine (SO.out _).mono ?_; rintro r w6 ⟨rfl, b6⟩; have hB6 := crb hB5 b6; have ro6 := ro5.below b6 g35; have rz6 := rz5.below b6 g45; have g36 := Nat.lt_of_lt_of_le g35 b6.size; have g46 := Nat.lt_of_lt_of_le g45 b6.size
            go_wp2_with fail
            clear hHeld
            refine hK.out _ _ ?_ (fun hHeld => ?_)
            · exact ⟨ro6, rz6⟩
            clear hK K
            try simp only [Act.put, List.setIfInBounds_toArray, List.set_cons_zero, List.set_cons_succ]
            refine take_run (i := 16) (v := ?_) rfl (by kernel_rfl) (by kernel_rfl) (by kernel_rfl) (fun _ _ _ h => h) (by kernel_rfl) ?_ (by assumption) ?_
            rotate_left
            · (intro w hSw; (try dsimp only at hSw); go_simp); all_goals with_reducible rfl
            try simp only [Act.put, List.setIfInBounds_toArray, List.set_cons_zero, List.set_cons_succ]
            refine take_run (i := 17) (v := ?_) rfl (by kernel_rfl) (by kernel_rfl) (by kernel_rfl) (fun _ _ _ h => h) (by kernel_rfl) ?_ (by assumption) ?_
            rotate_left
            · (intro w hSw; (try dsimp only at hSw); go_simp); all_goals with_reducible rfl
            try simp only [Act.put, List.setIfInBounds_toArray, List.set_cons_zero, List.set_cons_succ]
            refine take_call (i := 18) rfl (by kernel_rfl) (by kernel_rfl) (fun K hK => ?_)
            go_simp; refine (WK.out _).mono ?_; rintro r w7 ⟨rfl, b7⟩; have hB7 := crb hB6 b7; have ro7 := ro6.below b7 g36; have rz7 := rz6.below b7 g46; have g37 := Nat.lt_of_lt_of_le g36 b7.size; have g47 := Nat.lt_of_lt_of_le g46 b7.size
            go_wp2_with fail
            clear hHeld
            refine hK.out _ _ ?_ (fun hHeld => ?_)
            · exact ⟨ro7, rz7⟩
            clear hK K
            try simp only [Act.put, List.setIfInBounds_toArray, List.set_cons_zero, List.set_cons_succ]
            refine take_run (i := 19) (v := ?_) rfl (by kernel_rfl) (by kernel_rfl) (by kernel_rfl) (fun _ _ _ h => h) (by kernel_rfl) ?_ (by assumption) ?_
            rotate_left
            · (intro w hSw; (try dsimp only at hSw); go_simp); all_goals with_reducible rfl
            try simp only [Act.put, List.setIfInBounds_toArray, List.set_cons_zero, List.set_cons_succ]
            refine take_run (i := 20) (v := ?_) rfl (by kernel_rfl) (by kernel_rfl) (by kernel_rfl) (fun _ _ _ h => h) (by kernel_rfl) ?_ (by assumption) ?_
            rotate_left
            · (intro w hSw; (try dsimp only at hSw); go_simp); all_goals with_reducible rfl
            try simp only [Act.put, List.setIfInBounds_toArray, List.set_cons_zero, List.set_cons_succ]
            refine wpAnyH_done (by kernel_rfl) ?_ _
            go_wp2_with fail
            go_ret
            exact ⟨rfl, hB7⟩

end Go.Proofs.Ythhmeoenndimkaa
