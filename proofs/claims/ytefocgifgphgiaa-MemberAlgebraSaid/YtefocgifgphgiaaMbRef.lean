/-
  The document's own lists of a set's nodes, and what two lists have together; the laws' own 'wakes' over a MemberSpec.
-/
import Derived.Test.YtefocgifgphgiaaMbSpec
namespace Go.Proofs.Ytefocgifgphgiaa
open Go.RowKit
set_option linter.unusedVariables false

theorem OwnU.nil (w : World) (base : Nat) : OwnU w base (.slice none 0 0) [] := World.ownsRow_nil w base _ _
theorem OwnU.more {w w2 : World} {base : Nat} {v v' : Value} {l : List UInt8} {x : UInt8} (h : OwnU w base v l) (ho : w2.ownsRow base 5 1 v' (l.length + 1) (Lib.byteCells (l ++ [x]))) : OwnU w2 base v' (l ++ [x]) := by
  unfold OwnU
  rw [List.length_append, List.length_singleton]
  exact ho
theorem bt_step (x n : Nat) : x / 2 ^ n / 2 = x / 2 ^ (n + 1) := by rw [Nat.div_div_eq_div_mul, Nat.pow_succ]

set_option maxRecDepth 100000 in
set_option maxHeartbeats 1000000 in
theorem refList_is (w : World) (x : Nat) (hx : x < 256) :
    Calls Try.prog 8 #[.int .u8 (x : Nat)] w fun r w' => ∃ v, r = .returned v ∧ OwnU w' w.heap.size v (nodesL x) ∧ Below w.heap.size w w' := by
  have HE := Lib.hid (show nodesU (bt x) 7 = nodesL x from rfl)
  have HX := Lib.hid hx
  go_enter Try.func8, Try.ntmps8
  go_wp2_with fail
  go_loopw [0, 3, 4] (fun xv ov iv wx => ∃ i : Nat, i ≤ 7 ∧ iv = .int .i64 i ∧ xv = .int .u8 (x / 2 ^ i : Nat) ∧ (∃ a c, ov = .slice a (nodesU (bt x) i).length c) ∧ OwnU wx w.heap.size ov (nodesU (bt x) i) ∧ Below w.heap.size w wx) (fun _ _ iv _ => 7 - (intOf iv).toNat)
  case atStart => exact ⟨0, by omega, rfl, by simp, ⟨none, 0, rfl⟩, OwnU.nil _ _, Below.refl _ _⟩
  case round =>
    obtain ⟨i, hi, rfl, rfl, ⟨a, c, rfl⟩, hO, hB⟩ := hrel
    have HO := Lib.hid hO
    have HB := Lib.hid hB
    clear hO hB
    by_cases hlt : i < 7
    · have hstep := bt_step x i
      have hbt : bt x i = decide (x / 2 ^ i % 2 = 1) := rfl
      have hdle : x / 2 ^ i ≤ 255 := by have := Nat.div_le_self x (2 ^ i); omega
      have hhit := nodesU_hit (f := bt x) (n := i)
      have hmiss := nodesU_miss (f := bt x) (n := i)
      have hlen := nodesU_len (bt x) i
      have hw8 : IntKind.u8.wrap (i : Int) = (i : Int) := by
        have : ∀ k : Fin 7, IntKind.u8.wrap (k.val : Int) = (k.val : Int) := by decide
        exact this ⟨i, hlt⟩
      have e3 : ((UInt8.ofNat i).toNat : Int) = ((i : Nat) : Int) := by rw [UInt8.toNat_ofNat']; omega
      have HS := Lib.hid hstep
      have HE3 := Lib.hid e3
      have HLEN := Lib.hid hlen
      generalize hL : nodesU (bt x) i = L at *
      generalize hd : x / 2 ^ i = d at *
      have hdiv : (d : Int).tdiv 2 = ((d / 2 : Nat) : Int) := by rw [Int.tdiv_eq_ediv_of_nonneg (by omega)]; rfl
      have hmod : (d : Int).tmod 2 = ((d % 2 : Nat) : Int) := by rw [Int.tmod_eq_emod_of_nonneg (by omega)]; rfl
      have hwq : IntKind.u8.wrap ((d / 2 : Nat) : Int) = ((d / 2 : Nat) : Int) := by
        have : ∀ k : Fin 256, IntKind.u8.wrap (k.val : Int) = (k.val : Int) := by decide +kernel
        exact this ⟨d / 2, by omega⟩
      have hwm : IntKind.u8.wrap ((d % 2 : Nat) : Int) = ((d % 2 : Nat) : Int) := by
        have : ∀ k : Fin 256, IntKind.u8.wrap (k.val : Int) = (k.val : Int) := by decide +kernel
        exact this ⟨d % 2, by omega⟩
      clear hstep e3 hlen hL hd
      by_cases hm : d % 2 = 1
      · have hmi : ((d % 2 : Nat) : Int) = 1 := by omega
        have HH := Lib.hid (hhit (by rw [hbt, hm]; rfl))
        clear hhit hmiss hbt hm
        generalize hn : L.length = n at *
        have HN := Lib.hid hn
        clear hn
        go_wp2_with (at_builtin; refine wpList_append_src _ rfl _ _ rfl w.heap.size _ n L rfl (by have := HO.out; unfold OwnU at this; rw [HN.out] at this; exact ownsRow_below this ((Below.refl _ _).alloc (Nat.le_refl _) _)) _ 1 _ [UInt8.ofNat i] rfl (Src.of_own (own_one wr (UInt8.ofNat i) _ HE3.out)) (by have := HLEN.out; omega) (by have := HB.out.size; simp; omega) ?_; intro v' w3 hown hgrow)
        have hob := HO.out.below ((Below.refl _ wr).alloc (Nat.le_refl _) (.cells #[.int .u8 (i : Nat)] 5))
        have hO2 : OwnU w3 w.heap.size v' (L ++ [UInt8.ofNat i]) := HO.out.more (by rw [HN.out]; exact hown)
        obtain ⟨a', c', rfl, _⟩ := hO2.form
        have hB2 : Below w.heap.size w w3 := (HB.out.alloc HB.out.size _).grown hgrow (HB.out.alloc HB.out.size _).size (fun k hk => (hob.lt k hk).1)
        go_roundw
        case rel => exact ⟨i + 1, by omega, by go_num, by rw [← HS.out]; exact congrArg (Value.int IntKind.u8) (by omega), ⟨a', c', by rw [HH.out]⟩, by rw [HH.out]; exact hO2, hB2⟩
        case measure => simp [intOf]; omega
      · have hmi : ¬ ((d % 2 : Nat) : Int) = 1 := by omega
        have HH := Lib.hid (hmiss (by rw [hbt]; simpa using hm))
        clear hhit hmiss hbt hm
        generalize hn : L.length = n at *
        have HN := Lib.hid hn
        clear hn
        go_wp2_with fail
        go_roundw
        case rel => exact ⟨i + 1, by omega, by go_num, by rw [← HS.out]; exact congrArg (Value.int IntKind.u8) (by omega), ⟨a, c, by rw [HH.out, HN.out]⟩, by rw [HH.out]; exact HO.out, HB.out⟩
        case measure => simp [intOf]; omega
    · have hin : i = 7 := by omega
      subst hin
      rw [HE.out] at HO
      go_wp2_with fail
      go_ret
      exact ⟨_, rfl, HO.out, HB.out⟩

theorem pick_succ {l b : List UInt8} {inn : Bool} {i : Nat} (hi : i < l.length) : pickL (l.take (i + 1)) b inn = if (anyL b l[i].toNat == inn) = true then pickL (l.take i) b inn ++ [l[i]] else pickL (l.take i) b inn := by
  unfold pickL
  rw [List.take_succ_eq_append_getElem hi, List.filter_append]
  by_cases h : (anyL b l[i].toNat == inn) = true
  · rw [if_pos h]
    exact congrArg _ (by rw [List.filter_cons]; exact (if_pos h).trans (by rw [List.filter_nil]))
  · rw [if_neg h]
    refine (congrArg _ ?_).trans (List.append_nil _)
    rw [List.filter_cons]
    exact (if_neg h).trans (by rw [List.filter_nil])
theorem pick_len (l b : List UInt8) (inn : Bool) (i : Nat) : (pickL (l.take i) b inn).length ≤ i := by
  unfold pickL
  have := List.length_filter_le (fun c => (b.any fun d => d.toNat == c.toNat) == inn) (l.take i)
  have h2 : (l.take i).length ≤ i := by simp; omega
  omega

set_option maxRecDepth 100000 in
set_option maxHeartbeats 1000000 in
theorem refPick_is (w : World) (a a2 : Option Addr) (n c n2 c2 : Nat) (l b : List UInt8) (inn : Bool) (h : Src w a n c l) (h2 : Src w a2 n2 c2 b) (hn : n ≤ 1000000) (hn2 : n2 ≤ 1000000) :
    Calls Try.prog 16 #[.slice a n c, .slice a2 n2 c2, .bool inn] w fun r w' => ∃ v, r = .returned v ∧ OwnU w' w.heap.size v (pickL l b inn) ∧ Below w.heap.size w w' := by
  have HS := Lib.hid h
  have HS2 := Lib.hid h2
  have HL := Lib.hid h.len
  have HN := Lib.hid hn
  have HN2 := Lib.hid hn2
  clear h h2 hn hn2
  go_enter Try.func16, Try.ntmps16
  go_wp2_with fail
  go_loopw [7, 8] (fun ov iv wx => ∃ i : Nat, i ≤ n ∧ iv = .int .i64 i ∧ (∃ a c, ov = .slice a (pickL (l.take i) b inn).length c) ∧ OwnU wx w.heap.size ov (pickL (l.take i) b inn) ∧ Below w.heap.size w wx) (fun _ iv _ => n - (intOf iv).toNat)
  case atStart => exact ⟨0, by omega, rfl, ⟨none, 0, rfl⟩, OwnU.nil _ _, Below.refl _ _⟩
  case round =>
    obtain ⟨i, hi, rfl, ⟨a4, c4, rfl⟩, hO, hB⟩ := hrel
    have HO := Lib.hid hO
    have HB := Lib.hid hB
    clear hO hB
    by_cases hlt : i < n
    · have hil : i < l.length := by rw [HL.out]; exact hlt
      obtain ⟨bb, off, rfl, hc⟩ := (HS.out.below HB.out).nth (by omega)
      have c0 := hc i hil
      have hsu := pick_succ (b := b) (inn := inn) hil
      have hlen := pick_len l b inn i
      have e3 : ((l[i]).toNat : Int) = (((l[i]).toNat : Nat) : Int) := rfl
      generalize l[i] = y at c0 hsu
      generalize pickL (l.take i) b inn = L at *
      have HLEN := Lib.hid hlen
      have HSU := Lib.hid hsu
      have HNI := Lib.hid (show i ≤ 1000000 by have := HN.out; omega)
      clear hc hsu hlen e3
      generalize hn : L.length = k at *
      have HK := Lib.hid hn
      clear hn
      by_cases hb : (anyL b y.toNat == inn) = true
      · have hq : anyL b y.toNat = inn := by simpa using hb
        have H3 := Lib.hid (show ∀ v, Src v a2 n2 c2 b → Calls Try.prog 14 #[.slice a2 n2 c2, .int .u8 (y.toNat : Nat)] v fun r w' => r = .returned (.bool inn) ∧ v = w' from fun v hv => by have := refHas_is v a2 n2 c2 b y.toNat hv HN2.out; rwa [hq] at this)
        have HH := Lib.hid (show pickL (l.take (i + 1)) b inn = L ++ [y] by rw [HSU.out, if_pos hb])
        clear hb hq
        have hni := HNI.out
        go_wp2_with (first
          | (go_at_call 14; (with_reducible refine (H3.out _ (HS2.out.below HB.out)).mono ?_); rintro r w1 ⟨rfl, rfl⟩)
          | (at_builtin; refine wpList_append_src _ rfl _ _ rfl w.heap.size _ k L rfl (by have := HO.out; unfold OwnU at this; rw [HK.out] at this; exact ownsRow_below this ((Below.refl _ _).alloc (Nat.le_refl _) _)) _ 1 _ [y] rfl (Src.of_own (own_one wr y _ rfl)) (by have := HLEN.out; have := HNI.out; omega) (by have := HB.out.size; simp; omega) ?_; intro v' w3 hown hgrow))
        have hob := HO.out.below ((Below.refl _ wr).alloc (Nat.le_refl _) (.cells #[.int .u8 (y.toNat : Nat)] 5))
        have hO2 : OwnU w3 w.heap.size v' (L ++ [y]) := HO.out.more (by rw [HK.out]; exact hown)
        obtain ⟨a', c', rfl, _⟩ := hO2.form
        have hB2 : Below w.heap.size w w3 := (HB.out.alloc HB.out.size _).grown hgrow (HB.out.alloc HB.out.size _).size (fun k hk => (hob.lt k hk).1)
        go_roundw
        case rel => exact ⟨i + 1, by omega, by go_num, ⟨a', c', by rw [HH.out]⟩, by rw [HH.out]; exact hO2, hB2⟩
        case measure => simp [intOf]; omega
      · have hq : (anyL b y.toNat == inn) = false := by simpa using hb
        have H3 := Lib.hid (show ∀ v, Src v a2 n2 c2 b → Calls Try.prog 14 #[.slice a2 n2 c2, .int .u8 (y.toNat : Nat)] v fun r w' => r = .returned (.bool (!inn)) ∧ v = w' from fun v hv => by
          have := refHas_is v a2 n2 c2 b y.toNat hv HN2.out
          rwa [show anyL b y.toNat = !inn by cases hx : anyL b y.toNat <;> cases inn <;> simp_all] at this)
        have HH := Lib.hid (show pickL (l.take (i + 1)) b inn = L by rw [HSU.out, if_neg hb])
        have hni := HNI.out
        clear hb hq
        cases inn
        all_goals
          go_wp2_with (go_at_call 14; (with_reducible refine (H3.out _ (HS2.out.below HB.out)).mono ?_); rintro r w1 ⟨rfl, rfl⟩)
          go_roundw
          case rel => exact ⟨i + 1, by omega, by go_num, ⟨a4, c4, by rw [HH.out, HK.out]⟩, by rw [HH.out]; exact HO.out, HB.out⟩
          case measure => simp [intOf]; omega
    · have hin : i = n := by omega
      have ht : l.take i = l := by rw [hin, ← HL.out, List.take_length]
      rw [ht] at HO ⊢
      go_wp2_with fail
      go_ret
      exact ⟨_, rfl, HO.out, HB.out⟩
end Go.Proofs.Ytefocgifgphgiaa
