/-
  Sets of nodes, plainly: their bits, how many they have, what two have together and each alone, majorities.
-/
import Derived.Test.YtefocgifgphgiaaPureB
namespace Go.Proofs.Ytefocgifgphgiaa
set_option linter.unusedVariables false

/-- Whether a number's bit n is 1. -/
def bt (x n : Nat) : Bool := decide (x / 2 ^ n % 2 = 1)
/-- The set of the nodes below 7 of which f holds. -/
def mkL (f : Nat → Bool) : Nat := (f 0).toNat + 2 * (f 1).toNat + 4 * (f 2).toNat + 8 * (f 3).toNat + 16 * (f 4).toNat + 32 * (f 5).toNat + 64 * (f 6).toNat
def lenF (f : Nat → Bool) : Nat := (f 0).toNat + (f 1).toNat + (f 2).toNat + (f 3).toNat + (f 4).toNat + (f 5).toNat + (f 6).toNat
def lenL (x : Nat) : Nat := lenF (bt x)
def hasL (x n : Nat) : Bool := decide (n < 7) && bt x n
def withL (x y : Nat) : Nat := mkL fun n => bt x n || bt y n
def withoutL (x y : Nat) : Nat := mkL fun n => bt x n && !bt y n
def bothL (x y : Nat) : Nat := mkL fun n => bt x n && bt y n
def needL (x : Nat) : Nat := lenL x / 2 + 1
def majorL (x h : Nat) : Bool := decide (lenL x < 2 * lenL (bothL x h))
def mayS (x a : Nat) : Bool := decide (0 < lenL x ∧ withoutL x a = 0)
def ofL (l : List UInt8) : Nat := mkL fun n => l.any fun c => c.toNat == n
def firstL (i : Int) : Nat := mkL fun n => decide ((n : Int) < i)
def nodesF (f : Nat → Bool) : List UInt8 := ((List.range 7).filter f).map UInt8.ofNat
def nodesL (x : Nat) : List UInt8 := nodesF (bt x)

theorem toNat_le (b : Bool) : b.toNat ≤ 1 := by cases b <;> decide
theorem mk_lt (f : Nat → Bool) : mkL f < 128 := by
  unfold mkL
  have h0 := toNat_le (f 0)
  have h1 := toNat_le (f 1)
  have h2 := toNat_le (f 2)
  have h3 := toNat_le (f 3)
  have h4 := toNat_le (f 4)
  have h5 := toNat_le (f 5)
  have h6 := toNat_le (f 6)
  omega
theorem mk_ext {f g : Nat → Bool} (h : ∀ n, n < 7 → f n = g n) : mkL f = mkL g := by
  unfold mkL
  rw [h 0 (by omega), h 1 (by omega), h 2 (by omega), h 3 (by omega), h 4 (by omega), h 5 (by omega), h 6 (by omega)]
theorem bt_mk_all : ∀ b0 b1 b2 b3 b4 b5 b6 : Bool, ∀ k : Fin 7, bt (b0.toNat + 2 * b1.toNat + 4 * b2.toNat + 8 * b3.toNat + 16 * b4.toNat + 32 * b5.toNat + 64 * b6.toNat) k.val = [b0, b1, b2, b3, b4, b5, b6].getD k.val false := by decide +kernel
theorem bt_mk (f : Nat → Bool) {n : Nat} (h : n < 7) : bt (mkL f) n = f n := by
  have := bt_mk_all (f 0) (f 1) (f 2) (f 3) (f 4) (f 5) (f 6) ⟨n, h⟩
  unfold mkL
  rw [this]
  match n, h with
  | 0, _ => rfl
  | 1, _ => rfl
  | 2, _ => rfl
  | 3, _ => rfl
  | 4, _ => rfl
  | 5, _ => rfl
  | 6, _ => rfl
theorem mk_bt_all : ∀ x : Fin 128, mkL (bt x.val) = x.val := by decide +kernel
theorem mk_bt {x : Nat} (h : x < 128) : mkL (bt x) = x := mk_bt_all ⟨x, h⟩
theorem bt_with (x y : Nat) {n : Nat} (h : n < 7) : bt (withL x y) n = (bt x n || bt y n) := bt_mk _ h
theorem bt_without (x y : Nat) {n : Nat} (h : n < 7) : bt (withoutL x y) n = (bt x n && !bt y n) := bt_mk _ h
theorem bt_both (x y : Nat) {n : Nat} (h : n < 7) : bt (bothL x y) n = (bt x n && bt y n) := bt_mk _ h
theorem set_ext {x y : Nat} (hx : x < 128) (hy : y < 128) (h : ∀ n, n < 7 → bt x n = bt y n) : x = y := by
  rw [← mk_bt hx, ← mk_bt hy]
  exact mk_ext h
theorem lenF_ext {f g : Nat → Bool} (h : ∀ n, n < 7 → f n = g n) : lenF f = lenF g := by
  unfold lenF
  rw [h 0 (by omega), h 1 (by omega), h 2 (by omega), h 3 (by omega), h 4 (by omega), h 5 (by omega), h 6 (by omega)]
theorem len_with (x y : Nat) : lenL (withL x y) = lenF fun n => bt x n || bt y n := lenF_ext fun n h => bt_with x y h
theorem len_without (x y : Nat) : lenL (withoutL x y) = lenF fun n => bt x n && !bt y n := lenF_ext fun n h => bt_without x y h
theorem len_both (x y : Nat) : lenL (bothL x y) = lenF fun n => bt x n && bt y n := lenF_ext fun n h => bt_both x y h
theorem lenF_le (f : Nat → Bool) : lenF f ≤ 7 := by
  unfold lenF
  have h0 := toNat_le (f 0)
  have h1 := toNat_le (f 1)
  have h2 := toNat_le (f 2)
  have h3 := toNat_le (f 3)
  have h4 := toNat_le (f 4)
  have h5 := toNat_le (f 5)
  have h6 := toNat_le (f 6)
  omega
/-- Bit by bit. -/
theorem lenF_add {f g a b : Nat → Bool} (h : ∀ n, (f n).toNat + (g n).toNat = (a n).toNat + (b n).toNat) : lenF f + lenF g = lenF a + lenF b := by
  unfold lenF
  have h0 := h 0
  have h1 := h 1
  have h2 := h 2
  have h3 := h 3
  have h4 := h 4
  have h5 := h 5
  have h6 := h 6
  omega
theorem lenF_sub {f g a b : Nat → Bool} (h : ∀ n, (f n).toNat + (g n).toNat ≤ (a n).toNat + (b n).toNat) : lenF f + lenF g ≤ lenF a + lenF b := by
  unfold lenF
  have h0 := h 0
  have h1 := h 1
  have h2 := h 2
  have h3 := h 3
  have h4 := h 4
  have h5 := h 5
  have h6 := h 6
  omega
theorem lenF_none : lenF (fun _ => false) = 0 := rfl
theorem lenF_zero {f : Nat → Bool} (h : lenF f = 0) : ∀ n, n < 7 → f n = false := by
  have key : ∀ b : Bool, b.toNat = 0 → b = false := by decide
  unfold lenF at h
  have h0 := key (f 0) (by omega)
  have h1 := key (f 1) (by omega)
  have h2 := key (f 2) (by omega)
  have h3 := key (f 3) (by omega)
  have h4 := key (f 4) (by omega)
  have h5 := key (f 5) (by omega)
  have h6 := key (f 6) (by omega)
  intro n hn
  match n, hn with
  | 0, _ => exact h0
  | 1, _ => exact h1
  | 2, _ => exact h2
  | 3, _ => exact h3
  | 4, _ => exact h4
  | 5, _ => exact h5
  | 6, _ => exact h6
/-- Sets are sets. -/
theorem with_parts {s o : Nat} (hs : s < 128) : withL (withoutL s o) (bothL s o) = s :=
  set_ext (mk_lt _) hs fun n h => by rw [bt_with _ _ h, bt_without _ _ h, bt_both _ _ h]; cases bt s n <;> cases bt o n <;> rfl
theorem both_parts (s o : Nat) : bothL (withoutL s o) (bothL s o) = 0 :=
  set_ext (mk_lt _) (by decide) fun n h => by
    rw [bt_both _ _ h, bt_without _ _ h, bt_both _ _ h]
    have : bt 0 n = false := by simp [bt]
    rw [this]
    cases bt s n <;> cases bt o n <;> rfl
theorem len_parts (s o : Nat) : lenL (withoutL s o) + lenL (bothL s o) = lenL s := by
  rw [len_without, len_both]
  have := lenF_add (f := fun n => bt s n && !bt o n) (g := fun n => bt s n && bt o n) (a := bt s) (b := fun _ => false) (fun n => by cases bt s n <;> cases bt o n <;> rfl)
  rw [lenF_none, Nat.add_zero] at this
  exact this
theorem with_comm (s o : Nat) : withL s o = withL o s := mk_ext fun n _ => Bool.or_comm _ _
theorem len_sum (s o : Nat) : lenL (withL s o) + lenL (bothL s o) = lenL s + lenL o := by
  rw [len_with, len_both]
  exact lenF_add (fun n => by cases bt s n <;> cases bt o n <;> rfl)
theorem has_with (s o n : Nat) : hasL (withL s o) n = (hasL s n || hasL o n) := by
  unfold hasL
  by_cases h : n < 7
  · rw [bt_with _ _ h]; simp [h]
  · simp [h]
theorem has_both (s o n : Nat) : hasL (bothL s o) n = (hasL s n && hasL o n) := by
  unfold hasL
  by_cases h : n < 7
  · rw [bt_both _ _ h]; simp [h]
  · simp [h]
theorem has_without (s o n : Nat) : hasL (withoutL s o) n = (hasL s n && !hasL o n) := by
  unfold hasL
  by_cases h : n < 7
  · rw [bt_without _ _ h]; simp [h]
  · simp [h]
theorem with_zero {x : Nat} : lenL (withL x 0) = lenL x := by
  rw [len_with]
  exact lenF_ext fun n _ => by have : bt 0 n = false := by simp [bt]
                               rw [this, Bool.or_false]
theorem both_self (s : Nat) : lenL (bothL s s) = lenL s := by rw [len_both]; exact lenF_ext fun n _ => by cases bt s n <;> rfl
theorem major_self {s : Nat} (h : 0 < lenL s) : majorL s s = true := by unfold majorL; rw [decide_eq_true_eq, both_self]; omega
theorem without_self (s : Nat) : withoutL s s = 0 :=
  set_ext (mk_lt _) (by decide) fun n h => by
    rw [bt_without _ _ h]
    have : bt 0 n = false := by simp [bt]
    rw [this]
    cases bt s n <;> rfl
theorem may_self (s : Nat) : mayS s s = decide (0 < lenL s) := by unfold mayS; rw [without_self]; simp
theorem major_need {s o : Nat} (h : ¬ lenL (bothL s o) < needL s) : majorL s o = true := by
  unfold majorL
  unfold needL at h
  rw [decide_eq_true_eq]
  omega
/-- Two majorities meet. -/
theorem meet_one {s p q : Nat} (h : majorL s p = true) (k : majorL s q = true) : lenL (bothL (bothL p q) s) ≠ 0 := by
  unfold majorL at h k
  rw [decide_eq_true_eq] at h k
  rw [len_both] at h k ⊢
  have hb : (lenF fun n => bt (bothL p q) n && bt s n) = lenF fun n => (bt p n && bt q n) && bt s n := lenF_ext fun n hn => by rw [bt_both _ _ hn]
  rw [hb]
  have := lenF_sub (f := fun n => bt s n && bt p n) (g := fun n => bt s n && bt q n) (a := bt s) (b := fun n => (bt p n && bt q n) && bt s n) (fun n => by cases bt s n <;> cases bt p n <;> cases bt q n <;> decide)
  unfold lenL at h k
  omega
theorem of_one (c : UInt8) : lenL (ofL [c]) ≤ 1 := by
  have key : ∀ k : Fin 256, lenL (ofL [UInt8.ofNat k.val]) ≤ 1 := by decide +kernel
  have := key ⟨c.toNat, c.toNat_lt⟩
  simpa using this
theorem meet_more {s p q : Nat} {c : UInt8} (h : majorL s p = true) (k : majorL (withL s (ofL [c])) q = true) : lenL (bothL (bothL p q) (withL s (ofL [c]))) ≠ 0 := by
  have h1 := of_one c
  have h2 := len_sum s (ofL [c])
  generalize ofL [c] = o at *
  unfold majorL at h k
  rw [decide_eq_true_eq] at h k
  rw [len_both] at h
  have hb : (lenL (bothL (withL s o) q)) = lenF fun n => (bt s n || bt o n) && bt q n := by rw [len_both]; exact lenF_ext fun n hn => by rw [bt_with _ _ hn]
  have hc : lenL (bothL (bothL p q) (withL s o)) = lenF fun n => (bt p n && bt q n) && (bt s n || bt o n) := by rw [len_both]; exact lenF_ext fun n hn => by rw [bt_both _ _ hn, bt_with _ _ hn]
  rw [hb] at k
  rw [hc]
  have h3 := lenF_sub (f := fun n => bt s n && bt p n) (g := fun n => (bt s n || bt o n) && bt q n) (a := fun n => bt s n || bt o n) (b := fun n => (bt p n && bt q n) && (bt s n || bt o n)) (fun n => by cases bt s n <;> cases bt p n <;> cases bt q n <;> cases bt o n <;> decide)
  rw [len_with] at h2 k
  omega
theorem meet_apart {s p q : Nat} (h : majorL s p = true) : majorL s (withoutL q p) = false := by
  unfold majorL at *
  rw [decide_eq_true_eq] at h
  rw [decide_eq_false_iff_not]
  rw [len_both] at h ⊢
  have hb : (lenF fun n => bt s n && bt (withoutL q p) n) = lenF fun n => bt s n && (bt q n && !bt p n) := lenF_ext fun n hn => by rw [bt_without _ _ hn]
  rw [hb]
  have := lenF_sub (f := fun n => bt s n && bt p n) (g := fun n => bt s n && (bt q n && !bt p n)) (a := bt s) (b := fun _ => false) (fun n => by cases bt s n <;> cases bt p n <;> cases bt q n <;> decide)
  rw [lenF_none] at this
  unfold lenL at h ⊢
  omega
/-! ### as lists -/
theorem nodes_all : ∀ b0 b1 b2 b3 b4 b5 b6 : Bool, (nodesF fun n => [b0, b1, b2, b3, b4, b5, b6].getD n false).length = b0.toNat + b1.toNat + b2.toNat + b3.toNat + b4.toNat + b5.toNat + b6.toNat ∧ ∀ k : Fin 7, ((nodesF fun n => [b0, b1, b2, b3, b4, b5, b6].getD n false).any fun c => c.toNat == k.val) = [b0, b1, b2, b3, b4, b5, b6].getD k.val false := by decide +kernel
theorem nodesF_get (f : Nat → Bool) : nodesF f = nodesF fun n => [f 0, f 1, f 2, f 3, f 4, f 5, f 6].getD n false := rfl
theorem nodesF_len (f : Nat → Bool) : (nodesF f).length = lenF f := by
  rw [nodesF_get]
  exact (nodes_all _ _ _ _ _ _ _).1
theorem nodesF_any (f : Nat → Bool) {n : Nat} (h : n < 7) : ((nodesF f).any fun c => c.toNat == n) = f n := by
  rw [nodesF_get, (nodes_all _ _ _ _ _ _ _).2 ⟨n, h⟩]
  match n, h with
  | 0, _ => rfl
  | 1, _ => rfl
  | 2, _ => rfl
  | 3, _ => rfl
  | 4, _ => rfl
  | 5, _ => rfl
  | 6, _ => rfl
theorem len_nodes (x : Nat) : (nodesL x).length = lenL x := nodesF_len _
theorem any_nodes (x : Nat) {n : Nat} (h : n < 7) : ((nodesL x).any fun c => c.toNat == n) = bt x n := nodesF_any _ h
theorem nodes_lt (x : Nat) : ∀ c ∈ nodesL x, c.toNat < 7 := by
  intro c hc
  obtain ⟨n, hn, rfl⟩ := List.mem_map.1 hc
  have := List.mem_range.1 (List.mem_filter.1 hn).1
  rw [UInt8.toNat_ofNat']
  omega
theorem has_nodes (x n : Nat) : ((nodesL x).any fun c => c.toNat == n) = hasL x n := by
  unfold hasL
  by_cases h : n < 7
  · rw [any_nodes x h]; simp [h]
  · rw [decide_eq_false h, Bool.false_and, Bool.eq_false_iff]
    intro hc
    obtain ⟨c, hc1, hc2⟩ := List.any_eq_true.1 hc
    have := nodes_lt x c hc1
    simp at hc2
    omega
theorem of_nodes {x : Nat} (h : x < 128) : ofL (nodesL x) = x := by
  rw [← mk_bt h]
  exact mk_ext fun n hn => by rw [mk_bt h]; exact any_nodes x hn
theorem of_append (x y : Nat) : ofL (nodesL x ++ nodesL y) = withL x y := mk_ext fun n hn => by rw [List.any_append, any_nodes x hn, any_nodes y hn]
/-- Those of one list that another one has, or has not. -/
def pickL (a b : List UInt8) (inn : Bool) : List UInt8 := a.filter fun c => (b.any fun d => d.toNat == c.toNat) == inn
theorem pick_nodes (x y : Nat) (inn : Bool) : pickL (nodesL x) (nodesL y) inn = nodesF fun n => bt x n && (bt y n == inn) := by
  unfold pickL
  show List.filter _ (nodesF (bt x)) = _
  unfold nodesF
  rw [List.filter_map, List.filter_filter]
  refine congrArg _ (List.filter_congr fun n hn => ?_)
  have h7 := List.mem_range.1 hn
  have e : (UInt8.ofNat n).toNat = n := by rw [UInt8.toNat_ofNat']; omega
  simp only [Function.comp, e, any_nodes y h7]
  rw [Bool.and_comm]
theorem of_nodesF (f : Nat → Bool) : ofL (nodesF f) = mkL f := mk_ext fun n hn => nodesF_any f hn
theorem of_pick_true (x y : Nat) : ofL (pickL (nodesL x) (nodesL y) true) = bothL x y := by
  rw [pick_nodes, of_nodesF]
  exact mk_ext fun n _ => by cases bt x n <;> cases bt y n <;> rfl
theorem of_pick_false (x y : Nat) : ofL (pickL (nodesL x) (nodesL y) false) = withoutL x y := by
  rw [pick_nodes, of_nodesF]
  exact mk_ext fun n _ => by cases bt x n <;> cases bt y n <;> rfl
theorem len_pick_true (x y : Nat) : (pickL (nodesL x) (nodesL y) true).length = lenL (bothL x y) := by
  rw [pick_nodes, nodesF_len, len_both]
  exact lenF_ext fun n _ => by cases bt x n <;> cases bt y n <;> rfl
theorem len_pick_false (x y : Nat) : (pickL (nodesL x) (nodesL y) false).length = lenL (withoutL x y) := by
  rw [pick_nodes, nodesF_len, len_without]
  exact lenF_ext fun n _ => by cases bt x n <;> cases bt y n <;> rfl
theorem len_zero {x : Nat} (h : x < 128) : lenL x = 0 ↔ x = 0 := by
  constructor
  · intro h0
    refine set_ext h (by decide) fun n hn => ?_
    rw [lenF_zero h0 n hn]
    simp [bt]
  · rintro rfl
    rfl
theorem may_pick (x y : Nat) : mayS x y = (decide (0 < (nodesL x).length) && decide ((pickL (nodesL x) (nodesL y) false).length = 0)) := by
  unfold mayS
  rw [len_nodes, len_pick_false, Bool.eq_iff_iff]
  simp only [decide_eq_true_eq, Bool.and_eq_true]
  rw [len_zero (show withoutL x y < 128 from mk_lt _)]
theorem major_pick (x y : Nat) : majorL x y = decide ((nodesL x).length < 2 * (pickL (nodesL x) (nodesL y) true).length) := by
  unfold majorL
  rw [len_nodes, len_pick_true]
theorem need_fits (x : Nat) : lenL x < 2 * needL x ∧ 2 * needL x ≤ lenL x + 2 := by unfold needL; omega
/-! ### made one by one -/
def mkU (f : Nat → Bool) : Nat → Nat
  | 0 => 0
  | n + 1 => mkU f n + (f n).toNat * 2 ^ n
theorem mkU_lt (f : Nat → Bool) : ∀ n, mkU f n < 2 ^ n
  | 0 => by simp [mkU]
  | n + 1 => by
    have := mkU_lt f n
    have h := toNat_le (f n)
    have e : mkU f (n + 1) = mkU f n + (f n).toNat * 2 ^ n := rfl
    have e2 : 2 ^ (n + 1) = 2 ^ n + 2 ^ n := by rw [Nat.pow_succ]; omega
    have e3 : (f n).toNat * 2 ^ n ≤ 1 * 2 ^ n := Nat.mul_le_mul_right _ h
    omega
theorem mkU_end (f : Nat → Bool) : mkU f 7 = mkL f := by
  simp only [mkU, mkL]
  omega
def nodesU (f : Nat → Bool) (n : Nat) : List UInt8 := ((List.range n).filter f).map UInt8.ofNat
theorem nodesU_hit {f : Nat → Bool} {n : Nat} (h : f n = true) : nodesU f (n + 1) = nodesU f n ++ [UInt8.ofNat n] := by simp [nodesU, List.range_succ, h]
theorem nodesU_miss {f : Nat → Bool} {n : Nat} (h : f n = false) : nodesU f (n + 1) = nodesU f n := by simp [nodesU, List.range_succ, h]
theorem nodesU_len (f : Nat → Bool) (n : Nat) : (nodesU f n).length ≤ n := by
  unfold nodesU
  rw [List.length_map]
  have := List.length_filter_le f (List.range n)
  simpa using this
theorem nodesU_end (f : Nat → Bool) : nodesU f 7 = nodesF f := rfl
end Go.Proofs.Ytefocgifgphgiaa
