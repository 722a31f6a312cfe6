/-
  The law WireReads: one ask, of a reader and of the document's: they answer alike.
-/
import Derived.Test.YtmlljdfeppgcaaaRefRdS
import Derived.Test.YtmlljdfeppgcaaaItems
namespace Go.Proofs.Ytmlljdfeppgcaaa
open Go.RowKit
set_option linter.unusedVariables false
attribute [local go_sem ↓] Go.wp_at_zero Go.wp_at_succ

/-- What a reader holds behind one ask. -/
def ask (s : St) (x : As) : St :=
  if x.d = 0 then s.num.2 else if x.d = 1 then s.byte.2 else if x.d = 2 then (s.str x.m).2 else if x.d = 3 then (s.below x.n.toNat).2 else if x.d = 4 then s.fail 4 else s.fin

theorem ask_len (s : St) (x : As) : (ask s x).l.length ≤ s.l.length := by
  unfold ask
  split
  · exact num_len s
  · split
    · exact byte_len s
    · split
      · exact str_len s x.m
      · split
        · exact below_len s x.n.toNat
        · split
          · rw [fail_len]; exact Nat.le_refl _
          · rw [fin_len]; exact Nat.le_refl _

/-- The reader at b holds s in w'; since w nothing below w's size but that reader has turned. -/
structure Q (w w' : World) (b : Nat) (s : St) : Prop where
  r : RS w' b s
  g : w.grownBy w' (some b)
  lt : b < w.heap.size

theorem Q.start {w : World} {b : Nat} {s : St} (h : RS w b s) : Q w w b s := ⟨h, World.grownBy.refl _ _, h.lt⟩
theorem Q.below {w w' w2 : World} {b : Nat} {s : St} (h : Q w w' b s) (k : Below w'.heap.size w' w2) : Q w w2 b s :=
  ⟨h.r.below k, grown_trans h.g (grown_of_below k), h.lt⟩
theorem Q.alloc {w w' : World} {b : Nat} {s : St} (h : Q w w' b s) (o : Obj) : Q w (w'.alloc o) b s := h.below ((Below.refl _ _).alloc (Nat.le_refl _) o)
theorem Q.drew {w w' : World} {b : Nat} {s : St} (h : Q w w' b s) : Q w w'.drew b s := h.below (Below.refl _ _).drew
theorem Q.call {w w' w2 : World} {b : Nat} {s s2 : St} (h : Q w w' b s) (k : RS w2 b s2) (g : w'.grownBy w2 (some b)) : Q w w2 b s2 := ⟨k, grown_trans h.g g, h.lt⟩
theorem Q.set {w w' : World} {b : Nat} {s : St} (h : Q w w' b s) {p j : Nat} (hp : w.heap.size ≤ p) (v : Value) : Q w (w'.setCell ⟨p, j, none⟩ v) b s := by
  have hne : b ≠ p := by have := h.lt; omega
  refine ⟨h.r.kept (grown_setCell _ p j v) hne, ?_, h.lt⟩
  have g := grown_setCell w' p j v
  exact ⟨g.os.trans h.g.os, g.tape.trans h.g.tape, g.output.trans h.g.output, Nat.le_trans h.g.size g.size, fun k hk hr => (g.block k (Nat.lt_of_lt_of_le hk h.g.size) (by simp; omega)).trans (h.g.block k hk hr)⟩

theorem Rf.grown {w w' : World} {p b : Nat} {s : ByteArray} {e : Int} (h : Rf w p s e) (hg : w.grownBy w' (some b)) (hne : p ≠ b) : Rf w' p s e := by
  unfold Rf; rw [hg.block p (Array.getElem?_eq_some_iff.1 h).1 (by simpa using hne)]; exact h
theorem Rf.drew {w : World} {p : Nat} {s : ByteArray} {e : Int} (h : Rf w p s e) : Rf w.drew p s e := h

/-- At block b there is an ask. -/
def Ab (w : World) (b : Nat) (d n m : Int) : Prop := w.heap[b]? = some (.cells #[.int .u8 d, .int .u64 n, .int .i64 m] 39 (0, 0))
theorem Ab.c0 {w : World} {b : Nat} {d n m : Int} (h : Ab w b d n m) : w.cell? ⟨b, 0, none⟩ = some (.int .u8 d) := by rw [cell_of_row w b 0 _ _ _ h]; rfl
theorem Ab.c1 {w : World} {b : Nat} {d n m : Int} (h : Ab w b d n m) : w.cell? ⟨b, 1, none⟩ = some (.int .u64 n) := by rw [cell_of_row w b 1 _ _ _ h]; rfl
theorem Ab.c2 {w : World} {b : Nat} {d n m : Int} (h : Ab w b d n m) : w.cell? ⟨b, 2, none⟩ = some (.int .i64 m) := by rw [cell_of_row w b 2 _ _ _ h]; rfl
theorem Ab.below {w w' : World} {b : Nat} {d n m : Int} (h : Ab w b d n m) (hb : Below w.heap.size w w') : Ab w' b d n m := by
  unfold Ab; rw [hb.block b (Array.getElem?_eq_some_iff.1 h).1]; exact h
theorem Ab.alloc {w : World} {b : Nat} {d n m : Int} (h : Ab w b d n m) (o : Obj) : Ab (w.alloc o) b d n m := h.below ((Below.refl _ w).alloc (Nat.le_refl _) o)
theorem Ab.new (w : World) (d n m : Int) : Ab (w.alloc (.cells #[.int .u8 d, .int .u64 n, .int .i64 m] 39)) w.heap.size d n m := heap_alloc_new w _
theorem Ab.drew {w : World} {b : Nat} {d n m : Int} (h : Ab w b d n m) : Ab w.drew b d n m := h
theorem Ab.grown {w w' : World} {p b : Nat} {d n m : Int} (h : Ab w p d n m) (hg : w.grownBy w' (some b)) (hne : p ≠ b) : Ab w' p d n m := by
  unfold Ab; rw [hg.block p (Array.getElem?_eq_some_iff.1 h).1 (by simpa using hne)]; exact h

set_option maxRecDepth 100000 in
set_option maxHeartbeats 4000000 in
theorem asked_num (b : Nat) (s : St) (x : As) (w : World) (h : RS w b s) (h63 : (s.l.length : Int) ≤ 281474976710656) (hd : x.d = 0) :
    Calls Try.prog 15 #[.pointer (some ⟨b, 0, none⟩), refV s, .agg #[.int .u8 x.d, .int .u64 x.n, .int .i64 x.m]] w fun r w' => r = .returned (.tuple #[.bool true, refV s.num.2]) ∧ Q w w' b s.num.2 := by
  have hN := fun w1 => refRNum_any s w1 (by omega)
  have hC := fun w1 (h : RS w1 b s) => num_any b s w1 h (by omega)
  have hs : ∃ S E, refV s = .agg #[.string S, .int .i64 E] := ⟨_, _, rfl⟩
  obtain ⟨S, E, hs⟩ := hs
  rw [hs] at hN ⊢
  have hs2 : ∃ S2 E2, refV s.num.2 = .agg #[.string S2, .int .i64 E2] := ⟨_, _, rfl⟩
  obtain ⟨S2, E2, hs2⟩ := hs2
  rw [hs2] at hN ⊢
  clear hs hs2 h63
  generalize s.num = r0 at hN hC ⊢
  obtain ⟨q, s2⟩ := r0
  simp only at hN hC ⊢
  rw [hd]
  have HN := Lib.hid hN
  have HC := Lib.hid hC
  have hQ := Q.start h
  have hlt := h.lt
  clear hN hC h hd
  go_enter Try.func15, Try.ntmps15
  go_wp2_with fail
  refine (HN.out _).mono ?_
  rintro r w1 ⟨rfl, b1⟩
  have hQ1 := (((hQ.alloc (.cells #[.string S, .int .i64 E] 35)).alloc (.cells #[.int .u8 0, .int .u64 x.n, .int .i64 x.m] 39)).alloc (.cells #[.string ⟨#[]⟩, .int .i64 0] 35)).below b1
  have hT := (Rf.new ((w.alloc (.cells #[.string S, .int .i64 E] 35)).alloc (.cells #[.int .u8 0, .int .u64 x.n, .int .i64 x.m] 39)) ⟨#[]⟩ 0).below b1
  have hA := ((Ab.new (w.alloc (.cells #[.string S, .int .i64 E] 35)) 0 x.n x.m).alloc (.cells #[.string ⟨#[]⟩, .int .i64 0] 35)).below b1
  rw [World.size_alloc] at hA
  rw [World.size_alloc, World.size_alloc] at hT
  have hsz : w.heap.size + 1 + 1 < w1.heap.size := hT.later.lt
  clear b1 hQ
  have hQ2 := (hQ1.alloc (.cells #[.string S2, .int .i64 E2] 35)).drew
  have hT2 := (hT.alloc (.cells #[.string S2, .int .i64 E2] 35)).drew
  have hU2 := (Rf.new w1 S2 E2).drew
  have hA2 := (hA.alloc (.cells #[.string S2, .int .i64 E2] 35)).drew
  have u0 := hU2.c0
  have u1 := hU2.c1
  have y1 := hA2.c1
  have y2 := hA2.c2
  obtain ⟨t1, t2, t3, t4, -, -, -, -, -, -, -, -, -⟩ := hT2.later
  have n1 : w.heap.size + 1 + 1 ≠ b := by omega
  have n2 : w1.heap.size ≠ b := by omega
  have n3 : w.heap.size + 1 ≠ b := by omega
  go_wp2_with fail
  go_region_with (first | (go_at_call 21; refine (HC.out _ hQ2.r).mono ?_; rintro r w3 ⟨rfl, r3, g3⟩; have hQ3 := hQ2.call r3 g3; have hT3 := hT2.grown g3 n1; have hU3 := hU2.grown g3 n2; have hA3 := hA2.grown g3 n3; have y31 := hA3.c1; have y32 := hA3.c2; have u30 := hU3.c0; have u31 := hU3.c1; have v1 := hT3.c0; have v2 := hT3.c1; have v3 := hT3.fr 0; have v4 := hT3.fr 1))
  all_goals go_wp2_with fail
  all_goals
    refine bodyPost_ret (v := .tuple #[.bool true, .agg #[.string S2, .int .i64 E2]]) (by simp [results, Try.results15, go_sem, v1, v2]) rfl ⟨rfl, ?_⟩
    exact (hQ3.set (by omega) _).set (by omega) _

set_option maxRecDepth 100000 in
set_option maxHeartbeats 4000000 in
theorem asked_byte (b : Nat) (s : St) (x : As) (w : World) (h : RS w b s) (h63 : (s.l.length : Int) ≤ 281474976710656) (hd : x.d = 1) :
    Calls Try.prog 15 #[.pointer (some ⟨b, 0, none⟩), refV s, .agg #[.int .u8 x.d, .int .u64 x.n, .int .i64 x.m]] w fun r w' => r = .returned (.tuple #[.bool true, refV s.byte.2]) ∧ Q w w' b s.byte.2 := by
  have hN := fun w1 => refByte_any s w1 (by omega)
  have hC := fun w1 (h : RS w1 b s) => byte_any b s w1 h (by omega)
  have hs : ∃ S E, refV s = .agg #[.string S, .int .i64 E] := ⟨_, _, rfl⟩
  obtain ⟨S, E, hs⟩ := hs
  rw [hs] at hN ⊢
  have hs2 : ∃ S2 E2, refV s.byte.2 = .agg #[.string S2, .int .i64 E2] := ⟨_, _, rfl⟩
  obtain ⟨S2, E2, hs2⟩ := hs2
  rw [hs2] at hN ⊢
  clear hs hs2 h63
  generalize s.byte = r0 at hN hC ⊢
  obtain ⟨q, s2⟩ := r0
  simp only at hN hC ⊢
  rw [hd]
  have HN := Lib.hid hN
  have HC := Lib.hid hC
  have hQ := Q.start h
  have hlt := h.lt
  clear hN hC h hd
  go_enter Try.func15, Try.ntmps15
  go_wp2_with fail
  refine (HN.out _).mono ?_
  rintro r w1 ⟨rfl, b1⟩
  have hQ1 := (((hQ.alloc (.cells #[.string S, .int .i64 E] 35)).alloc (.cells #[.int .u8 1, .int .u64 x.n, .int .i64 x.m] 39)).alloc (.cells #[.string ⟨#[]⟩, .int .i64 0] 35)).below b1
  have hT := (Rf.new ((w.alloc (.cells #[.string S, .int .i64 E] 35)).alloc (.cells #[.int .u8 1, .int .u64 x.n, .int .i64 x.m] 39)) ⟨#[]⟩ 0).below b1
  have hA := ((Ab.new (w.alloc (.cells #[.string S, .int .i64 E] 35)) 1 x.n x.m).alloc (.cells #[.string ⟨#[]⟩, .int .i64 0] 35)).below b1
  rw [World.size_alloc] at hA
  rw [World.size_alloc, World.size_alloc] at hT
  have hsz : w.heap.size + 1 + 1 < w1.heap.size := hT.later.lt
  clear b1 hQ
  have hQ2 := (hQ1.alloc (.cells #[.string S2, .int .i64 E2] 35)).drew
  have hT2 := (hT.alloc (.cells #[.string S2, .int .i64 E2] 35)).drew
  have hU2 := (Rf.new w1 S2 E2).drew
  have hA2 := (hA.alloc (.cells #[.string S2, .int .i64 E2] 35)).drew
  have u0 := hU2.c0
  have u1 := hU2.c1
  have y1 := hA2.c1
  have y2 := hA2.c2
  obtain ⟨t1, t2, t3, t4, -, -, -, -, -, -, -, -, -⟩ := hT2.later
  have n1 : w.heap.size + 1 + 1 ≠ b := by omega
  have n2 : w1.heap.size ≠ b := by omega
  have n3 : w.heap.size + 1 ≠ b := by omega
  go_wp2_with fail
  go_region_with (first | (go_at_call 24; refine (HC.out _ hQ2.r).mono ?_; rintro r w3 ⟨rfl, r3, g3⟩; have hQ3 := hQ2.call r3 g3; have hT3 := hT2.grown g3 n1; have hU3 := hU2.grown g3 n2; have hA3 := hA2.grown g3 n3; have y31 := hA3.c1; have y32 := hA3.c2; have u30 := hU3.c0; have u31 := hU3.c1; have v1 := hT3.c0; have v2 := hT3.c1; have v3 := hT3.fr 0; have v4 := hT3.fr 1))
  all_goals go_wp2_with fail
  all_goals
    refine bodyPost_ret (v := .tuple #[.bool true, .agg #[.string S2, .int .i64 E2]]) (by simp [results, Try.results15, go_sem, v1, v2]) rfl ⟨rfl, ?_⟩
    exact (hQ3.set (by omega) _).set (by omega) _

set_option maxRecDepth 100000 in
set_option maxHeartbeats 4000000 in
theorem asked_str (b : Nat) (s : St) (x : As) (w : World) (h : RS w b s) (h63 : (s.l.length : Int) ≤ 281474976710656) (hd : x.d = 2) (hm0 : -9223372036854775808 ≤ x.m) (hm1 : x.m ≤ 9223372036854775807) :
    Calls Try.prog 15 #[.pointer (some ⟨b, 0, none⟩), refV s, .agg #[.int .u8 x.d, .int .u64 x.n, .int .i64 x.m]] w fun r w' => r = .returned (.tuple #[.bool true, refV (s.str x.m).2]) ∧ Q w w' b (s.str x.m).2 := by
  have hN := fun w1 => refRStr_any s x.m w1 h63 hm0 hm1
  have hC := fun w1 (h : RS w1 b s) => str_any b s x.m w1 h (by omega) hm0 hm1
  have hs : ∃ S E, refV s = .agg #[.string S, .int .i64 E] := ⟨_, _, rfl⟩
  obtain ⟨S, E, hs⟩ := hs
  rw [hs] at hN ⊢
  have hs2 : ∃ S2 E2, refV (s.str x.m).2 = .agg #[.string S2, .int .i64 E2] := ⟨_, _, rfl⟩
  obtain ⟨S2, E2, hs2⟩ := hs2
  rw [hs2] at hN ⊢
  clear hs hs2 h63
  generalize s.str x.m = r0 at hN hC ⊢
  obtain ⟨q, s2⟩ := r0
  simp only at hN hC ⊢
  rw [hd]
  have HN := Lib.hid hN
  have HC := Lib.hid hC
  have hQ := Q.start h
  have hlt := h.lt
  clear hN hC h hd
  go_enter Try.func15, Try.ntmps15
  go_wp2_with fail
  refine (HN.out _).mono ?_
  rintro r w1 ⟨rfl, b1⟩
  have hQ1 := (((hQ.alloc (.cells #[.string S, .int .i64 E] 35)).alloc (.cells #[.int .u8 2, .int .u64 x.n, .int .i64 x.m] 39)).alloc (.cells #[.string ⟨#[]⟩, .int .i64 0] 35)).below b1
  have hT := (Rf.new ((w.alloc (.cells #[.string S, .int .i64 E] 35)).alloc (.cells #[.int .u8 2, .int .u64 x.n, .int .i64 x.m] 39)) ⟨#[]⟩ 0).below b1
  have hA := ((Ab.new (w.alloc (.cells #[.string S, .int .i64 E] 35)) 2 x.n x.m).alloc (.cells #[.string ⟨#[]⟩, .int .i64 0] 35)).below b1
  rw [World.size_alloc] at hA
  rw [World.size_alloc, World.size_alloc] at hT
  have hsz : w.heap.size + 1 + 1 < w1.heap.size := hT.later.lt
  clear b1 hQ
  have hQ2 := (hQ1.alloc (.cells #[.string S2, .int .i64 E2] 35)).drew
  have hT2 := (hT.alloc (.cells #[.string S2, .int .i64 E2] 35)).drew
  have hU2 := (Rf.new w1 S2 E2).drew
  have hA2 := (hA.alloc (.cells #[.string S2, .int .i64 E2] 35)).drew
  have u0 := hU2.c0
  have u1 := hU2.c1
  have y1 := hA2.c1
  have y2 := hA2.c2
  obtain ⟨t1, t2, t3, t4, -, -, -, -, -, -, -, -, -⟩ := hT2.later
  have n1 : w.heap.size + 1 + 1 ≠ b := by omega
  have n2 : w1.heap.size ≠ b := by omega
  have n3 : w.heap.size + 1 ≠ b := by omega
  go_wp2_with fail
  go_region_with (first | (go_at_call 20; refine (HC.out _ hQ2.r).mono ?_; rintro r w3 ⟨rfl, r3, g3⟩; have hQ3 := hQ2.call r3 g3; have hT3 := hT2.grown g3 n1; have hU3 := hU2.grown g3 n2; have hA3 := hA2.grown g3 n3; have y31 := hA3.c1; have y32 := hA3.c2; have u30 := hU3.c0; have u31 := hU3.c1; have v1 := hT3.c0; have v2 := hT3.c1; have v3 := hT3.fr 0; have v4 := hT3.fr 1))
  all_goals go_wp2_with fail
  all_goals
    refine bodyPost_ret (v := .tuple #[.bool true, .agg #[.string S2, .int .i64 E2]]) (by simp [results, Try.results15, go_sem, v1, v2]) rfl ⟨rfl, ?_⟩
    exact (hQ3.set (by omega) _).set (by omega) _

set_option maxRecDepth 100000 in
set_option maxHeartbeats 4000000 in
theorem asked_below (b : Nat) (s : St) (x : As) (w : World) (h : RS w b s) (h63 : (s.l.length : Int) ≤ 281474976710656) (hd : x.d = 3) (hn0 : 0 ≤ x.n) (hn1 : x.n ≤ 18446744073709551615) :
    Calls Try.prog 15 #[.pointer (some ⟨b, 0, none⟩), refV s, .agg #[.int .u8 x.d, .int .u64 x.n, .int .i64 x.m]] w fun r w' => r = .returned (.tuple #[.bool true, refV (s.below x.n.toNat).2]) ∧ Q w w' b (s.below x.n.toNat).2 := by
  have hN := fun w1 => refBelow_any s x.n.toNat w1 (by omega) (by omega)
  have hC := fun w1 (h : RS w1 b s) => belowM_any b s x.n w1 h (by omega) hn0
  have hxn : ((x.n.toNat : Nat) : Int) = x.n := Int.toNat_of_nonneg hn0
  rw [hxn] at hN
  clear hxn
  have hs : ∃ S E, refV s = .agg #[.string S, .int .i64 E] := ⟨_, _, rfl⟩
  obtain ⟨S, E, hs⟩ := hs
  rw [hs] at hN ⊢
  have hs2 : ∃ S2 E2, refV (s.below x.n.toNat).2 = .agg #[.string S2, .int .i64 E2] := ⟨_, _, rfl⟩
  obtain ⟨S2, E2, hs2⟩ := hs2
  rw [hs2] at hN ⊢
  clear hs hs2 h63
  generalize s.below x.n.toNat = r0 at hN hC ⊢
  obtain ⟨q, s2⟩ := r0
  simp only at hN hC ⊢
  rw [hd]
  have HN := Lib.hid hN
  have HC := Lib.hid hC
  have hQ := Q.start h
  have hlt := h.lt
  clear hN hC h hd
  go_enter Try.func15, Try.ntmps15
  go_wp2_with fail
  refine (HN.out _).mono ?_
  rintro r w1 ⟨rfl, b1⟩
  have hQ1 := (((hQ.alloc (.cells #[.string S, .int .i64 E] 35)).alloc (.cells #[.int .u8 3, .int .u64 x.n, .int .i64 x.m] 39)).alloc (.cells #[.string ⟨#[]⟩, .int .i64 0] 35)).below b1
  have hT := (Rf.new ((w.alloc (.cells #[.string S, .int .i64 E] 35)).alloc (.cells #[.int .u8 3, .int .u64 x.n, .int .i64 x.m] 39)) ⟨#[]⟩ 0).below b1
  have hA := ((Ab.new (w.alloc (.cells #[.string S, .int .i64 E] 35)) 3 x.n x.m).alloc (.cells #[.string ⟨#[]⟩, .int .i64 0] 35)).below b1
  rw [World.size_alloc] at hA
  rw [World.size_alloc, World.size_alloc] at hT
  have hsz : w.heap.size + 1 + 1 < w1.heap.size := hT.later.lt
  clear b1 hQ
  have hQ2 := (hQ1.alloc (.cells #[.string S2, .int .i64 E2] 35)).drew
  have hT2 := (hT.alloc (.cells #[.string S2, .int .i64 E2] 35)).drew
  have hU2 := (Rf.new w1 S2 E2).drew
  have hA2 := (hA.alloc (.cells #[.string S2, .int .i64 E2] 35)).drew
  have u0 := hU2.c0
  have u1 := hU2.c1
  have y1 := hA2.c1
  have y2 := hA2.c2
  obtain ⟨t1, t2, t3, t4, -, -, -, -, -, -, -, -, -⟩ := hT2.later
  have n1 : w.heap.size + 1 + 1 ≠ b := by omega
  have n2 : w1.heap.size ≠ b := by omega
  have n3 : w.heap.size + 1 ≠ b := by omega
  go_wp2_with fail
  go_region_with (first | (go_at_call 22; refine (HC.out _ hQ2.r).mono ?_; rintro r w3 ⟨rfl, r3, g3⟩; have hQ3 := hQ2.call r3 g3; have hT3 := hT2.grown g3 n1; have hU3 := hU2.grown g3 n2; have hA3 := hA2.grown g3 n3; have y31 := hA3.c1; have y32 := hA3.c2; have u30 := hU3.c0; have u31 := hU3.c1; have v1 := hT3.c0; have v2 := hT3.c1; have v3 := hT3.fr 0; have v4 := hT3.fr 1))
  all_goals go_wp2_with fail
  all_goals
    refine bodyPost_ret (v := .tuple #[.bool true, .agg #[.string S2, .int .i64 E2]]) (by simp [results, Try.results15, go_sem, v1, v2]) rfl ⟨rfl, ?_⟩
    exact (hQ3.set (by omega) _).set (by omega) _

set_option maxRecDepth 100000 in
set_option maxHeartbeats 4000000 in
theorem asked_bad (b : Nat) (s : St) (x : As) (w : World) (h : RS w b s) (hd : x.d = 4) :
    Calls Try.prog 15 #[.pointer (some ⟨b, 0, none⟩), refV s, .agg #[.int .u8 x.d, .int .u64 x.n, .int .i64 x.m]] w fun r w' => r = .returned (.tuple #[.bool true, refV (s.fail 4)]) ∧ Q w w' b (s.fail 4) := by
  have hN := fun w1 => refBad_any s w1
  have hC := fun w1 (h : RS w1 b s) => bad_st b s w1 h
  have hs : ∃ S E, refV s = .agg #[.string S, .int .i64 E] := ⟨_, _, rfl⟩
  obtain ⟨S, E, hs⟩ := hs
  rw [hs] at hN ⊢
  have hs2 : ∃ S2 E2, refV (s.fail 4) = .agg #[.string S2, .int .i64 E2] := ⟨_, _, rfl⟩
  obtain ⟨S2, E2, hs2⟩ := hs2
  rw [hs2] at hN ⊢
  clear hs hs2
  generalize s.fail 4 = s2 at hN hC ⊢
  rw [hd]
  have HN := Lib.hid hN
  have HC := Lib.hid hC
  have hlt := h.lt
  have hQ1 := (((Q.start h).alloc (.cells #[.string S, .int .i64 E] 35)).alloc (.cells #[.int .u8 4, .int .u64 x.n, .int .i64 x.m] 39)).alloc (.cells #[.string ⟨#[]⟩, .int .i64 0] 35)
  have hT := Rf.new ((w.alloc (.cells #[.string S, .int .i64 E] 35)).alloc (.cells #[.int .u8 4, .int .u64 x.n, .int .i64 x.m] 39)) ⟨#[]⟩ 0
  have hU := ((Rf.new w S E).alloc (.cells #[.int .u8 4, .int .u64 x.n, .int .i64 x.m] 39)).alloc (.cells #[.string ⟨#[]⟩, .int .i64 0] 35)
  rw [World.size_alloc, World.size_alloc] at hT
  have n1 : w.heap.size + 1 + 1 ≠ b := by omega
  have n2 : w.heap.size ≠ b := by omega
  clear hN hC h hd
  go_enter Try.func15, Try.ntmps15
  go_wp2_with fail
  refine (HC.out _ hQ1.r).mono ?_
  rintro r w1 ⟨rfl, r1, g1⟩
  have hQ2 := hQ1.call r1 g1
  have hT2 := hT.grown g1 n1
  have hU2 := hU.grown g1 n2
  have u0 := hU2.c0
  have u1 := hU2.c1
  clear hQ1 hT hU g1 r1
  go_wp2_with fail
  refine (HN.out _).mono ?_
  rintro r w2 ⟨rfl, b2⟩
  have hQ3 := hQ2.below b2
  obtain ⟨v1, v2, v3, v4, -, -, -, -, -, -, -, -, -⟩ := (hT2.below b2).later
  clear hQ2 hT2 hU2 b2
  go_wp2_with fail
  refine bodyPost_ret (v := .tuple #[.bool true, .agg #[.string S2, .int .i64 E2]]) (by simp [results, Try.results15, go_sem, v1, v2]) rfl ⟨rfl, ?_⟩
  exact (hQ3.set (by omega) _).set (by omega) _

set_option maxRecDepth 100000 in
set_option maxHeartbeats 4000000 in
theorem asked_end (b : Nat) (s : St) (x : As) (w : World) (h : RS w b s) (h63 : (s.l.length : Int) ≤ 281474976710656) (hd0 : 4 < x.d) (hd1 : x.d ≤ 255) :
    Calls Try.prog 15 #[.pointer (some ⟨b, 0, none⟩), refV s, .agg #[.int .u8 x.d, .int .u64 x.n, .int .i64 x.m]] w fun r w' => r = .returned (.tuple #[.bool true, refV s.fin]) ∧ Q w w' b s.fin := by
  have hN := fun w1 => refEnd_any s w1 (by omega)
  have hC := fun w1 (h : RS w1 b s) => end_st b s w1 h
  have hs : ∃ S E, refV s = .agg #[.string S, .int .i64 E] := ⟨_, _, rfl⟩
  obtain ⟨S, E, hs⟩ := hs
  rw [hs] at hN ⊢
  have hs2 : ∃ S2, refV s.fin = .agg #[.string S2, .int .i64 s.fin.e] := ⟨_, rfl⟩
  obtain ⟨S2, hs2⟩ := hs2
  rw [hs2] at hN ⊢
  clear hs hs2 h63
  generalize s.fin = s2 at hN hC ⊢
  obtain ⟨d, xn, xm⟩ := x
  simp only at hd0 hd1 ⊢
  have e0 : (d == 0) = false := by simp; omega
  have e1 : (d == 1) = false := by simp; omega
  have e2 : (d == 2) = false := by simp; omega
  have e3 : (d == 3) = false := by simp; omega
  have e4 : (d == 4) = false := by simp; omega
  have HN := Lib.hid hN
  have HC := Lib.hid hC
  have hQ := Q.start h
  have hlt := h.lt
  clear hN hC h
  go_enter Try.func15, Try.ntmps15
  go_wp2_with fail
  refine (HN.out _).mono ?_
  rintro r w1 ⟨rfl, b1⟩
  have hQ1 := (((hQ.alloc (.cells #[.string S, .int .i64 E] 35)).alloc (.cells #[.int .u8 d, .int .u64 xn, .int .i64 xm] 39)).alloc (.cells #[.string ⟨#[]⟩, .int .i64 0] 35)).below b1
  have hT := (Rf.new ((w.alloc (.cells #[.string S, .int .i64 E] 35)).alloc (.cells #[.int .u8 d, .int .u64 xn, .int .i64 xm] 39)) ⟨#[]⟩ 0).below b1
  rw [World.size_alloc, World.size_alloc] at hT
  have hsz : w.heap.size + 1 + 1 < w1.heap.size := hT.later.lt
  clear b1 hQ
  have hQ2 := (hQ1.alloc (.cells #[.string S2, .int .i64 s2.e] 35)).drew
  have hT2 := (hT.alloc (.cells #[.string S2, .int .i64 s2.e] 35)).drew
  have hU2 := (Rf.new w1 S2 s2.e).drew
  have u0 := hU2.c0
  have u1 := hU2.c1
  obtain ⟨t1, t2, t3, t4, -, -, -, -, -, -, -, -, -⟩ := hT2.later
  have n1 : w.heap.size + 1 + 1 ≠ b := by omega
  have n2 : w1.heap.size ≠ b := by omega
  go_wp2_with fail
  go_region_with (first | (go_at_call 18; refine (HC.out _ hQ2.r).mono ?_; rintro r w3 ⟨rfl, r3, g3⟩; have hQ3 := hQ2.call r3 g3; have hT3 := hT2.grown g3 n1; have hU3 := hU2.grown g3 n2; have u30 := hU3.c0; have u31 := hU3.c1; have v1 := hT3.c0; have v2 := hT3.c1; have v3 := hT3.fr 0; have v4 := hT3.fr 1))
  all_goals go_wp2_with fail
  all_goals
    refine bodyPost_ret (v := .tuple #[.bool true, .agg #[.string S2, .int .i64 s2.e]]) (by simp [results, Try.results15, go_sem, v1, v2]) rfl ⟨rfl, ?_⟩
    exact (hQ3.set (by omega) _).set (by omega) _

theorem asked_any (b : Nat) (s : St) (x : As) (w : World) (h : RS w b s) (h63 : (s.l.length : Int) ≤ 281474976710656) (hd0 : 0 ≤ x.d) (hd1 : x.d ≤ 255) (hn0 : 0 ≤ x.n) (hn1 : x.n ≤ 18446744073709551615) (hm0 : -9223372036854775808 ≤ x.m) (hm1 : x.m ≤ 9223372036854775807) :
    Calls Try.prog 15 #[.pointer (some ⟨b, 0, none⟩), refV s, .agg #[.int .u8 x.d, .int .u64 x.n, .int .i64 x.m]] w fun r w' => r = .returned (.tuple #[.bool true, refV (ask s x)]) ∧ Q w w' b (ask s x) := by
  unfold ask
  by_cases h0 : x.d = 0
  · rw [if_pos h0]; exact asked_num b s x w h h63 h0
  rw [if_neg h0]
  by_cases h1 : x.d = 1
  · rw [if_pos h1]; exact asked_byte b s x w h h63 h1
  rw [if_neg h1]
  by_cases h2 : x.d = 2
  · rw [if_pos h2]; exact asked_str b s x w h h63 h2 hm0 hm1
  rw [if_neg h2]
  by_cases h3 : x.d = 3
  · rw [if_pos h3]; exact asked_below b s x w h h63 h3 hn0 hn1
  rw [if_neg h3]
  by_cases h4 : x.d = 4
  · rw [if_pos h4]; exact asked_bad b s x w h h4
  rw [if_neg h4]
  exact asked_end b s x w h h63 (by omega) hd1

end Go.Proofs.Ytmlljdfeppgcaaa
