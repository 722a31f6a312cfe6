/-
A log's disk, all of it synced, of which a bit turns in an inside or in a sum: Open halts.
What the calls on a log answer, as the laws of layer 5 meet them: a specification over any way of keeping a log in memory.
-/
import Derived.Test.YtjidadolfpjdeaaGreatDoorMa
import Derived.Test.YtjidadolfpjdeaaGreatDoorMd
import Derived.Test.YtjidadolfpjdeaaGreatDoorLgEnv
import Derived.Test.YtjidadolfpjdeaaGreatDoorFrSame
import Derived.Test.YtjidadolfpjdeaaGreatDoorMc
import Derived.Test.YtjidadolfpjdeaaGreatDoorDkFile
import Derived.Test.YtjidadolfpjdeaaGreatDoorMb
namespace Go.Proofs.YtjidadolfpjdeaaGreatDoor
set_option linter.unusedVariables false

theorem seg_place : ∀ (S : List (List Rec)) (i : Nat), i < S.flatten.length → ∃ S1 s S2 j, S = S1 ++ s :: S2 ∧ i = S1.flatten.length + j ∧ j < s.length
  | [], i, h => by simp at h
  | s :: r, i, h => by
    by_cases hi : i < s.length
    · exact ⟨[], s, r, i, rfl, by simp, hi⟩
    · rw [List.flatten_cons, List.length_append] at h
      obtain ⟨S1, t, S2, j, h1, h2, h3⟩ := seg_place r (i - s.length) (by omega)
      exact ⟨s :: S1, t, S2, j, by rw [h1]; rfl, by rw [List.flatten_cons, List.length_append]; omega, h3⟩
theorem segFiles_mid : ∀ (n : Nat) (S1 : List (List Rec)) (s : List Rec) (S2 : List (List Rec)), segFiles n (S1 ++ s :: S2) = segFiles n S1 ++ { name := nameL (n + S1.length), bytes := rowL s, synced := sizes s } :: segFiles (n + S1.length + 1) S2
  | n, [], s, S2 => rfl
  | n, t :: S1, s, S2 => by
    rw [List.cons_append, segFiles, segFiles_mid (n + 1) S1 s S2, segFiles, List.cons_append, List.length_cons]
    rw [show n + 1 + S1.length = n + (S1.length + 1) from by omega]

theorem openGo_bad : ∀ (l : List (Nat × PF)) (prev : Option Nat), (∃ x ∈ l, goodSeg x.2 = false) → openGo prev l = none
  | [], prev, h => by obtain ⟨x, hx, _⟩ := h; cases hx
  | [(n, f)], prev, h => by
    obtain ⟨x, hx, hb⟩ := h
    rw [List.mem_singleton.1 hx] at hb
    rw [openGo, if_neg (by rintro ⟨h1, _⟩; simp only at hb; rw [hb] at h1; cases h1)]
  | (n, f) :: s :: r, prev, h => by
    obtain ⟨x, hx, hb⟩ := h
    rw [openGo]
    rcases List.mem_cons.1 hx with rfl | hx
    · rw [if_neg (by rintro ⟨h1, _⟩; simp only at hb; rw [hb] at h1; cases h1)]
    · split
      · rw [openGo_bad (s :: r) (some n) ⟨x, hx, hb⟩]; rfl
      · rfl

theorem bit_st {first : Nat} {S : List (List Rec)} (h0 : 0 < first) (hm : first + S.length ≤ 99999999) (hs : Small S.flatten) {i q : Nat} (hi : i < S.flatten.length) (hq : q < 8 + S.flatten[i].length) (g : UInt8 → UInt8) (hg : ∀ b, g b ≠ b) :
    ∃ l, turnF (sizes (S.flatten.take i) + (q + 1)) g (segFiles first S) = some l ∧ openGo none (segsL l) = none := by
  obtain ⟨S1, s, S2, j, hS, hij, hj⟩ := seg_place S i hi
  have hflat : S.flatten = S1.flatten ++ (s ++ S2.flatten) := by rw [hS, List.flatten_append, List.flatten_cons]
  have hsm : Small s := fun x hx => hs x (by rw [hflat]; simp [hx])
  have hget : S.flatten[i] = s[j] := by
    have e1 : S.flatten[i]? = s[j]? := by
      rw [hflat, List.getElem?_append_right (by omega), hij, Nat.add_sub_cancel_left, List.getElem?_append_left hj]
    rw [List.getElem?_eq_getElem hi, List.getElem?_eq_getElem hj] at e1
    exact Option.some.inj e1
  have htk : S.flatten.take i = S1.flatten ++ s.take j := by
    rw [hflat, hij, List.take_append, List.take_of_length_le (by omega), Nat.add_sub_cancel_left, List.take_append_of_le_length (by omega)]
  have hsz : sizes (S.flatten.take i) = sizes S1.flatten + sizes (s.take j) := by rw [htk, sizes_append]
  have hpos : sizes (s.take j) + (q + 1) < sizes s := by
    have h1 := sizes_take hsm hj
    have h2 := sizes_take_le s (j + 1)
    rw [hget] at hq
    omega
  have hlen : (rowL s).length = sizes s := rowL_length s
  rw [hget] at hq
  have hturn := turnF_mid g { name := nameL (first + S1.length), bytes := rowL s, synced := sizes s } (segFiles (first + S1.length + 1) S2) (segFiles first S1) (sizes (S.flatten.take i) + (q + 1)) (by rw [segFiles_tot, hsz]; omega) (by rw [segFiles_tot, hsz]; simp only; omega)
  rw [← segFiles_mid, ← hS, segFiles_tot, hsz] at hturn
  rw [hsz]
  refine ⟨_, hturn, openGo_bad _ _ ⟨(first + S1.length, turnP (sizes S1.flatten + sizes (s.take j) + (q + 1) - sizes S1.flatten) g { name := nameL (first + S1.length), bytes := rowL s, synced := sizes s }), ?_, ?_⟩⟩
  · have hnum : first + S1.length ≤ 99999999 := by rw [hS] at hm; simp at hm; omega
    rw [segsL_append, ← List.singleton_append, segsL_append]
    refine List.mem_append_right _ (List.mem_append_left _ ?_)
    unfold turnP
    rw [segsL_one (by omega) hnum]
    simp
  · have e1 : sizes S1.flatten + sizes (s.take j) + (q + 1) - sizes S1.flatten = sizes (s.take j) + (q + 1) := by omega
    rw [e1]
    have hold : (rowL s)[sizes (s.take j) + (q + 1)]? = some ((rowL s).getD (sizes (s.take j) + (q + 1)) 0) := by
      rw [List.getD_eq_getElem?_getD, List.getElem?_eq_getElem (by omega)]; rfl
    have hf := split_flip (c := g ((rowL s).getD (sizes (s.take j) + (q + 1)) 0)) hsm hj hq (by rw [hold]; intro e; exact hg _ (Option.some.inj e).symm)
    unfold goodSeg turnP
    simp only [decide_eq_false_iff_not]
    rw [List.take_of_length_le (by rw [List.length_set, hlen]; omega), hf]
    show ¬ ((5 : Int) = 0)
    decide

theorem bitX_ne (k : Nat) (hk : k < 8) (b : UInt8) : bitX k b ≠ b := by
  intro h
  have h2 := congrArg (fun x => x ^^^ b) h
  simp only [bitX] at h2
  have e1 : (b ^^^ UInt8.ofNat (2 ^ k)) ^^^ b = UInt8.ofNat (2 ^ k) := by
    rw [UInt8.xor_comm b, UInt8.xor_assoc, UInt8.xor_self, UInt8.xor_zero]
  rw [e1, UInt8.xor_self] at h2
  have h3 := congrArg UInt8.toNat h2
  match k, hk with
  | 0, _ | 1, _ | 2, _ | 3, _ | 4, _ | 5, _ | 6, _ | 7, _ => revert h3; decide

/-- A log's disk that is synced wholly. -/
theorem LogSt.whole {d : PD} {R : List Rec} {M : Nat} (h : LogSt d R R.length M) (hR : R ≠ []) : ∃ first S, 0 < first ∧ first + S.length ≤ 99999999 ∧ d.files = segFiles first S ∧ S.flatten = R ∧ (∀ s ∈ S, Fit s) ∧ S.length ≤ M + 1 := by
  rcases h with ⟨_, e, _⟩ | ⟨first, cl, la, sy, t, rfl, e3, e4⟩
  · exact absurd e hR
  · rw [List.length_append] at e3
    have hsy : sy = la.length := by have := t.sle; omega
    have hnum := t.num
    refine ⟨first, cl ++ [la], t.f0, by simp; omega, ?_, by simp, fit_snoc t.fit t.fitL, by simp; omega⟩
    rw [t.files, segFiles_snoc, hsy, List.take_length, row_all]

end Go.Proofs.YtjidadolfpjdeaaGreatDoor

namespace Go.Proofs.YtjidadolfpjdeaaGreatDoor
open Go.RowKit
set_option linter.unusedVariables false

/-- The bounds of a disk. -/
structure Sane (d : PD) : Prop where
  few : d.files.length ≤ 1000
  names : ∀ f ∈ d.files, f.name.length ≤ 24
  synced : ∀ f ∈ d.files, f.synced ≤ f.bytes.length
  fuse0 : -1 ≤ d.fuse
  fuse1 : d.fuse ≤ 9223372036854775807
  room0 : 0 ≤ d.room
  room1 : d.room + totF d.files ≤ 4194304

/-- Worlds that keep the blocks K. -/
abbrev Kept (K : Nat → Prop) (w w' : World) : Prop := Turned (fun k => ¬ K k) w w'

/-- What a call leaves of a disk in the blocks F: it is in F'. -/
structure Step (w : World) (p : Nat) (F : Nat → Prop) (d : PD) (F' : Nat → Prop) (w' : World) : Prop where
  disk : DiskOf w' p d F'
  sub : ∀ k, F' k → F k ∨ w.heap.size ≤ k
  turn : Turned F w w'

theorem Moves.step {w w' : World} {p : Nat} {F : Nat → Prop} {d : PD} (h : Moves w p F d w') : ∃ F', Step w p F d F' w' := by
  obtain ⟨F', h1, h2, h3⟩ := h
  exact ⟨F', h1, h2, h3⟩
theorem Step.trans {a b c : World} {p : Nat} {F F' F'' : Nat → Prop} {d e : PD} (h : Step a p F d F' b) (k : Step b p F' e F'' c) : Step a p F e F'' c :=
  ⟨k.disk, fun i hi => (k.sub i hi).elim (h.sub i) (fun h' => .inr (Nat.le_trans h.turn.size h')), h.turn.trans k.turn h.sub⟩
theorem Step.below {a b c : World} {p : Nat} {F F' : Nat → Prop} {d : PD} (h : Step a p F d F' b) (k : Below b.heap.size b c) : Step a p F d F' c :=
  ⟨h.disk.below k, h.sub, h.turn.trans (Turned.of_below (F := F) k) (fun _ h' => .inl h')⟩
theorem Step.kept {a b : World} {p : Nat} {F F' K : Nat → Prop} {d : PD} (h : Step a p F d F' b) (hK : ∀ k, F k → ¬ K k) : Kept K a b :=
  ⟨h.turn.os, h.turn.tape, h.turn.output, h.turn.size, fun i hi hn => h.turn.block i hi (fun hf => hn (hK i hf))⟩
theorem Step.off {a b : World} {p : Nat} {F F' K : Nat → Prop} {d : PD} (h : Step a p F d F' b) (hK : ∀ k, F k → ¬ K k) (hs : ∀ k, K k → k < a.heap.size) : ∀ k, F' k → ¬ K k := fun k hk hk2 => by
  rcases h.sub k hk with h1 | h1
  · exact hK k h1 hk2
  · have := hs k hk2; omega

theorem Kept.below {w w' : World} {n : Nat} (h : Kept (fun k => k < n) w w') (hn : n ≤ w.heap.size) : Below n w w' :=
  ⟨h.os, h.tape, h.output, h.size, fun i hi => h.block i (by omega) (fun h' => h' hi)⟩
theorem Kept.of_below {K : Nat → Prop} {w w' : World} (h : Below w.heap.size w w') : Kept K w w' := Turned.of_below h
theorem Kept.trans {K K' : Nat → Prop} {a b c : World} (h : Kept K a b) (k : Kept K' b c) (hK : ∀ i, i < a.heap.size → K i → K' i) : Kept K a c :=
  ⟨k.os.trans h.os, k.tape.trans h.tape, k.output.trans h.output, Nat.le_trans h.size k.size, fun i hi hn =>
    (k.block i (Nat.lt_of_lt_of_le hi h.size) (fun h' => h' (hK i hi (Classical.not_not.1 hn)))).trans (h.block i hi hn)⟩
theorem Kept.mono {K K' : Nat → Prop} {a b : World} (h : Kept K a b) (hK : ∀ i, K' i → K i) : Kept K' a b :=
  ⟨h.os, h.tape, h.output, h.size, fun i hi hn => h.block i hi (fun h' => hn (fun h2 => h' (hK i h2)))⟩
theorem Kept.heap {K : Nat → Prop} {a b : World} (h : Kept K a b) {k : Nat} (hk : k < a.heap.size) (hK : K k) : b.heap[k]? = a.heap[k]? := h.block k hk (fun h' => h' hK)
theorem Kept.row {K : Nat → Prop} {a b : World} (h : Kept K a b) {base : Nat} {e : TypeId} {size : Nat} {v : Value} {n : Nat} {xs : List Value} (hr : a.ownsRow base e size v n xs) (hK : ∀ k, v.ownBlock = some k → K k) : b.ownsRow base e size v n xs :=
  ownsRow_same hr (fun k hk => h.heap (hr.lt k hk).2 (hK k hk))

/-- K's blocks are there; the library's variables hold what they hold, in no block of F. -/
structure KOk (K : Nat → Prop) (w : World) (F : Nat → Prop) : Prop where
  lt : ∀ k, K k → k < w.heap.size
  env : Env w
  fv : ∀ k, F k → ¬ Vr k
instance {K : Nat → Prop} {w : World} {F : Nat → Prop} : CoeFun (KOk K w F) (fun _ => ∀ k, K k → k < w.heap.size) := ⟨KOk.lt⟩
theorem KOk.below {K F : Nat → Prop} {w w' : World} (h : KOk K w F) (hb : Below w.heap.size w w') : KOk K w' F := ⟨fun k hk => Nat.lt_of_lt_of_le (h.lt k hk) hb.size, h.env.below hb, h.fv⟩
theorem KOk.step {K F F' : Nat → Prop} {w w' : World} {p : Nat} {d : PD} (h : KOk K w F) (st : Step w p F d F' w') : KOk K w' F' :=
  ⟨fun k hk => Nat.lt_of_lt_of_le (h.lt k hk) st.turn.size, h.env.same (fun k hk => st.turn.block k (h.env.lt hk) (fun hf => h.fv k hf hk)), fun k hk hv => by
    rcases st.sub k hk with h' | h'
    · exact h.fv k h' hv
    · have := h.env.lt hv; omega⟩
/-- A disk in blocks that are not of K. -/
def DkOff (K : Nat → Prop) (w : World) (p : Nat) (d : PD) : Prop := ∃ F, DiskOf w p d F ∧ (∀ k, F k → ¬ K k) ∧ KOk K w F

theorem DkOff.below {K : Nat → Prop} {w w' : World} {p : Nat} {d : PD} (h : DkOff K w p d) (hb : Below w.heap.size w w') : DkOff K w' p d := by
  obtain ⟨F, h1, h2, h3⟩ := h
  exact ⟨F, h1.below hb, h2, h3.below hb⟩
theorem DkOff.calls {K : Nat → Prop} {w : World} {p : Nat} {d d' : PD} {fa : Nat} {args : Array Value} {v : Value} (h : DkOff K w p d)
    (hc : ∀ F, DiskOf w p d F → Calls Tryz.prog fa args w fun r w' => r = .returned v ∧ Moves w p F d' w') :
    Calls Tryz.prog fa args w fun r w' => r = .returned v ∧ DkOff K w' p d' ∧ Kept K w w' := by
  obtain ⟨F, h1, h2, h3⟩ := h
  refine (hc F h1).mono ?_
  rintro r w' ⟨rfl, hm⟩
  obtain ⟨F', hs⟩ := hm.step
  exact ⟨rfl, ⟨F', hs.disk, hs.off h2 h3, h3.step hs⟩, hs.kept h2⟩

/-- The files' lengths. -/
def lensF (d : PD) : List (List UInt8 × Nat) := d.files.map fun f => (f.name, f.bytes.length)

/-- G K w x p d: at x a log on the disk d at block p, none of their blocks in K. -/
structure LogSpec (G : (Nat → Prop) → World → Addr → Nat → PD → Prop) : Prop where
  disk : ∀ {K w x p d}, G K w x p d → DkOff K w p d
  kept : ∀ {K K' w w' x p d}, G K w x p d → w.heap.size ≤ w'.heap.size → (∀ k, k < w.heap.size → ¬ K k ∨ Vr k → w'.heap[k]? = w.heap[k]?) → (∀ k, K' k → K k ∨ w.heap.size ≤ k) → (∀ k, K' k → k < w'.heap.size) → G K' w' x p d
  moved : ∀ {K w x p d}, G K w x p d → ∃ F, DiskOf w p d F ∧ (∀ k, F k → ¬ K k) ∧ KOk K w F ∧ ∀ K' d' F' w', Step w p F d' F' w' → lensF d' = lensF d → (∀ k, K' k → K k ∨ w.heap.size ≤ k) → (∀ k, K' k → ¬ F' k ∧ k < w'.heap.size) → G K' w' x p d'
  opens : ∀ {w p d F}, DiskOf w p d F → Env w → (∀ k, F k → ¬ Vr k) → Sane d → Calls Tryz.prog 8 #[.pointer (some ⟨p, 0, none⟩)] w fun r w' => ∃ x a c F',
    r = .returned (.tuple #[.pointer x, .slice a (openL d).2.1.length c, .int .i64 (openL d).2.2]) ∧ Step w p F (openL d).1 F' w' ∧
    w'.ownsRow w.heap.size 9 1 (.slice a (openL d).2.1.length c) (openL d).2.1.length (strV (openL d).2.1) ∧ (∀ b, a = some b → ¬ F' b.block) ∧
    ((openL d).2.2 ≠ 0 → x = none) ∧ ((openL d).2.2 = 0 → ∃ y, x = some y ∧ ∀ K, (∀ k, F' k → ¬ K k) → (∀ k, K k → k < w.heap.size ∨ ∃ b, a = some b ∧ k = b.block) → (∀ k, K k → k < w'.heap.size) → G K w' y p (openL d).1)
  adds : ∀ {K w x p d r}, G K w x p d → Sane d → d.dead = false → r.length ≤ 100000 → Calls Tryz.prog 9 #[.pointer (some x), .string (B r)] w fun e w' =>
    e = .returned (.int .i64 (addL d r).2) ∧ ((addL d r).1.dead = false → G K w' x p (addL d r).1) ∧ DkOff K w' p (addL d r).1 ∧ Kept K w w'
  syncs : ∀ {K w x p d}, G K w x p d → Sane d → d.dead = false → Calls Tryz.prog 10 #[.pointer (some x)] w fun e w' =>
    e = .returned (.int .i64 (syncL d).2) ∧ G K w' x p (syncL d).1 ∧ Kept K w w'
  renews : ∀ {K w x p d a n c rs}, G K w x p d → Sane d → d.dead = false → Txt w a n rs → (0 < n → ∀ b, a = some b → K b.block) → n ≤ 1000 → (∀ r ∈ rs, r.length ≤ 1000) → Calls Tryz.prog 11 #[.pointer (some x), .slice a n c] w fun e w' =>
    e = .returned (.int .i64 (renewL d rs).2) ∧ ((renewL d rs).1.dead = false → G K w' x p (renewL d rs).1) ∧ DkOff K w' p (renewL d rs).1 ∧ Kept K w w'
  segments : ∀ {K w x p d}, G K w x p d → Sane d → Calls Tryz.prog 12 #[.pointer (some x)] w fun e w' =>
    e = .returned (.int .i64 (segsL d.files).length) ∧ G K w' x p d ∧ Kept K w w'
  open_nil : ∀ w, Calls Tryz.prog 8 #[.pointer none] w fun r w' => ∃ a c, r = .returned (.tuple #[.pointer none, .slice a 0 c, .int .i64 1]) ∧ Below w.heap.size w w'
  add_nil : ∀ w r, Calls Tryz.prog 9 #[.pointer none, .string r] w fun e w' => e = .returned (.int .i64 1) ∧ Below w.heap.size w w'
  sync_nil : ∀ w, Calls Tryz.prog 10 #[.pointer none] w fun e w' => e = .returned (.int .i64 1) ∧ Below w.heap.size w w'
  renew_nil : ∀ w a n c, Calls Tryz.prog 11 #[.pointer none, .slice a n c] w fun e w' => e = .returned (.int .i64 1) ∧ Below w.heap.size w w'
  segments_nil : ∀ w, Calls Tryz.prog 12 #[.pointer none] w fun e w' => e = .returned (.int .i64 0) ∧ Below w.heap.size w w'

theorem LogSpec.below {G : (Nat → Prop) → World → Addr → Nat → PD → Prop} (S : LogSpec G) {K w w' x p d} (h : G K w x p d) (hb : Below w.heap.size w w') : G K w' x p d := by
  obtain ⟨F, _, _, hK⟩ := S.disk h
  exact S.kept h hb.size (fun k hk _ => hb.block k hk) (fun k hk => .inl hk) (fun k hk => Nat.lt_of_lt_of_le (hK k hk) hb.size)
/-- .. with new blocks that are not the log's. -/
theorem LogSpec.more {G : (Nat → Prop) → World → Addr → Nat → PD → Prop} (S : LogSpec G) {K K' w w' x p d} (h : G K w x p d) (hb : Below w.heap.size w w') (hK : ∀ k, K' k → K k ∨ w.heap.size ≤ k) (hs : ∀ k, K' k → k < w'.heap.size) : G K' w' x p d :=
  S.kept h hb.size (fun k hk _ => hb.block k hk) hK hs

end Go.Proofs.YtjidadolfpjdeaaGreatDoor
