/-
  A disk on which a bit has turned: what stays of it, and how it is opened.
-/
import Derived.Test.YtjidadolfpjdeaaGreatDoorLgLasts
import Derived.Test.YtjidadolfpjdeaaGreatDoorLgKnown
namespace Go.Proofs.YtjidadolfpjdeaaGreatDoor
open Go.RowKit
set_option linter.unusedVariables false
variable {G : (Nat → Prop) → World → Addr → Nat → PD → Prop}

/-- Insides and sums, in bytes. -/
def bsum (ls : List Rec) : Nat := (ls.map fun x => 8 + x.length).sum
theorem bsum_take {ls : List Rec} {m : Nat} (h : m < ls.length) : bsum (ls.take (m + 1)) = bsum (ls.take m) + (8 + ls[m].length) := by
  unfold bsum
  rw [List.take_succ_eq_append_getElem h, List.map_append, List.sum_append]
  simp
theorem bsum_take_le (ls : List Rec) (m : Nat) : bsum (ls.take m) ≤ bsum ls := by
  conv => rhs; rw [← List.take_append_drop m ls]
  unfold bsum
  rw [List.map_append, List.sum_append]
  omega
theorem bsum_small : ∀ {ls : List Rec}, (∀ x ∈ ls, x.length ≤ 200) → bsum ls ≤ 208 * ls.length
  | [], _ => by simp [bsum]
  | x :: r, h => by
    have h1 := h x (by simp)
    have h2 := bsum_small (ls := r) (fun y hy => h y (by simp [hy]))
    unfold bsum at h2 ⊢
    rw [List.map_cons, List.sum_cons, List.length_cons]
    omega

theorem TornSt.log {d : PD} {R : List Rec} {M : Nat} (h : TornSt d R R.length M) : LogSt d R R.length M := by
  rcases h with h | ⟨first, cl, la, sy, n, t, rfl, e3, e4⟩
  · exact .inl h
  · rw [List.length_append] at e3
    have hsy : sy = la.length := by have := t.sle; omega
    have hn : n = sizes la := by
      have h1 := t.syn
      have h2 := t.le
      rw [hsy, List.take_length] at h1
      omega
    subst hn
    exact .inr ⟨first, cl, la, sy, t, rfl, by rw [List.length_append]; exact e3, e4⟩

/-- What a turned bit leaves. -/
def shape (f : PF) : List UInt8 × Nat × Nat := (f.name, f.synced, f.bytes.length)
theorem turnF_shape (g : UInt8 → UInt8) : ∀ (l : List PF) (a : Nat) (l' : List PF), turnF a g l = some l' → l'.map shape = l.map shape
  | [], a, l', h => by cases h
  | f :: r, a, l', h => by
    rw [turnF] at h
    by_cases hlt : a < f.bytes.length
    · rw [if_pos hlt] at h
      cases h
      simp [shape]
    · rw [if_neg hlt] at h
      cases ht : turnF (a - f.bytes.length) g r with
      | none => rw [ht] at h; cases h
      | some r' =>
        rw [ht] at h
        cases h
        rw [List.map_cons, List.map_cons, turnF_shape g r _ r' ht]
theorem shape_tot : ∀ {l l' : List PF}, l'.map shape = l.map shape → totF l' = totF l
  | [], [], _ => rfl
  | f :: r, f' :: r', h => by
    rw [List.map_cons, List.map_cons, List.cons.injEq] at h
    rw [totF_cons, totF_cons, shape_tot h.2]
    have := congrArg (fun x => x.2.2) h.1
    simp only [shape] at this
    omega
  | [], _ :: _, h => by cases h
  | _ :: _, [], h => by cases h
theorem shape_sane {d d' : PD} (h : Sane d) (hs : d'.files.map shape = d.files.map shape) (hf : d'.fuse = d.fuse) (hr : d'.room = d.room) : Sane d' := by
  have hl : d'.files.length = d.files.length := by have := congrArg List.length hs; simpa using this
  have hm : ∀ f ∈ d'.files, ∃ g ∈ d.files, shape f = shape g := fun f hfm => by
    have : shape f ∈ d.files.map shape := by rw [← hs]; exact List.mem_map_of_mem hfm
    obtain ⟨g, hg, he⟩ := List.mem_map.1 this
    exact ⟨g, hg, he.symm⟩
  refine ⟨by rw [hl]; exact h.few, fun f hfm => ?_, fun f hfm => ?_, by rw [hf]; exact h.fuse0, by rw [hf]; exact h.fuse1, by rw [hr]; exact h.room0, by rw [hr, shape_tot hs]; exact h.room1⟩
  · obtain ⟨g, hg, he⟩ := hm f hfm
    have := congrArg (fun x => x.1) he
    simp only [shape] at this
    rw [this]; exact h.names g hg
  · obtain ⟨g, hg, he⟩ := hm f hfm
    have h1 := congrArg (fun x => x.2.1) he
    have h2 := congrArg (fun x => x.2.2) he
    simp only [shape] at h1 h2
    rw [h1, h2]; exact h.synced g hg

/-- A disk whose log is spoilt. -/
structure Spoilt (K : Nat → Prop) (w : World) (p : Nat) (d : PD) : Prop where
  disk : DkOff K w p d
  sane : Sane d
  alive : d.dead = false
  bad : openL d = (d, [], 10)

theorem spoilt_of {d : PD} (hd : d.dead = false) (h : openGo none (segsL d.files) = none) : openL d = (d, [], 10) := by
  unfold openL
  rw [if_neg (by simp [hd]), h]

/-- A bit turned on a disk without power. -/
theorem Dn.turn {K : Nat → Prop} {w : World} {p : Nat} {d : PD} {R : List Rec} {M : Nat} (h : Dn K w p d R R.length M true) (hR : Small R) (hM : M ≤ 900) {i q r : Nat} (hi : i < R.length) (hq : q < 8 + R[i].length) (hr : r < 8) (hsz : sizes R ≤ 4194304) :
    Calls Tryz.prog 21 #[.pointer (some ⟨p, 0, none⟩), .int .i64 (8 * (sizes (R.take i) + (q + 1)) + r : Nat)] w fun e w' => e = .returned (.int .i64 0) ∧ Kept K w w' ∧ ∃ d', DkOff K w' p d' ∧ Sane d'.start ∧ openGo none (segsL d'.files) = none := by
  have hne : R ≠ [] := by rintro rfl; simp at hi
  obtain ⟨first, S, f0, f1, f2, f3, f4, f5⟩ := h.st.log.whole hne
  have hs := h.sane hM hsz
  subst f3
  obtain ⟨l, l1, l2⟩ := bit_st f0 f1 hR hi hq (bitX r) (bitX_ne r hr)
  have hdead := h.isDead
  have hturn : d.turn ((8 * (sizes (S.flatten.take i) + (q + 1)) + r : Nat) : Int) = ({ d with files := l }, 0) := by
    unfold PD.turn
    rw [if_neg (by rw [hdead]; simp; omega), Int.toNat_natCast, show (8 * (sizes (S.flatten.take i) + (q + 1)) + r) / 8 = sizes (S.flatten.take i) + (q + 1) from by omega, show (8 * (sizes (S.flatten.take i) + (q + 1)) + r) % 8 = r from by omega, f2, l1]
  have htk := sizes_take_le S.flatten i
  have hlim : (8 * (sizes (S.flatten.take i) + (q + 1)) + r : Nat) ≤ 9223372036854775807 := by
    have := (hR _ (List.getElem_mem hi)).2
    omega
  have r0 := hs.room0
  have r1 := hs.room1
  have hfew := hs.few
  refine (h.disk.calls (d' := { d with files := l }) (v := .int .i64 0) fun F hF => ?_).mono ?_
  · have := turn_any hF ((8 * (sizes (S.flatten.take i) + (q + 1)) + r : Nat) : Int) (by omega) (fun f hf => by have := hs.names f hf; omega) (by omega) (by omega)
    rw [hturn] at this
    exact this
  · rintro e w' ⟨rfl, g1, g2⟩
    exact ⟨rfl, g2, _, g1, shape_sane hs (by rw [f2]; exact turnF_shape _ _ _ _ l1) rfl rfl, l2⟩

theorem DkOff.files {K : Nat → Prop} {w : World} {p : Nat} {d : PD} (h : DkOff K w p d) (hs : Sane d) :
    Calls Tryz.prog 22 #[.pointer (some ⟨p, 0, none⟩)] w fun r w' => ∃ a c, r = .returned (.slice a d.files.length c) ∧ w'.ownsRow w.heap.size 43 3 (.slice a d.files.length c) d.files.length (d.files.flatMap fileCells) ∧ Below w.heap.size w w' := by
  obtain ⟨F, h1, _, _⟩ := h
  refine (files_any h1 (by have := hs.few; omega) (fun f hf => by have := hs.names f hf; omega)).mono ?_
  rintro r w' ⟨u, rfl, ho, hb⟩
  obtain ⟨a, c, rfl⟩ := row_val ho
  exact ⟨a, c, rfl, ho, hb⟩
theorem DkOff.on {K : Nat → Prop} {w : World} {p : Nat} {d : PD} (h : DkOff K w p d) : Calls Tryz.prog 18 #[.pointer (some ⟨p, 0, none⟩)] w fun r w' => r = .returned (.int .i64 0) ∧ DkOff K w' p d.start ∧ Kept K w w' :=
  h.calls fun F hF => start_any hF

/-- The cells of a file among files. -/
theorem files_cell : ∀ (l : List PF) (j k : Nat) (hj : j < l.length) (hk : k < 3), (l.flatMap fileCells)[3 * j + k]? = (fileCells l[j])[k]?
  | [], j, k, hj, _ => by simp at hj
  | f :: r, 0, k, hj, hk => by
    rw [List.flatMap_cons, List.getElem?_append_left (by simp [fileCells]; omega)]
    simp
  | f :: r, j + 1, k, hj, hk => by
    rw [List.flatMap_cons, List.getElem?_append_right (by simp [fileCells]; omega)]
    have : 3 * (j + 1) + k - (fileCells f).length = 3 * j + k := by simp [fileCells]; omega
    rw [this, files_cell r j k (by simpa using hj) hk]
    simp

end Go.Proofs.YtjidadolfpjdeaaGreatDoor
