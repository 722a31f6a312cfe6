/-
A base's disk in its states: up (the base's file alone), down (behind an end of the power: a young file besides, or none); what Save, a crash, a turned bit and Open leave of it.
What the calls on a store answer, as the laws of layer 6 meet them: a specification over any way of keeping a base in memory; a store that is up, a disk that is down.
-/
import Derived.Test.YthpamdjgkmaleaaGreatDoorMa
import Derived.Test.YthpamdjgkmaleaaGreatDoorMn
namespace Go.Proofs.YthpamdjgkmaleaaGreatDoor
set_option linter.unusedVariables false

/-! ### a file behind others -/
theorem find_none {l : List PF} {nm : List UInt8} (h : ∀ f ∈ l, f.name ≠ nm) : l.find? (fun f => f.name = nm) = none := List.find?_eq_none.2 (fun f hf => by simpa using h f hf)
theorem find_end {l : List PF} {x : PF} (h : ∀ f ∈ l, f.name ≠ x.name) : (l ++ [x]).find? (fun f => f.name = x.name) = some x := by
  rw [List.find?_append, find_none h]
  simp
theorem set_end {l : List PF} {x : PF} (g : PF → PF) (h : ∀ f ∈ l, f.name ≠ x.name) : setF x.name g (l ++ [x]) = l ++ [g x] := by
  unfold setF
  rw [List.map_append, List.map_cons, List.map_nil, if_pos rfl]
  congr 1
  conv => rhs; rw [← List.map_id l]
  exact List.map_congr_left fun y hy => if_neg (h y hy)

structure BUp (d : PD) (n : Nat) (t : List UInt8) (f : Int) : Prop where
  files : d.files = bfiles n t
  slot : n < 2 ^ 64
  text : t.length ≤ 300
  none : n = 0 → t = []
  room : d.room = 4194304 - totF d.files
  alive : d.dead = false
  fuse : d.fuse = f
/-- A young file, or none. -/
def Late (n : Nat) (l : List PF) : Prop := l = [] ∨ ∃ m u, n < m ∧ m < 2 ^ 64 ∧ u.length ≤ 400 ∧ l = [⟨bname m, u, 0⟩]
structure BDn (d : PD) (n : Nat) (t : List UInt8) (dead : Bool) : Prop where
  files : ∃ l, d.files = bfiles n t ++ l ∧ Late n l
  slot : n < 2 ^ 64
  text : t.length ≤ 300
  none : n = 0 → t = []
  room : d.room = 4194304 - totF d.files
  isDead : d.dead = dead
  fuse : d.fuse = -1

theorem frame_le {n : Nat} {t : List UInt8} (hn : n < 2 ^ 64) (ht : t.length ≤ 300) : 1 ≤ (frameL (insideB n t)).length ∧ (frameL (insideB n t)).length ≤ 335 := by
  obtain ⟨h1, h2⟩ := inside_small hn ht
  rw [frameL_length]
  have := enc_len_le (show (insideB n t).length < 2 ^ 64 by omega)
  omega
theorem bfiles_mem {n : Nat} {t : List UInt8} {f : PF} (h : f ∈ bfiles n t) : n ≠ 0 ∧ f = bfile n t := by
  unfold bfiles at h
  by_cases h0 : n = 0
  · rw [if_pos h0] at h; cases h
  · rw [if_neg h0] at h; exact ⟨h0, by simpa using h⟩
theorem bfiles_tot {n : Nat} {t : List UInt8} (hn : n < 2 ^ 64) (ht : t.length ≤ 300) : totF (bfiles n t) ≤ 335 ∧ (bfiles n t).length ≤ 1 := by
  have := (frame_le hn ht).2
  unfold bfiles
  split
  · simp [totF]
  · simp [totF, bfile]; omega
theorem bfiles_other {n m : Nat} {t : List UInt8} (h : n < m) (hm : m < 2 ^ 64) : ∀ f ∈ bfiles n t, f.name ≠ bname m := fun f hf => by
  obtain ⟨_, rfl⟩ := bfiles_mem hf
  exact bname_ne h hm
theorem bfiles_less {n m : Nat} {t : List UInt8} (h : n < m) (hm : m < 2 ^ 64) : ∀ f ∈ bfiles n t, f.name < bname m := fun f hf => by
  obtain ⟨_, rfl⟩ := bfiles_mem hf
  exact bname_lt h hm
theorem bfiles_pos {n : Nat} (h : n ≠ 0) (t : List UInt8) : bfiles n t = [bfile n t] := by unfold bfiles; rw [if_neg h]

theorem BDn.sane {d : PD} {n : Nat} {t : List UInt8} {b : Bool} (h : BDn d n t b) : Sane d := by
  obtain ⟨l, hl, hlate⟩ := h.files
  obtain ⟨h1, h2⟩ := bfiles_tot h.slot h.text
  have hm : totF l ≤ 400 ∧ l.length ≤ 1 ∧ ∀ f ∈ l, f.name.length ≤ 24 ∧ f.synced ≤ f.bytes.length := by
    rcases hlate with rfl | ⟨m, u, _, _, hu, rfl⟩
    · simp [totF]
    · refine ⟨by simpa [totF] using hu, by simp, fun f hf => ?_⟩
      rw [List.mem_singleton.1 hf]
      simp [bname_length]
  have ht : totF d.files ≤ 735 := by rw [hl, totF_append]; omega
  have hmem : ∀ f ∈ d.files, f.name.length ≤ 24 ∧ f.synced ≤ f.bytes.length := fun f hf => by
    rw [hl] at hf
    rcases List.mem_append.1 hf with h' | h'
    · obtain ⟨_, rfl⟩ := bfiles_mem h'
      exact ⟨by show (bname n).length ≤ 24; rw [bname_length]; omega, Nat.le_refl _⟩
    · exact hm.2.2 f h'
  exact ⟨by rw [hl, List.length_append]; omega, fun f hf => (hmem f hf).1, fun f hf => (hmem f hf).2, by rw [h.fuse]; decide, by rw [h.fuse]; decide, by rw [h.room]; omega, by rw [h.room]; omega⟩
theorem BUp.sane {d : PD} {n : Nat} {t : List UInt8} {f : Int} (h : BUp d n t f) (h0 : -1 ≤ f) (h1 : f ≤ 9223372036854775807) : Sane d := by
  have hs := BDn.sane (d := { d with fuse := -1 }) (n := n) (t := t) (b := d.dead) ⟨⟨[], by rw [h.files, List.append_nil], .inl rfl⟩, h.slot, h.text, h.none, h.room, rfl, rfl⟩
  exact ⟨hs.few, hs.names, hs.synced, by rw [h.fuse]; exact h0, by rw [h.fuse]; exact h1, hs.room0, hs.room1⟩
theorem BUp.dn {d : PD} {n : Nat} {t : List UInt8} (h : BUp d n t (-1)) : BDn d n t false := ⟨⟨[], by rw [h.files, List.append_nil], .inl rfl⟩, h.slot, h.text, h.none, h.room, h.alive, h.fuse⟩
theorem BUp.base {d : PD} {n : Nat} {t : List UInt8} {f : Int} (h : BUp d n t f) : baseL d.files = (n, t) := by
  rw [h.files]
  exact base_files h.slot (by have := (inside_small h.slot h.text).2; omega) h.none

/-! ### Save -/
theorem save_arg {d : PD} {n m : Nat} {t u : List UInt8} {f : Int} (h : BUp d n t f) (hm : m ≤ n) : saveB d m u = (d, 2) := by
  unfold saveB
  rw [h.base, if_pos hm]
theorem save_st {d : PD} {n m : Nat} {t u : List UInt8} {f : Int} (h : BUp d n t f) (hnm : n < m) (hm : m < 2 ^ 64) (hu : u.length ≤ 300) :
    (¬ (0 ≤ f ∧ f < (frameL (insideB m u)).length) → ∃ d', saveB d m u = (d', 0) ∧ BUp d' m u (if 0 ≤ f then f - (frameL (insideB m u)).length else f)) ∧
    (∀ k : Nat, f = k → k < (frameL (insideB m u)).length → ∃ d', saveB d m u = (d', 9) ∧ BDn d' n t true) := by
  have hfr := frame_le hm hu
  have hin := inside_small hm hu
  obtain ⟨ht1, ht2⟩ := bfiles_tot h.slot h.text
  have hoth := bfiles_other (t := t) hnm hm
  have hr0 : ((frameL (insideB m u)).length : Int) ≤ d.room := by rw [h.room, h.files]; omega
  have hlim : d.find (bname m) = none → d.files.length < 1000 := fun _ => by rw [h.files]; omega
  have hfind : d.find (bname m) = none := by unfold PD.find; rw [h.files]; exact find_none hoth
  have hwith : (d.withFile (bname m)).files = bfiles n t ++ [⟨bname m, [], 0⟩] := by
    unfold PD.withFile
    rw [hfind]
    simp only [Option.isSome_none]
    rw [if_neg (by simp), h.files]
    exact ins_end _ _ (bfiles_less hnm hm)
  have hset : ∀ s : List UInt8, setF (bname m) (fun g => g.more s) (d.withFile (bname m)).files = bfiles n t ++ [⟨bname m, s, 0⟩] := fun s => by
    rw [hwith]
    have := set_end (l := bfiles n t) (x := ⟨bname m, [], 0⟩) (fun g => g.more s) hoth
    simp only at this
    rw [this]
    rfl
  have hsave : saveB d m u = thenD (d.append (bname m) (frameL (insideB m u))) fun d1 => thenD (d1.sync (bname m)) fun d2 => if n = 0 then (d2, 0) else d2.remove (bname n) := by
    unfold saveB
    rw [h.base, if_neg (by simp only; omega), if_neg (by omega)]
  refine ⟨fun hf => ?_, fun k hf hk => ?_⟩
  · have happ := app_ok (d := d) (nm := bname m) (s := frameL (insideB m u)) h.alive (bname_nil m) (by rw [bname_length]; omega) hr0 hlim (by rw [h.fuse]; exact hf)
    rw [hset, h.fuse] at happ
    have hsync : PD.sync { files := bfiles n t ++ [⟨bname m, frameL (insideB m u), 0⟩], room := d.room - (frameL (insideB m u)).length, fuse := if 0 ≤ f then f - (frameL (insideB m u)).length else f, dead := false } (bname m) =
        ({ files := bfiles n t ++ [bfile m u], room := d.room - (frameL (insideB m u)).length, fuse := if 0 ≤ f then f - (frameL (insideB m u)).length else f, dead := false }, 0) := by
      have hf1 := find_end (l := bfiles n t) (x := ⟨bname m, frameL (insideB m u), 0⟩) hoth
      have hs1 := set_end (l := bfiles n t) (x := ⟨bname m, frameL (insideB m u), 0⟩) (fun g => { g with synced := g.bytes.length }) hoth
      simp only at hf1 hs1
      unfold PD.sync PD.within PD.find
      simp only
      rw [if_neg (by simp), hf1]
      simp only
      rw [hs1]
      rfl
    by_cases h0 : n = 0
    · refine ⟨_, by rw [hsave, happ]; unfold thenD; rw [if_neg (by simp)]; simp only; rw [hsync, if_neg (by simp), if_pos h0], ⟨?_, hm, hu, fun e => absurd e (by omega), ?_, rfl, rfl⟩⟩
      · simp only
        rw [bfiles_pos (n := m) (by omega) u, show bfiles n t = [] from if_pos h0]
        rfl
      · simp only
        rw [totF_append, h.room, h.files]
        simp [totF, bfile]
        omega
    · have hrem : PD.remove { files := bfiles n t ++ [bfile m u], room := d.room - (frameL (insideB m u)).length, fuse := if 0 ≤ f then f - (frameL (insideB m u)).length else f, dead := false } (bname n) =
          ({ files := [bfile m u], room := d.room - (frameL (insideB m u)).length + (frameL (insideB n t)).length, fuse := if 0 ≤ f then f - (frameL (insideB m u)).length else f, dead := false }, 0) := by
        have hne := bname_ne hnm hm
        have hne' : ¬ bname m = bname n := fun e => hne e.symm
        unfold PD.remove PD.within PD.find
        simp only
        rw [if_neg (by simp), bfiles_pos h0]
        simp only [List.cons_append, List.nil_append]
        rw [List.find?_cons_of_pos (by simp [bfile])]
        simp only
        rw [List.filter_cons_of_neg (by simp [bfile]), List.filter_cons_of_pos (by simp [bfile, hne']), List.filter_nil]
        rfl
      refine ⟨_, by rw [hsave, happ]; unfold thenD; rw [if_neg (by simp)]; simp only; rw [hsync, if_neg (by simp), if_neg h0]; simp only; rw [hrem], ⟨?_, hm, hu, fun e => absurd e (by omega), ?_, rfl, rfl⟩⟩
      · simp only
        rw [bfiles_pos (n := m) (by omega) u]
      · simp only
        rw [h.room, h.files, bfiles_pos h0]
        simp [totF, bfile]
        omega
  · have happ := app_torn (d := d) (nm := bname m) (s := frameL (insideB m u)) h.alive (bname_nil m) (by rw [bname_length]; omega) hr0 hlim (f := k) (by rw [h.fuse]; exact hf) hk
    rw [hset] at happ
    refine ⟨_, by rw [hsave, happ]; unfold thenD; rw [if_pos (by simp)], ⟨⟨_, rfl, .inr ⟨m, _, hnm, hm, ?_, rfl⟩⟩, h.slot, h.text, h.none, ?_, rfl, rfl⟩⟩
    · rw [List.length_take]; omega
    · simp only
      rw [totF_append, h.room, h.files]
      simp [totF]
      omega

/-! ### a crash, a turned bit, Open -/
theorem crash_up {d : PD} {n : Nat} {t : List UInt8} {f : Int} (h : BUp d n t f) (keep : Int) : ∃ d', d.crash keep = (d', 0) ∧ d'.files = d.files ∧ BDn d' n t true := by
  obtain ⟨ht1, ht2⟩ := bfiles_tot h.slot h.text
  have hcr : crashF (if keep < 0 then none else some keep.toNat) d.files = d.files := by
    rw [crash_keep _ _ (fun f hf => by rw [h.files] at hf; obtain ⟨_, rfl⟩ := bfiles_mem hf; exact Nat.le_refl _) (by rw [h.files]; omega), h.files]
    unfold bfiles
    split
    · rfl
    · simp only [crL]
      unfold cutF stayF bfile
      simp
  refine ⟨{ files := d.files, room := d.room + ((totF d.files : Int) - totF d.files), fuse := -1, dead := true }, by unfold PD.crash; rw [if_neg (by simp [h.alive]), hcr], rfl, ⟨⟨[], by simp only; rw [h.files, List.append_nil], .inl rfl⟩, h.slot, h.text, h.none, ?_, rfl, rfl⟩⟩
  simp only
  rw [h.room]
  omega

theorem good_young (nm u : List UInt8) : goodB ⟨nm, u, 0⟩ = none := by
  unfold goodB
  simp only
  rw [if_neg]
  rintro ⟨h1, h2, _⟩
  have : u = [] := List.eq_nil_of_length_eq_zero h1.symm
  subst this
  exact absurd h2 (by decide)
theorem open_dn {d : PD} {n : Nat} {t : List UInt8} (h : BDn d n t false) : ∃ d', openB d = (d', 0) ∧ BUp d' n t (-1) := by
  obtain ⟨l, hl, hlate⟩ := h.files
  have hin : (insideB n t).length ≤ 65536 := by have := (inside_small h.slot h.text).2; omega
  have hyoung : ∀ f ∈ l, goodB f = none ∧ f.synced = 0 ∧ bnum f.name ≠ 0 ∧ bnum f.name ≠ n := fun f hf => by
    rcases hlate with rfl | ⟨m, u, h1, h2, h3, rfl⟩
    · cases hf
    · rw [List.mem_singleton.1 hf]
      show goodB ⟨bname m, u, 0⟩ = none ∧ (0 : Nat) = 0 ∧ bnum (bname m) ≠ 0 ∧ bnum (bname m) ≠ n
      rw [bnum_name h2]
      exact ⟨good_young _ _, rfl, by omega, by omega⟩
  have hbase : baseL d.files = (n, t) := by
    rw [hl]
    unfold baseL
    rw [base_young _ _ _ (fun f hf => .inl (hyoung f hf).1)]
    exact base_files h.slot hin h.none
  have hsp : ¬ d.files.any spoiltB = true := by
    rw [hl]
    intro hany
    obtain ⟨f, hf, hs⟩ := List.any_eq_true.1 hany
    rcases List.mem_append.1 hf with h' | h'
    · obtain ⟨_, rfl⟩ := bfiles_mem h'
      unfold spoiltB at hs
      rw [good_file h.slot hin] at hs
      simp at hs
    · unfold spoiltB at hs
      rw [(hyoung f h').2.1] at hs
      simp at hs
  have hfil : d.files.filter (stayB n) = bfiles n t := by
    rw [hl, List.filter_append]
    have e1 : (bfiles n t).filter (stayB n) = bfiles n t := List.filter_eq_self.2 fun f hf => by
      obtain ⟨_, rfl⟩ := bfiles_mem hf
      unfold stayB
      rw [bnum_bfile t h.slot]
      simp
    have e2 : l.filter (stayB n) = [] := List.filter_eq_nil_iff.2 fun f hf => by
      obtain ⟨_, _, h3, h4⟩ := hyoung f hf
      unfold stayB
      simp [h3, h4]
    rw [e1, e2, List.append_nil]
  refine ⟨{ d with files := d.files.filter (stayB n), room := d.room + ((totF d.files : Int) - totF (d.files.filter (stayB n))) }, by unfold openB; rw [if_neg (by simp [h.isDead]), if_neg hsp, hbase], ⟨?_, h.slot, h.text, h.none, ?_, h.isDead, h.fuse⟩⟩
  · simp only
    exact hfil
  · simp only
    rw [h.room]
    omega

/-- A bit turned in the inside of a base, or in its sum. -/
theorem turn_st {d : PD} {n : Nat} {t : List UInt8} (h : BDn d n t true) (hf : d.files = bfiles n t) (h0 : n ≠ 0) {q r : Nat} (hq : q < 8 + (insideB n t).length) (hr : r < 8) :
    ∃ d', d.turn ((8 * ((enc (insideB n t).length).length + q) + r : Nat) : Int) = (d', 0) ∧ openB d'.start = (d'.start, 10) ∧ Sane d'.start ∧ d'.start.files.length = 1 := by
  obtain ⟨hi1, hi2⟩ := inside_small h.slot h.text
  have hfl : (frameL (insideB n t)).length = (enc (insideB n t).length).length + 8 + (insideB n t).length := frameL_length _
  have hturn : turnF ((enc (insideB n t).length).length + q) (bitX r) d.files = some [⟨bname n, (frameL (insideB n t)).set ((enc (insideB n t).length).length + q) (bitX r ((frameL (insideB n t)).getD ((enc (insideB n t).length).length + q) 0)), (frameL (insideB n t)).length⟩] := by
    rw [hf, bfiles_pos h0]
    unfold turnF
    rw [if_pos (by show _ < (frameL (insideB n t)).length; omega)]
    rfl
  have hturn2 : d.turn ((8 * ((enc (insideB n t).length).length + q) + r : Nat) : Int) = ({ d with files := [⟨bname n, (frameL (insideB n t)).set ((enc (insideB n t).length).length + q) (bitX r ((frameL (insideB n t)).getD ((enc (insideB n t).length).length + q) 0)), (frameL (insideB n t)).length⟩] }, 0) := by
    unfold PD.turn
    rw [if_neg (by rw [h.isDead]; simp; omega), Int.toNat_natCast, show (8 * ((enc (insideB n t).length).length + q) + r) / 8 = (enc (insideB n t).length).length + q from by omega, show (8 * ((enc (insideB n t).length).length + q) + r) % 8 = r from by omega, hturn]
  have hbad := take_turn (x := insideB n t) hi1 (by omega) hq (c := bitX r ((frameL (insideB n t)).getD ((enc (insideB n t).length).length + q) 0)) (by
    have hq2 : q < (low 8 (sm (insideB n t)) ++ insideB n t).length := by rw [List.length_append, low_length]; omega
    have e0 : (frameL (insideB n t))[(enc (insideB n t).length).length + q]? = (low 8 (sm (insideB n t)) ++ insideB n t)[q]? := by
      unfold frameL
      rw [List.getElem?_append_right (by omega), Nat.add_sub_cancel_left]
    have e1 : (low 8 (sm (insideB n t)) ++ insideB n t)[q]? = some ((frameL (insideB n t)).getD ((enc (insideB n t).length).length + q) 0) := by
      rw [List.getD_eq_getElem?_getD, e0, List.getElem?_eq_getElem hq2]
      rfl
    rw [e1]
    intro e
    exact bitX_ne r hr _ (Option.some.inj e).symm)
  refine ⟨_, hturn2, ?_, ?_, rfl⟩
  · unfold openB PD.start
    simp only
    rw [if_neg (by simp), if_pos]
    rw [List.any_cons, List.any_nil, Bool.or_false]
    unfold spoiltB goodB
    simp only
    rw [if_neg (by rintro ⟨_, h2, _⟩; rw [hbad] at h2; cases h2), bnum_name h.slot]
    have hl0 : (frameL (insideB n t)).length ≠ 0 := by omega
    rw [decide_eq_true h0, decide_eq_true hl0]
    rfl
  · have hs := h.sane
    exact shape_sane (d := d) hs (by simp only [PD.start]; rw [hf, bfiles_pos h0]; simp [shape, bfile]) rfl rfl

end Go.Proofs.YthpamdjgkmaleaaGreatDoor

namespace Go.Proofs.YthpamdjgkmaleaaGreatDoor
open Go.RowKit
set_option linter.unusedVariables false

/-- No more than one good file. -/
def isGood (f : PF) : Bool := decide (bnum f.name ≠ 0) && (goodB f).isSome
def oneB (d : PD) : Prop := (d.files.filter isGood).length ≤ 1
theorem one_new : oneB PD.new := show (0 : Nat) ≤ 1 by decide
theorem one_len {d : PD} (h : d.files.length = 1) : oneB d := Nat.le_trans (List.length_filter_le _ _) (Nat.le_of_eq h)
theorem BDn.one {d : PD} {n : Nat} {t : List UInt8} {b : Bool} (h : BDn d n t b) : oneB d := by
  obtain ⟨l, hl, hlate⟩ := h.files
  have h1 := (bfiles_tot h.slot h.text).2
  have h2 : l.filter isGood = [] := by
    rcases hlate with rfl | ⟨m, u, _, _, _, rfl⟩
    · rfl
    · unfold isGood
      rw [List.filter_cons_of_neg (by simp [good_young])]
      rfl
  unfold oneB
  rw [hl, List.filter_append, h2, List.append_nil]
  exact Nat.le_trans (List.length_filter_le _ _) h1
/-- G K w x p d: at x a store on the disk d at block p, none of their blocks in K. -/
structure BaseSpec (G : (Nat → Prop) → World → Addr → Nat → PD → Prop) : Prop where
  disk : ∀ {K w x p d}, G K w x p d → DkOff K w p d
  kept : ∀ {K K' w w' x p d}, G K w x p d → w.heap.size ≤ w'.heap.size → (∀ k, k < w.heap.size → ¬ K k ∨ Vr k → w'.heap[k]? = w.heap[k]?) → (∀ k, K' k → K k ∨ w.heap.size ≤ k) → (∀ k, K' k → k < w'.heap.size) → G K' w' x p d
  moved : ∀ {K w x p d}, G K w x p d → ∃ F, DiskOf w p d F ∧ (∀ k, F k → ¬ K k) ∧ KOk K w F ∧ ∀ K' d' F' w', Step w p F d' F' w' → d'.files = d.files → (∀ k, K' k → K k ∨ w.heap.size ≤ k) → (∀ k, K' k → ¬ F' k ∧ k < w'.heap.size) → G K' w' x p d'
  opens : ∀ {w p d F}, DiskOf w p d F → Env w → (∀ k, F k → ¬ Vr k) → Sane d → oneB d → Calls Tryz.prog 7 #[.pointer (some ⟨p, 0, none⟩)] w fun r w' => ∃ x F',
    r = .returned (.tuple #[.pointer x, .int .i64 (openB d).2]) ∧ Step w p F (openB d).1 F' w' ∧
    ((openB d).2 ≠ 0 → x = none) ∧ ((openB d).2 = 0 → ∃ y, x = some y ∧ ∀ K, (∀ k, F' k → ¬ K k) → (∀ k, K k → k < w.heap.size) → G K w' y p (openB d).1)
  bases : ∀ {K w x p d}, G K w x p d → Calls Tryz.prog 8 #[.pointer (some x)] w fun r w' =>
    r = .returned (.tuple #[.int .u64 (baseL d.files).1, .string (B (baseL d.files).2), .bool (decide (0 < (baseL d.files).1))]) ∧ G K w' x p d ∧ Kept K w w'
  saves : ∀ {K w x p d n t f m u}, G K w x p d → BUp d n t f → -1 ≤ f → f ≤ 9223372036854775807 → m < 2 ^ 64 → u.length ≤ 300 ∨ (u.length ≤ 100000 ∧ 65536 < (insideB m u).length) → Calls Tryz.prog 9 #[.pointer (some x), .int .u64 (m : Nat), .string (B u)] w fun e w' =>
    e = .returned (.int .i64 (saveB d m u).2) ∧ ((saveB d m u).1.dead = false → G K w' x p (saveB d m u).1) ∧ DkOff K w' p (saveB d m u).1 ∧ Kept K w w'
  open_nil : ∀ w, Calls Tryz.prog 7 #[.pointer none] w fun r w' => r = .returned (.tuple #[.pointer none, .int .i64 1]) ∧ Below w.heap.size w w'
  base_nil : ∀ w, Calls Tryz.prog 8 #[.pointer none] w fun r w' => r = .returned (.tuple #[.int .u64 0, .string ⟨#[]⟩, .bool false]) ∧ Below w.heap.size w w'
  save_nil : ∀ w m u, Calls Tryz.prog 9 #[.pointer none, .int .u64 m, .string u] w fun e w' => e = .returned (.int .i64 1) ∧ Below w.heap.size w w'

variable {G : (Nat → Prop) → World → Addr → Nat → PD → Prop}

theorem BaseSpec.below (S : BaseSpec G) {K w w' x p d} (h : G K w x p d) (hb : Below w.heap.size w w') : G K w' x p d := by
  obtain ⟨F, _, _, hK⟩ := S.disk h
  exact S.kept h hb.size (fun k hk _ => hb.block k hk) (fun k hk => .inl hk) (fun k hk => Nat.lt_of_lt_of_le (hK k hk) hb.size)
theorem BaseSpec.more (S : BaseSpec G) {K K' w w' x p d} (h : G K w x p d) (hb : Below w.heap.size w w') (hK : ∀ k, K' k → K k ∨ w.heap.size ≤ k) (hs : ∀ k, K' k → k < w'.heap.size) : G K' w' x p d :=
  S.kept h hb.size (fun k hk _ => hb.block k hk) hK hs
/-- A store opened. -/
theorem BaseSpec.open_ok (S : BaseSpec G) {K : Nat → Prop} {w : World} {p : Nat} {d d' : PD} (h : DkOff K w p d) (hs : Sane d) (ho1 : oneB d) (ho : openB d = (d', 0)) :
    Calls Tryz.prog 7 #[.pointer (some ⟨p, 0, none⟩)] w fun r w' => ∃ x, r = .returned (.tuple #[.pointer (some x), .int .i64 0]) ∧ G K w' x p d' ∧ Kept K w w' := by
  obtain ⟨F, h1, h2, h3⟩ := h
  refine (S.opens h1 h3.env h3.fv hs ho1).mono ?_
  rw [ho]
  rintro r w' ⟨x, F', rfl, st, _, hg⟩
  obtain ⟨y, rfl, hy⟩ := hg rfl
  exact ⟨y, rfl, hy K (st.off h2 h3) h3, st.kept h2⟩
theorem BaseSpec.open_bad (S : BaseSpec G) {K : Nat → Prop} {w : World} {p : Nat} {d : PD} (h : DkOff K w p d) (hs : Sane d) (ho1 : oneB d) (ho : openB d = (d, 10)) :
    Calls Tryz.prog 7 #[.pointer (some ⟨p, 0, none⟩)] w fun r w' => r = .returned (.tuple #[.pointer none, .int .i64 10]) ∧ DkOff K w' p d ∧ Kept K w w' := by
  obtain ⟨F, h1, h2, h3⟩ := h
  refine (S.opens h1 h3.env h3.fv hs ho1).mono ?_
  rw [ho]
  rintro r w' ⟨x, F', rfl, st, hx, _⟩
  obtain rfl := hx (show (10 : Int) ≠ 0 by decide)
  exact ⟨rfl, ⟨F', st.disk, st.off h2 h3, h3.step st⟩, st.kept h2⟩

/-- A store on the base's file alone. -/
structure UpB (G : (Nat → Prop) → World → Addr → Nat → PD → Prop) (K : Nat → Prop) (w : World) (x : Addr) (p : Nat) (d : PD) (n : Nat) (t : List UInt8) (f : Int) : Prop where
  store : G K w x p d
  st : BUp d n t f
  f0 : -1 ≤ f
  f1 : f ≤ 9223372036854775807
structure DnB (K : Nat → Prop) (w : World) (p : Nat) (d : PD) (n : Nat) (t : List UInt8) (dead : Bool) : Prop where
  disk : DkOff K w p d
  st : BDn d n t dead
theorem UpB.env {K w x p d n t f} (S : BaseSpec G) (h : UpB G K w x p d n t f) : Env w := (S.disk h.store).env
theorem DnB.env {K w p d n t b} (h : DnB K w p d n t b) : Env w := h.disk.env
theorem UpB.below {K w w' x p d n t f} (S : BaseSpec G) (h : UpB G K w x p d n t f) (hb : Below w.heap.size w w') : UpB G K w' x p d n t f := ⟨S.below h.store hb, h.st, h.f0, h.f1⟩
theorem DnB.below {K w w' p d n t b} (h : DnB K w p d n t b) (hb : Below w.heap.size w w') : DnB K w' p d n t b := ⟨h.disk.below hb, h.st⟩
theorem UpB.dn {K w x p d n t} (S : BaseSpec G) (h : UpB G K w x p d n t (-1)) : DnB K w p d n t false := ⟨S.disk h.store, h.st.dn⟩

theorem UpB.save {K w x p d n t f} (S : BaseSpec G) (h : UpB G K w x p d n t f) {m : Nat} {u : List UInt8} (hm : m < 2 ^ 64) (hu : u.length ≤ 300) :
    Calls Tryz.prog 9 #[.pointer (some x), .int .u64 (m : Nat), .string (B u)] w fun e w' => ∃ z, e = .returned (.int .i64 z) ∧ Kept K w w' ∧
      ((z = 2 ∧ m ≤ n ∧ UpB G K w' x p d n t f) ∨ (z = 0 ∧ n < m ∧ ∃ d' f', (f = -1 → f' = -1) ∧ UpB G K w' x p d' m u f') ∨ (z = 9 ∧ n < m ∧ 0 ≤ f ∧ ∃ d', DnB K w' p d' n t true)) := by
  have f0 := h.f0
  have f1 := h.f1
  refine (S.saves (u := u) h.store h.st h.f0 h.f1 hm (.inl hu)).mono ?_
  rintro e w' ⟨rfl, g1, g2, g3⟩
  by_cases hmn : m ≤ n
  · rw [save_arg h.st hmn] at g1 g2 ⊢
    exact ⟨2, rfl, g3, .inl ⟨rfl, hmn, g1 h.st.alive, h.st, h.f0, h.f1⟩⟩
  · have hnm : n < m := by omega
    obtain ⟨a1, a2⟩ := save_st h.st hnm hm hu
    by_cases hc : 0 ≤ f ∧ f < (frameL (insideB m u)).length
    · obtain ⟨d', b1, b2⟩ := a2 f.toNat (by omega) (by omega)
      rw [b1] at g2 ⊢
      exact ⟨9, rfl, g3, .inr (.inr ⟨rfl, hnm, hc.1, d', g2, b2⟩)⟩
    · obtain ⟨d', b1, b2⟩ := a1 hc
      rw [b1] at g1 ⊢
      refine ⟨0, rfl, g3, .inr (.inl ⟨rfl, hnm, d', _, ?_, g1 b2.alive, b2, ?_, ?_⟩)⟩
      · intro e; rw [if_neg (by omega)]; exact e
      · split <;> omega
      · split <;> omega
theorem UpB.save_ok {K w x p d n t} (S : BaseSpec G) (h : UpB G K w x p d n t (-1)) {m : Nat} {u : List UInt8} (hnm : n < m) (hm : m < 2 ^ 64) (hu : u.length ≤ 300) :
    Calls Tryz.prog 9 #[.pointer (some x), .int .u64 (m : Nat), .string (B u)] w fun e w' => e = .returned (.int .i64 0) ∧ Kept K w w' ∧ ∃ d', UpB G K w' x p d' m u (-1) := by
  refine (h.save S hm hu).mono ?_
  rintro e w' ⟨z, rfl, kp, ⟨_, h1, _⟩ | ⟨rfl, _, d', f', h2, h3⟩ | ⟨_, _, h1, _⟩⟩
  · omega
  · rw [h2 rfl] at h3
    exact ⟨rfl, kp, d', h3⟩
  · omega
theorem UpB.save_arg {K w x p d n t f} (S : BaseSpec G) (h : UpB G K w x p d n t f) {m : Nat} {u : List UInt8} (hmn : m ≤ n) (hm : m < 2 ^ 64) (hu : u.length ≤ 300) :
    Calls Tryz.prog 9 #[.pointer (some x), .int .u64 (m : Nat), .string (B u)] w fun e w' => e = .returned (.int .i64 2) ∧ Kept K w w' ∧ UpB G K w' x p d n t f := by
  refine (h.save S hm hu).mono ?_
  rintro e w' ⟨z, rfl, kp, ⟨rfl, h1, h2⟩ | ⟨_, h1, _⟩ | ⟨_, h1, _⟩⟩
  · exact ⟨rfl, kp, h2⟩
  · omega
  · omega
theorem UpB.base {K w x p d n t f} (S : BaseSpec G) (h : UpB G K w x p d n t f) :
    Calls Tryz.prog 8 #[.pointer (some x)] w fun r w' => r = .returned (.tuple #[.int .u64 (n : Nat), .string (B t), .bool (decide (0 < n))]) ∧ Kept K w w' ∧ UpB G K w' x p d n t f := by
  refine (S.bases h.store).mono ?_
  rw [h.st.base]
  rintro r w' ⟨rfl, g1, g2⟩
  exact ⟨rfl, g2, g1, h.st, h.f0, h.f1⟩
theorem UpB.setFuse {K w x p d n t f} (S : BaseSpec G) (h : UpB G K w x p d n t f) (k : Int) (hk : k ≤ 9223372036854775807) :
    Calls Tryz.prog 12 #[.pointer (some ⟨p, 0, none⟩), .int .i64 k] w fun e w' => e = .returned (.int .i64 0) ∧ Kept K w w' ∧ ∃ d', UpB G K w' x p d' n t (max k (-1)) := by
  obtain ⟨F, h1, h2, _, h3⟩ := S.moved h.store
  obtain ⟨_, _, _, h4⟩ := S.disk h.store
  have hs : d.setFuse k = ({ d with fuse := max k (-1) }, 0) := by unfold PD.setFuse; rw [if_neg (by simp [h.st.alive])]
  refine (fuse_any h1 k).mono ?_
  rw [hs]
  rintro r w' ⟨rfl, hm⟩
  obtain ⟨F', st⟩ := hm.step
  refine ⟨rfl, st.kept h2, { d with fuse := max k (-1) }, ⟨?_, ⟨h.st.files, h.st.slot, h.st.text, h.st.none, h.st.room, h.st.alive, rfl⟩, by omega, by omega⟩⟩
  exact h3 K _ _ _ st rfl (fun k hk => .inl hk) (fun k hk => ⟨fun hf => st.off h2 h4 k hf hk, Nat.lt_of_lt_of_le (h4 k hk) st.turn.size⟩)
theorem DkOff.isDead {K w p d} {b : Bool} (h : DkOff K w p d) (hd : d.dead = b) : Calls Tryz.prog 13 #[.pointer (some ⟨p, 0, none⟩)] w fun r w' => r = .returned (.bool b) ∧ w = w' := by
  obtain ⟨F, h1, _, _⟩ := h
  have := dead_any h1
  rw [hd] at this
  exact this
theorem UpB.isDead {K w x p d n t f} (S : BaseSpec G) (h : UpB G K w x p d n t f) : Calls Tryz.prog 13 #[.pointer (some ⟨p, 0, none⟩)] w fun r w' => r = .returned (.bool false) ∧ w = w' := (S.disk h.store).isDead h.st.alive
theorem DnB.dead? {K w p d n t b} (h : DnB K w p d n t b) : Calls Tryz.prog 13 #[.pointer (some ⟨p, 0, none⟩)] w fun r w' => r = .returned (.bool b) ∧ w = w' := h.disk.isDead h.st.isDead
theorem UpB.crash {K w x p d n t f} (S : BaseSpec G) (h : UpB G K w x p d n t f) (keep : Int) (hk : keep ≤ 9223372036854775807) :
    Calls Tryz.prog 14 #[.pointer (some ⟨p, 0, none⟩), .int .i64 keep] w fun r w' => r = .returned (.int .i64 0) ∧ Kept K w w' ∧ ∃ d', DnB K w' p d' n t true ∧ d'.files = d.files := by
  obtain ⟨d', b1, b2, b3⟩ := crash_up h.st keep
  have hs := h.st.sane h.f0 h.f1
  have r1 := hs.room1
  refine ((S.disk h.store).calls (d' := d') (v := .int .i64 0) fun F hF => ?_).mono ?_
  · have := crash_any hF keep hk (by have := hs.few; omega) (fun f hf => by have := hs.names f hf; omega) hs.synced hs.room0 (by omega)
    rw [b1] at this
    exact this
  · rintro r w' ⟨rfl, g1, g2⟩
    exact ⟨rfl, g2, d', ⟨g1, b3⟩, b2⟩
theorem DnB.start {K w p d n t b} (h : DnB K w p d n t b) : Calls Tryz.prog 15 #[.pointer (some ⟨p, 0, none⟩)] w fun r w' => r = .returned (.int .i64 0) ∧ Kept K w w' ∧ ∃ d', DnB K w' p d' n t false := by
  refine (h.disk.calls (d' := d.start) (v := .int .i64 0) fun F hF => start_any hF).mono ?_
  rintro r w' ⟨rfl, g1, g2⟩
  exact ⟨rfl, g2, d.start, g1, h.st.files, h.st.slot, h.st.text, h.st.none, h.st.room, rfl, h.st.fuse⟩
theorem DnB.opens {K w p d n t} (S : BaseSpec G) (h : DnB K w p d n t false) :
    Calls Tryz.prog 7 #[.pointer (some ⟨p, 0, none⟩)] w fun r w' => ∃ x d', r = .returned (.tuple #[.pointer (some x), .int .i64 0]) ∧ Kept K w w' ∧ UpB G K w' x p d' n t (-1) := by
  obtain ⟨d', b1, b2⟩ := open_dn h.st
  refine (S.open_ok h.disk h.st.sane h.st.one b1).mono ?_
  rintro r w' ⟨x, rfl, g, kp⟩
  exact ⟨x, d', rfl, kp, g, b2, by decide, by decide⟩
theorem new_base : openB PD.new = (PD.new, 0) := by kernel_rfl
/-- A store on a new disk. -/
theorem BaseSpec.new_up (S : BaseSpec G) {K : Nat → Prop} {w : World} {p : Nat} (h : DkOff K w p PD.new) :
    Calls Tryz.prog 7 #[.pointer (some ⟨p, 0, none⟩)] w fun r w' => ∃ x, r = .returned (.tuple #[.pointer (some x), .int .i64 0]) ∧ Kept K w w' ∧ UpB G K w' x p PD.new 0 [] (-1) := by
  refine (S.open_ok h sane_new one_new new_base).mono ?_
  rintro r w' ⟨x, rfl, g, kp⟩
  exact ⟨x, rfl, kp, g, ⟨rfl, by decide, by decide, fun _ => rfl, rfl, rfl, rfl⟩, by decide, by decide⟩
theorem UpB.more {K K' w w' x p d n t f} (S : BaseSpec G) (h : UpB G K w x p d n t f) (hb : Below w.heap.size w w') (hK : ∀ k, K' k → K k ∨ w.heap.size ≤ k) (hs : ∀ k, K' k → k < w'.heap.size) : UpB G K' w' x p d n t f := ⟨S.more h.store hb hK hs, h.st, h.f0, h.f1⟩
theorem UpB.weak {K K' w x p d n t f} (S : BaseSpec G) (h : UpB G K w x p d n t f) (hK : ∀ k, K' k → K k) : UpB G K' w x p d n t f := by
  obtain ⟨F, _, _, h3⟩ := S.disk h.store
  exact h.more S (Below.refl _ _) (fun k hk => .inl (hK k hk)) (fun k hk => h3 k (hK k hk))
/-- A store's files. -/
theorem UpB.files {K w x p d n t f} (S : BaseSpec G) (h : UpB G K w x p d n t f) :
    Calls Tryz.prog 16 #[.pointer (some ⟨p, 0, none⟩)] w fun r w' => ∃ a c, r = .returned (.slice a (bfiles n t).length c) ∧ w'.ownsRow w.heap.size 44 3 (.slice a (bfiles n t).length c) (bfiles n t).length ((bfiles n t).flatMap fileCells) ∧ Below w.heap.size w w' ∧ UpB G (andOf K a) w' x p d n t f := by
  obtain ⟨_, _, _, h3⟩ := S.disk h.store
  refine ((S.disk h.store).files (h.st.sane h.f0 h.f1)).mono ?_
  rw [h.st.files]
  rintro r w' ⟨a, c, rfl, row, hb⟩
  refine ⟨a, c, rfl, row, hb, h.more S hb ?_ ?_⟩
  · rintro k (hk | ⟨b, rfl, rfl⟩)
    · exact .inl hk
    · exact .inr (own_blk row rfl).2.1
  · rintro k (hk | ⟨b, rfl, rfl⟩)
    · exact Nat.lt_of_lt_of_le (h3 k hk) hb.size
    · exact (own_blk row rfl).2.2

end Go.Proofs.YthpamdjgkmaleaaGreatDoor
