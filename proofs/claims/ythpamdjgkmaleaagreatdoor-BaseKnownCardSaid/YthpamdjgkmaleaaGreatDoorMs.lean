/-
Opening a base's disk, plainly: what read tells of it is what the document says; the young files removed one by one.
Package base's Open over this translation; the landed store's calls are those of a BaseSpec.
-/
import Derived.Test.YthpamdjgkmaleaaGreatDoorBsRead
import Derived.Test.YthpamdjgkmaleaaGreatDoorMo
import Derived.Test.YthpamdjgkmaleaaGreatDoorMq
namespace Go.Proofs.YthpamdjgkmaleaaGreatDoor
set_option linter.unusedVariables false

theorem look_good {f : PF} (hs : f.synced ≤ f.bytes.length) : (∀ t, goodB f = some t → lookL (bnum f.name) f = (t, 1)) ∧ (goodB f = none → (lookL (bnum f.name) f).2 = if f.synced = 0 then 0 else 2) := by
  have hb := @takeL_bad f.bytes
  have hp := @takeL_pos f.bytes
  unfold goodB lookL
  generalize takeL f.bytes = T at *
  obtain ⟨ins, size, e⟩ := T
  simp only at *
  generalize readB ins = R at *
  obtain ⟨n, t, re⟩ := R
  simp only at *
  by_cases hc : f.synced = f.bytes.length ∧ e = 0 ∧ size = f.bytes.length ∧ re = 0 ∧ n = bnum f.name
  · rw [if_pos hc]
    obtain ⟨c1, c2, c3, c4, c5⟩ := hc
    have h10 := (hp c2).1
    refine ⟨fun u hu => ?_, fun h => by cases h⟩
    cases hu
    rw [if_neg (by omega), if_neg (by omega), if_neg (by omega), if_neg (by simp [c4]), if_neg (by simp [c5])]
  · rw [if_neg hc]
    refine ⟨fun u hu => (by cases hu), fun _ => ?_⟩
    by_cases h0 : f.synced = 0
    · rw [if_pos h0, if_pos h0]
    · rw [if_neg h0, if_neg h0]
      by_cases h1 : f.synced < f.bytes.length
      · rw [if_pos h1]
      · rw [if_neg h1]
        by_cases h2 : size < f.bytes.length
        · rw [if_pos h2]
        · rw [if_neg h2]
          by_cases h3 : re ≠ 0
          · rw [if_pos h3]
          · rw [if_neg h3]
            by_cases h4 : n ≠ bnum f.name
            · rw [if_pos h4]
            · exfalso
              have he : e = 0 := Classical.byContradiction fun he => by
                have := hb he
                simp only [Prod.mk.injEq] at this
                omega
              have := (hp he).2
              exact hc ⟨by omega, he, by omega, Classical.not_not.1 h3, Classical.not_not.1 h4⟩
theorem look_young {f : PF} (hs : f.synced ≤ f.bytes.length) : (lookL (bnum f.name) f).2 = 0 ↔ f.synced = 0 := by
  constructor
  · intro h
    obtain ⟨h1, h2⟩ := look_good hs
    cases hg : goodB f with
    | some t => rw [h1 t hg] at h; cases h
    | none =>
      have := h2 hg
      rw [h] at this
      by_cases h0 : f.synced = 0
      · exact h0
      · rw [if_neg h0] at this; cases this
  · intro h
    unfold lookL
    rw [if_pos h]
theorem tell_cons (f : PF) (r : List PF) : tellB (f :: r) = if bnum f.name = 0 then tellB r else (bnum f.name, f) :: tellB r := by
  unfold tellB
  rw [List.filterMap_cons]
  unfold tellF
  by_cases h : bnum f.name = 0
  · rw [if_pos h, if_pos h]
  · rw [if_neg h, if_neg h]
theorem base_go : ∀ (l : List PF) (b : Nat × List UInt8), (∀ f ∈ l, f.synced ≤ f.bytes.length) → (goods (tellB l)).length ≤ 1 → (b.1 = 0 ∨ goods (tellB l) = []) → baseGo b l = (tellB l).foldl stepR b
  | [], b, _, _, _ => rfl
  | f :: r, b, hs, h1, h2 => by
    obtain ⟨g1, g2⟩ := look_good (hs f (by simp))
    have hsr : ∀ g ∈ r, g.synced ≤ g.bytes.length := fun g hg => hs g (by simp [hg])
    rw [baseGo_cons, tell_cons] at *
    by_cases h0 : bnum f.name = 0
    · rw [if_pos h0] at h1 h2 ⊢
      cases goodB f with
      | none => exact base_go r b hsr h1 h2
      | some t => simp only; rw [if_neg (by omega)]; exact base_go r b hsr h1 h2
    · rw [if_neg h0] at h1 h2 ⊢
      rw [List.foldl_cons]
      cases hg : goodB f with
      | some t =>
        have hk := g1 t hg
        have hgd : goods ((bnum f.name, f) :: tellB r) = (bnum f.name, f) :: goods (tellB r) := by
          unfold goods
          rw [List.filter_cons_of_pos (by simp [hk])]
        rw [hgd] at h1 h2
        have hr0 : goods (tellB r) = [] := List.eq_nil_of_length_eq_zero (by rw [List.length_cons] at h1; omega)
        have hb0 : b.1 = 0 := h2.resolve_right (by simp)
        simp only
        rw [if_pos (by omega), stepR, if_pos (by simp only; rw [hk])]
        simp only
        rw [hk]
        exact base_go r _ hsr (by rw [hr0]; simp) (.inr hr0)
      | none =>
        have hk := g2 hg
        have hk1 : (lookL (bnum f.name) f).2 ≠ 1 := by rw [hk]; split <;> decide
        have hgd : goods ((bnum f.name, f) :: tellB r) = goods (tellB r) := by
          unfold goods
          rw [List.filter_cons_of_neg (by simpa using hk1)]
        rw [hgd] at h1 h2
        simp only
        rw [stepR, if_neg hk1]
        exact base_go r b hsr h1 h2
theorem goods_len : ∀ (l : List PF), (∀ f ∈ l, f.synced ≤ f.bytes.length) → (goods (tellB l)).length = (l.filter isGood).length
  | [], _ => rfl
  | f :: r, hs => by
    obtain ⟨g1, g2⟩ := look_good (hs f (by simp))
    have ih := goods_len r (fun g hg => hs g (by simp [hg]))
    rw [tell_cons]
    by_cases h0 : bnum f.name = 0
    · rw [if_pos h0, List.filter_cons_of_neg (by simp [isGood, h0])]
      exact ih
    · rw [if_neg h0]
      unfold goods at ih ⊢
      cases hg : goodB f with
      | some t => rw [List.filter_cons_of_pos (by simp [g1 t hg]), List.filter_cons_of_pos (by simp [isGood, h0, hg]), List.length_cons, List.length_cons, ih]
      | none =>
        have hk := g2 hg
        have hk1 : (lookL (bnum f.name) f).2 ≠ 1 := by rw [hk]; split <;> decide
        rw [List.filter_cons_of_neg (by simpa using hk1), List.filter_cons_of_neg (by simp [isGood, hg])]
        exact ih
theorem tell_of {l : List PF} {f : PF} (hf : f ∈ l) (h0 : bnum f.name ≠ 0) : (bnum f.name, f) ∈ tellB l := by
  unfold tellB
  refine List.mem_filterMap.2 ⟨f, hf, ?_⟩
  unfold tellF
  rw [if_neg h0]
theorem spoilt_any {d : PD} (hs : Sane d) : d.files.any spoiltB = true ↔ ∃ x ∈ tellB d.files, (lookL x.1 x.2).2 = 2 := by
  rw [List.any_eq_true]
  constructor
  · rintro ⟨f, hf, hsp⟩
    unfold spoiltB at hsp
    simp only [Bool.and_eq_true, decide_eq_true_eq] at hsp
    obtain ⟨⟨h1, h2⟩, h3⟩ := hsp
    refine ⟨_, tell_of hf h1, ?_⟩
    have := (look_good (hs.synced f hf)).2 (by simpa using h3)
    rw [if_neg h2] at this
    exact this
  · rintro ⟨x, hx, hk⟩
    obtain ⟨hf, h1, h2⟩ := tell_in hx
    rw [h1] at hk h2
    refine ⟨x.2, hf, ?_⟩
    obtain ⟨g1, g2⟩ := look_good (hs.synced _ hf)
    unfold spoiltB
    cases hg : goodB x.2 with
    | some t => rw [g1 t hg] at hk; cases hk
    | none =>
      have h3 : x.2.synced ≠ 0 := fun h => by rw [(look_young (hs.synced _ hf)).2 h] at hk; cases hk
      simp [h2, h3]
theorem base_zero : ∀ (l : List PF) (b : Nat × List UInt8), (b.1 = 0 → b.2 = []) → (baseGo b l).1 = 0 → (baseGo b l).2 = []
  | [], b, h => h
  | f :: r, b, h => by
    rw [baseGo_cons]
    refine base_zero r _ ?_
    cases goodB f with
    | none => exact h
    | some t =>
      simp only
      by_cases hc : b.1 < bnum f.name
      · rw [if_pos hc]; simp only; omega
      · rw [if_neg hc]; exact h
theorem base_filter : ∀ (l : List PF) (b : Nat × List UInt8) (q : PF → Bool), (∀ f ∈ l, q f = false → goodB f = none) → baseGo b (l.filter q) = baseGo b l
  | [], b, q, _ => rfl
  | f :: r, b, q, h => by
    cases hq : q f with
    | true =>
      rw [List.filter_cons_of_pos hq, baseGo_cons, baseGo_cons]
      exact base_filter r _ q (fun g hg => h g (by simp [hg]))
    | false =>
      rw [List.filter_cons_of_neg (by simp [hq]), baseGo_cons, h f (by simp) hq]
      exact base_filter r b q (fun g hg => h g (by simp [hg]))

/-! ### files removed -/
def remAll (d : PD) : List (List UInt8) → PD
  | [] => d
  | n :: r => remAll (d.remove n).1 r
theorem remAll_snoc : ∀ (V : List (List UInt8)) (d : PD) (n : List UInt8), remAll d (V ++ [n]) = ((remAll d V).remove n).1
  | [], d, n => rfl
  | x :: r, d, n => by rw [List.cons_append, remAll, remAll]; exact remAll_snoc r _ n
theorem tot_drop : ∀ (l : List PF) (f : PF), (l.map PF.name).Nodup → f ∈ l → totF (l.filter fun g => g.name ≠ f.name) + f.bytes.length = totF l
  | [], f, _, h => by cases h
  | g :: r, f, hn, h => by
    rw [List.map_cons, List.nodup_cons] at hn
    rcases List.mem_cons.1 h with rfl | h'
    · have hr : r.filter (fun g => g.name ≠ f.name) = r := List.filter_eq_self.2 fun x hx => by
        have : x.name ≠ f.name := fun e => hn.1 (e ▸ List.mem_map_of_mem (f := PF.name) hx)
        simpa using this
      rw [List.filter_cons_of_neg (by simp), hr, totF_cons]
      omega
    · have hne : g.name ≠ f.name := fun e => hn.1 (e ▸ List.mem_map_of_mem (f := PF.name) h')
      rw [List.filter_cons_of_pos (by simpa using hne), totF_cons, totF_cons]
      have := tot_drop r f hn.2 h'
      omega
theorem rem_one {d : PD} (ha : d.dead = false) (hn : (d.files.map PF.name).Nodup) {f : PF} (hf : f ∈ d.files) :
    d.remove f.name = ({ d with files := d.files.filter (fun g => g.name ≠ f.name), room := d.room + ((totF d.files : Int) - totF (d.files.filter (fun g => g.name ≠ f.name))) }, 0) := by
  have hfind : d.files.find? (fun g => g.name = f.name) = some f := by
    have : ∀ (l : List PF), (l.map PF.name).Nodup → f ∈ l → l.find? (fun g => g.name = f.name) = some f := by
      intro l
      induction l with
      | nil => intro _ h; cases h
      | cons g r ih =>
        intro hn h
        rw [List.map_cons, List.nodup_cons] at hn
        rcases List.mem_cons.1 h with rfl | h'
        · exact List.find?_cons_of_pos (by simp)
        · have hne : g.name ≠ f.name := fun e => hn.1 (e ▸ List.mem_map_of_mem (f := PF.name) h')
          rw [List.find?_cons_of_neg (by simpa using hne)]
          exact ih hn.2 h'
    exact this _ hn hf
  have ht := tot_drop d.files f hn hf
  unfold PD.remove PD.within PD.find
  rw [if_neg (by simp [ha]), hfind]
  simp only
  congr 2
  omega
theorem rem_all : ∀ (V : List (List UInt8)) (d : PD), d.dead = false → (d.files.map PF.name).Nodup → V.Nodup → (∀ x ∈ V, x ∈ d.files.map PF.name) →
    remAll d V = { d with files := d.files.filter (fun g => decide (g.name ∉ V)), room := d.room + ((totF d.files : Int) - totF (d.files.filter (fun g => decide (g.name ∉ V)))) }
  | [], d, _, _, _, _ => by
    have e : d.files.filter (fun g => decide (g.name ∉ ([] : List (List UInt8)))) = d.files := List.filter_eq_self.2 (fun x _ => by simp)
    rw [e]
    show d = _
    cases d
    simp
  | x :: V, d, ha, hn, hv, hm => by
    rw [List.nodup_cons] at hv
    obtain ⟨f, hf, rfl⟩ := List.mem_map.1 (hm x (by simp))
    rw [remAll, rem_one ha hn hf]
    show remAll { d with files := d.files.filter (fun g => g.name ≠ f.name), room := d.room + ((totF d.files : Int) - totF (d.files.filter (fun g => g.name ≠ f.name))) } V = _
    have hsub : (d.files.filter (fun g => g.name ≠ f.name)).map PF.name = (d.files.map PF.name).filter (fun n => n ≠ f.name) := by
      rw [List.filter_map]
      rfl
    rw [rem_all V { d with files := d.files.filter (fun g => g.name ≠ f.name), room := d.room + ((totF d.files : Int) - totF (d.files.filter (fun g => g.name ≠ f.name))) } ha (by simp only; rw [hsub]; exact hn.filter _) hv.2 (fun y hy => by
      simp only
      rw [hsub]
      refine List.mem_filter.2 ⟨hm y (by simp [hy]), ?_⟩
      have : y ≠ f.name := fun e => hv.1 (e ▸ hy)
      simpa using this)]
    simp only
    rw [List.filter_filter]
    have e : (fun a : PF => decide (a.name ∉ V) && decide (a.name ≠ f.name)) = fun g : PF => decide (g.name ∉ f.name :: V) := by
      funext a
      rw [← Bool.decide_and]
      congr 1
      simp only [List.mem_cons, not_or, ne_eq, eq_iff_iff]
      exact and_comm
    rw [e]
    congr 1
    omega

/-! ### Open -/
theorem yo_mem {d : PD} (hs : Sane d) {nm : List UInt8} : nm ∈ yo (tellB d.files) ↔ ∃ f ∈ d.files, f.name = nm ∧ bnum f.name ≠ 0 ∧ f.synced = 0 := by
  unfold yo
  rw [List.mem_map]
  constructor
  · rintro ⟨x, hx, rfl⟩
    rw [List.mem_filter] at hx
    obtain ⟨hf, h1, h2⟩ := tell_in hx.1
    have hk : (lookL x.1 x.2).2 = 0 := by simpa using hx.2
    rw [h1] at hk h2
    exact ⟨x.2, hf, rfl, h2, (look_young (hs.synced _ hf)).1 hk⟩
  · rintro ⟨f, hf, rfl, h1, h2⟩
    exact ⟨_, List.mem_filter.2 ⟨tell_of hf h1, by simpa using (look_young (hs.synced _ hf)).2 h2⟩, rfl⟩
theorem yo_nodup {l : List PF} (h : (l.map PF.name).Nodup) : (yo (tellB l)).Nodup := by
  have h1 : ∀ l : List PF, (tellB l).map (fun x => x.2.name) = (l.filter fun f => decide (bnum f.name ≠ 0)).map PF.name := by
    intro l
    induction l with
    | nil => rfl
    | cons f r ih =>
      rw [tell_cons]
      by_cases h0 : bnum f.name = 0
      · rw [if_pos h0, List.filter_cons_of_neg (by simp [h0])]; exact ih
      · rw [if_neg h0, List.filter_cons_of_pos (by simp [h0]), List.map_cons, List.map_cons, ih]
  unfold yo
  refine List.Sublist.nodup (l₂ := (tellB l).map (fun x => x.2.name)) (List.Sublist.map _ (List.filter_sublist)) ?_
  rw [h1]
  exact List.Sublist.nodup (List.Sublist.map _ (List.filter_sublist)) h
theorem base_st {d : PD} (hs : Sane d) (h1 : oneB d) : baseL d.files = stR (tellB d.files) :=
  base_go d.files (0, []) (fun f hf => hs.synced f hf) (by rw [goods_len d.files (fun f hf => hs.synced f hf)]; exact h1) (.inl rfl)
theorem fold_from : ∀ (l : List (Nat × PF)) (b : Nat × List UInt8), (l.foldl stepR b).1 ≠ 0 → (l.foldl stepR b).1 = b.1 ∨ ∃ x ∈ l, (lookL x.1 x.2).2 = 1 ∧ (l.foldl stepR b).1 = x.1
  | [], b, _ => .inl rfl
  | x :: r, b, h => by
    rw [List.foldl_cons] at h ⊢
    rcases fold_from r _ h with h' | ⟨y, hy, h2, h3⟩
    · by_cases hk : (lookL x.1 x.2).2 = 1
      · refine .inr ⟨x, by simp, hk, ?_⟩
        rw [h', stepR, if_pos hk]
      · refine .inl ?_
        rw [h', stepR, if_neg hk]
    · exact .inr ⟨y, by simp [hy], h2, h3⟩
theorem fold_one : ∀ (l : List (Nat × PF)) (b : Nat × List UInt8) (x : Nat × PF), (goods l).length ≤ 1 → x ∈ l → (lookL x.1 x.2).2 = 1 → (l.foldl stepR b).1 = x.1
  | [], b, x, _, h, _ => by cases h
  | y :: r, b, x, h1, h, hk => by
    rw [List.foldl_cons]
    by_cases hy : (lookL y.1 y.2).2 = 1
    · have hg : goods (y :: r) = y :: goods r := by unfold goods; rw [List.filter_cons_of_pos (by simp [hy])]
      rw [hg, List.length_cons] at h1
      have h0 : goods r = [] := List.eq_nil_of_length_eq_zero (by omega)
      rcases List.mem_cons.1 h with rfl | h'
      · rw [st_none r _ h0, stepR, if_pos hk]
      · exfalso
        unfold goods at h0
        rw [List.filter_eq_nil_iff] at h0
        exact h0 x h' (by simpa using hk)
    · have hg : goods (y :: r) = goods r := by unfold goods; rw [List.filter_cons_of_neg (by simpa using hy)]
      rw [hg] at h1
      rcases List.mem_cons.1 h with rfl | h'
      · exact absurd hk hy
      · exact fold_one r _ x h1 h' hk
/-- The files that stay. -/
theorem stay_iff {d : PD} (hs : Sane d) (hn : (d.files.map PF.name).Nodup) (h1 : oneB d) (hok : okR (tellB d.files)) {f : PF} (hf : f ∈ d.files) : stayB (baseL d.files).1 f = decide (f.name ∉ yo (tellB d.files)) := by
  have huniq : ∀ g ∈ d.files, g.name = f.name → g = f := by
    have : ∀ (l : List PF), (l.map PF.name).Nodup → f ∈ l → ∀ g ∈ l, g.name = f.name → g = f := by
      intro l
      induction l with
      | nil => intro _ h; cases h
      | cons a r ih =>
        intro hn h g hg e
        rw [List.map_cons, List.nodup_cons] at hn
        rcases List.mem_cons.1 h with rfl | h' <;> rcases List.mem_cons.1 hg with rfl | hg'
        · rfl
        · exact absurd (e ▸ List.mem_map_of_mem (f := PF.name) hg') hn.1
        · exact absurd (e.symm ▸ List.mem_map_of_mem (f := PF.name) h') hn.1
        · exact ih hn.2 h' g hg' e
    exact this _ hn hf
  have hgl : (goods (tellB d.files)).length ≤ 1 := by rw [goods_len d.files (fun f hf => hs.synced f hf)]; exact h1
  have key : (bnum f.name = 0 ∨ bnum f.name = (baseL d.files).1) ↔ f.name ∉ yo (tellB d.files) := by
    rw [yo_mem hs, base_st hs h1]
    constructor
    · rintro hor ⟨g, hg, e, h2, h3⟩
      obtain rfl := huniq g hg e
      rcases hor with h0 | h0
      · exact h2 h0
      · have hne : ((tellB d.files).foldl stepR (0, [])).1 ≠ 0 := by unfold stR at h0; rw [← h0]; exact h2
        rcases fold_from _ _ hne with h4 | ⟨x, hx, hk, h4⟩
        · exact hne h4
        · obtain ⟨hxf, hx1, hx2⟩ := tell_in hx
          unfold stR at h0
          rw [h4, hx1] at h0
          have hnm : x.2.name = g.name := by
            rw [(bnum_is (show bnum x.2.name ≠ 0 from hx1 ▸ hx2)).2, (bnum_is h2).2, h0]
          have := huniq x.2 hxf hnm
          rw [hx1, this] at hk
          rw [(look_young (hs.synced _ hf)).2 h3] at hk
          cases hk
    · intro hy
      by_cases h0 : bnum f.name = 0
      · exact .inl h0
      · refine .inr ?_
        have hsy : f.synced ≠ 0 := fun h3 => hy ⟨f, hf, rfl, h0, h3⟩
        have hx := tell_of hf h0
        have hk : (lookL (bnum f.name) f).2 = 1 := by
          rcases look_kinds (bnum f.name) f with h | h | h
          · exact absurd ((look_young (hs.synced f hf)).1 h) hsy
          · exact h
          · exact absurd h (hok _ hx)
        unfold stR
        rw [fold_one _ (0, []) _ hgl hx hk]
  unfold stayB
  rw [← Bool.decide_or, decide_eq_decide]
  exact key
theorem open_bad {d : PD} (hs : Sane d) (ha : d.dead = false) (h : ∃ x ∈ tellB d.files, (lookL x.1 x.2).2 = 2) : openB d = (d, 10) := by
  unfold openB
  rw [if_neg (by simp [ha]), if_pos ((spoilt_any hs).2 h)]
theorem open_good {d : PD} (hs : Sane d) (hn : (d.files.map PF.name).Nodup) (h1 : oneB d) (ha : d.dead = false) (hok : okR (tellB d.files)) : openB d = (remAll d (yo (tellB d.files)), 0) ∧ baseL (openB d).1.files = stR (tellB d.files) := by
  have hsp : ¬ d.files.any spoiltB = true := fun h => by
    obtain ⟨x, hx, hk⟩ := (spoilt_any hs).1 h
    exact hok x hx hk
  have hr := rem_all (yo (tellB d.files)) d ha hn (yo_nodup hn) (fun x hx => by
    obtain ⟨f, hf, rfl, _⟩ := (yo_mem hs).1 hx
    exact List.mem_map_of_mem hf)
  have hfil : d.files.filter (stayB (baseL d.files).1) = d.files.filter (fun g => decide (g.name ∉ yo (tellB d.files))) := List.filter_congr fun f hf => stay_iff hs hn h1 hok hf
  have ho : openB d = (remAll d (yo (tellB d.files)), 0) := by
    unfold openB
    rw [if_neg (by simp [ha]), if_neg hsp, hfil, hr]
  refine ⟨ho, ?_⟩
  rw [ho, hr, ← base_st hs h1]
  refine base_filter _ _ _ (fun f hf hq => ?_)
  have hq' : f.name ∈ yo (tellB d.files) := by simpa using hq
  obtain ⟨g, hg, e, h2, h3⟩ := (yo_mem hs).1 hq'
  have hsf : stayB (baseL d.files).1 f = false := by rw [stay_iff hs hn h1 hok hf]; simpa using hq'
  cases hgd : goodB f with
  | none => rfl
  | some t =>
    exfalso
    have hb : bnum f.name ≠ 0 := by rw [← e]; exact h2
    have hk := (look_good (hs.synced f hf)).1 t hgd
    have hgl : (goods (tellB d.files)).length ≤ 1 := by rw [goods_len d.files (fun f hf => hs.synced f hf)]; exact h1
    have := fold_one _ (0, []) _ hgl (tell_of hf hb) (by simp only; rw [hk])
    unfold stayB at hsf
    rw [base_st hs h1, stR, this] at hsf
    simp at hsf

end Go.Proofs.YthpamdjgkmaleaaGreatDoor

namespace Go.Proofs.YthpamdjgkmaleaaGreatDoor
open Go.RowKit
set_option linter.unusedVariables false

/-- At x a store on the disk d at block p, none of their blocks in K. -/
def BaseG (K : Nat → Prop) (w : World) (x : Addr) (p : Nat) (d : PD) : Prop :=
  ∃ xb F, x = ⟨xb, 0, none⟩ ∧ BaseM w xb p d F (baseL d.files).1 (baseL d.files).2 ∧ ¬ K xb ∧ (∀ k, F k → ¬ K k) ∧ ∀ k, K k → k < w.heap.size

variable {w w' : World} {p : Nat} {d : PD} {F : Nat → Prop}

theorem disk_nodup (h : DiskOf w p d F) : (d.files.map PF.name).Nodup := by
  obtain ⟨h1, mb, G, h2, h3, h4⟩ := h
  rw [← h3, List.map_map]
  exact sortedN_nodup h2.names
theorem Step.refl (h : DiskOf w p d F) : Step w p F d F w := ⟨h, fun _ hk => .inl hk, Turned.refl _ w⟩

set_option maxRecDepth 100000 in
set_option maxHeartbeats 1000000 in
theorem open_dead_is (h : DiskOf w p d F) (hd : d.dead = true) : Calls Tryz.prog 7 #[.pointer (some ⟨p, 0, none⟩)] w fun r w' => r = .returned (.tuple #[.pointer none, .int .i64 8]) ∧ Below w.heap.size w w' := by
  have hc := dead_any h
  rw [hd] at hc
  have HC := Lib.hid hc
  clear hc
  go_enter Tryz.func7, Tryz.ntmps7
  go_wp2_with (go_at_call 13; refine HC.out.mono ?_; rintro r w1 ⟨rfl, rfl⟩)
  go_ret2
  exact ⟨rfl, Below.refl _ _⟩
set_option maxRecDepth 100000 in
set_option maxHeartbeats 1000000 in
theorem open_nil_is (w : World) : Calls Tryz.prog 7 #[.pointer none] w fun r w' => r = .returned (.tuple #[.pointer none, .int .i64 1]) ∧ Below w.heap.size w w' := by
  go_enter Tryz.func7, Tryz.ntmps7
  go_wp2
  go_ret2
  exact ⟨rfl, Below.refl _ _⟩

/-- What read answers. -/
def ReadsBad (w : World) (p : Nat) : Prop := Calls Tryz.prog 21 #[.pointer (some ⟨p, 0, none⟩)] w fun r w' => r = .returned (.tuple #[.pointer none, .slice none 0 0, .bool false]) ∧ Below w.heap.size w w'
set_option maxRecDepth 100000 in
set_option maxHeartbeats 1000000 in
theorem open_bad_is (h : DiskOf w p d F) (hd : d.dead = false) (hr : ReadsBad w p) : Calls Tryz.prog 7 #[.pointer (some ⟨p, 0, none⟩)] w fun r w' => r = .returned (.tuple #[.pointer none, .int .i64 10]) ∧ Below w.heap.size w w' := by
  have hc := dead_any h
  rw [hd] at hc
  unfold ReadsBad at hr
  have HC := Lib.hid hc
  have HR := Lib.hid hr
  clear hc hr
  go_enter Tryz.func7, Tryz.ntmps7
  go_wp2_with (first
    | (go_at_call 13; refine HC.out.mono ?_; rintro r w1 ⟨rfl, rfl⟩)
    | (go_at_call 21; refine HR.out.mono ?_; rintro r w2 ⟨rfl, b2⟩))
  go_ret2
  exact ⟨rfl, b2⟩

/-- The row of names that read leaves. -/
structure Names (W : World) (b : Nat) (a : Option Addr) (c : Nat) (U : List (List UInt8)) : Prop where
  row : W.ownsRow b 9 1 (.slice a U.length c) U.length (strU U)
theorem Names.cell {W : World} {b : Nat} {a : Option Addr} {c : Nat} {U : List (List UInt8)} (h : Names W b a c U) {k : Nat} (hk : k < U.length) : ∃ g, a = some ⟨g, 0, none⟩ ∧ W.cell? ⟨g, k, none⟩ = some (.string (B U[k])) := by
  rcases h.row.2 with ⟨_, h0⟩ | ⟨g, cap, cur, e, _⟩
  · omega
  · simp only [Value.slice.injEq] at e
    obtain ⟨rfl, _, rfl⟩ := e
    refine ⟨g, rfl, ?_⟩
    have := h.row.cellAt k (by omega)
    rw [this]
    simp [strU, hk]

set_option maxRecDepth 100000 in
set_option maxHeartbeats 2000000 in
theorem open_good_is (h : DiskOf w p d F) (hd : d.dead = false) (hs : Sane d) {U : List (List UInt8)} {sb n : Nat} {t : List UInt8} (hsb : w.heap.size ≤ sb)
    (hr : Calls Tryz.prog 21 #[.pointer (some ⟨p, 0, none⟩)] w fun r w' => Below w.heap.size w w' ∧ ∃ a c, r = .returned (.tuple #[.pointer (some ⟨sb, 0, none⟩), .slice a U.length c, .bool true]) ∧
      w'.heap[sb]? = some (.cells #[.pointer (some ⟨p, 0, none⟩), .int .u64 n, .string (B t)] 55 (0, 0)) ∧ Names w' w.heap.size a c U)
    (hU : ∀ k, k < U.length → ((remAll d (U.take k)).remove (U.getD k [])).2 = 0 ∧ 0 ≤ (remAll d (U.take k)).room ∧ (remAll d (U.take k)).room + totF (remAll d (U.take k)).files ≤ 4194304 ∧ (U.getD k []).length ≤ 24) (hfew : U.length ≤ 1000) :
    Calls Tryz.prog 7 #[.pointer (some ⟨p, 0, none⟩)] w fun r w' => r = .returned (.tuple #[.pointer (some ⟨sb, 0, none⟩), .int .i64 0]) ∧ ∃ F',
      Step w p F (remAll d U) F' w' ∧ ¬ F' sb ∧ w'.heap[sb]? = some (.cells #[.pointer (some ⟨p, 0, none⟩), .int .u64 n, .string (B t)] 55 (0, 0)) := by
  have hc := dead_any h
  rw [hd] at hc
  have HC := Lib.hid hc
  have HR := Lib.hid hr
  have HU := Lib.hid hU
  have HD := Lib.hid h
  clear hc hr hU h
  go_enter Tryz.func7, Tryz.ntmps7
  go_wp2_with (first
    | (go_at_call 13; refine HC.out.mono ?_; rintro r w1 ⟨rfl, rfl⟩)
    | (go_at_call 21; refine HR.out.mono ?_; rintro r w2 ⟨b2, a, c, rfl, st, nm⟩))
  have i0 : Step w2 p F d F w2 := Step.refl (HD.out.below b2)
  have HB2 := Lib.hid b2
  have HST := Lib.hid st
  have HNM := Lib.hid nm
  have HI0 := Lib.hid i0
  clear b2 st nm i0
  go_loopw [24] (fun iv wr => ∃ (k : Nat) (F' : Nat → Prop), k ≤ U.length ∧ iv = .int .i64 k ∧ Hid (Step w2 p F (remAll d (U.take k)) F' wr)) (fun iv _ => U.length - (intOf iv).toNat)
  case atStart => exact ⟨0, F, Nat.zero_le _, rfl, HI0⟩
  case round =>
    obtain ⟨k, F', hk, rfl, hst⟩ := hrel
    by_cases hlt : k < U.length
    · obtain ⟨g, rfl, hcell⟩ := HNM.out.cell hlt
      have hF : ¬ F g := fun hf => by
        have h1 := (HNM.out.row.lt g (by simp [Value.ownBlock])).1
        have h2 := HD.out.lt hf
        omega
      have hcw : wr.cell? ⟨g, k, none⟩ = some (.string (B U[k])) := by
        have := (HNM.out.row.lt g (by simp [Value.ownBlock])).2
        exact (World.cell?_of_block (a := ⟨g, k, none⟩) (hst.out.turn.block g this hF)).trans hcell
      obtain ⟨u1, u2, u3, u4⟩ := HU.out k hlt
      have hget : U.getD k [] = U[k] := by simp [List.getD, hlt]
      rw [hget] at u1 u4
      have hrem := remove_any hst.out.disk U[k] (by unfold maxLen; omega) u2 (by omega)
      rw [u1] at hrem
      have hnext : remAll d (U.take (k + 1)) = ((remAll d (U.take k)).remove U[k]).1 := by rw [List.take_succ_eq_append_getElem hlt, remAll_snoc]
      have HREM := Lib.hid hrem
      have HNEXT := Lib.hid hnext
      have HLT := Lib.hid hlt
      generalize hx : B U[k] = X at *
      clear hcell hrem hnext u1 u2 u3 u4 hget
      go_wp2_with (go_at_call 22; refine HREM.out.mono ?_; rintro r w4 ⟨rfl, m4⟩; obtain ⟨F4, s4⟩ := m4.step; have HS4 := Lib.hid (hst.out.trans s4); clear m4 s4)
      exact ⟨⟨k + 1, F4, (by have := HLT.out; omega), by simp, by rw [HNEXT.out]; exact HS4⟩, (by have := HLT.out; simp [intOf]; omega)⟩
    · obtain rfl : k = U.length := by omega
      have hF : ¬ F sb := fun hf => by have := HD.out.lt hf; omega
      have hlt2 : sb < w2.heap.size := (Array.getElem?_eq_some_iff.1 HST.out).1
      have hnF : ¬ F' sb := fun hf => by
        rcases hst.out.sub sb hf with h1 | h1
        · exact hF h1
        · omega
      have hcell := (hst.out.turn.block sb hlt2 hF).trans HST.out
      have hst2 := hst.out
      rw [List.take_length] at hst2
      have HS2 := Lib.hid hst2
      clear hst2
      go_wp2
      go_ret2
      exact ⟨rfl, F', ⟨HS2.out.disk, fun i hi => (HS2.out.sub i hi).imp id (fun h' => Nat.le_trans HB2.out.size h'), (Turned.of_below (F := F) HB2.out).trans HS2.out.turn (fun _ h' => .inl h')⟩, hnF, hcell⟩

theorem not_in_take {α : Type} {l : List α} (h : l.Nodup) {k : Nat} (hk : k < l.length) : l[k] ∉ l.take k := by
  have h2 : (l.take k ++ l[k] :: l.drop (k + 1)).Nodup := by rw [← List.drop_eq_getElem_cons hk, List.take_append_drop]; exact h
  intro hin
  exact (List.nodup_append.1 h2).2.2 _ hin _ List.mem_cons_self rfl
theorem openB_dead {d : PD} (h : d.dead = true) : openB d = (d, 8) := by unfold openB; rw [if_pos h]

theorem opens_is (h : DiskOf w p d F) (E : Env w) (hv : ∀ k, F k → ¬ Vr k) (hs : Sane d) (h1 : oneB d) : Calls Tryz.prog 7 #[.pointer (some ⟨p, 0, none⟩)] w fun r w' => ∃ x F',
    r = .returned (.tuple #[.pointer x, .int .i64 (openB d).2]) ∧ Step w p F (openB d).1 F' w' ∧
    ((openB d).2 ≠ 0 → x = none) ∧ ((openB d).2 = 0 → ∃ y, x = some y ∧ ∀ K, (∀ k, F' k → ¬ K k) → (∀ k, K k → k < w.heap.size) → BaseG K w' y p (openB d).1) := by
  by_cases hd : d.dead = true
  · refine (open_dead_is h hd).mono ?_
    rintro r w' ⟨rfl, b⟩
    rw [openB_dead hd]
    exact ⟨none, F, rfl, (Step.refl h).below b, fun _ => rfl, fun e => absurd e (show ¬ (8 : Int) = 0 by decide)⟩
  have hd0 : d.dead = false := by simpa using hd
  have hn := disk_nodup h
  have hgl : (goods (tellB d.files)).length ≤ 1 := by rw [goods_len d.files (fun f hf => hs.synced f hf)]; exact h1
  have hread := read_is w h E hs hgl
  by_cases hbad : ∃ x ∈ tellB d.files, (lookL x.1 x.2).2 = 2
  · have hr : ReadsBad w p := by
      refine hread.mono ?_
      rintro r w' ⟨b, ⟨_, hr⟩ | ⟨hok, _⟩⟩
      · exact ⟨hr, b⟩
      · obtain ⟨x, hx, hk⟩ := hbad
        exact absurd hk (hok x hx)
    refine (open_bad_is h hd0 hr).mono ?_
    rintro r w' ⟨rfl, b⟩
    rw [open_bad hs hd0 hbad]
    exact ⟨none, F, rfl, (Step.refl h).below b, fun _ => rfl, fun e => absurd e (show ¬ (10 : Int) = 0 by decide)⟩
  · have hok : okR (tellB d.files) := fun x hx hk => hbad ⟨x, hx, hk⟩
    obtain ⟨ho, hbase⟩ := open_good hs hn h1 hd0 hok
    have hyn := yo_nodup hn
    have hym : ∀ x ∈ yo (tellB d.files), x ∈ d.files.map PF.name := fun x hx => by
      obtain ⟨f, hf, rfl, _⟩ := (yo_mem hs).1 hx
      exact List.mem_map_of_mem hf
    have hfew : (yo (tellB d.files)).length ≤ 1000 := by
      have a1 : (yo (tellB d.files)).length ≤ (tellB d.files).length := by unfold yo; rw [List.length_map]; exact List.length_filter_le _ _
      have a2 : (tellB d.files).length ≤ d.files.length := List.length_filterMap_le _ _
      have := hs.few
      omega
    have hr0 := hs.room0
    have hr1 := hs.room1
    refine (open_good_is (sb := w.heap.size + 3) (n := (stR (tellB d.files)).1) (t := (stR (tellB d.files)).2) (U := yo (tellB d.files)) h hd0 hs (by omega) (hread.mono ?_) ?_ hfew).mono ?_
    · rintro r w' ⟨b, ⟨hsp, _⟩ | ⟨_, v, hr, st, row⟩⟩
      · exact absurd hsp hbad
      · obtain ⟨a, c, rfl⟩ := row_val row
        exact ⟨b, a, c, hr, st, ⟨ownsRow_lowU row (Nat.le_add_right _ 8)⟩⟩
    · intro k hk
      have htk : (yo (tellB d.files)).take k <+: yo (tellB d.files) := List.take_prefix _ _
      have hra := rem_all ((yo (tellB d.files)).take k) d hd0 hn (hyn.sublist (List.take_sublist _ _)) (fun x hx => hym x (List.mem_of_mem_take hx))
      have hget : (yo (tellB d.files)).getD k [] = (yo (tellB d.files))[k] := by simp [List.getD, hk]
      rw [hget, hra]
      have hmem : (yo (tellB d.files))[k] ∈ yo (tellB d.files) := List.getElem_mem hk
      obtain ⟨f, hf, hfn, _⟩ := (yo_mem hs).1 hmem
      have hnot : f.name ∉ (yo (tellB d.files)).take k := by
        rw [hfn]
        exact not_in_take hyn hk
      have hsub : (d.files.filter (fun g => decide (g.name ∉ (yo (tellB d.files)).take k))).Sublist d.files := List.filter_sublist
      have htot : totF (d.files.filter (fun g => decide (g.name ∉ (yo (tellB d.files)).take k))) ≤ totF d.files := by
        have : ∀ (l : List PF) (q : PF → Bool), totF (l.filter q) ≤ totF l := by
          intro l q
          induction l with
          | nil => simp
          | cons a r ih =>
            by_cases hq : q a = true
            · rw [List.filter_cons_of_pos hq, totF_cons, totF_cons]; omega
            · rw [List.filter_cons_of_neg hq, totF_cons]; omega
        exact this _ _
      have hone := rem_one (d := { d with files := d.files.filter (fun g => decide (g.name ∉ (yo (tellB d.files)).take k)), room := d.room + ((totF d.files : Int) - totF (d.files.filter (fun g => decide (g.name ∉ (yo (tellB d.files)).take k)))) }) hd0 (List.Sublist.nodup (List.Sublist.map _ hsub) hn) (f := f) (List.mem_filter.2 ⟨hf, by simpa using hnot⟩)
      rw [hfn] at hone
      refine ⟨by rw [hone], by simp only; omega, by simp only; omega, ?_⟩
      have := hs.names f hf
      rw [hfn] at this
      exact this
    · rintro r w' ⟨rfl, F', st, hnf, hcell⟩
      have hE' : Env w' := E.same (fun k hk => st.turn.block k (E.lt hk) (fun hf => hv k hf hk))
      rw [ho]
      refine ⟨_, F', rfl, st, fun e => absurd rfl e, fun _ => ⟨_, rfl, fun K hK hlt => ⟨w.heap.size + 3, F', rfl, ?_, fun hk => ?_, hK, fun k hk => Nat.lt_of_lt_of_le (hlt k hk) st.turn.size⟩⟩⟩
      · rw [ho] at hbase
        simp only at hbase ⊢
        rw [hbase]
        refine ⟨hcell, st.disk, hnf, hE', fun k hk hvk => ?_, fun hvk => ?_⟩
        · rcases st.sub k hk with h' | h'
          · exact hv k h' hvk
          · have := E.lt hvk; omega
        · have := E.lt hvk; omega
      · have := hlt _ hk; omega

/-- What a call on a store leaves, told of the blocks K. -/
theorem baseOut_g {K F : Nat → Prop} {w w' : World} {xb p n : Nat} {t : List UInt8} {d' : PD} (h3 : ¬ K xb) (h4 : ∀ k, F k → ¬ K k) (h5 : ∀ k, K k → k < w.heap.size) (hx : xb < w.heap.size) (ho : BaseOut w xb p F d' n t w') :
    DkOff K w' p d' ∧ Kept K w w' ∧ (baseL d'.files = (n, t) → BaseG K w' ⟨xb, 0, none⟩ p d') := by
  obtain ⟨F', M, s1, s2⟩ := ho
  have off : ∀ k, F' k → ¬ K k := fun k hk hk2 => by
    rcases s1 k hk with h | h
    · exact h4 k h hk2
    · have := h5 k hk2; omega
  have ltK : ∀ k, K k → k < w'.heap.size := fun k hk => Nat.lt_of_lt_of_le (h5 k hk) s2.size
  refine ⟨⟨F', M.disk, off, ⟨ltK, M.env, M.fv⟩⟩, ⟨s2.os, s2.tape, s2.output, s2.size, fun k hk hn => s2.block k hk (fun hh => ?_)⟩, fun hb => ⟨xb, F', rfl, by rw [hb]; exact M, h3, off, ltK⟩⟩
  rcases hh with hh | rfl
  · exact hn (h4 k hh)
  · exact hn h3

theorem baseSpec : BaseSpec BaseG where
  disk := by
    rintro K w x p d ⟨xb, F, rfl, M, h3, h4, h5⟩
    exact ⟨F, M.disk, h4, ⟨h5, M.env, M.fv⟩⟩
  kept := by
    rintro K K' w w' x p d ⟨xb, F, rfl, M, h3, h4, h5⟩ hs hk hK hlt
    have hx := M.lt
    have off : ∀ k, F k → ¬ K' k := fun k hf hk2 => by
      rcases hK k hk2 with h | h
      · exact h4 k hf h
      · have := M.disk.lt hf; omega
    refine ⟨xb, F, rfl, ⟨(hk xb hx (.inl h3)).trans M.cell, M.disk.kept hs (fun k hf => hk k (M.disk.lt hf) (.inl (h4 k hf))), M.nf, M.env.same (fun k hv => hk k (M.env.lt hv) (.inr hv)), M.fv, M.xv⟩, fun hk2 => ?_, off, hlt⟩
    rcases hK xb hk2 with h | h
    · exact h3 h
    · omega
  moved := by
    rintro K w x p d ⟨xb, F, rfl, M, h3, h4, h5⟩
    refine ⟨F, M.disk, h4, ⟨h5, M.env, M.fv⟩, ?_⟩
    intro K' d' F' w' st hl hK hoff
    have hx := M.lt
    obtain ⟨F2, M2, s1, s2⟩ := M.moves (d' := d') (w' := w') ⟨F', st.disk, st.sub, st.turn⟩
    refine ⟨xb, F', rfl, ⟨by rw [hl]; exact M2.cell, st.disk, fun hf => ?_, M2.env, fun k hf hv => ?_, M.xv⟩, fun hk2 => ?_, fun k hf hk2 => (hoff k hk2).1 hf, fun k hk2 => (hoff k hk2).2⟩
    · rcases st.sub xb hf with h | h
      · exact M.nf h
      · omega
    · rcases st.sub k hf with h | h
      · exact M.fv k h hv
      · have := M.env.lt hv; omega
    · rcases hK xb hk2 with h | h
      · exact h3 h
      · omega
  opens := by
    intro w p d F h E hv hs h1
    exact opens_is h E hv hs h1
  bases := by
    rintro K w x p d ⟨xb, F, rfl, M, h3, h4, h5⟩
    refine (base_is M (base_zero d.files (0, []) (fun _ => rfl))).mono ?_
    rintro r w' ⟨rfl, hb⟩
    obtain ⟨g1, g2, g3⟩ := baseOut_g h3 h4 h5 M.lt (M.of_below hb)
    exact ⟨rfl, g3 rfl, g2⟩
  saves := by
    rintro K w x p d n t f m u ⟨xb, F, rfl, M, h3, h4, h5⟩ hb f0 f1 hm hu
    have hbl := hb.base
    have h3' := h3
    by_cases hmn : m ≤ n
    · rw [hbl] at M
      have hsv := save_arg (u := u) hb hmn
      refine (save_low M hmn u).mono ?_
      rintro e w' ⟨rfl, b⟩
      obtain ⟨g1, g2, g3⟩ := baseOut_g h3 h4 h5 M.lt (M.of_below b)
      rw [hsv]
      exact ⟨rfl, fun _ => g3 hbl, g1, g2⟩
    · have hnm : n < m := by omega
      rcases hu with hu | ⟨hu, hl⟩
      · rw [hbl] at M
        refine (save_is M hb f0 f1 hnm hm hu).mono ?_
        rintro e w' ⟨rfl, n', t', o, hend⟩
        obtain ⟨g1, g2, g3⟩ := baseOut_g h3 h4 h5 M.lt o
        exact ⟨rfl, fun hd => g3 (hend hd), g1, g2⟩
      · rw [hbl] at M
        have hsv : saveB d m u = (d, 6) := by
          unfold saveB
          rw [hbl, if_neg (by simp only; omega), if_pos hl]
        refine (save_great M hnm hm hu hl).mono ?_
        rintro e w' ⟨rfl, b⟩
        obtain ⟨g1, g2, g3⟩ := baseOut_g h3 h4 h5 M.lt (M.of_below b)
        rw [hsv]
        exact ⟨rfl, fun _ => g3 hbl, g1, g2⟩
  open_nil := open_nil_is
  base_nil := base_nil_is
  save_nil := save_nil_is

end Go.Proofs.YthpamdjgkmaleaaGreatDoor
