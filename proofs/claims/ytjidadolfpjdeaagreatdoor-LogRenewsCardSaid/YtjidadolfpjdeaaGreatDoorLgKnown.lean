/-
  The law LogKnown over this translation, over a LogSpec: its disks, one behind the other, by computing.
-/
import Derived.Test.YtjidadolfpjdeaaGreatDoorLgUse
namespace Go.Proofs.YtjidadolfpjdeaaGreatDoor
open Go.RowKit
set_option linter.unusedVariables false
set_option maxRecDepth 1000000
variable {G : (Nat → Prop) → World → Addr → Nat → PD → Prop}

def zz : List UInt8 := List.replicate 1024 0
def junk : List UInt8 := [106, 117, 110, 107]
def kf (n s : Nat) : PF := ⟨nameL n, frameL zz, s⟩
def kdN : Nat → PD
  | 0 => PD.new
  | 1 => ⟨[kf 1 0], 4194304 - 1035, -1, false⟩
  | 2 => ⟨[kf 1 1035, kf 2 0], 4194304 - 2070, -1, false⟩
  | _ => ⟨[kf 1 1035, kf 2 1035, kf 3 0], 4194304 - 3105, -1, false⟩
def k3 : List PF := [kf 1 1035, kf 2 1035, kf 3 1035]
def jT : PF := ⟨[116, 48, 48, 48, 48, 48, 48, 48, 49], junk, 0⟩
def j1 : PF := ⟨[115, 49], junk, 0⟩
def j4 : PF := ⟨[115, 48, 48, 48, 48, 48, 48, 48, 48, 52], junk, 0⟩
def j0 : PF := ⟨[115, 48, 48, 48, 48, 48, 48, 48, 48], junk, 0⟩
def kd4 : PD := ⟨k3, 4194304 - 3105, -1, false⟩
def kd5 : PD := ⟨k3 ++ [jT], 4194304 - 3109, -1, false⟩
def kd6 : PD := ⟨k3 ++ [j1, jT], 4194304 - 3113, -1, false⟩
def kd7 : PD := ⟨j4 :: k3 ++ [j1, jT], 4194304 - 3117, -1, false⟩
def kd8 : PD := ⟨j0 :: j4 :: k3 ++ [j1, jT], 4194304 - 3121, -1, false⟩
def kdA (fs : List PF) (r : Int) : PD := ⟨j0 :: j4 :: k3 ++ (fs ++ [j1, jT]), r, -1, false⟩
def kd10 : PD := kdA [⟨nameL 4, [7], 0⟩] (4194304 - 3122)
def kd11 : PD := kdA [⟨nameL 4, [], 0⟩] (4194304 - 3121)
def kd12 : PD := kdA [⟨nameL 4, [], 0⟩, ⟨nameL 6, [], 0⟩] (4194304 - 3121)
def kd14 : PD := kdA [⟨nameL 4, [], 0⟩, ⟨nameL 5, [], 0⟩] (4194304 - 3121)
def kd16 : PD := kdA [⟨nameL 4, [120], 0⟩, ⟨nameL 5, [], 0⟩] (4194304 - 3122)
theorem kn_add0 : addL (kdN 0) zz = (kdN 1, 0) := by kernel_rfl
theorem kn_add1 : addL (kdN 1) zz = (kdN 2, 0) := by kernel_rfl
theorem kn_add2 : addL (kdN 2) zz = (kdN 3, 0) := by kernel_rfl
theorem kn_segs : (segsL (kdN 3).files).length = 3 := by kernel_rfl
theorem kn_sync : syncL (kdN 3) = (kd4, 0) := by kernel_rfl
theorem kn_5 : kd4.append [116, 48, 48, 48, 48, 48, 48, 48, 49] junk = (kd5, 0) := by kernel_rfl
theorem kn_6 : kd5.append [115, 49] junk = (kd6, 0) := by kernel_rfl
theorem kn_7 : kd6.append [115, 48, 48, 48, 48, 48, 48, 48, 48, 52] junk = (kd7, 0) := by kernel_rfl
theorem kn_8 : kd7.append [115, 48, 48, 48, 48, 48, 48, 48, 48] junk = (kd8, 0) := by kernel_rfl
theorem kn_9 : openL kd8 = (kd8, [zz, zz, zz], 0) := by kernel_rfl
theorem kn_10 : kd8.append [115, 48, 48, 48, 48, 48, 48, 48, 52] [7] = (kd10, 0) := by kernel_rfl
theorem kn_11 : openL kd10 = (kd11, [zz, zz, zz], 0) := by kernel_rfl
theorem kn_12 : kd11.append [115, 48, 48, 48, 48, 48, 48, 48, 54] [] = (kd12, 0) := by kernel_rfl
theorem kn_12o : openL kd12 = (kd12, [], 10) := by kernel_rfl
theorem kn_13 : kd12.remove [115, 48, 48, 48, 48, 48, 48, 48, 54] = (kd11, 0) := by kernel_rfl
theorem kn_14 : kd11.append [115, 48, 48, 48, 48, 48, 48, 48, 53] [] = (kd14, 0) := by kernel_rfl
theorem kn_15 : openL kd14 = (kd14, [zz, zz, zz], 0) := by kernel_rfl
theorem kn_16 : kd14.append [115, 48, 48, 48, 48, 48, 48, 48, 52] [120] = (kd16, 0) := by kernel_rfl
theorem kn_16o : openL kd16 = (kd16, [], 10) := by kernel_rfl

def saneB (d : PD) : Bool := decide (d.files.length ≤ 1000) && d.files.all (fun f => decide (f.name.length ≤ 24) && decide (f.synced ≤ f.bytes.length)) && decide (-1 ≤ d.fuse) && decide (d.fuse ≤ 9223372036854775807) && decide (0 ≤ d.room) && decide (d.room + totF d.files ≤ 4194304)
theorem sane_of {d : PD} (h : saneB d = true) : Sane d := by
  simp only [saneB, Bool.and_eq_true, decide_eq_true_eq, List.all_eq_true] at h
  obtain ⟨⟨⟨⟨⟨h1, h2⟩, h3⟩, h4⟩, h5⟩, h6⟩ := h
  exact ⟨h1, fun f hf => (h2 f hf).1, fun f hf => (h2 f hf).2, h3, h4, h5, h6⟩
theorem sn1 : Sane (kdN 1) := sane_of (by kernel_rfl)
theorem sn2 : Sane (kdN 2) := sane_of (by kernel_rfl)
theorem sn3 : Sane (kdN 3) := sane_of (by kernel_rfl)
theorem sn4 : Sane kd4 := sane_of (by kernel_rfl)
theorem sn5 : Sane kd5 := sane_of (by kernel_rfl)
theorem sn6 : Sane kd6 := sane_of (by kernel_rfl)
theorem sn7 : Sane kd7 := sane_of (by kernel_rfl)
theorem sn8 : Sane kd8 := sane_of (by kernel_rfl)
theorem sn10 : Sane kd10 := sane_of (by kernel_rfl)
theorem sn11 : Sane kd11 := sane_of (by kernel_rfl)
theorem sn12 : Sane kd12 := sane_of (by kernel_rfl)
theorem sn14 : Sane kd14 := sane_of (by kernel_rfl)
theorem sn16 : Sane kd16 := sane_of (by kernel_rfl)

theorem DkOff.weak {K K' : Nat → Prop} {w : World} {p : Nat} {d : PD} (h : DkOff K w p d) (hK : ∀ k, K' k → K k) : DkOff K' w p d := by
  obtain ⟨F, h1, h2, h3⟩ := h
  exact ⟨F, h1, fun k hk h => h2 k hk (hK k h), fun k hk => h3 k (hK k hk), h3.env, h3.fv⟩
theorem DkOff.app {K : Nat → Prop} {w : World} {p : Nat} {d d' : PD} {nm s : List UInt8} (h : DkOff K w p d) (hs : Sane d) (h1 : nm.length ≤ 100) (h2 : s.length ≤ 100) (ha : d.append nm s = (d', 0)) :
    Calls Tryz.prog 23 #[.pointer (some ⟨p, 0, none⟩), .string (B nm), .string (B s)] w fun r w' => r = .returned (.int .i64 0) ∧ DkOff K w' p d' ∧ Kept K w w' := by
  have r0 := hs.room0
  have r1 := hs.room1
  refine h.calls fun F hF => ?_
  have := append_any hF nm s (by omega) (by omega) r0 (by omega) hs.fuse0 hs.fuse1
  rw [ha] at this
  exact this
theorem DkOff.rem {K : Nat → Prop} {w : World} {p : Nat} {d d' : PD} {nm : List UInt8} (h : DkOff K w p d) (hs : Sane d) (h1 : nm.length ≤ 100) (ha : d.remove nm = (d', 0)) :
    Calls Tryz.prog 24 #[.pointer (some ⟨p, 0, none⟩), .string (B nm)] w fun r w' => r = .returned (.int .i64 0) ∧ DkOff K w' p d' ∧ Kept K w w' := by
  have r0 := hs.room0
  have r1 := hs.room1
  refine h.calls fun F hF => ?_
  have := remove_any hF nm (by unfold maxLen; omega) r0 (by omega)
  rw [ha] at this
  exact this
/-- A disk opened: how many records, and the error. -/
theorem LogSpec.open_num (S : LogSpec G) {K : Nat → Prop} {w : World} {p : Nat} {d d' : PD} {rs : List Rec} {e : Int} (n : Nat) (h : DkOff K w p d) (hs : Sane d) (ho : openL d = (d', rs, e)) (hn : rs.length = n) :
    Calls Tryz.prog 8 #[.pointer (some ⟨p, 0, none⟩)] w fun r w' => ∃ x a c, r = .returned (.tuple #[.pointer x, .slice a n c, .int .i64 e]) ∧ DkOff K w' p d' ∧ Kept K w w' := by
  subst hn
  obtain ⟨F, h1, h2, h3⟩ := h
  refine (S.opens h1 h3.env h3.fv hs).mono ?_
  rw [ho]
  rintro r w' ⟨x, a, c, F', rfl, st, row, hb, _, hg⟩
  exact ⟨x, a, c, rfl, ⟨F', st.disk, st.off h2 h3, h3.step st⟩, st.kept h2⟩

end Go.Proofs.YtjidadolfpjdeaaGreatDoor
