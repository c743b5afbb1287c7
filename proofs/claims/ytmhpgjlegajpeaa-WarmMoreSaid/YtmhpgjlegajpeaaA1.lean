/-
  WARM, layer 2: a block as numbers; within, wide, validWarmth, validReadings.
  WARM: validReadings.
-/
import Derived.Test.YtmhpgjlegajpeaaRows
import Derived.Test.YtmhpgjlegajpeaaK
import Derived.WalkKit
import Derived.OwnWalk
import Derived.RegionTactic
import Derived.ChangeAlike
import Derived.Deep.QuietTactic
import Derived.BigQuiet
import Derived.BigGuardPart
import Derived.WalkLawsBesides
import Derived.Outline
import Derived.IntWalk
namespace Go.Proofs.Ytmhpgjlegajpeaa
open Go.RowKit

/-- A reading: from which warmth to which, and from which number to which one it showed. -/
abbrev Wr := Int × Int × Int × Int
def inS (lo hi a b : Int) : Bool := decide (a ≤ lo ∧ lo ≤ hi ∧ hi ≤ b)
/-- The slice at a holds these readings, four cells each. -/
def Wrs (w : World) (a : Option Addr) (rs : List Wr) : Prop :=
  rs ≠ [] → ∃ b o, a = some ⟨b, o, none⟩ ∧ ∀ i, i < rs.length → w.cell? ⟨b, o + i * 4, none⟩ = some (.int .i64 (rs[i]?.getD (0, 0, 0, 0)).1) ∧ w.cell? ⟨b, o + i * 4 + 1, none⟩ = some (.int .i64 (rs[i]?.getD (0, 0, 0, 0)).2.1) ∧
    w.cell? ⟨b, o + i * 4 + 2, none⟩ = some (.int .i64 (rs[i]?.getD (0, 0, 0, 0)).2.2.1) ∧ w.cell? ⟨b, o + i * 4 + 3, none⟩ = some (.int .i64 (rs[i]?.getD (0, 0, 0, 0)).2.2.2)
theorem Wrs.keep {w w' : World} {a : Option Addr} {xs : List Wr} (h : Wrs w a xs) (k : Keeps w w') : Wrs w' a xs := by
  intro hx
  obtain ⟨b, o, e, hc⟩ := h hx
  exact ⟨b, o, e, fun i hi => ⟨k.cell (hc i hi).1, k.cell (hc i hi).2.1, k.cell (hc i hi).2.2.1, k.cell (hc i hi).2.2.2⟩⟩
/-- A block. -/
structure Wm where
  mark : Int
  llo : Int
  lhi : Int
  clo : Int
  chi : Int
  ra : Option Addr
  rc : Nat
  rs : List Wr
def Wm.v (B : Wm) : Value := .agg #[.int .i64 B.mark, .int .i64 B.llo, .int .i64 B.lhi, .int .i64 B.clo, .int .i64 B.chi, .slice B.ra B.rs.length B.rc]
structure Wm.In (B : Wm) (w : World) : Prop where
  rds : Wrs w B.ra B.rs
  rl : B.rs.length ≤ maxLen
theorem Wm.In.keep {B : Wm} {w w' : World} (h : B.In w) (k : Keeps w w') : B.In w' := ⟨h.rds.keep k, h.rl⟩
/-- Is a reading valid? -/
def vWr (r : Wr) : Bool := inS r.1 r.2.1 (-100) 100 && decide (r.2.1 - r.1 ≤ 4) && inS r.2.2.1 r.2.2.2 (-30000) 30000
def vWrs (rs : List Wr) : Bool := decide (rs.length ≤ 5) && rs.all vWr
/-- Is a block valid? -/
def Wm.ok (B : Wm) : Bool := decide (1 ≤ B.mark ∧ B.mark ≤ 100) && (inS B.llo B.lhi (-1000) 1000 && decide (B.lhi - B.llo ≤ 24)) && (inS B.clo B.chi 0 20 && decide (B.chi - B.clo ≤ 3)) && vWrs B.rs

set_option maxHeartbeats 400000 in
theorem within_any (lo hi a b : Int) (w : World) : Calls Try.prog 94 #[.agg #[.int .i64 lo, .int .i64 hi], .int .i64 a, .int .i64 b] w (RetB (inS lo hi a b) w) := by
  go_enter Try.func94, Try.ntmps94
  go_wp2
  all_goals go_ret
  all_goals exact RetB.mk (by rw [Bool.eq_iff_iff]; simp [inS]; omega) ((Keeps.refl _).alloc _)
set_option maxHeartbeats 400000 in
theorem wide_any (lo hi : Int) (w : World) (h1 : -100000 ≤ lo) (h2 : lo ≤ 100000) (h3 : -100000 ≤ hi) (h4 : hi ≤ 100000) : Calls Try.prog 95 #[.agg #[.int .i64 lo, .int .i64 hi]] w (RetI (hi - lo) w) := by
  have e : IntKind.i64.wrap (hi - lo) = hi - lo := IntWalk.i64_in _ (by constructor <;> omega)
  go_enter Try.func95, Try.ntmps95
  go_wp2
  go_ret
  exact RetI.mk (by first | rfl | exact e) ((Keeps.refl _).alloc _)
set_option maxHeartbeats 400000 in
theorem validWarmth_any (lo hi : Int) (w : World) : Calls Try.prog 100 #[.agg #[.int .i64 lo, .int .i64 hi]] w (RetB (inS lo hi (-100) 100) w) := by
  have H := Lib.hid (fun w1 => within_any lo hi (-100) 100 w1)
  go_enter Try.func100, Try.ntmps100
  go_wp2_with fail
  refine (H.out _).mono ?_
  rintro e w1 ⟨rfl, k1⟩
  go_wp2_with fail
  go_ret
  exact ⟨rfl, by first | exact k1 | exact ((Keeps.refl _).alloc _).trans k1⟩
end Go.Proofs.Ytmhpgjlegajpeaa

namespace Go.Proofs.Ytmhpgjlegajpeaa
open Go.RowKit

theorem vWrs_no {rs : List Wr} (h : 5 < rs.length) : vWrs rs = false := by
  have : ¬ (rs.length ≤ 5) := by omega
  simp [vWrs, this]
theorem vWrs_bad {rs : List Wr} {i : Nat} (hi : i < rs.length) (h : vWr (rs[i]?.getD (0, 0, 0, 0)) = false) : vWrs rs = false := by
  have h1 : rs.all vWr = false := by
    rw [List.all_eq_false]
    refine ⟨rs[i], List.getElem_mem hi, ?_⟩
    simp only [List.getElem?_eq_getElem hi, Option.getD_some] at h
    simp [h]
  simp [vWrs, h1]
theorem vWrs_yes {rs : List Wr} (h1 : rs.length ≤ 5) (h : ∀ i, i < rs.length → vWr (rs[i]?.getD (0, 0, 0, 0)) = true) : vWrs rs = true := by
  simp only [vWrs, Bool.and_eq_true, decide_eq_true_eq, List.all_eq_true]
  refine ⟨h1, fun x hx => ?_⟩
  obtain ⟨i, hi, rfl⟩ := List.getElem_of_mem hx
  have := h i hi
  simpa [List.getElem?_eq_getElem hi] using this
theorem inS_bd {lo hi a b : Int} (h : inS lo hi a b = true) : a ≤ lo ∧ lo ≤ hi ∧ hi ≤ b := by simpa [inS] using h
set_option maxHeartbeats 1600000 in
theorem validReadings_any (a : Option Addr) (cap : Nat) (rs : List Wr) (w : World) (hx : Wrs w a rs) (hl : rs.length ≤ maxLen) :
    Calls Try.prog 96 #[.slice a rs.length cap] w (RetB (vWrs rs) w) := by
  unfold maxLen at hl
  by_cases h : rs.length ≤ 5
  · have HX := Lib.hid hx
    have hd : decide (5 < rs.length) = false := by simpa using h
    have VW := Lib.hid (fun lo hi w1 => validWarmth_any lo hi w1)
    have WI := Lib.hid (fun lo hi w1 h1 h2 h3 h4 => wide_any lo hi w1 h1 h2 h3 h4)
    have WN := Lib.hid (fun lo hi w1 => within_any lo hi (-30000) 30000 w1)
    clear hx
    go_enter Try.func96, Try.ntmps96
    go_wp2
    go_loopw [10] (fun i wr => ∃ k : Nat, k ≤ rs.length ∧ i = .int .i64 k ∧ (∀ j, j < k → vWr (rs[j]?.getD (0, 0, 0, 0)) = true) ∧ Keeps w wr) (fun i _ => rs.length - (intOf i).toNat)
    case atStart => exact ⟨0, Nat.zero_le _, rfl, fun j hj => absurd hj (by omega), Keeps.refl _⟩
    case round =>
      obtain ⟨k, hk, rfl, hall, hkp⟩ := hrel
      have Hall := Lib.hid hall
      clear hall
      by_cases hlt : k < rs.length
      · obtain ⟨b, o, rfl, hc⟩ := (HX.out.keep hkp) (by intro e; rw [e] at hlt; simp at hlt)
        have hcc := hc k hlt
        obtain ⟨⟨x, y, z, u⟩, hr⟩ : ∃ r, rs[k]?.getD (0, 0, 0, 0) = r := ⟨_, rfl⟩
        rw [hr] at hcc
        dsimp only at hcc
        obtain ⟨c0, c1, c2, c3⟩ := hcc
        have HB := Lib.hid (show ∀ W1, Keeps (wr.alloc (.cells #[.int .i64 x, .int .i64 y, .int .i64 z, .int .i64 u] 53)) W1 → W1.cell? ⟨wr.heap.size, 0, none⟩ = some (.int .i64 x) ∧ W1.cell? ⟨wr.heap.size, 1, none⟩ = some (.int .i64 y) ∧ W1.cell? ⟨wr.heap.size, 2, none⟩ = some (.int .i64 z) ∧ W1.cell? ⟨wr.heap.size, 3, none⟩ = some (.int .i64 u) from
          fun W1 kk => ⟨kk.cell (by simp [go_sem]), kk.cell (by simp [go_sem]), kk.cell (by simp [go_sem]), kk.cell (by simp [go_sem])⟩)
        have kB := hkp.alloc (.cells #[.int .i64 x, .int .i64 y, .int .i64 z, .int .i64 u] 53)
        have Hr := Lib.hid hr
        have lb := lt_of_cell c0
        clear hc hr
        have BAD := Lib.hid (fun (hb : vWr (x, y, z, u) = false) => vWrs_bad hlt (by rw [Hr.out]; exact hb))
        cases h1 : inS x y (-100) 100 with
        | false =>
          have V1 := Lib.hid (VW.out x y)
          rw [h1] at V1
          have HV := Lib.hid (BAD.out (by simp [vWr, h1]))
          clear BAD h1
          go_wp2_with fail
          refine (V1.out _).mono ?_
          rintro e w1 ⟨rfl, k1⟩
          go_wp2_with fail
          go_ret
          exact RetB.mk (by rw [HV.out]) (kB.trans k1)
        | true =>
          have V1 := Lib.hid (VW.out x y)
          rw [h1] at V1
          obtain ⟨i1, i2, i3⟩ := inS_bd h1
          have V2 := Lib.hid (fun w1 => WI.out x y w1 (by omega) (by omega) (by omega) (by omega))
          by_cases h2 : y - x ≤ 4
          · have d2 : decide (4 < y - x) = false := by simpa using h2
            cases h3 : inS z u (-30000) 30000 with
            | false =>
              have V3 := Lib.hid (WN.out z u)
              rw [h3] at V3
              have HV := Lib.hid (BAD.out (by simp [vWr, h1, h3]))
              clear BAD h1 h3 h2
              go_wp2_with fail
              refine (V1.out _).mono ?_
              rintro e w1 ⟨rfl, k1⟩
              obtain ⟨e0, e1, e2, e3⟩ := HB.out _ k1
              have el := lt_of_cell e0
              go_wp2_with fail
              refine (V2.out _).mono ?_
              rintro e w2 ⟨rfl, k2⟩
              replace k1 := k1.trans k2
              replace e0 := k2.cell e0
              replace e1 := k2.cell e1
              replace e2 := k2.cell e2
              replace e3 := k2.cell e3
              replace el := lt_of_cell e0
              go_wp2_with fail
              refine (V3.out _).mono ?_
              rintro e w3 ⟨rfl, k3⟩
              go_wp2_with fail
              go_ret
              exact RetB.mk (by rw [HV.out]) ((kB.trans k1).trans k3)
            | true =>
              have V3 := Lib.hid (WN.out z u)
              rw [h3] at V3
              have HG := Lib.hid (show vWr (x, y, z, u) = true by simp [vWr, h1, h3, h2])
              clear BAD h1 h3 h2
              go_wp2_with fail
              refine (V1.out _).mono ?_
              rintro e w1 ⟨rfl, k1⟩
              obtain ⟨e0, e1, e2, e3⟩ := HB.out _ k1
              have el := lt_of_cell e0
              go_wp2_with fail
              refine (V2.out _).mono ?_
              rintro e w2 ⟨rfl, k2⟩
              replace k1 := k1.trans k2
              replace e0 := k2.cell e0
              replace e1 := k2.cell e1
              replace e2 := k2.cell e2
              replace e3 := k2.cell e3
              replace el := lt_of_cell e0
              go_wp2_with fail
              refine (V3.out _).mono ?_
              rintro e w3 ⟨rfl, k3⟩
              go_wp2_with fail
              go_roundw
              case rel => exact ⟨k + 1, by omega, by go_num, fun j hj => by
                by_cases e : j = k
                · subst e; rw [Hr.out]; exact HG.out
                · exact Hall.out j (by omega), (kB.trans k1).trans k3⟩
              case measure => simp [intOf]; omega
          · have d2 : decide (4 < y - x) = true := by simpa using h2
            have HV := Lib.hid (BAD.out (by simp [vWr, h1, h2]))
            clear BAD h1 h2
            go_wp2_with fail
            refine (V1.out _).mono ?_
            rintro e w1 ⟨rfl, k1⟩
            obtain ⟨e0, e1, e2, e3⟩ := HB.out _ k1
            have el := lt_of_cell e0
            go_wp2_with fail
            refine (V2.out _).mono ?_
            rintro e w2 ⟨rfl, k2⟩
            go_wp2_with fail
            go_ret
            exact RetB.mk (by rw [HV.out]) ((kB.trans k1).trans k2)
      · go_wp2
        go_ret
        exact RetB.mk (vWrs_yes h (fun i hi => Hall.out i (by omega))).symm hkp
  · go_enter Try.func96, Try.ntmps96
    have hd : decide (5 < rs.length) = true := by simp; omega
    go_wp2
    go_ret
    exact RetB.mk (vWrs_no (by omega)).symm (Keeps.refl _)
end Go.Proofs.Ytmhpgjlegajpeaa
