/-
  The document's own package: in, span, Warm, Reading, Warmth.
  WARM, the laws' own small functions: span, reading, sample, far, fine.
  WARM, the laws' own small functions: far, fine.
  Two spans compared.
-/
import Derived.Test.YtmhpgjlegajpeaaA3
import Derived.Test.YtmhpgjlegajpeaaR2
import Derived.BigQuiet
import Derived.RangeFuncBox
import Derived.RangeFuncWrites
import Derived.Laws.AppendOwn
import Derived.Maps.AppendAt
import Derived.WalkSmall
import Derived.Laws.OwnMore
import Derived.Laws.StructEq
namespace Go.Proofs.Ytmhpgjlegajpeaa
open Go.RowKit

set_option maxHeartbeats 400000 in
theorem refIn_any (n a b : Int) (w : World) : Calls Try.prog 73 #[.int .i64 n, .int .i64 a, .int .i64 b] w fun e w' => e = .returned (.bool (decide (a ≤ n ∧ n ≤ b))) ∧ w = w' := by
  go_enter Try.func73, Try.ntmps73
  go_wp2
  all_goals go_ret
  all_goals exact ⟨congrArg (fun b => Ending.returned (Value.bool b)) (by rw [Bool.eq_iff_iff]; simp; try omega), rfl⟩
/-- Is a span valid, within two numbers, and not too wide? -/
def spB (lo hi a b m : Int) : Bool := inS lo hi a b && decide (hi - lo ≤ m)
set_option maxHeartbeats 800000 in
theorem refSpan_any (lo hi a b m : Int) (w : World) (ha : -100000 ≤ a) (hb : b ≤ 100000) : Calls Try.prog 91 #[.agg #[.int .i64 lo, .int .i64 hi], .int .i64 a, .int .i64 b, .int .i64 m] w (RetB (spB lo hi a b m) w) := by
  by_cases h : a ≤ lo ∧ lo ≤ hi ∧ hi ≤ b
  · obtain ⟨h1, h2, h3⟩ := h
    have e : IntKind.i64.wrap (hi - lo) = hi - lo := IntWalk.i64_in _ (by constructor <;> omega)
    have d1 : decide (a ≤ lo) = true := by simpa using h1
    have d2 : decide (lo ≤ hi) = true := by simpa using h2
    have d3 : decide (hi ≤ b) = true := by simpa using h3
    go_enter Try.func91, Try.ntmps91
    go_wp2
    all_goals go_ret
    all_goals exact RetB.mk (by rw [Bool.eq_iff_iff]; simp [spB, inS, h1, h2, h3]) ((Keeps.refl _).alloc _)
  · have hf : spB lo hi a b m = false := by simp only [spB, inS, decide_eq_false h, Bool.false_and]
    rw [hf]
    by_cases h1 : a ≤ lo
    · by_cases h2 : lo ≤ hi
      · have h3 : ¬ hi ≤ b := fun h3 => h ⟨h1, h2, h3⟩
        go_enter Try.func91, Try.ntmps91
        go_wp2
        all_goals first | (exfalso; omega) | (go_ret; exact RetB.mk rfl ((Keeps.refl _).alloc _))
      · go_enter Try.func91, Try.ntmps91
        go_wp2
        all_goals first | (exfalso; omega) | (go_ret; exact RetB.mk rfl ((Keeps.refl _).alloc _))
    · go_enter Try.func91, Try.ntmps91
      go_wp2
      all_goals first | (exfalso; omega) | (go_ret; exact RetB.mk rfl ((Keeps.refl _).alloc _))
theorem vWr_sp (r : Wr) : vWr r = (spB r.1 r.2.1 (-100) 100 4 && spB r.2.2.1 r.2.2.2 (-30000) 30000 60000) := by
  obtain ⟨a, b, c, d⟩ := r
  rw [Bool.eq_iff_iff]
  simp only [vWr, spB, inS, Bool.and_eq_true, decide_eq_true_eq]
  omega
theorem ok_sp (B : Wm) : B.ok = (decide (1 ≤ B.mark ∧ B.mark ≤ 100) && spB B.llo B.lhi (-1000) 1000 24 && spB B.clo B.chi 0 20 3 && vWrs B.rs) := rfl

set_option maxRecDepth 100000 in
set_option maxHeartbeats 3200000 in
theorem refWarm_any (B : Wm) (w : World) (hI : B.In w) : Calls Try.prog 36 #[B.v] w (RetB B.ok w) := by
  have hrl := hI.rl
  unfold maxLen at hrl
  have HI := Lib.hid hI.rds
  have I1 := Lib.hid (fun w1 => refIn_any B.mark 1 100 w1)
  have S1 := Lib.hid (fun w1 => refSpan_any B.llo B.lhi (-1000) 1000 24 w1 (by omega) (by omega))
  have S2 := Lib.hid (fun w1 => refSpan_any B.clo B.chi 0 20 3 w1 (by omega) (by omega))
  have R1 := Lib.hid (fun a b w1 => refSpan_any a b (-100) 100 4 w1 (by omega) (by omega))
  have R2 := Lib.hid (fun a b w1 => refSpan_any a b (-30000) 30000 60000 w1 (by omega) (by omega))
  have BX := Wm.Box.new B w
  have k0 := (Keeps.refl w).alloc (.cells #[.int .i64 B.mark, .int .i64 B.llo, .int .i64 B.lhi, .int .i64 B.clo, .int .i64 B.chi, .slice B.ra B.rs.length B.rc] 26)
  rw [ok_sp]
  obtain ⟨v1, hv1⟩ : ∃ v, decide (1 ≤ B.mark ∧ B.mark ≤ 100) = v := ⟨_, rfl⟩
  obtain ⟨v2, hv2⟩ : ∃ v, spB B.llo B.lhi (-1000) 1000 24 = v := ⟨_, rfl⟩
  obtain ⟨v3, hv3⟩ : ∃ v, spB B.clo B.chi 0 20 3 = v := ⟨_, rfl⟩
  rw [hv1] at I1 ⊢
  rw [hv2] at S1 ⊢
  rw [hv3] at S2 ⊢
  obtain ⟨mark, llo, lhi, clo, chi, ra, rc, rs⟩ := B
  dsimp only [Wm.v] at *
  obtain ⟨W, hW⟩ : ∃ W, w.alloc (.cells #[.int .i64 mark, .int .i64 llo, .int .i64 lhi, .int .i64 clo, .int .i64 chi, .slice ra rs.length rc] 26) = W := ⟨_, rfl⟩
  rw [hW] at BX k0
  obtain ⟨g0, g1, g2, g3, g4, g5⟩ := BX
  dsimp only at g0 g1 g2 g3 g4 g5
  have hlb := lt_of_cell g0
  clear hI hv1 hv2 hv3
  cases v1 with
  | false =>
    simp only [Bool.false_and]
    go_enter Try.func36, Try.ntmps36
    go_wp2_with fail
    refine (I1.out _).mono ?_
    rintro e w1 ⟨rfl, rfl⟩
    go_wp2_with fail
    go_ret
    exact RetB.mk rfl k0
  | true =>
    cases v2 with
    | false =>
      simp only [Bool.true_and, Bool.false_and]
      go_enter Try.func36, Try.ntmps36
      go_wp2_with fail
      refine (I1.out _).mono ?_
      rintro e w1 ⟨rfl, rfl⟩
      go_wp2_with fail
      refine (S1.out _).mono ?_
      rintro e w2 ⟨rfl, k2⟩
      go_wp2_with fail
      go_ret
      exact RetB.mk rfl (k0.trans k2)
    | true =>
      cases v3 with
      | false =>
        simp only [Bool.true_and, Bool.false_and]
        go_enter Try.func36, Try.ntmps36
        go_wp2_with fail
        refine (I1.out _).mono ?_
        rintro e w1 ⟨rfl, rfl⟩
        go_wp2_with fail
        refine (S1.out _).mono ?_
        rintro e w2 ⟨rfl, k2⟩
        have e3 := k2.cell g3
        have e4 := k2.cell g4
        have hl2 := lt_of_cell e3
        go_wp2_with fail
        refine (S2.out _).mono ?_
        rintro e w3 ⟨rfl, k3⟩
        go_wp2_with fail
        go_ret
        exact RetB.mk rfl ((k0.trans k2).trans k3)
      | true =>
        simp only [Bool.true_and]
        by_cases h5 : rs.length ≤ 5
        · have hd5 : decide (5 < (rs.length : Int)) = false := by simp; omega
          go_enter Try.func36, Try.ntmps36
          go_wp2_with fail
          refine (I1.out _).mono ?_
          rintro e w1 ⟨rfl, rfl⟩
          go_wp2_with fail
          refine (S1.out _).mono ?_
          rintro e w2 ⟨rfl, k2⟩
          have e3 := k2.cell g3
          have e4 := k2.cell g4
          have hl2 := lt_of_cell e3
          go_wp2_with fail
          refine (S2.out _).mono ?_
          rintro e w3 ⟨rfl, k3⟩
          have e5 := (k2.trans k3).cell g5
          have hl3 := lt_of_cell e5
          have k03 := (k0.trans k2).trans k3
          have kW := k2.trans k3
          go_wp2_with fail
          clear e3 e4 e5 hl2 hl3 k03
          go_loopw [3] (fun i wr => ∃ k : Nat, k ≤ rs.length ∧ i = .int .i64 k ∧ (∀ j, j < k → vWr (rs[j]?.getD (0, 0, 0, 0)) = true) ∧ Keeps W wr) (fun i _ => rs.length - (intOf i).toNat)
          case atStart => exact ⟨0, Nat.zero_le _, rfl, fun j hj => absurd hj (by omega), kW⟩
          case round =>
            obtain ⟨k, hk, rfl, hall, hkp⟩ := hrel
            have Hall := Lib.hid hall
            have e5 := hkp.cell g5
            have hl3 := lt_of_cell e5
            clear hall hW kW
            by_cases hlt : k < rs.length
            · obtain ⟨b, o, rfl, hc⟩ := (HI.out.keep (k0.trans hkp)) (by intro e; rw [e] at hlt; simp at hlt)
              have hcc := hc k hlt
              obtain ⟨⟨x, y, z, u⟩, hr⟩ : ∃ r, rs[k]?.getD (0, 0, 0, 0) = r := ⟨_, rfl⟩
              rw [hr] at hcc
              dsimp only at hcc
              obtain ⟨c0, c1, c2, c3⟩ := hcc
              have Hr := Lib.hid hr
              have lb := lt_of_cell c0
              have BAD := Lib.hid (fun (hb : vWr (x, y, z, u) = false) => vWrs_bad hlt (by rw [Hr.out]; exact hb))
              have hvs := vWr_sp (x, y, z, u)
              dsimp only at hvs
              have T1 := Lib.hid (R1.out x y)
              have T2 := Lib.hid (R2.out z u)
              obtain ⟨p1, hp1⟩ : ∃ v, spB x y (-100) 100 4 = v := ⟨_, rfl⟩
              obtain ⟨p2, hp2⟩ : ∃ v, spB z u (-30000) 30000 60000 = v := ⟨_, rfl⟩
              rw [hp1] at hvs T1
              rw [hp2] at hvs T2
              have HVS := Lib.hid hvs
              clear hc hr hp1 hp2 hvs
              cases p1 with
              | false =>
                have HB := Lib.hid (BAD.out HVS.out)
                go_wp2_with fail
                refine (T1.out _).mono ?_
                rintro e w4 ⟨rfl, k4⟩
                go_wp2_with fail
                go_ret
                exact RetB.mk HB.out.symm ((k0.trans hkp).trans k4)
              | true =>
                cases p2 with
                | false =>
                  have HB := Lib.hid (BAD.out HVS.out)
                  go_wp2_with fail
                  refine (T1.out _).mono ?_
                  rintro e w4 ⟨rfl, k4⟩
                  have d2 := k4.cell c2
                  have d3 := k4.cell c3
                  have d5 := k4.cell e5
                  have l4 := lt_of_cell d2
                  have l5 := lt_of_cell d5
                  go_wp2_with fail
                  refine (T2.out _).mono ?_
                  rintro e w5 ⟨rfl, k5⟩
                  go_wp2_with fail
                  go_ret
                  exact RetB.mk HB.out.symm (((k0.trans hkp).trans k4).trans k5)
                | true =>
                  go_wp2_with fail
                  refine (T1.out _).mono ?_
                  rintro e w4 ⟨rfl, k4⟩
                  have d2 := k4.cell c2
                  have d3 := k4.cell c3
                  have d5 := k4.cell e5
                  have l4 := lt_of_cell d2
                  have l5 := lt_of_cell d5
                  go_wp2_with fail
                  refine (T2.out _).mono ?_
                  rintro e w5 ⟨rfl, k5⟩
                  go_wp2_with fail
                  go_roundw
                  case rel => exact ⟨k + 1, by omega, by go_num, fun j hj => by
                    by_cases e : j = k
                    · subst e; rw [Hr.out]; exact HVS.out
                    · exact Hall.out j (by omega), (hkp.trans k4).trans k5⟩
                  case measure => simp [intOf]; omega
            · go_wp2
              go_ret
              exact RetB.mk (vWrs_yes h5 (fun i hi => Hall.out i (by omega))).symm (k0.trans hkp)
        · have hd5 : decide (5 < (rs.length : Int)) = true := by simp; omega
          have hv : vWrs rs = false := vWrs_no (by omega)
          rw [hv]
          go_enter Try.func36, Try.ntmps36
          go_wp2_with fail
          refine (I1.out _).mono ?_
          rintro e w1 ⟨rfl, rfl⟩
          go_wp2_with fail
          refine (S1.out _).mono ?_
          rintro e w2 ⟨rfl, k2⟩
          have e3 := k2.cell g3
          have e4 := k2.cell g4
          have hl2 := lt_of_cell e3
          go_wp2_with fail
          refine (S2.out _).mono ?_
          rintro e w3 ⟨rfl, k3⟩
          have e5 := (k2.trans k3).cell g5
          have hl3 := lt_of_cell e5
          go_wp2_with fail
          go_ret
          exact RetB.mk rfl ((k0.trans k2).trans k3)
end Go.Proofs.Ytmhpgjlegajpeaa

namespace Go.Proofs.Ytmhpgjlegajpeaa
open Go.RowKit

theorem two_set {X : World} {b : Nat} {v0 v1 : Value} (h0 : (X.cell? ⟨b, 0, none⟩).isSome = true) (h1 : (X.cell? ⟨b, 1, none⟩).isSome = true) :
    let Y := (X.setCell ⟨b, 0, none⟩ v0).setCell ⟨b, 1, none⟩ v1
    Y.cell? ⟨b, 0, none⟩ = some v0 ∧ Y.cell? ⟨b, 1, none⟩ = some v1 ∧ (∀ b' o, b' ≠ b → Y.cell? ⟨b', o, none⟩ = X.cell? ⟨b', o, none⟩) ∧ Y.heap.size = X.heap.size := by
  refine ⟨?_, ?_, fun b' o hb => ?_, by simp [World.setCell]⟩
  · exact (cell_set_other (by omega)).trans (cell_set_same (by exact h0))
  · exact cell_set_same (by rw [cell_set_other (by omega)]; exact h1)
  · rw [cell_set_other (by omega), cell_set_other (by omega)]
theorem four_set {X : World} {b : Nat} {v0 v1 v2 v3 : Value} (h0 : (X.cell? ⟨b, 0, none⟩).isSome = true) (h1 : (X.cell? ⟨b, 1, none⟩).isSome = true) (h2 : (X.cell? ⟨b, 2, none⟩).isSome = true) (h3 : (X.cell? ⟨b, 3, none⟩).isSome = true) :
    let Y := (((X.setCell ⟨b, 0, none⟩ v0).setCell ⟨b, 1, none⟩ v1).setCell ⟨b, 2, none⟩ v2).setCell ⟨b, 3, none⟩ v3
    Y.cell? ⟨b, 0, none⟩ = some v0 ∧ Y.cell? ⟨b, 1, none⟩ = some v1 ∧ Y.cell? ⟨b, 2, none⟩ = some v2 ∧ Y.cell? ⟨b, 3, none⟩ = some v3 ∧ (∀ b' o, b' ≠ b → Y.cell? ⟨b', o, none⟩ = X.cell? ⟨b', o, none⟩) ∧ Y.heap.size = X.heap.size := by
  refine ⟨?_, ?_, ?_, ?_, fun b' o hb => ?_, by simp [World.setCell]⟩
  · exact (cell_set_other (by omega)).trans ((cell_set_other (by omega)).trans ((cell_set_other (by omega)).trans (cell_set_same (by exact h0))))
  · exact (cell_set_other (by omega)).trans ((cell_set_other (by omega)).trans (cell_set_same (by rw [cell_set_other (by omega)]; exact h1)))
  · exact (cell_set_other (by omega)).trans (cell_set_same (by rw [cell_set_other (by omega), cell_set_other (by omega)]; exact h2))
  · exact cell_set_same (by rw [cell_set_other (by omega), cell_set_other (by omega), cell_set_other (by omega)]; exact h3)
  · rw [cell_set_other (by omega), cell_set_other (by omega), cell_set_other (by omega), cell_set_other (by omega)]
theorem six_set {X : World} {b : Nat} {v0 v1 v2 v3 v4 v5 : Value} (h0 : (X.cell? ⟨b, 0, none⟩).isSome = true) (h1 : (X.cell? ⟨b, 1, none⟩).isSome = true) (h2 : (X.cell? ⟨b, 2, none⟩).isSome = true) (h3 : (X.cell? ⟨b, 3, none⟩).isSome = true) (h4 : (X.cell? ⟨b, 4, none⟩).isSome = true) (h5 : (X.cell? ⟨b, 5, none⟩).isSome = true) :
    let Y := (((((X.setCell ⟨b, 0, none⟩ v0).setCell ⟨b, 1, none⟩ v1).setCell ⟨b, 2, none⟩ v2).setCell ⟨b, 3, none⟩ v3).setCell ⟨b, 4, none⟩ v4).setCell ⟨b, 5, none⟩ v5
    Y.cell? ⟨b, 0, none⟩ = some v0 ∧ Y.cell? ⟨b, 1, none⟩ = some v1 ∧ Y.cell? ⟨b, 2, none⟩ = some v2 ∧ Y.cell? ⟨b, 3, none⟩ = some v3 ∧ Y.cell? ⟨b, 4, none⟩ = some v4 ∧ Y.cell? ⟨b, 5, none⟩ = some v5 ∧ (∀ b' o, b' ≠ b → Y.cell? ⟨b', o, none⟩ = X.cell? ⟨b', o, none⟩) ∧ Y.heap.size = X.heap.size := by
  refine ⟨?_, ?_, ?_, ?_, ?_, ?_, fun b' o hb => ?_, by simp [World.setCell]⟩
  · exact (cell_set_other (by omega)).trans ((cell_set_other (by omega)).trans ((cell_set_other (by omega)).trans ((cell_set_other (by omega)).trans ((cell_set_other (by omega)).trans (cell_set_same (by exact h0))))))
  · exact (cell_set_other (by omega)).trans ((cell_set_other (by omega)).trans ((cell_set_other (by omega)).trans ((cell_set_other (by omega)).trans (cell_set_same (by rw [cell_set_other (by omega)]; exact h1)))))
  · exact (cell_set_other (by omega)).trans ((cell_set_other (by omega)).trans ((cell_set_other (by omega)).trans (cell_set_same (by rw [cell_set_other (by omega), cell_set_other (by omega)]; exact h2))))
  · exact (cell_set_other (by omega)).trans ((cell_set_other (by omega)).trans (cell_set_same (by rw [cell_set_other (by omega), cell_set_other (by omega), cell_set_other (by omega)]; exact h3)))
  · exact (cell_set_other (by omega)).trans (cell_set_same (by rw [cell_set_other (by omega), cell_set_other (by omega), cell_set_other (by omega), cell_set_other (by omega)]; exact h4))
  · exact cell_set_same (by rw [cell_set_other (by omega), cell_set_other (by omega), cell_set_other (by omega), cell_set_other (by omega), cell_set_other (by omega)]; exact h5)
  · rw [cell_set_other (by omega), cell_set_other (by omega), cell_set_other (by omega), cell_set_other (by omega), cell_set_other (by omega), cell_set_other (by omega)]

theorem lawSpan_any (a b : Int) (w : World) : Calls Try.prog 34 #[.int .i64 a, .int .i64 b] w (Ret (.agg #[.int .i64 a, .int .i64 b]) w) := by
  go_enter Try.func34, Try.ntmps34
  go_wp2
  refine bodyPost_ret (v := .agg #[.int .i64 a, .int .i64 b]) (by simp [results, Try.results34, go_sem]) rfl ⟨rfl, ?_⟩
  exact (Keeps.refl _).alloc _
set_option maxHeartbeats 400000 in
theorem reading_any (a b c d : Int) (w : World) : Calls Try.prog 45 #[.int .i64 a, .int .i64 b, .int .i64 c, .int .i64 d] w (Ret (.agg #[.int .i64 a, .int .i64 b, .int .i64 c, .int .i64 d]) w) := by
  have H := Lib.hid (fun w1 => lawSpan_any a b w1)
  have H2 := Lib.hid (fun w1 => lawSpan_any c d w1)
  go_enter Try.func45, Try.ntmps45
  go_wp2_with fail
  refine (H.out _).mono ?_
  rintro e w1 ⟨rfl, k1⟩
  go_wp2_with fail
  refine (H2.out _).mono ?_
  rintro e w2 ⟨rfl, k2⟩
  have kk := k1.trans k2
  have hz : w.heap.size < w2.heap.size := by have := kk.size; simp at this; omega
  have kw := ((Keeps.refl w).alloc _).trans kk
  have p0 : w2.cell? ⟨w.heap.size, 0, none⟩ = some (.int .i64 0) := kk.cell (by simp [go_sem])
  have f0 : w2.frozen? ⟨w.heap.size, 0, none⟩ = false := by rw [kk.cells.2 _ _ (by simp)]; simp [go_sem]
  have p1 : w2.cell? ⟨w.heap.size, 1, none⟩ = some (.int .i64 0) := kk.cell (by simp [go_sem])
  have f1 : w2.frozen? ⟨w.heap.size, 1, none⟩ = false := by rw [kk.cells.2 _ _ (by simp)]; simp [go_sem]
  have p2 : w2.cell? ⟨w.heap.size, 2, none⟩ = some (.int .i64 0) := kk.cell (by simp [go_sem])
  have f2 : w2.frozen? ⟨w.heap.size, 2, none⟩ = false := by rw [kk.cells.2 _ _ (by simp)]; simp [go_sem]
  have p3 : w2.cell? ⟨w.heap.size, 3, none⟩ = some (.int .i64 0) := kk.cell (by simp [go_sem])
  have f3 : w2.frozen? ⟨w.heap.size, 3, none⟩ = false := by rw [kk.cells.2 _ _ (by simp)]; simp [go_sem]
  obtain ⟨r0, r1, r2, r3, _, _⟩ := four_set (v0 := .int .i64 a) (v1 := .int .i64 b) (v2 := .int .i64 c) (v3 := .int .i64 d) (by rw [p0]; rfl) (by rw [p1]; rfl) (by rw [p2]; rfl) (by rw [p3]; rfl)
  go_wp2_with fail
  refine bodyPost_ret (v := .agg #[.int .i64 a, .int .i64 b, .int .i64 c, .int .i64 d]) ?_ rfl ⟨rfl, (((kw.setCell (p := ⟨w.heap.size, 0, none⟩) _ (Nat.le_refl _)).setCell (p := ⟨w.heap.size, 1, none⟩) _ (Nat.le_refl _)).setCell (p := ⟨w.heap.size, 2, none⟩) _ (Nat.le_refl _)).setCell (p := ⟨w.heap.size, 3, none⟩) _ (Nat.le_refl _)⟩
  simp [results, Try.results45, go_sem, r0, r1, r2, r3]
/-- Readings, as cells. -/
def wrCells (l : List Wr) : List Value := l.flatMap fun r => [.int .i64 r.1, .int .i64 r.2.1, .int .i64 r.2.2.1, .int .i64 r.2.2.2]
theorem wrCells_at (l : List Wr) : ∀ i, i < l.length → (wrCells l)[i * 4]? = some (.int .i64 (l[i]?.getD (0, 0, 0, 0)).1) ∧ (wrCells l)[i * 4 + 1]? = some (.int .i64 (l[i]?.getD (0, 0, 0, 0)).2.1) ∧ (wrCells l)[i * 4 + 2]? = some (.int .i64 (l[i]?.getD (0, 0, 0, 0)).2.2.1) ∧ (wrCells l)[i * 4 + 3]? = some (.int .i64 (l[i]?.getD (0, 0, 0, 0)).2.2.2) := by
  induction l with
  | nil => intro i hi; simp at hi
  | cons s l ih =>
    intro i hi
    have e : wrCells (s :: l) = .int .i64 s.1 :: .int .i64 s.2.1 :: .int .i64 s.2.2.1 :: .int .i64 s.2.2.2 :: wrCells l := rfl
    rw [e]
    cases i with
    | zero => exact ⟨rfl, rfl, rfl, rfl⟩
    | succ i =>
      have h := ih i (by simpa using hi)
      have e1 : (i + 1) * 4 = i * 4 + 1 + 1 + 1 + 1 := by omega
      rw [e1]
      exact ⟨by simpa using h.1, by simpa using h.2.1, by simpa using h.2.2.1, by simpa using h.2.2.2⟩
theorem wrCells_append (l m : List Wr) : wrCells (l ++ m) = wrCells l ++ wrCells m := by simp [wrCells]
theorem Wrs.of_owns {w : World} {base : Nat} {v : Value} {l : List Wr} (h : w.ownsRow base 53 4 v l.length (wrCells l)) : ∃ a cap, v = .slice a l.length cap ∧ Wrs w a l ∧ ∀ b o, a = some ⟨b, o, none⟩ → base ≤ b := by
  rcases h.2 with ⟨rfl, h0⟩ | ⟨g, cap, cur, rfl, h2, h3, h4, h5, h6, h7⟩
  · obtain rfl : l = [] := List.length_eq_zero_iff.1 h0
    exact ⟨none, 0, rfl, fun h => absurd rfl h, fun _ _ e => by cases e⟩
  · refine ⟨some ⟨g, 0, none⟩, cap, rfl, fun _ => ⟨g, 0, rfl, fun i hi => ?_⟩, fun b o e => by cases e; exact h2⟩
    have hc := wrCells_at l i hi
    rw [Nat.zero_add]
    exact ⟨(h.cellAt (i * 4) (by omega)).trans hc.1, (h.cellAt (i * 4 + 1) (by omega)).trans hc.2.1, (h.cellAt (i * 4 + 2) (by omega)).trans hc.2.2.1, (h.cellAt (i * 4 + 3) (by omega)).trans hc.2.2.2⟩
theorem Wrs.of_eq {w w' : World} {a : Option Addr} {rs : List Wr} (h : Wrs w a rs) (hq : ∀ b o, a = some ⟨b, o, none⟩ → ∀ o', w'.cell? ⟨b, o', none⟩ = w.cell? ⟨b, o', none⟩) : Wrs w' a rs := by
  intro hne
  obtain ⟨b, o, rfl, hc⟩ := h hne
  exact ⟨b, o, rfl, fun i hi => ⟨(hq b o rfl _).trans (hc i hi).1, (hq b o rfl _).trans (hc i hi).2.1, (hq b o rfl _).trans (hc i hi).2.2.1, (hq b o rfl _).trans (hc i hi).2.2.2⟩⟩
theorem info_read : (Try.prog.info? 53).map (fun i => (i.zero, i.size, i.bytes)) = some (some (.agg #[.int .i64 0, .int .i64 0, .int .i64 0, .int .i64 0]), 4, 32) := by kernel_rfl
theorem ownsRow_base {w : World} {base size k g cap : Nat} {e : TypeId} {xs : List Value} (h : w.ownsRow base e size (.slice (some ⟨g, 0, none⟩) k cap) k xs) : base ≤ g := by
  rcases h.2 with ⟨h1, _⟩ | ⟨g', cap', cur, h1, h2, _⟩
  · cases h1
  · cases h1; exact h2
theorem grown_box {w w3 w4 : World} {o : Obj} {u0 u1 u2 u3 u4 u5 : Value} (hz : w.heap.size < w3.heap.size) (hg : (w3.alloc o).grownBy w4 (some w3.heap.size)) (p0 : w3.cell? ⟨w.heap.size, 0, none⟩ = some u0) (p1 : w3.cell? ⟨w.heap.size, 1, none⟩ = some u1) (p2 : w3.cell? ⟨w.heap.size, 2, none⟩ = some u2) (p3 : w3.cell? ⟨w.heap.size, 3, none⟩ = some u3)
    (p4 : w3.cell? ⟨w.heap.size, 4, none⟩ = some u4) (p5 : w3.cell? ⟨w.heap.size, 5, none⟩ = some u5) (f0 : w3.frozen? ⟨w.heap.size, 0, none⟩ = false) (f1 : w3.frozen? ⟨w.heap.size, 1, none⟩ = false) (f2 : w3.frozen? ⟨w.heap.size, 2, none⟩ = false) (f3 : w3.frozen? ⟨w.heap.size, 3, none⟩ = false) (f4 : w3.frozen? ⟨w.heap.size, 4, none⟩ = false) (f5 : w3.frozen? ⟨w.heap.size, 5, none⟩ = false) :
    w4.cell? ⟨w.heap.size, 0, none⟩ = some u0 ∧ w4.cell? ⟨w.heap.size, 1, none⟩ = some u1 ∧ w4.cell? ⟨w.heap.size, 2, none⟩ = some u2 ∧ w4.cell? ⟨w.heap.size, 3, none⟩ = some u3 ∧ w4.cell? ⟨w.heap.size, 4, none⟩ = some u4 ∧ w4.cell? ⟨w.heap.size, 5, none⟩ = some u5 ∧
    w4.frozen? ⟨w.heap.size, 0, none⟩ = false ∧ w4.frozen? ⟨w.heap.size, 1, none⟩ = false ∧ w4.frozen? ⟨w.heap.size, 2, none⟩ = false ∧ w4.frozen? ⟨w.heap.size, 3, none⟩ = false ∧ w4.frozen? ⟨w.heap.size, 4, none⟩ = false ∧ w4.frozen? ⟨w.heap.size, 5, none⟩ = false ∧ w.heap.size < w4.heap.size := by
  have ka := (Keeps.refl w3).alloc o
  have hc : ∀ o' u, w3.cell? ⟨w.heap.size, o', none⟩ = some u → w4.cell? ⟨w.heap.size, o', none⟩ = some u := fun o' u h => hg.cell (ka.cell h) (by intro e; injection e with e; dsimp only at e; omega)
  have hf : ∀ o', w3.frozen? ⟨w.heap.size, o', none⟩ = false → w4.frozen? ⟨w.heap.size, o', none⟩ = false := fun o' h => by
    rw [World.frozen?_of_block (hg.block w.heap.size (by simp; omega) (by intro e; injection e; omega)), ka.cells.2 _ _ (by omega)]
    exact h
  exact ⟨hc _ _ p0, hc _ _ p1, hc _ _ p2, hc _ _ p3, hc _ _ p4, hc _ _ p5, hf _ f0, hf _ f1, hf _ f2, hf _ f3, hf _ f4, hf _ f5, by have := hg.size; simp at this; omega⟩
set_option maxHeartbeats 1600000 in
theorem sample_0 (w : World) : Calls Try.prog 44 #[.slice none 0 0] w fun e w' => ∃ ra rc, e = .returned (Wm.v ⟨50, -3, 3, 10, 12, ra, rc, [(1, 2, 52, 58)]⟩) ∧ Wm.In ⟨50, -3, 3, 10, 12, ra, rc, [(1, 2, 52, 58)]⟩ w' ∧ Keeps w w' := by
  have H1 := Lib.hid (fun w => lawSpan_any (-3) 3 w)
  have H2 := Lib.hid (fun w => lawSpan_any 10 12 w)
  have H3 := Lib.hid (fun w => reading_any 1 2 52 58 w)
  go_enter Try.func44, Try.ntmps44
  go_wp2_with fail
  refine (H1.out _).mono ?_
  rintro e w1 ⟨rfl, k1⟩
  go_wp2_with fail
  refine (H2.out _).mono ?_
  rintro e w2 ⟨rfl, k2⟩
  go_wp2_with fail
  refine (H3.out _).mono ?_
  rintro e w3 ⟨rfl, k3⟩
  have k := (k1.trans k2).trans k3
  have kw := ((Keeps.refl w).alloc _).trans k
  clear k1 k2 k3
  have hz : w.heap.size < w3.heap.size := by have := k.size; simp at this; omega
  have p0 : (w3.cell? ⟨w.heap.size, 0, none⟩) = some (.int .i64 0) := k.cell (by simp [go_sem])
  have p1 : (w3.cell? ⟨w.heap.size, 1, none⟩) = some (.int .i64 0) := k.cell (by simp [go_sem])
  have p2 : (w3.cell? ⟨w.heap.size, 2, none⟩) = some (.int .i64 0) := k.cell (by simp [go_sem])
  have p3 : (w3.cell? ⟨w.heap.size, 3, none⟩) = some (.int .i64 0) := k.cell (by simp [go_sem])
  have p4 : (w3.cell? ⟨w.heap.size, 4, none⟩) = some (.int .i64 0) := k.cell (by simp [go_sem])
  have p5 : (w3.cell? ⟨w.heap.size, 5, none⟩) = some (.slice none 0 0) := k.cell (by simp [go_sem])
  have f0 : w3.frozen? ⟨w.heap.size, 0, none⟩ = false := by rw [k.cells.2 _ _ (by simp)]; simp [go_sem]
  have f1 : w3.frozen? ⟨w.heap.size, 1, none⟩ = false := by rw [k.cells.2 _ _ (by simp)]; simp [go_sem]
  have f2 : w3.frozen? ⟨w.heap.size, 2, none⟩ = false := by rw [k.cells.2 _ _ (by simp)]; simp [go_sem]
  have f3 : w3.frozen? ⟨w.heap.size, 3, none⟩ = false := by rw [k.cells.2 _ _ (by simp)]; simp [go_sem]
  have f4 : w3.frozen? ⟨w.heap.size, 4, none⟩ = false := by rw [k.cells.2 _ _ (by simp)]; simp [go_sem]
  have f5 : w3.frozen? ⟨w.heap.size, 5, none⟩ = false := by rw [k.cells.2 _ _ (by simp)]; simp [go_sem]
  clear H1 H2 H3
  obtain ⟨r0, r1, r2, r3, r4, r5, ro, rz⟩ := six_set (X := w3) (b := w.heap.size) (v0 := .int .i64 50) (v1 := .int .i64 (-3)) (v2 := .int .i64 3) (v3 := .int .i64 10) (v4 := .int .i64 12) (v5 := (.slice (some ⟨w3.heap.size, 0, none⟩) 1 1)) (by rw [p0]; rfl) (by rw [p1]; rfl) (by rw [p2]; rfl) (by rw [p3]; rfl) (by rw [p4]; rfl) (by rw [p5]; rfl)
  have kY := ((((((kw.setCell (p := ⟨w.heap.size, 0, none⟩) (.int .i64 50) (Nat.le_refl _)).setCell (p := ⟨w.heap.size, 1, none⟩) (.int .i64 (-3)) (Nat.le_refl _)).setCell (p := ⟨w.heap.size, 2, none⟩) (.int .i64 3) (Nat.le_refl _)).setCell (p := ⟨w.heap.size, 3, none⟩) (.int .i64 10) (Nat.le_refl _)).setCell (p := ⟨w.heap.size, 4, none⟩) (.int .i64 12) (Nat.le_refl _)).setCell (p := ⟨w.heap.size, 5, none⟩) ((.slice (some ⟨w3.heap.size, 0, none⟩) 1 1)) (Nat.le_refl _))
  go_wp2_with fail
  obtain ⟨Y, hY⟩ : ∃ Y, ((((((w3.setCell ⟨w.heap.size, 0, none⟩ (.int .i64 50)).setCell ⟨w.heap.size, 1, none⟩ (.int .i64 (-3))).setCell ⟨w.heap.size, 2, none⟩ (.int .i64 3)).setCell ⟨w.heap.size, 3, none⟩ (.int .i64 10)).setCell ⟨w.heap.size, 4, none⟩ (.int .i64 12)).setCell ⟨w.heap.size, 5, none⟩ ((.slice (some ⟨w3.heap.size, 0, none⟩) 1 1))) = Y := ⟨_, rfl⟩
  rw [hY] at r0 r1 r2 r3 r4 r5 kY rz ⊢
  clear hY ro
  have kA := (Keeps.refl Y).alloc (.cells #[.int .i64 1, .int .i64 2, .int .i64 52, .int .i64 58] 53)
  have hrow := World.ownsRow_lit (base := 0) (e := 53) (size := 4) Y #[.int .i64 1, .int .i64 2, .int .i64 52, .int .i64 58] 1 (Nat.zero_le _) (by simp [maxLen]) rfl
  obtain ⟨a, cap, ha, hrd, _⟩ := Wrs.of_owns (l := [(1, 2, 52, 58)]) hrow
  cases ha
  rw [rz] at hrd
  have s0 := kA.cell r0
  have s1 := kA.cell r1
  have s2 := kA.cell r2
  have s3 := kA.cell r3
  have s4 := kA.cell r4
  have s5 := kA.cell r5
  refine bodyPost_ret (v := Wm.v ⟨50, -3, 3, 10, 12, (some ⟨w3.heap.size, 0, none⟩), 1, [(1, 2, 52, 58)]⟩) ?_ rfl ⟨_, _, rfl, ⟨hrd, by simp [maxLen]⟩, kY.alloc _⟩
  simp [results, Try.results44, go_sem, s0, s1, s2, s3, s4, s5, Wm.v]
set_option maxHeartbeats 1600000 in
theorem sample_1 (b : Nat) (x0 y0 z0 u0 : Int) (w : World) (h0 : w.cell? ⟨b, 0, none⟩ = some (.int .i64 x0)) (h1 : w.cell? ⟨b, 1, none⟩ = some (.int .i64 y0)) (h2 : w.cell? ⟨b, 2, none⟩ = some (.int .i64 z0)) (h3 : w.cell? ⟨b, 3, none⟩ = some (.int .i64 u0)) : Calls Try.prog 44 #[.slice (some ⟨b, 0, none⟩) 1 1] w fun e w' => ∃ ra rc, e = .returned (Wm.v ⟨50, -3, 3, 10, 12, ra, rc, [(1, 2, 52, 58), (x0, y0, z0, u0)]⟩) ∧ Wm.In ⟨50, -3, 3, 10, 12, ra, rc, [(1, 2, 52, 58), (x0, y0, z0, u0)]⟩ w' ∧ Keeps w w' := by
  have H1 := Lib.hid (fun w => lawSpan_any (-3) 3 w)
  have H2 := Lib.hid (fun w => lawSpan_any 10 12 w)
  have H3 := Lib.hid (fun w => reading_any 1 2 52 58 w)
  obtain ⟨i0, hi, hz0, hz1, hz2⟩ := info_parts info_read
  have hlb := lt_of_cell h0
  go_enter Try.func44, Try.ntmps44
  go_wp2_with fail
  refine (H1.out _).mono ?_
  rintro e w1 ⟨rfl, k1⟩
  go_wp2_with fail
  refine (H2.out _).mono ?_
  rintro e w2 ⟨rfl, k2⟩
  go_wp2_with fail
  refine (H3.out _).mono ?_
  rintro e w3 ⟨rfl, k3⟩
  have k := (k1.trans k2).trans k3
  have kw := ((Keeps.refl w).alloc _).trans k
  clear k1 k2 k3
  have hz : w.heap.size < w3.heap.size := by have := k.size; simp at this; omega
  have p0 : (w3.cell? ⟨w.heap.size, 0, none⟩) = some (.int .i64 0) := k.cell (by simp [go_sem])
  have p1 : (w3.cell? ⟨w.heap.size, 1, none⟩) = some (.int .i64 0) := k.cell (by simp [go_sem])
  have p2 : (w3.cell? ⟨w.heap.size, 2, none⟩) = some (.int .i64 0) := k.cell (by simp [go_sem])
  have p3 : (w3.cell? ⟨w.heap.size, 3, none⟩) = some (.int .i64 0) := k.cell (by simp [go_sem])
  have p4 : (w3.cell? ⟨w.heap.size, 4, none⟩) = some (.int .i64 0) := k.cell (by simp [go_sem])
  have p5 : (w3.cell? ⟨w.heap.size, 5, none⟩) = some (.slice none 0 0) := k.cell (by simp [go_sem])
  have f0 : w3.frozen? ⟨w.heap.size, 0, none⟩ = false := by rw [k.cells.2 _ _ (by simp)]; simp [go_sem]
  have f1 : w3.frozen? ⟨w.heap.size, 1, none⟩ = false := by rw [k.cells.2 _ _ (by simp)]; simp [go_sem]
  have f2 : w3.frozen? ⟨w.heap.size, 2, none⟩ = false := by rw [k.cells.2 _ _ (by simp)]; simp [go_sem]
  have f3 : w3.frozen? ⟨w.heap.size, 3, none⟩ = false := by rw [k.cells.2 _ _ (by simp)]; simp [go_sem]
  have f4 : w3.frozen? ⟨w.heap.size, 4, none⟩ = false := by rw [k.cells.2 _ _ (by simp)]; simp [go_sem]
  have f5 : w3.frozen? ⟨w.heap.size, 5, none⟩ = false := by rw [k.cells.2 _ _ (by simp)]; simp [go_sem]
  clear H1 H2 H3
  have l0 := kw.cell h0
  have l1 := kw.cell h1
  have l2 := kw.cell h2
  have l3 := kw.cell h3
  have hlb3 := lt_of_cell l0
  clear h0 h1 h2 h3 hlb
  have hrow := World.ownsRow_lit (base := w3.heap.size) (e := 53) (size := 4) w3 #[.int .i64 1, .int .i64 2, .int .i64 52, .int .i64 58] 1 (Nat.le_refl _) (by simp [maxLen]) rfl
  have hcs : ∀ (j : Nat) (v : Value), [.int .i64 x0, .int .i64 y0, .int .i64 z0, .int .i64 u0][j]? = some v → (w3.alloc (.cells #[.int .i64 1, .int .i64 2, .int .i64 52, .int .i64 58] 53)).cell? ((⟨b, 0, none⟩ : Addr).add j) = some v := by
    intro j v hv
    match j, hv with
    | 0, hv => cases hv; exact ((Keeps.refl w3).alloc _).cell l0
    | 1, hv => cases hv; exact ((Keeps.refl w3).alloc _).cell l1
    | 2, hv => cases hv; exact ((Keeps.refl w3).alloc _).cell l2
    | 3, hv => cases hv; exact ((Keeps.refl w3).alloc _).cell l3
    | n + 4, hv => simp at hv
  have Hrow := Lib.hid hrow
  have Hcs := Lib.hid hcs
  have FR := Lib.hid (fun (w4 : World) (hg : (w3.alloc (.cells #[.int .i64 1, .int .i64 2, .int .i64 52, .int .i64 58] 53)).grownBy w4 (some w3.heap.size)) => grown_box hz hg p0 p1 p2 p3 p4 p5 f0 f1 f2 f3 f4 f5)
  clear hrow hcs p0 p1 p2 p3 p4 p5 f0 f1 f2 f3 f4 f5 l0 l1 l2 l3
  go_wp2_with (at_builtin; refine wpList_append_own _ rfl _ _ 24 rfl w3.heap.size 53 i0 (.agg #[.int .i64 0, .int .i64 0, .int .i64 0, .int .i64 0]) 4 32 Try.underlying24 hi hz0 hz1 hz2 rfl (by decide) _ _ _ rfl Hrow.out ⟨b, 0, none⟩ 1 1 [.int .i64 x0, .int .i64 y0, .int .i64 z0, .int .i64 u0] rfl rfl Hcs.out (by simp [Value.oneCell']) (by simp [maxLen]) (by simp) (by simp) ?_; intro v' w4 hown' hgrow _; obtain ⟨g, cap, rfl⟩ := ownsRow_succ hown'; obtain ⟨p0, p1, p2, p3, p4, p5, f0, f1, f2, f3, f4, f5, hz4⟩ := FR.out w4 hgrow)
  have hgrow' : (w3.alloc (.cells #[.int .i64 1, .int .i64 2, .int .i64 52, .int .i64 58] 53)).grownBy w4 (some w3.heap.size) := hgrow
  have k4 : Keeps w w4 := Below.grown (kw.alloc _) hgrow' (by simp; omega) (fun k e => by
    injection e with e
    omega)
  have hgb := ownsRow_base hown'
  obtain ⟨a, cap', ha, hrd, _⟩ := Wrs.of_owns (l := [(1, 2, 52, 58), (x0, y0, z0, u0)]) hown'
  cases ha
  obtain ⟨r0, r1, r2, r3, r4, r5, ro, rz⟩ := six_set (X := w4) (b := w.heap.size) (v0 := .int .i64 50) (v1 := .int .i64 (-3)) (v2 := .int .i64 3) (v3 := .int .i64 10) (v4 := .int .i64 12) (v5 := (.slice (some ⟨g, 0, none⟩) 2 cap)) (by rw [p0]; rfl) (by rw [p1]; rfl) (by rw [p2]; rfl) (by rw [p3]; rfl) (by rw [p4]; rfl) (by rw [p5]; rfl)
  have kY := ((((((k4.setCell (p := ⟨w.heap.size, 0, none⟩) (.int .i64 50) (Nat.le_refl _)).setCell (p := ⟨w.heap.size, 1, none⟩) (.int .i64 (-3)) (Nat.le_refl _)).setCell (p := ⟨w.heap.size, 2, none⟩) (.int .i64 3) (Nat.le_refl _)).setCell (p := ⟨w.heap.size, 3, none⟩) (.int .i64 10) (Nat.le_refl _)).setCell (p := ⟨w.heap.size, 4, none⟩) (.int .i64 12) (Nat.le_refl _)).setCell (p := ⟨w.heap.size, 5, none⟩) ((.slice (some ⟨g, 0, none⟩) 2 cap)) (Nat.le_refl _))
  have hrd' := hrd.of_eq (w' := ((((((w4.setCell ⟨w.heap.size, 0, none⟩ (.int .i64 50)).setCell ⟨w.heap.size, 1, none⟩ (.int .i64 (-3))).setCell ⟨w.heap.size, 2, none⟩ (.int .i64 3)).setCell ⟨w.heap.size, 3, none⟩ (.int .i64 10)).setCell ⟨w.heap.size, 4, none⟩ (.int .i64 12)).setCell ⟨w.heap.size, 5, none⟩ ((.slice (some ⟨g, 0, none⟩) 2 cap)))) (fun b o e o' => by cases e; exact ro g o' (by omega))
  refine bodyPost_ret (v := Wm.v ⟨50, -3, 3, 10, 12, (some ⟨g, 0, none⟩), cap, [(1, 2, 52, 58), (x0, y0, z0, u0)]⟩) ?_ rfl ⟨_, _, rfl, ⟨hrd', by simp [maxLen]⟩, kY⟩
  simp [results, Try.results44, go_sem, r0, r1, r2, r3, r4, r5, Wm.v]
set_option maxHeartbeats 1600000 in
theorem sample_2 (b : Nat) (x0 y0 z0 u0 : Int) (x1 y1 z1 u1 : Int) (w : World) (h0 : w.cell? ⟨b, 0, none⟩ = some (.int .i64 x0)) (h1 : w.cell? ⟨b, 1, none⟩ = some (.int .i64 y0)) (h2 : w.cell? ⟨b, 2, none⟩ = some (.int .i64 z0)) (h3 : w.cell? ⟨b, 3, none⟩ = some (.int .i64 u0)) (h4 : w.cell? ⟨b, 4, none⟩ = some (.int .i64 x1)) (h5 : w.cell? ⟨b, 5, none⟩ = some (.int .i64 y1)) (h6 : w.cell? ⟨b, 6, none⟩ = some (.int .i64 z1)) (h7 : w.cell? ⟨b, 7, none⟩ = some (.int .i64 u1)) : Calls Try.prog 44 #[.slice (some ⟨b, 0, none⟩) 2 2] w fun e w' => ∃ ra rc, e = .returned (Wm.v ⟨50, -3, 3, 10, 12, ra, rc, [(1, 2, 52, 58), (x0, y0, z0, u0), (x1, y1, z1, u1)]⟩) ∧ Wm.In ⟨50, -3, 3, 10, 12, ra, rc, [(1, 2, 52, 58), (x0, y0, z0, u0), (x1, y1, z1, u1)]⟩ w' ∧ Keeps w w' := by
  have H1 := Lib.hid (fun w => lawSpan_any (-3) 3 w)
  have H2 := Lib.hid (fun w => lawSpan_any 10 12 w)
  have H3 := Lib.hid (fun w => reading_any 1 2 52 58 w)
  obtain ⟨i0, hi, hz0, hz1, hz2⟩ := info_parts info_read
  have hlb := lt_of_cell h0
  go_enter Try.func44, Try.ntmps44
  go_wp2_with fail
  refine (H1.out _).mono ?_
  rintro e w1 ⟨rfl, k1⟩
  go_wp2_with fail
  refine (H2.out _).mono ?_
  rintro e w2 ⟨rfl, k2⟩
  go_wp2_with fail
  refine (H3.out _).mono ?_
  rintro e w3 ⟨rfl, k3⟩
  have k := (k1.trans k2).trans k3
  have kw := ((Keeps.refl w).alloc _).trans k
  clear k1 k2 k3
  have hz : w.heap.size < w3.heap.size := by have := k.size; simp at this; omega
  have p0 : (w3.cell? ⟨w.heap.size, 0, none⟩) = some (.int .i64 0) := k.cell (by simp [go_sem])
  have p1 : (w3.cell? ⟨w.heap.size, 1, none⟩) = some (.int .i64 0) := k.cell (by simp [go_sem])
  have p2 : (w3.cell? ⟨w.heap.size, 2, none⟩) = some (.int .i64 0) := k.cell (by simp [go_sem])
  have p3 : (w3.cell? ⟨w.heap.size, 3, none⟩) = some (.int .i64 0) := k.cell (by simp [go_sem])
  have p4 : (w3.cell? ⟨w.heap.size, 4, none⟩) = some (.int .i64 0) := k.cell (by simp [go_sem])
  have p5 : (w3.cell? ⟨w.heap.size, 5, none⟩) = some (.slice none 0 0) := k.cell (by simp [go_sem])
  have f0 : w3.frozen? ⟨w.heap.size, 0, none⟩ = false := by rw [k.cells.2 _ _ (by simp)]; simp [go_sem]
  have f1 : w3.frozen? ⟨w.heap.size, 1, none⟩ = false := by rw [k.cells.2 _ _ (by simp)]; simp [go_sem]
  have f2 : w3.frozen? ⟨w.heap.size, 2, none⟩ = false := by rw [k.cells.2 _ _ (by simp)]; simp [go_sem]
  have f3 : w3.frozen? ⟨w.heap.size, 3, none⟩ = false := by rw [k.cells.2 _ _ (by simp)]; simp [go_sem]
  have f4 : w3.frozen? ⟨w.heap.size, 4, none⟩ = false := by rw [k.cells.2 _ _ (by simp)]; simp [go_sem]
  have f5 : w3.frozen? ⟨w.heap.size, 5, none⟩ = false := by rw [k.cells.2 _ _ (by simp)]; simp [go_sem]
  clear H1 H2 H3
  have l0 := kw.cell h0
  have l1 := kw.cell h1
  have l2 := kw.cell h2
  have l3 := kw.cell h3
  have l4 := kw.cell h4
  have l5 := kw.cell h5
  have l6 := kw.cell h6
  have l7 := kw.cell h7
  have hlb3 := lt_of_cell l0
  clear h0 h1 h2 h3 h4 h5 h6 h7 hlb
  have hrow := World.ownsRow_lit (base := w3.heap.size) (e := 53) (size := 4) w3 #[.int .i64 1, .int .i64 2, .int .i64 52, .int .i64 58] 1 (Nat.le_refl _) (by simp [maxLen]) rfl
  have hcs : ∀ (j : Nat) (v : Value), [.int .i64 x0, .int .i64 y0, .int .i64 z0, .int .i64 u0, .int .i64 x1, .int .i64 y1, .int .i64 z1, .int .i64 u1][j]? = some v → (w3.alloc (.cells #[.int .i64 1, .int .i64 2, .int .i64 52, .int .i64 58] 53)).cell? ((⟨b, 0, none⟩ : Addr).add j) = some v := by
    intro j v hv
    match j, hv with
    | 0, hv => cases hv; exact ((Keeps.refl w3).alloc _).cell l0
    | 1, hv => cases hv; exact ((Keeps.refl w3).alloc _).cell l1
    | 2, hv => cases hv; exact ((Keeps.refl w3).alloc _).cell l2
    | 3, hv => cases hv; exact ((Keeps.refl w3).alloc _).cell l3
    | 4, hv => cases hv; exact ((Keeps.refl w3).alloc _).cell l4
    | 5, hv => cases hv; exact ((Keeps.refl w3).alloc _).cell l5
    | 6, hv => cases hv; exact ((Keeps.refl w3).alloc _).cell l6
    | 7, hv => cases hv; exact ((Keeps.refl w3).alloc _).cell l7
    | n + 8, hv => simp at hv
  have Hrow := Lib.hid hrow
  have Hcs := Lib.hid hcs
  have FR := Lib.hid (fun (w4 : World) (hg : (w3.alloc (.cells #[.int .i64 1, .int .i64 2, .int .i64 52, .int .i64 58] 53)).grownBy w4 (some w3.heap.size)) => grown_box hz hg p0 p1 p2 p3 p4 p5 f0 f1 f2 f3 f4 f5)
  clear hrow hcs p0 p1 p2 p3 p4 p5 f0 f1 f2 f3 f4 f5 l0 l1 l2 l3 l4 l5 l6 l7
  go_wp2_with (at_builtin; refine wpList_append_own _ rfl _ _ 24 rfl w3.heap.size 53 i0 (.agg #[.int .i64 0, .int .i64 0, .int .i64 0, .int .i64 0]) 4 32 Try.underlying24 hi hz0 hz1 hz2 rfl (by decide) _ _ _ rfl Hrow.out ⟨b, 0, none⟩ 2 2 [.int .i64 x0, .int .i64 y0, .int .i64 z0, .int .i64 u0, .int .i64 x1, .int .i64 y1, .int .i64 z1, .int .i64 u1] rfl rfl Hcs.out (by simp [Value.oneCell']) (by simp [maxLen]) (by simp) (by simp) ?_; intro v' w4 hown' hgrow _; obtain ⟨g, cap, rfl⟩ := ownsRow_succ hown'; obtain ⟨p0, p1, p2, p3, p4, p5, f0, f1, f2, f3, f4, f5, hz4⟩ := FR.out w4 hgrow)
  have hgrow' : (w3.alloc (.cells #[.int .i64 1, .int .i64 2, .int .i64 52, .int .i64 58] 53)).grownBy w4 (some w3.heap.size) := hgrow
  have k4 : Keeps w w4 := Below.grown (kw.alloc _) hgrow' (by simp; omega) (fun k e => by
    injection e with e
    omega)
  have hgb := ownsRow_base hown'
  obtain ⟨a, cap', ha, hrd, _⟩ := Wrs.of_owns (l := [(1, 2, 52, 58), (x0, y0, z0, u0), (x1, y1, z1, u1)]) hown'
  cases ha
  obtain ⟨r0, r1, r2, r3, r4, r5, ro, rz⟩ := six_set (X := w4) (b := w.heap.size) (v0 := .int .i64 50) (v1 := .int .i64 (-3)) (v2 := .int .i64 3) (v3 := .int .i64 10) (v4 := .int .i64 12) (v5 := (.slice (some ⟨g, 0, none⟩) 3 cap)) (by rw [p0]; rfl) (by rw [p1]; rfl) (by rw [p2]; rfl) (by rw [p3]; rfl) (by rw [p4]; rfl) (by rw [p5]; rfl)
  have kY := ((((((k4.setCell (p := ⟨w.heap.size, 0, none⟩) (.int .i64 50) (Nat.le_refl _)).setCell (p := ⟨w.heap.size, 1, none⟩) (.int .i64 (-3)) (Nat.le_refl _)).setCell (p := ⟨w.heap.size, 2, none⟩) (.int .i64 3) (Nat.le_refl _)).setCell (p := ⟨w.heap.size, 3, none⟩) (.int .i64 10) (Nat.le_refl _)).setCell (p := ⟨w.heap.size, 4, none⟩) (.int .i64 12) (Nat.le_refl _)).setCell (p := ⟨w.heap.size, 5, none⟩) ((.slice (some ⟨g, 0, none⟩) 3 cap)) (Nat.le_refl _))
  have hrd' := hrd.of_eq (w' := ((((((w4.setCell ⟨w.heap.size, 0, none⟩ (.int .i64 50)).setCell ⟨w.heap.size, 1, none⟩ (.int .i64 (-3))).setCell ⟨w.heap.size, 2, none⟩ (.int .i64 3)).setCell ⟨w.heap.size, 3, none⟩ (.int .i64 10)).setCell ⟨w.heap.size, 4, none⟩ (.int .i64 12)).setCell ⟨w.heap.size, 5, none⟩ ((.slice (some ⟨g, 0, none⟩) 3 cap)))) (fun b o e o' => by cases e; exact ro g o' (by omega))
  refine bodyPost_ret (v := Wm.v ⟨50, -3, 3, 10, 12, (some ⟨g, 0, none⟩), cap, [(1, 2, 52, 58), (x0, y0, z0, u0), (x1, y1, z1, u1)]⟩) ?_ rfl ⟨_, _, rfl, ⟨hrd', by simp [maxLen]⟩, kY⟩
  simp [results, Try.results44, go_sem, r0, r1, r2, r3, r4, r5, Wm.v]
end Go.Proofs.Ytmhpgjlegajpeaa

namespace Go.Proofs.Ytmhpgjlegajpeaa
open Go.RowKit

set_option maxHeartbeats 800000 in
theorem far_any (B : Wm) (a : Option Addr) (n cap : Nat) (w : World) (hr : B.rs.length ≤ maxLen) (hn : n ≤ maxLen) : Calls Try.prog 13 #[B.v, .slice a n cap] w (RetB (decide (40 < B.rs.length ∨ 40 < n)) w) := by
  unfold maxLen at hr hn
  obtain ⟨mark, llo, lhi, clo, chi, ra, rc, rs⟩ := B
  dsimp only [Wm.v] at *
  have k0 := (Keeps.refl w).alloc (.cells #[.int .i64 mark, .int .i64 llo, .int .i64 lhi, .int .i64 clo, .int .i64 chi, .slice ra rs.length rc] 26)
  go_enter Try.func13, Try.ntmps13
  go_wp2
  all_goals go_ret
  all_goals exact RetB.mk (by rw [Bool.eq_iff_iff]; simp; omega) k0
/-- Is a block valid, and are there not far too many readings? -/
def Wm.fine (B : Wm) : Bool := decide (B.rs.length ≤ 40) && B.ok
theorem Wm.fine_ok {B : Wm} (h : B.fine = true) : B.ok = true := by
  simp only [Wm.fine, Bool.and_eq_true] at h
  exact h.2
set_option maxHeartbeats 800000 in
theorem fine_any (B : Wm) (w : World) (hI : B.In w) : Calls Try.prog 31 #[B.v] w (RetB B.fine w) := by
  have hrl := hI.rl
  have F1 := Lib.hid (fun w1 => far_any B none 0 0 w1 hrl (Nat.zero_le _))
  have R1 := Lib.hid (fun w1 (k : Keeps w w1) => refWarm_any B w1 (hI.keep k))
  have BX := Wm.Box.new B w
  have k0 := (Keeps.refl w).alloc (.cells #[.int .i64 B.mark, .int .i64 B.llo, .int .i64 B.lhi, .int .i64 B.clo, .int .i64 B.chi, .slice B.ra B.rs.length B.rc] 26)
  have hfe : B.fine = (!decide (40 < B.rs.length ∨ 40 < 0) && B.ok) := by
    unfold Wm.fine
    congr 1
    rw [Bool.eq_iff_iff]
    simp
  rw [hfe]
  obtain ⟨v1, hv1⟩ : ∃ v, decide (40 < B.rs.length ∨ 40 < 0) = v := ⟨_, rfl⟩
  obtain ⟨v2, hv2⟩ : ∃ v, B.ok = v := ⟨_, rfl⟩
  rw [hv1] at F1 ⊢
  rw [hv2] at R1 ⊢
  obtain ⟨mark, llo, lhi, clo, chi, ra, rc, rs⟩ := B
  dsimp only [Wm.v] at *
  obtain ⟨W, hW⟩ : ∃ W, w.alloc (.cells #[.int .i64 mark, .int .i64 llo, .int .i64 lhi, .int .i64 clo, .int .i64 chi, .slice ra rs.length rc] 26) = W := ⟨_, rfl⟩
  rw [hW] at BX k0
  obtain ⟨g0, g1, g2, g3, g4, g5⟩ := BX
  dsimp only at g0 g1 g2 g3 g4 g5
  have hlb := lt_of_cell g0
  clear hI hv1 hv2 hfe hrl
  cases v1 with
  | true =>
    go_enter Try.func31, Try.ntmps31
    go_wp2_with fail
    refine (F1.out _).mono ?_
    rintro e w1 ⟨rfl, k1⟩
    go_wp2_with fail
    go_ret
    exact RetB.mk rfl (k0.trans k1)
  | false =>
    go_enter Try.func31, Try.ntmps31
    go_wp2_with fail
    refine (F1.out _).mono ?_
    rintro e w1 ⟨rfl, k1⟩
    have e0 := k1.cell g0
    have e1 := k1.cell g1
    have e2 := k1.cell g2
    have e3 := k1.cell g3
    have e4 := k1.cell g4
    have e5 := k1.cell g5
    have hle := lt_of_cell e0
    go_wp2_with fail
    refine (R1.out _ (k0.trans k1)).mono ?_
    rintro e w2 ⟨rfl, k2⟩
    go_wp2_with fail
    go_ret
    exact RetB.mk (by simp) ((k0.trans k1).trans k2)
end Go.Proofs.Ytmhpgjlegajpeaa

namespace Go.Proofs.Ytmhpgjlegajpeaa
open Go.RowKit

theorem fields_span : Try.prog.underlying 23 = some (.struct (Try.prog.fieldsOf 23)) := by kernel_rfl
theorem held_span : Try.prog.stoodInHeld 23 = false := by kernel_rfl
theorem guard_span : Try.prog.eqGuardType Try.prog.depth 23 = false := by kernel_rfl
theorem list_span : (Try.prog.fieldsOf 23).toList.map (fun f => (f.name, f.type, f.offset)) = [("Lo", 3, 0), ("Hi", 3, 1)] := by kernel_rfl
theorem equal_span (x x' y y' : Int) (w : World) : (Op.equalIn 10000 23 (.agg #[.int .i64 x, .int .i64 x']) (.agg #[.int .i64 y, .int .i64 y'])).run Try.prog w = .ok (x == y && x' == y') w := by
  rw [run_equalIn_agg w 9999 _ _ _ fields_span held_span]
  have h := list_span
  match hf : (Try.prog.fieldsOf 23).toList, h with
  | [f, g], h =>
    simp only [List.map_cons, List.map_nil, List.cons.injEq, Prod.mk.injEq, and_true] at h
    obtain ⟨⟨h1, h2, h3⟩, h4, h5, h6⟩ := h
    simp [Op.eqFields, h1, h2, h3, h4, h5, h6, go_sem]
    by_cases e1 : x = y <;> by_cases e2 : x' = y' <;> simp [e1, e2]
  | [], h => simp at h
  | [_], h => simp at h
  | _ :: _ :: _ :: _, h => simp at h
theorem neq_span (x x' y y' : Int) (w : World) : (binOp .neq 23 (.agg #[.int .i64 x, .int .i64 x']) (.agg #[.int .i64 y, .int .i64 y'])).run Try.prog w = .ok (.bool (!(x == y && x' == y'))) w := by
  rw [run_neq_struct, equal_span]
  rfl
theorem eql_span (x x' y y' : Int) (w : World) : (binOp .eql 23 (.agg #[.int .i64 x, .int .i64 x']) (.agg #[.int .i64 y, .int .i64 y'])).run Try.prog w = .ok (.bool (x == y && x' == y')) w := by
  rw [run_eql_struct, equal_span]
  rfl
end Go.Proofs.Ytmhpgjlegajpeaa
