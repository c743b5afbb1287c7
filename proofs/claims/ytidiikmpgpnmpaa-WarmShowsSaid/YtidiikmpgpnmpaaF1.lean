/-
  The document's own package: in, span, Warm, Reading, Warmth.
-/
import Derived.Test.YtidiikmpgpnmpaaA3
import Derived.Test.YtidiikmpgpnmpaaR4
import Derived.BigQuiet
namespace Go.Proofs.Ytidiikmpgpnmpaa
open Go.RowKit

set_option maxHeartbeats 400000 in
theorem refIn_any (n a b : Int) (w : World) : Calls Try.prog 73 #[.int .i64 n, .int .i64 a, .int .i64 b] w fun e w' => e = .returned (.bool (decide (a ≤ n ∧ n ≤ b))) ∧ w = w' := by
  go_enter Try.func73, Try.ntmps73
  go_wp2
  all_goals go_ret
  all_goals exact ⟨congrArg (fun b => Ending.returned (Value.bool b)) (by rw [Bool.eq_iff_iff]; simp; try omega), rfl⟩
/-- Is a span valid, within two numbers, and not too wide? -/
def spB (lo hi a b m : Int) : Bool := inS lo hi a b && decide (hi - lo ≤ m)
set_option maxHeartbeats 800000 in
theorem refSpan_any (lo hi a b m : Int) (w : World) (ha : -100000 ≤ a) (hb : b ≤ 100000) : Calls Try.prog 91 #[.agg #[.int .i64 lo, .int .i64 hi], .int .i64 a, .int .i64 b, .int .i64 m] w (RetB (spB lo hi a b m) w) := by
  by_cases h : a ≤ lo ∧ lo ≤ hi ∧ hi ≤ b
  · obtain ⟨h1, h2, h3⟩ := h
    have e : IntKind.i64.wrap (hi - lo) = hi - lo := IntWalk.i64_in _ (by constructor <;> omega)
    have d1 : decide (a ≤ lo) = true := by simpa using h1
    have d2 : decide (lo ≤ hi) = true := by simpa using h2
    have d3 : decide (hi ≤ b) = true := by simpa using h3
    go_enter Try.func91, Try.ntmps91
    go_wp2
    all_goals go_ret
    all_goals exact RetB.mk (by rw [Bool.eq_iff_iff]; simp [spB, inS, h1, h2, h3]) ((Keeps.refl _).alloc _)
  · have hf : spB lo hi a b m = false := by simp only [spB, inS, decide_eq_false h, Bool.false_and]
    rw [hf]
    by_cases h1 : a ≤ lo
    · by_cases h2 : lo ≤ hi
      · have h3 : ¬ hi ≤ b := fun h3 => h ⟨h1, h2, h3⟩
        go_enter Try.func91, Try.ntmps91
        go_wp2
        all_goals first | (exfalso; omega) | (go_ret; exact RetB.mk rfl ((Keeps.refl _).alloc _))
      · go_enter Try.func91, Try.ntmps91
        go_wp2
        all_goals first | (exfalso; omega) | (go_ret; exact RetB.mk rfl ((Keeps.refl _).alloc _))
    · go_enter Try.func91, Try.ntmps91
      go_wp2
      all_goals first | (exfalso; omega) | (go_ret; exact RetB.mk rfl ((Keeps.refl _).alloc _))
theorem vWr_sp (r : Wr) : vWr r = (spB r.1 r.2.1 (-100) 100 4 && spB r.2.2.1 r.2.2.2 (-30000) 30000 60000) := by
  obtain ⟨a, b, c, d⟩ := r
  rw [Bool.eq_iff_iff]
  simp only [vWr, spB, inS, Bool.and_eq_true, decide_eq_true_eq]
  omega
theorem ok_sp (B : Wm) : B.ok = (decide (1 ≤ B.mark ∧ B.mark ≤ 100) && spB B.llo B.lhi (-1000) 1000 24 && spB B.clo B.chi 0 20 3 && vWrs B.rs) := rfl

set_option maxRecDepth 100000 in
set_option maxHeartbeats 3200000 in
theorem refWarm_any (B : Wm) (w : World) (hI : B.In w) : Calls Try.prog 36 #[B.v] w (RetB B.ok w) := by
  have hrl := hI.rl
  unfold maxLen at hrl
  have HI := Lib.hid hI.rds
  have I1 := Lib.hid (fun w1 => refIn_any B.mark 1 100 w1)
  have S1 := Lib.hid (fun w1 => refSpan_any B.llo B.lhi (-1000) 1000 24 w1 (by omega) (by omega))
  have S2 := Lib.hid (fun w1 => refSpan_any B.clo B.chi 0 20 3 w1 (by omega) (by omega))
  have R1 := Lib.hid (fun a b w1 => refSpan_any a b (-100) 100 4 w1 (by omega) (by omega))
  have R2 := Lib.hid (fun a b w1 => refSpan_any a b (-30000) 30000 60000 w1 (by omega) (by omega))
  have BX := Wm.Box.new B w
  have k0 := (Keeps.refl w).alloc (.cells #[.int .i64 B.mark, .int .i64 B.llo, .int .i64 B.lhi, .int .i64 B.clo, .int .i64 B.chi, .slice B.ra B.rs.length B.rc] 26)
  rw [ok_sp]
  obtain ⟨v1, hv1⟩ : ∃ v, decide (1 ≤ B.mark ∧ B.mark ≤ 100) = v := ⟨_, rfl⟩
  obtain ⟨v2, hv2⟩ : ∃ v, spB B.llo B.lhi (-1000) 1000 24 = v := ⟨_, rfl⟩
  obtain ⟨v3, hv3⟩ : ∃ v, spB B.clo B.chi 0 20 3 = v := ⟨_, rfl⟩
  rw [hv1] at I1 ⊢
  rw [hv2] at S1 ⊢
  rw [hv3] at S2 ⊢
  obtain ⟨mark, llo, lhi, clo, chi, ra, rc, rs⟩ := B
  dsimp only [Wm.v] at *
  obtain ⟨W, hW⟩ : ∃ W, w.alloc (.cells #[.int .i64 mark, .int .i64 llo, .int .i64 lhi, .int .i64 clo, .int .i64 chi, .slice ra rs.length rc] 26) = W := ⟨_, rfl⟩
  rw [hW] at BX k0
  obtain ⟨g0, g1, g2, g3, g4, g5⟩ := BX
  dsimp only at g0 g1 g2 g3 g4 g5
  have hlb := lt_of_cell g0
  clear hI hv1 hv2 hv3
  cases v1 with
  | false =>
    simp only [Bool.false_and]
    go_enter Try.func36, Try.ntmps36
    go_wp2_with fail
    refine (I1.out _).mono ?_
    rintro e w1 ⟨rfl, rfl⟩
    go_wp2_with fail
    go_ret
    exact RetB.mk rfl k0
  | true =>
    cases v2 with
    | false =>
      simp only [Bool.true_and, Bool.false_and]
      go_enter Try.func36, Try.ntmps36
      go_wp2_with fail
      refine (I1.out _).mono ?_
      rintro e w1 ⟨rfl, rfl⟩
      go_wp2_with fail
      refine (S1.out _).mono ?_
      rintro e w2 ⟨rfl, k2⟩
      go_wp2_with fail
      go_ret
      exact RetB.mk rfl (k0.trans k2)
    | true =>
      cases v3 with
      | false =>
        simp only [Bool.true_and, Bool.false_and]
        go_enter Try.func36, Try.ntmps36
        go_wp2_with fail
        refine (I1.out _).mono ?_
        rintro e w1 ⟨rfl, rfl⟩
        go_wp2_with fail
        refine (S1.out _).mono ?_
        rintro e w2 ⟨rfl, k2⟩
        have e3 := k2.cell g3
        have e4 := k2.cell g4
        have hl2 := lt_of_cell e3
        go_wp2_with fail
        refine (S2.out _).mono ?_
        rintro e w3 ⟨rfl, k3⟩
        go_wp2_with fail
        go_ret
        exact RetB.mk rfl ((k0.trans k2).trans k3)
      | true =>
        simp only [Bool.true_and]
        by_cases h5 : rs.length ≤ 5
        · have hd5 : decide (5 < (rs.length : Int)) = false := by simp; omega
          go_enter Try.func36, Try.ntmps36
          go_wp2_with fail
          refine (I1.out _).mono ?_
          rintro e w1 ⟨rfl, rfl⟩
          go_wp2_with fail
          refine (S1.out _).mono ?_
          rintro e w2 ⟨rfl, k2⟩
          have e3 := k2.cell g3
          have e4 := k2.cell g4
          have hl2 := lt_of_cell e3
          go_wp2_with fail
          refine (S2.out _).mono ?_
          rintro e w3 ⟨rfl, k3⟩
          have e5 := (k2.trans k3).cell g5
          have hl3 := lt_of_cell e5
          have k03 := (k0.trans k2).trans k3
          have kW := k2.trans k3
          go_wp2_with fail
          clear e3 e4 e5 hl2 hl3 k03
          go_loopw [3] (fun i wr => ∃ k : Nat, k ≤ rs.length ∧ i = .int .i64 k ∧ (∀ j, j < k → vWr (rs[j]?.getD (0, 0, 0, 0)) = true) ∧ Keeps W wr) (fun i _ => rs.length - (intOf i).toNat)
          case atStart => exact ⟨0, Nat.zero_le _, rfl, fun j hj => absurd hj (by omega), kW⟩
          case round =>
            obtain ⟨k, hk, rfl, hall, hkp⟩ := hrel
            have Hall := Lib.hid hall
            have e5 := hkp.cell g5
            have hl3 := lt_of_cell e5
            clear hall hW kW
            by_cases hlt : k < rs.length
            · obtain ⟨b, o, rfl, hc⟩ := (HI.out.keep (k0.trans hkp)) (by intro e; rw [e] at hlt; simp at hlt)
              have hcc := hc k hlt
              obtain ⟨⟨x, y, z, u⟩, hr⟩ : ∃ r, rs[k]?.getD (0, 0, 0, 0) = r := ⟨_, rfl⟩
              rw [hr] at hcc
              dsimp only at hcc
              obtain ⟨c0, c1, c2, c3⟩ := hcc
              have Hr := Lib.hid hr
              have lb := lt_of_cell c0
              have BAD := Lib.hid (fun (hb : vWr (x, y, z, u) = false) => vWrs_bad hlt (by rw [Hr.out]; exact hb))
              have hvs := vWr_sp (x, y, z, u)
              dsimp only at hvs
              have T1 := Lib.hid (R1.out x y)
              have T2 := Lib.hid (R2.out z u)
              obtain ⟨p1, hp1⟩ : ∃ v, spB x y (-100) 100 4 = v := ⟨_, rfl⟩
              obtain ⟨p2, hp2⟩ : ∃ v, spB z u (-30000) 30000 60000 = v := ⟨_, rfl⟩
              rw [hp1] at hvs T1
              rw [hp2] at hvs T2
              have HVS := Lib.hid hvs
              clear hc hr hp1 hp2 hvs
              cases p1 with
              | false =>
                have HB := Lib.hid (BAD.out HVS.out)
                go_wp2_with fail
                refine (T1.out _).mono ?_
                rintro e w4 ⟨rfl, k4⟩
                go_wp2_with fail
                go_ret
                exact RetB.mk HB.out.symm ((k0.trans hkp).trans k4)
              | true =>
                cases p2 with
                | false =>
                  have HB := Lib.hid (BAD.out HVS.out)
                  go_wp2_with fail
                  refine (T1.out _).mono ?_
                  rintro e w4 ⟨rfl, k4⟩
                  have d2 := k4.cell c2
                  have d3 := k4.cell c3
                  have d5 := k4.cell e5
                  have l4 := lt_of_cell d2
                  have l5 := lt_of_cell d5
                  go_wp2_with fail
                  refine (T2.out _).mono ?_
                  rintro e w5 ⟨rfl, k5⟩
                  go_wp2_with fail
                  go_ret
                  exact RetB.mk HB.out.symm (((k0.trans hkp).trans k4).trans k5)
                | true =>
                  go_wp2_with fail
                  refine (T1.out _).mono ?_
                  rintro e w4 ⟨rfl, k4⟩
                  have d2 := k4.cell c2
                  have d3 := k4.cell c3
                  have d5 := k4.cell e5
                  have l4 := lt_of_cell d2
                  have l5 := lt_of_cell d5
                  go_wp2_with fail
                  refine (T2.out _).mono ?_
                  rintro e w5 ⟨rfl, k5⟩
                  go_wp2_with fail
                  go_roundw
                  case rel => exact ⟨k + 1, by omega, by go_num, fun j hj => by
                    by_cases e : j = k
                    · subst e; rw [Hr.out]; exact HVS.out
                    · exact Hall.out j (by omega), (hkp.trans k4).trans k5⟩
                  case measure => simp [intOf]; omega
            · go_wp2
              go_ret
              exact RetB.mk (vWrs_yes h5 (fun i hi => Hall.out i (by omega))).symm (k0.trans hkp)
        · have hd5 : decide (5 < (rs.length : Int)) = true := by simp; omega
          have hv : vWrs rs = false := vWrs_no (by omega)
          rw [hv]
          go_enter Try.func36, Try.ntmps36
          go_wp2_with fail
          refine (I1.out _).mono ?_
          rintro e w1 ⟨rfl, rfl⟩
          go_wp2_with fail
          refine (S1.out _).mono ?_
          rintro e w2 ⟨rfl, k2⟩
          have e3 := k2.cell g3
          have e4 := k2.cell g4
          have hl2 := lt_of_cell e3
          go_wp2_with fail
          refine (S2.out _).mono ?_
          rintro e w3 ⟨rfl, k3⟩
          have e5 := (k2.trans k3).cell g5
          have hl3 := lt_of_cell e5
          go_wp2_with fail
          go_ret
          exact RetB.mk rfl ((k0.trans k2).trans k3)
end Go.Proofs.Ytidiikmpgpnmpaa
