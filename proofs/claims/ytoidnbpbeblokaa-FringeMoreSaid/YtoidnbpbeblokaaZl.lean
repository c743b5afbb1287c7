/-
  long, and the reference's checks: in, Colour, Fringe.
-/
import Derived.Test.YtoidnbpbeblokaaWd
namespace Go.Proofs.Ytoidnbpbeblokaa
open Go.RowKit

theorem in_yes (n lo hi : Int) (w : World) (h1 : lo ≤ n) (h2 : n ≤ hi) : Calls Try.prog 86 #[.int .i64 n, .int .i64 lo, .int .i64 hi] w fun e w' => e = .returned (.bool true) ∧ w = w' := by
  go_enter Try.func86, Try.ntmps86
  go_wp2
  all_goals first | (exfalso; omega) | (go_ret; exact ⟨rfl, rfl⟩)
theorem in_no (n lo hi : Int) (w : World) (h : ¬ (lo ≤ n ∧ n ≤ hi)) : Calls Try.prog 86 #[.int .i64 n, .int .i64 lo, .int .i64 hi] w fun e w' => e = .returned (.bool false) ∧ w = w' := by
  by_cases h1 : lo ≤ n
  · have h2 : decide (n ≤ hi) = false := by simp; omega
    clear h
    go_enter Try.func86, Try.ntmps86
    go_wp2
    all_goals first | (exfalso; omega) | (go_ret; exact ⟨rfl, rfl⟩)
  · have h2 : n < lo := by omega
    clear h h1
    go_enter Try.func86, Try.ntmps86
    go_wp2
    all_goals first | (exfalso; omega) | (go_ret; exact ⟨rfl, rfl⟩)
theorem refColour_yes (F : Fr) (c : Int) (w : World) (hl : F.ws.length ≤ maxLen) (h1 : 0 ≤ c) (h2 : c < F.ws.length) : Calls Try.prog 87 #[F.v, .int .i64 c] w (RetB true w) := by
  obtain ⟨wa, wc, ws, lo, hi, ra, rc, rs⟩ := F
  dsimp only [Fr.v] at *
  unfold maxLen at hl
  have HC := Lib.hid (fun w => in_yes c 0 ((ws.length : Int) - 1) w (by omega) (by omega))
  go_enter Try.func87, Try.ntmps87
  go_wp2_with fail
  refine (HC.out _).mono ?_
  rintro e w1 ⟨rfl, rfl⟩
  go_wp2_with fail
  go_ret
  exact ⟨rfl, (Keeps.refl _).alloc _⟩
theorem refColour_no (F : Fr) (c : Int) (w : World) (hl : F.ws.length ≤ maxLen) (h : c < 0 ∨ F.ws.length ≤ c) : Calls Try.prog 87 #[F.v, .int .i64 c] w (RetB false w) := by
  obtain ⟨wa, wc, ws, lo, hi, ra, rc, rs⟩ := F
  dsimp only [Fr.v] at *
  unfold maxLen at hl
  have HC := Lib.hid (fun w => in_no c 0 ((ws.length : Int) - 1) w (by omega))
  clear h
  go_enter Try.func87, Try.ntmps87
  go_wp2_with fail
  refine (HC.out _).mono ?_
  rintro e w1 ⟨rfl, rfl⟩
  go_wp2_with fail
  go_ret
  exact ⟨rfl, (Keeps.refl _).alloc _⟩

/-- Is there far too much of something? -/
def Fr.long (F : Fr) : Bool := decide (40 < F.ws.length ∨ 40 < F.rs.length)
theorem long_any (F : Fr) (w : World) (h1 : F.ws.length ≤ maxLen) (h2 : F.rs.length ≤ maxLen) : Calls Try.prog 12 #[F.v] w (RetB F.long w) := by
  obtain ⟨wa, wc, ws, lo, hi, ra, rc, rs⟩ := F
  dsimp only [Fr.v, Fr.long] at *
  unfold maxLen at h1 h2
  go_enter Try.func12, Try.ntmps12
  go_wp2
  all_goals (go_ret; exact RetB.mk (by rw [Bool.eq_iff_iff]; simp; omega) ((Keeps.refl _).alloc _))

theorem vLen_no {lo hi : Int} (h : ¬ (0 ≤ lo ∧ lo ≤ hi ∧ hi ≤ 2000 ∧ hi - lo ≤ 400)) : vLen lo hi = false := by simpa [vLen] using h
theorem vLen_yes {lo hi : Int} (h : 0 ≤ lo ∧ lo ≤ hi ∧ hi ≤ 2000 ∧ hi - lo ≤ 400) : vLen lo hi = true := by simpa [vLen] using h
theorem vWaves_len {xs : List Int} (h : vWaves xs = true) : 1 ≤ xs.length ∧ xs.length ≤ 4 := by
  simp only [vWaves, Bool.and_eq_true, decide_eq_true_eq] at h
  exact h.1
theorem refFringe_1 (F : Fr) (w : World) (hI : F.In w) (h : F.ws.length < 1 ∨ 4 < F.ws.length) : Calls Try.prog 34 #[F.v] w (RetB false w) := by
  have hl := hI.wl
  obtain ⟨wa, wc, ws, lo, hi, ra, rc, rs⟩ := F
  dsimp only [Fr.v] at *
  unfold maxLen at hl
  have HC := Lib.hid (fun w => in_no (ws.length : Int) 1 4 w (by omega))
  clear hI h
  go_enter Try.func34, Try.ntmps34
  go_wp2_with fail
  refine (HC.out _).mono ?_
  rintro e w1 ⟨rfl, rfl⟩
  go_wp2_with fail
  go_ret
  exact ⟨rfl, (Keeps.refl _).alloc _⟩
theorem refFringe_2 (F : Fr) (w : World) (hI : F.In w) (h1 : 1 ≤ F.ws.length) (h2 : F.ws.length ≤ 4) (h : 6 < F.rs.length) : Calls Try.prog 34 #[F.v] w (RetB false w) := by
  have hl := hI.rl
  obtain ⟨wa, wc, ws, lo, hi, ra, rc, rs⟩ := F
  dsimp only [Fr.v] at *
  unfold maxLen at hl
  have HC := Lib.hid (fun w => in_yes (ws.length : Int) 1 4 w (by omega) (by omega))
  clear hI
  go_enter Try.func34, Try.ntmps34
  go_wp2_with fail
  refine (HC.out _).mono ?_
  rintro e w1 ⟨rfl, rfl⟩
  go_wp2_with fail
  go_ret
  exact ⟨rfl, (Keeps.refl _).alloc _⟩
set_option maxRecDepth 100000 in
set_option maxHeartbeats 4000000 in
theorem refFringe_3 (F : Fr) (w : World) (hI : F.In w) (h1 : 1 ≤ F.ws.length) (h2 : F.ws.length ≤ 4) (h3 : F.rs.length ≤ 6) : Calls Try.prog 34 #[F.v] w (RetB F.ok w) := by
  have hl := hI.rl
  have HI := Lib.hid hI
  have CY := Lib.hid (fun (c : Int) w => refColour_yes F c w hI.wl)
  have CN := Lib.hid (fun (c : Int) w => refColour_no F c w hI.wl)
  have IY := Lib.hid in_yes
  have IN := Lib.hid in_no
  obtain ⟨ok, hok⟩ : ∃ ok, F.ok = ok := ⟨_, rfl⟩
  rw [hok]
  obtain ⟨wa, wc, ws, lo, hi, ra, rc, rs⟩ := F
  dsimp only [Fr.v] at *
  have HOK := Lib.hid hok
  have H0 := Lib.hid (fun w => in_yes (ws.length : Int) 1 4 w (by omega) (by omega))
  have d6 : decide (6 < (rs.length : Int)) = false := by simp; omega
  clear hI hl hok
  go_enter Try.func34, Try.ntmps34
  go_wp2_with fail
  refine (H0.out _).mono ?_
  rintro e w1 ⟨rfl, rfl⟩
  clear H0
  go_wp2_with fail
  have hB := Fr.Box.new ⟨wa, wc, ws, lo, hi, ra, rc, rs⟩ w
  have hk0 := (Keeps.refl w).alloc (.cells #[.slice wa ws.length wc, .int .i64 lo, .int .i64 hi, .slice ra rs.length rc] 27)
  obtain ⟨w0, hw0⟩ : ∃ w0, w.alloc (.cells #[.slice wa ws.length wc, .int .i64 lo, .int .i64 hi, .slice ra rs.length rc] 27) = w0 := ⟨_, rfl⟩
  rw [hw0] at hB hk0 ⊢
  obtain ⟨g0, g1, g2, g3⟩ := hB
  dsimp only at g0 g1 g2 g3
  clear hw0
  go_loop [3] (fun i => ∃ k : Nat, k ≤ ws.length ∧ i = .int .i64 k ∧ ∀ j, j < k → 2 ≤ ws[j]?.getD 0 ∧ ws[j]?.getD 0 ≤ 60) (fun i => ws.length - (intOf i).toNat)
  case atStart => exact ⟨0, Nat.zero_le _, rfl, fun j hj => absurd hj (by omega)⟩
  case round =>
    obtain ⟨k, hk, rfl, hall⟩ := hrel
    have Hall := Lib.hid hall
    clear hall
    by_cases hlt : k < ws.length
    · obtain ⟨b, o, rfl, hc⟩ := (HI.out.ints).keep hk0 (by intro e; simp only at e; rw [e] at hlt; simp at hlt)
      have h4 := hc k hlt
      dsimp only at h4
      obtain ⟨x, hx⟩ : ∃ x, ws[k]?.getD 0 = x := ⟨_, rfl⟩
      rw [hx] at h4
      have Hx := Lib.hid hx
      clear hx hc
      by_cases hv : 2 ≤ x ∧ x ≤ 60
      · have HX := Lib.hid (fun w => IY.out x 2 60 w hv.1 hv.2)
        have Hv := Lib.hid hv
        clear hv
        go_wp2_with fail
        refine (HX.out _).mono ?_
        rintro e w1 ⟨rfl, rfl⟩
        go_wp2_with fail
        go_round
        case rel => exact ⟨k + 1, by omega, by go_num, fun j hj => by
          by_cases e : j = k
          · subst e; rw [Hx.out]; exact Hv.out
          · exact Hall.out j (by omega)⟩
        case measure => simp [intOf]; omega
      · have HX := Lib.hid (fun w => IN.out x 2 60 w hv)
        have hf : ok = false := by
          rw [← HOK.out]
          simp [Fr.ok, vFringe, vWaves_bad hlt (by rw [Hx.out]; omega)]
        subst hf
        clear hv
        go_wp2_with fail
        refine (HX.out _).mono ?_
        rintro e w1 ⟨rfl, rfl⟩
        go_wp2_with fail
        go_ret
        exact ⟨rfl, hk0⟩
    · have hW := vWaves_yes h1 h2 (fun i hi => Hall.out i (by omega))
      have HW := Lib.hid hW
      clear hW Hall
      have hbad : ¬ (0 ≤ lo ∧ lo ≤ hi ∧ hi ≤ 2000 ∧ hi - lo ≤ 400) → ok = false := fun h => by
        rw [← HOK.out]
        simp [Fr.ok, vFringe, vLen_no h]
      have HBAD := Lib.hid hbad
      clear hbad
      by_cases l1 : lo < 0
      · have hf := HBAD.out (by omega)
        subst hf
        go_wp2
        go_ret
        exact ⟨rfl, hk0⟩
      by_cases l2 : hi < lo
      · have hf := HBAD.out (by omega)
        subst hf
        go_wp2
        all_goals first | (exfalso; omega) | (go_ret; exact ⟨rfl, hk0⟩)
      by_cases l3 : 2000 < hi
      · have hf := HBAD.out (by omega)
        subst hf
        go_wp2
        all_goals first | (exfalso; omega) | (go_ret; exact ⟨rfl, hk0⟩)
      have l1' : 0 ≤ lo := by omega
      have l2' : lo ≤ hi := by omega
      have l3' : hi ≤ 2000 := by omega
      by_cases l4 : 400 < hi - lo
      · have hf := HBAD.out (by omega)
        subst hf
        go_wp2
        all_goals first | (exfalso; omega) | (go_ret; exact ⟨rfl, hk0⟩)
      have hL := vLen_yes (lo := lo) (hi := hi) (by omega)
      have HL := Lib.hid hL
      clear hL HBAD l1 l2 l3
      go_wp2
      all_goals first | (exfalso; omega) | skip
      go_loopw [4] (fun i wr => ∃ k : Nat, k ≤ rs.length ∧ i = .int .i64 k ∧ (∀ j, j < k → vRead ws.length (rs[j]?.getD (0, 0, 0)) = true) ∧ Keeps w0 wr) (fun i _ => rs.length - (intOf i).toNat)
      case atStart => exact ⟨0, Nat.zero_le _, rfl, fun j hj => absurd hj (by omega), Keeps.refl _⟩
      case round =>
        obtain ⟨k, hk, rfl, hall, hkp⟩ := hrel
        have Hall := Lib.hid hall
        clear hall
        have G0 := hkp.cell g0
        have G1 := hkp.cell g1
        have G2 := hkp.cell g2
        have G3 := hkp.cell g3
        have hlg := lt_of_cell G0
        have hkw := hk0.trans hkp
        clear g0 g1 g2 g3
        by_cases hlt : k < rs.length
        · obtain ⟨b, o, rfl, hc⟩ := (HI.out.rds).keep hkw (by intro e; simp only at e; rw [e] at hlt; simp at hlt)
          obtain ⟨q1, q2, q3⟩ := hc k hlt
          dsimp only at q1 q2 q3
          obtain ⟨⟨c, x, y⟩, hr⟩ : ∃ r : Rd, rs[k]?.getD (0, 0, 0) = r := ⟨_, rfl⟩
          rw [hr] at q1 q2 q3
          dsimp only at q1 q2 q3
          have hlr := lt_of_cell q1
          have Hr := Lib.hid hr
          clear hc hr
          have hbad : vRead ws.length (c, x, y) = false → ok = false := fun h => by
            rw [← HOK.out]
            simp [Fr.ok, vFringe, vReads_bad hlt (by rw [Hr.out]; exact h)]
          have HBAD := Lib.hid hbad
          clear hbad
          by_cases c1 : 0 ≤ c ∧ c < ws.length
          · have HC := Lib.hid (fun w => CY.out c w c1.1 c1.2)
            by_cases c2 : 0 ≤ x ∧ x ≤ 19
            · have HX := Lib.hid (fun w => IY.out x 0 19 w c2.1 c2.2)
              obtain ⟨x0, x1⟩ := c2
              by_cases c3 : x ≤ y ∧ y ≤ x + 19
              · have HY := Lib.hid (fun (z : Int) w (hz : z = x + 19) => IY.out y x z w c3.1 (by omega))
                have hok1 : vRead ws.length (c, x, y) = true := by
                  simp [vRead, vPart, c1.1, c1.2, x0, x1, c3.1, c3.2]
                have HO := Lib.hid hok1
                clear c1 c3 hok1
                go_wp2_with fail
                refine (HC.out _).mono ?_
                rintro e w1 ⟨rfl, k1⟩
                have hc1 := k1.cells
                have hz1 : wr.heap.size < w1.heap.size := by have := k1.size; simp at this; omega
                go_wp2_with fail
                refine (HX.out _).mono ?_
                rintro e w2 ⟨rfl, rfl⟩
                go_wp2_with fail
                refine (HY.out _ _ (by omega)).mono ?_
                rintro e w2 ⟨rfl, rfl⟩
                go_wp2_with fail
                go_roundw
                case rel => exact ⟨k + 1, by omega, by go_num, fun j hj => by
                  by_cases e : j = k
                  · subst e; rw [Hr.out]; exact HO.out
                  · exact Hall.out j (by omega), (hkp.alloc _).trans k1⟩
                case measure => simp [intOf]; omega
              · have HY := Lib.hid (fun (z : Int) w (hz : z = x + 19) => IN.out y x z w (by omega))
                have hf := HBAD.out (by simp [vRead, vPart]; omega)
                subst hf
                clear c1 c3
                go_wp2_with fail
                refine (HC.out _).mono ?_
                rintro e w1 ⟨rfl, k1⟩
                have hc1 := k1.cells
                have hz1 : wr.heap.size < w1.heap.size := by have := k1.size; simp at this; omega
                go_wp2_with fail
                refine (HX.out _).mono ?_
                rintro e w2 ⟨rfl, rfl⟩
                go_wp2_with fail
                refine (HY.out _ _ (by omega)).mono ?_
                rintro e w2 ⟨rfl, rfl⟩
                go_wp2_with fail
                go_ret
                exact ⟨rfl, (hkw.alloc _).trans k1⟩
            · have HX := Lib.hid (fun w => IN.out x 0 19 w c2)
              have hf := HBAD.out (by simp [vRead, vPart]; omega)
              subst hf
              clear c1 c2
              go_wp2_with fail
              refine (HC.out _).mono ?_
              rintro e w1 ⟨rfl, k1⟩
              have hc1 := k1.cells
              have hz1 : wr.heap.size < w1.heap.size := by have := k1.size; simp at this; omega
              go_wp2_with fail
              refine (HX.out _).mono ?_
              rintro e w2 ⟨rfl, rfl⟩
              go_wp2_with fail
              go_ret
              exact ⟨rfl, (hkw.alloc _).trans k1⟩
          · have HC := Lib.hid (fun w => CN.out c w (by omega))
            have hf := HBAD.out (by simp [vRead]; omega)
            subst hf
            clear c1
            go_wp2_with fail
            refine (HC.out _).mono ?_
            rintro e w1 ⟨rfl, k1⟩
            go_wp2_with fail
            go_ret
            exact ⟨rfl, (hkw.alloc _).trans k1⟩
        · go_wp2
          go_ret
          refine ⟨?_, hkw⟩
          rw [← HOK.out]
          have hR := vReads_yes h3 (fun i hi => Hall.out i (by omega))
          simp [Fr.ok, vFringe, HW.out, HL.out, hR]
theorem refFringe_any (F : Fr) (w : World) (hI : F.In w) : Calls Try.prog 34 #[F.v] w (RetB F.ok w) := by
  by_cases h : 1 ≤ F.ws.length ∧ F.ws.length ≤ 4
  · by_cases h3 : F.rs.length ≤ 6
    · exact refFringe_3 F w hI h.1 h.2 h3
    · rw [show F.ok = false by simp [Fr.ok, vFringe, vReads_no (rs := F.rs) (by omega)]]
      exact refFringe_2 F w hI h.1 h.2 (by omega)
  · rw [show F.ok = false by simp [Fr.ok, vFringe, vWaves_no (xs := F.ws) (by omega)]]
    exact refFringe_1 F w hI (by omega)
end Go.Proofs.Ytoidnbpbeblokaa
