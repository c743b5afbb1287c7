/-
  WARM: needBlock, needWarmth, needOff, needReading, whole.
-/
import Derived.Test.YtidiikmpgpnmpaaA3
namespace Go.Proofs.Ytidiikmpgpnmpaa
open Go.RowKit

set_option maxHeartbeats 1600000 in
theorem needBlock_m (B : Wm) (w : World) (h : B.mark < 1 ∨ 100 < B.mark) : Calls Try.prog 48 #[B.v] w (Pan 1 w) := by
  obtain ⟨mark, llo, lhi, clo, chi, ra, rc, rs⟩ := B
  dsimp only [Wm.v] at *
  rcases h with h | h
  · go_enter Try.func48, Try.ntmps48
    go_wp2
    all_goals first | (exfalso; omega) | exact ⟨rfl, rfl, (Keeps.refl _).alloc _⟩
  · have h1 : 1 ≤ mark := by omega
    go_enter Try.func48, Try.ntmps48
    go_wp2
    all_goals first | (exfalso; omega) | exact ⟨rfl, rfl, (Keeps.refl _).alloc _⟩
theorem needBlock_yes (B : Wm) (w : World) (hI : B.In w) (h : B.ok = true) : Calls Try.prog 48 #[B.v] w (Ret (.tuple #[]) w) := by
  simp only [Wm.ok, Bool.and_eq_true] at h
  obtain ⟨⟨⟨h0, h1, h2⟩, h3, h4⟩, h5⟩ := h
  obtain ⟨m1, m2⟩ := of_decide_eq_true h0
  exact needBlock_ok B w hI m1 m2 h1 h2 h3 h4 h5
theorem needBlock_no (B : Wm) (w : World) (hI : B.In w) (h : B.ok = false) : Calls Try.prog 48 #[B.v] w (Pan 1 w) := by
  by_cases hm : B.mark < 1 ∨ 100 < B.mark
  · exact needBlock_m B w hm
  have m1 : 1 ≤ B.mark := by omega
  have m2 : B.mark ≤ 100 := by omega
  cases e0 : inS B.llo B.lhi (-1000) 1000 with
  | false => exact needBlock_0 B w hI m1 m2 e0
  | true =>
    cases e1 : decide (B.lhi - B.llo ≤ 24) with
    | false => exact needBlock_1 B w hI m1 m2 e0 e1
    | true =>
      cases e2 : inS B.clo B.chi 0 20 with
      | false => exact needBlock_2 B w hI m1 m2 e0 e1 e2
      | true =>
        cases e3 : decide (B.chi - B.clo ≤ 3) with
        | false => exact needBlock_3 B w hI m1 m2 e0 e1 e2 e3
        | true =>
          cases e4 : vWrs B.rs with
          | false => exact needBlock_4 B w hI m1 m2 e0 e1 e2 e3 e4
          | true =>
            exfalso
            unfold Wm.ok at h
            rw [e0, e1, e2, e3, e4, decide_eq_true (And.intro m1 m2)] at h
            cases h
theorem needOff_yes (n : Int) (w : World) (h1 : 0 ≤ n) (h2 : n ≤ 30000) : Calls Try.prog 71 #[.int .i64 n] w (Ret (.tuple #[]) w) := by
  go_enter Try.func71, Try.ntmps71
  go_wp2
  all_goals first | (exfalso; omega) | (go_end0; exact ⟨rfl, Keeps.refl _⟩)
theorem needOff_no (n : Int) (w : World) (h : n < 0 ∨ 30000 < n) : Calls Try.prog 71 #[.int .i64 n] w (Pan 2 w) := by
  rcases h with h | h
  all_goals
    go_enter Try.func71, Try.ntmps71
    go_wp2
    all_goals first | (exfalso; omega) | exact ⟨rfl, rfl, Keeps.refl _⟩
theorem needWarmth_yes (lo hi : Int) (w : World) (h : inS lo hi (-100) 100 = true) : Calls Try.prog 65 #[.agg #[.int .i64 lo, .int .i64 hi]] w (Ret (.tuple #[]) w) := by
  have H := Lib.hid (fun w1 => validWarmth_any lo hi w1)
  rw [h] at H
  go_enter Try.func65, Try.ntmps65
  go_wp2_with fail
  refine (H.out _).mono ?_
  rintro e w1 ⟨rfl, k1⟩
  go_wp2_with fail
  go_end0
  exact ⟨rfl, by first | exact k1 | exact ((Keeps.refl _).alloc _).trans k1⟩
theorem needWarmth_no (lo hi : Int) (w : World) (h : inS lo hi (-100) 100 = false) : Calls Try.prog 65 #[.agg #[.int .i64 lo, .int .i64 hi]] w (Pan 2 w) := by
  have H := Lib.hid (fun w1 => validWarmth_any lo hi w1)
  rw [h] at H
  go_enter Try.func65, Try.ntmps65
  go_wp2_with fail
  refine (H.out _).mono ?_
  rintro e w1 ⟨rfl, k1⟩
  go_wp2_with fail
  exact ⟨rfl, rfl, by first | exact k1 | exact ((Keeps.refl _).alloc _).trans k1⟩
end Go.Proofs.Ytidiikmpgpnmpaa
