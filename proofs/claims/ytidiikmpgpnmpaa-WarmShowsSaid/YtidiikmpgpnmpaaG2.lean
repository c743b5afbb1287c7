/-
  WARM, the laws' own small functions: inside, shows, exact.
-/
import Derived.Test.YtidiikmpgpnmpaaF3
import Derived.Test.YtidiikmpgpnmpaaD8
namespace Go.Proofs.Ytidiikmpgpnmpaa
open Go.RowKit

set_option maxHeartbeats 400000 in
theorem inside_any (n lo hi : Int) (w : World) : Calls Try.prog 33 #[.int .i64 n, .agg #[.int .i64 lo, .int .i64 hi]] w (RetB (decide (lo ≤ n ∧ n ≤ hi)) w) := by
  have k0 : Keeps w (w.alloc (.cells #[.int .i64 lo, .int .i64 hi] 23)) := (Keeps.refl _).alloc _
  go_enter Try.func33, Try.ntmps33
  go_wp2
  all_goals first | (go_ret; exact RetB.mk (by simp; try omega) k0) | trace_state
theorem tdiv10_cases (n : Int) : n.tdiv 10 = n / 10 ∨ (n.tdiv 10 = n / 10 + 1 ∧ n < 10 * n.tdiv 10) := by
  have h := tdiv10 n
  split at h <;> omega
set_option maxHeartbeats 1600000 in
theorem lawShows_any (m L c t : Int) (w : World) (m1 : 1 ≤ m) (m2 : m ≤ 100) (l1 : -1000 ≤ L) (l2 : L ≤ 1000) (c1 : 0 ≤ c) (c2 : c ≤ 20) (t1 : -101 ≤ t) (t2 : t ≤ 101) :
    Calls Try.prog 35 #[.int .i64 m, .int .i64 L, .int .i64 c, .int .i64 t] w (RetI (shI m L c t) w) := by
  obtain ⟨⟨p1, p2⟩, q1, q2⟩ := mct_bd m1 m2 c1 c2 t1 t2
  unfold shI
  obtain ⟨p, hp⟩ : ∃ p, m * c = p := ⟨_, rfl⟩
  obtain ⟨q, hq⟩ : ∃ q, p * t = q := ⟨_, rfl⟩
  rw [hp] at p1 p2 q1 q2 ⊢
  rw [hq] at q1 q2 ⊢
  have wp : IntKind.i64.wrap (m * c) = p := by rw [hp]; exact IntWalk.i64_in _ (by constructor <;> omega)
  have wq : IntKind.i64.wrap (p * t) = q := by rw [hq]; exact IntWalk.i64_in _ (by constructor <;> omega)
  have ws : IntKind.i64.wrap (L + q / 10) = L + q / 10 := IntWalk.i64_in _ (by constructor <;> omega)
  have TD := Lib.hid (tdiv10_cases q)
  have WS := Lib.hid ws
  obtain ⟨d, hd⟩ : ∃ d, q / 10 = d := ⟨_, rfl⟩
  have HD := Lib.hid hd
  rw [hd] at WS TD ⊢
  clear hp hq ws hd
  go_enter Try.func35, Try.ntmps35
  go_wp2_with fail
  go_loopw [10] (fun x wr => wr = w ∧ ∃ z : Int, x = .int .i64 z ∧ (z = d ∨ (z = d + 1 ∧ q < 10 * z))) (fun x _ => (intOf x - d).toNat)
  case atStart => exact ⟨rfl, _, rfl, TD.out⟩
  case round =>
    obtain ⟨rfl, z, rfl, hz⟩ := hrel
    have hdz := HD.out
    by_cases hzd : z = d
    · have hw10 : IntKind.i64.wrap (10 * z) = 10 * z := IntWalk.i64_in _ (by constructor <;> omega)
      have hlt : decide (q < 10 * z) = false := decide_eq_false (by omega)
      clear hz hdz
      have HZ := Lib.hid hzd
      clear hzd
      have ws : IntKind.i64.wrap (L + z) = L + z := by rw [HZ.out]; exact WS.out
      go_wp2
      go_ret
      exact RetI.mk (by rw [HZ.out]) (Keeps.refl _)
    · have hz2 := hz.resolve_left hzd
      have hw10 : IntKind.i64.wrap (10 * z) = 10 * z := IntWalk.i64_in _ (by constructor <;> omega)
      have hw1 : IntKind.i64.wrap (z - 1) = z - 1 := IntWalk.i64_in _ (by constructor <;> omega)
      have hlt : decide (q < 10 * z) = true := decide_eq_true (by omega)
      have HZ := Lib.hid hz2.1
      clear hz hdz hzd hz2
      go_wp2
      go_roundw
      case rel => exact ⟨trivial, _, rfl, .inl (by rw [HZ.out]; omega)⟩
      case measure => simp [intOf, HZ.out]; omega
theorem mid_set {X : World} {b : Nat} {u0 u1 u2 u3 u4 u5 v1 v2 v3 v4 : Value} (h0 : X.cell? ⟨b, 0, none⟩ = some u0) (h1 : X.cell? ⟨b, 1, none⟩ = some u1) (h2 : X.cell? ⟨b, 2, none⟩ = some u2) (h3 : X.cell? ⟨b, 3, none⟩ = some u3) (h4 : X.cell? ⟨b, 4, none⟩ = some u4) (h5 : X.cell? ⟨b, 5, none⟩ = some u5) :
    let Y := (((X.setCell ⟨b, 1, none⟩ v1).setCell ⟨b, 2, none⟩ v2).setCell ⟨b, 3, none⟩ v3).setCell ⟨b, 4, none⟩ v4
    Y.cell? ⟨b, 0, none⟩ = some u0 ∧ Y.cell? ⟨b, 1, none⟩ = some v1 ∧ Y.cell? ⟨b, 2, none⟩ = some v2 ∧ Y.cell? ⟨b, 3, none⟩ = some v3 ∧ Y.cell? ⟨b, 4, none⟩ = some v4 ∧ Y.cell? ⟨b, 5, none⟩ = some u5 ∧ (∀ b' o, b' ≠ b → Y.cell? ⟨b', o, none⟩ = X.cell? ⟨b', o, none⟩) ∧ Y.heap.size = X.heap.size := by
  refine ⟨?_, ?_, ?_, ?_, ?_, ?_, fun b' o hb => ?_, by simp [World.setCell]⟩
  · rw [cell_set_other (by omega), cell_set_other (by omega), cell_set_other (by omega), cell_set_other (by omega)]; exact h0
  · exact (cell_set_other (by omega)).trans ((cell_set_other (by omega)).trans ((cell_set_other (by omega)).trans (cell_set_same (by rw [h1]; rfl))))
  · exact (cell_set_other (by omega)).trans ((cell_set_other (by omega)).trans (cell_set_same (by rw [cell_set_other (by omega), h2]; rfl)))
  · exact (cell_set_other (by omega)).trans (cell_set_same (by rw [cell_set_other (by omega), cell_set_other (by omega), h3]; rfl))
  · exact cell_set_same (by rw [cell_set_other (by omega), cell_set_other (by omega), cell_set_other (by omega), h4]; rfl)
  · rw [cell_set_other (by omega), cell_set_other (by omega), cell_set_other (by omega), cell_set_other (by omega)]; exact h5
  · rw [cell_set_other (by omega), cell_set_other (by omega), cell_set_other (by omega), cell_set_other (by omega)]
set_option maxHeartbeats 1600000 in
theorem exact_any (B : Wm) (a b : Int) (w : World) : Calls Try.prog 37 #[B.v, .int .i64 a, .int .i64 b] w (Ret (Wm.v { B with llo := a, lhi := a, clo := b, chi := b }) w) := by
  have H := Lib.hid (fun a w1 => lawSpan_any a a w1)
  have BX := Wm.Box.new B w
  have k0 := (Keeps.refl w).alloc (.cells #[.int .i64 B.mark, .int .i64 B.llo, .int .i64 B.lhi, .int .i64 B.clo, .int .i64 B.chi, .slice B.ra B.rs.length B.rc] 26)
  obtain ⟨mark, llo, lhi, clo, chi, ra, rc, rs⟩ := B
  dsimp only [Wm.v] at *
  go_enter Try.func37, Try.ntmps37
  go_wp2_with fail
  obtain ⟨v, hv⟩ : ∃ v, ((w.alloc (.cells #[.int .i64 mark, .int .i64 llo, .int .i64 lhi, .int .i64 clo, .int .i64 chi, .slice ra rs.length rc] 26)).alloc (.cells #[.int .i64 0, .int .i64 0, .int .i64 0, .int .i64 0, .int .i64 0, .slice none 0 0] 26)).alloc (.cells #[.int .i64 mark, .int .i64 llo, .int .i64 lhi, .int .i64 clo, .int .i64 chi, .slice ra rs.length rc] 26) = v := ⟨_, rfl⟩
  obtain ⟨b1, hb1⟩ : ∃ x, w.heap.size + 1 = x := ⟨_, rfl⟩
  obtain ⟨b2, hb2⟩ : ∃ x, b1 + 1 = x := ⟨_, rfl⟩
  have kv : Keeps w v := by rw [← hv]; exact (((Keeps.refl w).alloc _).alloc _).alloc _
  have p0 : v.cell? ⟨b2, 0, none⟩ = some (.int .i64 mark) := by rw [← hv, ← hb2, ← hb1]; simp [go_sem]
  have f0 : v.frozen? ⟨b2, 0, none⟩ = false := by rw [← hv, ← hb2, ← hb1]; simp [go_sem]
  have r0 : v.cell? ⟨b1, 0, none⟩ = some (.int .i64 0) := by rw [← hv, ← hb1]; simp [go_sem]
  have g0 : v.frozen? ⟨b1, 0, none⟩ = false := by rw [← hv, ← hb1]; simp [go_sem]
  have p1 : v.cell? ⟨b2, 1, none⟩ = some (.int .i64 llo) := by rw [← hv, ← hb2, ← hb1]; simp [go_sem]
  have f1 : v.frozen? ⟨b2, 1, none⟩ = false := by rw [← hv, ← hb2, ← hb1]; simp [go_sem]
  have r1 : v.cell? ⟨b1, 1, none⟩ = some (.int .i64 0) := by rw [← hv, ← hb1]; simp [go_sem]
  have g1 : v.frozen? ⟨b1, 1, none⟩ = false := by rw [← hv, ← hb1]; simp [go_sem]
  have p2 : v.cell? ⟨b2, 2, none⟩ = some (.int .i64 lhi) := by rw [← hv, ← hb2, ← hb1]; simp [go_sem]
  have f2 : v.frozen? ⟨b2, 2, none⟩ = false := by rw [← hv, ← hb2, ← hb1]; simp [go_sem]
  have r2 : v.cell? ⟨b1, 2, none⟩ = some (.int .i64 0) := by rw [← hv, ← hb1]; simp [go_sem]
  have g2 : v.frozen? ⟨b1, 2, none⟩ = false := by rw [← hv, ← hb1]; simp [go_sem]
  have p3 : v.cell? ⟨b2, 3, none⟩ = some (.int .i64 clo) := by rw [← hv, ← hb2, ← hb1]; simp [go_sem]
  have f3 : v.frozen? ⟨b2, 3, none⟩ = false := by rw [← hv, ← hb2, ← hb1]; simp [go_sem]
  have r3 : v.cell? ⟨b1, 3, none⟩ = some (.int .i64 0) := by rw [← hv, ← hb1]; simp [go_sem]
  have g3 : v.frozen? ⟨b1, 3, none⟩ = false := by rw [← hv, ← hb1]; simp [go_sem]
  have p4 : v.cell? ⟨b2, 4, none⟩ = some (.int .i64 chi) := by rw [← hv, ← hb2, ← hb1]; simp [go_sem]
  have f4 : v.frozen? ⟨b2, 4, none⟩ = false := by rw [← hv, ← hb2, ← hb1]; simp [go_sem]
  have r4 : v.cell? ⟨b1, 4, none⟩ = some (.int .i64 0) := by rw [← hv, ← hb1]; simp [go_sem]
  have g4 : v.frozen? ⟨b1, 4, none⟩ = false := by rw [← hv, ← hb1]; simp [go_sem]
  have p5 : v.cell? ⟨b2, 5, none⟩ = some (.slice ra rs.length rc) := by rw [← hv, ← hb2, ← hb1]; simp [go_sem]
  have f5 : v.frozen? ⟨b2, 5, none⟩ = false := by rw [← hv, ← hb2, ← hb1]; simp [go_sem]
  have r5 : v.cell? ⟨b1, 5, none⟩ = some (.slice none 0 0) := by rw [← hv, ← hb1]; simp [go_sem]
  have g5 : v.frozen? ⟨b1, 5, none⟩ = false := by rw [← hv, ← hb1]; simp [go_sem]
  rw [hv, hb1, hb2]
  have hlt2 := lt_of_cell p0
  have hlt1 : b1 < v.heap.size := by omega
  have hne : b1 ≠ b2 := by omega
  have hwb : w.heap.size ≤ b1 := by omega
  have hwb2 : w.heap.size ≤ b2 := by omega
  clear hv hb1 BX k0
  refine (H.out _ _).mono ?_
  rintro e w1 ⟨rfl, k1⟩
  go_wp2_with fail
  refine (H.out _ _).mono ?_
  rintro e w2 ⟨rfl, k2⟩
  have k := k1.trans k2
  clear k1 k2 H
  replace p0 := k.cell p0
  replace f0 := (k.cells.2 _ 0 hlt2).trans f0
  replace r0 := k.cell r0
  replace g0 := (k.cells.2 _ 0 hlt1).trans g0
  replace p1 := k.cell p1
  replace f1 := (k.cells.2 _ 1 hlt2).trans f1
  replace r1 := k.cell r1
  replace g1 := (k.cells.2 _ 1 hlt1).trans g1
  replace p2 := k.cell p2
  replace f2 := (k.cells.2 _ 2 hlt2).trans f2
  replace r2 := k.cell r2
  replace g2 := (k.cells.2 _ 2 hlt1).trans g2
  replace p3 := k.cell p3
  replace f3 := (k.cells.2 _ 3 hlt2).trans f3
  replace r3 := k.cell r3
  replace g3 := (k.cells.2 _ 3 hlt1).trans g3
  replace p4 := k.cell p4
  replace f4 := (k.cells.2 _ 4 hlt2).trans f4
  replace r4 := k.cell r4
  replace g4 := (k.cells.2 _ 4 hlt1).trans g4
  replace p5 := k.cell p5
  replace f5 := (k.cells.2 _ 5 hlt2).trans f5
  replace r5 := k.cell r5
  replace g5 := (k.cells.2 _ 5 hlt1).trans g5
  obtain ⟨s0, s1, s2, s3, s4, s5, so, sz⟩ := mid_set (v1 := .int .i64 a) (v2 := .int .i64 a) (v3 := .int .i64 b) (v4 := .int .i64 b) p0 p1 p2 p3 p4 p5
  have kY := (((((kv.trans k)).setCell (p := ⟨b2, 1, none⟩) (.int .i64 a) hwb2).setCell (p := ⟨b2, 2, none⟩) (.int .i64 a) hwb2).setCell (p := ⟨b2, 3, none⟩) (.int .i64 b) hwb2).setCell (p := ⟨b2, 4, none⟩) (.int .i64 b) hwb2
  go_wp2_with fail
  obtain ⟨Y, hY⟩ : ∃ Y, ((((w2.setCell ⟨b2, 1, none⟩ (.int .i64 a)).setCell ⟨b2, 2, none⟩ (.int .i64 a)).setCell ⟨b2, 3, none⟩ (.int .i64 b)).setCell ⟨b2, 4, none⟩ (.int .i64 b)) = Y := ⟨_, rfl⟩
  rw [hY] at so kY ⊢
  have y0 := (so b1 0 hne).trans r0
  have y1 := (so b1 1 hne).trans r1
  have y2 := (so b1 2 hne).trans r2
  have y3 := (so b1 3 hne).trans r3
  have y4 := (so b1 4 hne).trans r4
  have y5 := (so b1 5 hne).trans r5
  obtain ⟨e0, e1, e2, e3, e4, e5, _, _⟩ := six_set (X := Y) (b := b1) (v0 := .int .i64 mark) (v1 := .int .i64 a) (v2 := .int .i64 a) (v3 := .int .i64 b) (v4 := .int .i64 b) (v5 := .slice ra rs.length rc) (by rw [y0]; rfl) (by rw [y1]; rfl) (by rw [y2]; rfl) (by rw [y3]; rfl) (by rw [y4]; rfl) (by rw [y5]; rfl)
  have kZ := ((((((kY.setCell (p := ⟨b1, 0, none⟩) (.int .i64 mark) hwb).setCell (p := ⟨b1, 1, none⟩) (.int .i64 a) hwb).setCell (p := ⟨b1, 2, none⟩) (.int .i64 a) hwb).setCell (p := ⟨b1, 3, none⟩) (.int .i64 b) hwb).setCell (p := ⟨b1, 4, none⟩) (.int .i64 b) hwb).setCell (p := ⟨b1, 5, none⟩) (.slice ra rs.length rc) hwb)
  refine bodyPost_ret (v := .agg #[.int .i64 mark, .int .i64 a, .int .i64 a, .int .i64 b, .int .i64 b, .slice ra rs.length rc]) ?_ rfl ⟨rfl, kZ⟩
  simp [results, Try.results37, go_sem, e0, e1, e2, e3, e4, e5]
end Go.Proofs.Ytidiikmpgpnmpaa
