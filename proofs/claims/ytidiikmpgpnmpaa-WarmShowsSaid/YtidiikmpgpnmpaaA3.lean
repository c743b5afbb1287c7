/-
  WARM: needBlock, needWarmth, needOff.
-/
import Derived.Test.YtidiikmpgpnmpaaA2
namespace Go.Proofs.Ytidiikmpgpnmpaa
open Go.RowKit

/-- The call panics with an error. -/
def Pan (k : Int) (w : World) (e : Ending) (w' : World) : Prop :=
  e = .panicked [{ v := .iface 29 (.int .i64 k), recovered := false }] ∧ Keeps w w'
/-- Block b holds a block. -/
structure Wm.Box (B : Wm) (w : World) (b : Nat) : Prop where
  c0 : w.cell? ⟨b, 0, none⟩ = some (.int .i64 B.mark)
  c1 : w.cell? ⟨b, 1, none⟩ = some (.int .i64 B.llo)
  c2 : w.cell? ⟨b, 2, none⟩ = some (.int .i64 B.lhi)
  c3 : w.cell? ⟨b, 3, none⟩ = some (.int .i64 B.clo)
  c4 : w.cell? ⟨b, 4, none⟩ = some (.int .i64 B.chi)
  c5 : w.cell? ⟨b, 5, none⟩ = some (.slice B.ra B.rs.length B.rc)
theorem Wm.Box.keep {B : Wm} {w w' : World} {b : Nat} (h : B.Box w b) (k : Keeps w w') : B.Box w' b := ⟨k.cell h.c0, k.cell h.c1, k.cell h.c2, k.cell h.c3, k.cell h.c4, k.cell h.c5⟩
theorem Wm.Box.new (B : Wm) (w : World) : B.Box (w.alloc (.cells #[.int .i64 B.mark, .int .i64 B.llo, .int .i64 B.lhi, .int .i64 B.clo, .int .i64 B.chi, .slice B.ra B.rs.length B.rc] 26)) w.heap.size :=
  ⟨by simp [go_sem], by simp [go_sem], by simp [go_sem], by simp [go_sem], by simp [go_sem], by simp [go_sem]⟩
set_option maxHeartbeats 1600000 in
theorem needBlock_ok (B : Wm) (w : World) (hI : B.In w) (m1 : 1 ≤ B.mark) (m2 : B.mark ≤ 100) (e0 : inS B.llo B.lhi (-1000) 1000 = true) (e1 : decide (B.lhi - B.llo ≤ 24) = true) (e2 : inS B.clo B.chi 0 20 = true) (e3 : decide (B.chi - B.clo ≤ 3) = true) (e4 : vWrs B.rs = true) : Calls Try.prog 48 #[B.v] w (Ret (.tuple #[]) w) := by
  have C0 := Lib.hid (fun w1 => within_any B.llo B.lhi (-1000) 1000 w1)
  rw [e0] at C0
  obtain ⟨i0, i1, i2⟩ := inS_bd e0
  have C1 := Lib.hid (fun w1 => wide_any B.llo B.lhi w1 (by omega) (by omega) (by omega) (by omega))
  have C2 := Lib.hid (fun w1 => within_any B.clo B.chi 0 20 w1)
  rw [e2] at C2
  obtain ⟨j0, j1, j2⟩ := inS_bd e2
  have C3 := Lib.hid (fun w1 => wide_any B.clo B.chi w1 (by omega) (by omega) (by omega) (by omega))
  have C4 := Lib.hid (fun w1 (k : Keeps w w1) => validReadings_any B.ra B.rc B.rs w1 (hI.rds.keep k) hI.rl)
  rw [e4] at C4
  have HB := Lib.hid (Wm.Box.new B w)
  obtain ⟨mark, llo, lhi, clo, chi, ra, rc, rs⟩ := B
  dsimp only [Wm.v] at *
  have k := (Keeps.refl w).alloc (.cells #[.int .i64 mark, .int .i64 llo, .int .i64 lhi, .int .i64 clo, .int .i64 chi, .slice ra rs.length rc] 26)
  clear hI
  go_enter Try.func48, Try.ntmps48
  go_wp2_with fail
  refine (C0.out _).mono ?_
  rintro e w1 ⟨rfl, k1⟩
  replace HB := Lib.hid (HB.out.keep k1)
  have g0 := HB.out.c0
  have g1 := HB.out.c1
  have g2 := HB.out.c2
  have g3 := HB.out.c3
  have g4 := HB.out.c4
  have g5 := HB.out.c5
  dsimp only at g0 g1 g2 g3 g4 g5
  have gl := lt_of_cell g0
  replace k := k.trans k1
  clear k1 C0
  go_wp2_with fail
  clear g0 g1 g2 g3 g4 g5 gl
  refine (C1.out _).mono ?_
  rintro e w1 ⟨rfl, k1⟩
  replace HB := Lib.hid (HB.out.keep k1)
  have g0 := HB.out.c0
  have g1 := HB.out.c1
  have g2 := HB.out.c2
  have g3 := HB.out.c3
  have g4 := HB.out.c4
  have g5 := HB.out.c5
  dsimp only at g0 g1 g2 g3 g4 g5
  have gl := lt_of_cell g0
  replace k := k.trans k1
  clear k1 C1
  go_wp2_with fail
  clear g0 g1 g2 g3 g4 g5 gl
  refine (C2.out _).mono ?_
  rintro e w1 ⟨rfl, k1⟩
  replace HB := Lib.hid (HB.out.keep k1)
  have g0 := HB.out.c0
  have g1 := HB.out.c1
  have g2 := HB.out.c2
  have g3 := HB.out.c3
  have g4 := HB.out.c4
  have g5 := HB.out.c5
  dsimp only at g0 g1 g2 g3 g4 g5
  have gl := lt_of_cell g0
  replace k := k.trans k1
  clear k1 C2
  go_wp2_with fail
  clear g0 g1 g2 g3 g4 g5 gl
  refine (C3.out _).mono ?_
  rintro e w1 ⟨rfl, k1⟩
  replace HB := Lib.hid (HB.out.keep k1)
  have g0 := HB.out.c0
  have g1 := HB.out.c1
  have g2 := HB.out.c2
  have g3 := HB.out.c3
  have g4 := HB.out.c4
  have g5 := HB.out.c5
  dsimp only at g0 g1 g2 g3 g4 g5
  have gl := lt_of_cell g0
  replace k := k.trans k1
  clear k1 C3
  go_wp2_with fail
  clear g0 g1 g2 g3 g4 g5 gl
  refine (C4.out _ k).mono ?_
  rintro e w1 ⟨rfl, k1⟩
  replace HB := Lib.hid (HB.out.keep k1)
  have g0 := HB.out.c0
  have g1 := HB.out.c1
  have g2 := HB.out.c2
  have g3 := HB.out.c3
  have g4 := HB.out.c4
  have g5 := HB.out.c5
  dsimp only at g0 g1 g2 g3 g4 g5
  have gl := lt_of_cell g0
  replace k := k.trans k1
  clear k1 C4
  go_wp2_with fail
  clear g0 g1 g2 g3 g4 g5 gl
  go_end0
  exact ⟨rfl, k⟩
set_option maxHeartbeats 1600000 in
theorem needBlock_0 (B : Wm) (w : World) (hI : B.In w) (m1 : 1 ≤ B.mark) (m2 : B.mark ≤ 100) (e0 : inS B.llo B.lhi (-1000) 1000 = false) : Calls Try.prog 48 #[B.v] w (Pan 1 w) := by
  have C0 := Lib.hid (fun w1 => within_any B.llo B.lhi (-1000) 1000 w1)
  rw [e0] at C0
  have HB := Lib.hid (Wm.Box.new B w)
  obtain ⟨mark, llo, lhi, clo, chi, ra, rc, rs⟩ := B
  dsimp only [Wm.v] at *
  have k := (Keeps.refl w).alloc (.cells #[.int .i64 mark, .int .i64 llo, .int .i64 lhi, .int .i64 clo, .int .i64 chi, .slice ra rs.length rc] 26)
  clear hI
  go_enter Try.func48, Try.ntmps48
  go_wp2_with fail
  refine (C0.out _).mono ?_
  rintro e w1 ⟨rfl, k1⟩
  replace HB := Lib.hid (HB.out.keep k1)
  have g0 := HB.out.c0
  have g1 := HB.out.c1
  have g2 := HB.out.c2
  have g3 := HB.out.c3
  have g4 := HB.out.c4
  have g5 := HB.out.c5
  dsimp only at g0 g1 g2 g3 g4 g5
  have gl := lt_of_cell g0
  replace k := k.trans k1
  clear k1 C0
  go_wp2_with fail
  clear g0 g1 g2 g3 g4 g5 gl
  exact ⟨rfl, rfl, k⟩
set_option maxHeartbeats 1600000 in
theorem needBlock_1 (B : Wm) (w : World) (hI : B.In w) (m1 : 1 ≤ B.mark) (m2 : B.mark ≤ 100) (e0 : inS B.llo B.lhi (-1000) 1000 = true) (e1 : decide (B.lhi - B.llo ≤ 24) = false) : Calls Try.prog 48 #[B.v] w (Pan 1 w) := by
  have C0 := Lib.hid (fun w1 => within_any B.llo B.lhi (-1000) 1000 w1)
  rw [e0] at C0
  obtain ⟨i0, i1, i2⟩ := inS_bd e0
  have C1 := Lib.hid (fun w1 => wide_any B.llo B.lhi w1 (by omega) (by omega) (by omega) (by omega))
  have HB := Lib.hid (Wm.Box.new B w)
  obtain ⟨mark, llo, lhi, clo, chi, ra, rc, rs⟩ := B
  dsimp only [Wm.v] at *
  have k := (Keeps.refl w).alloc (.cells #[.int .i64 mark, .int .i64 llo, .int .i64 lhi, .int .i64 clo, .int .i64 chi, .slice ra rs.length rc] 26)
  clear hI
  go_enter Try.func48, Try.ntmps48
  go_wp2_with fail
  refine (C0.out _).mono ?_
  rintro e w1 ⟨rfl, k1⟩
  replace HB := Lib.hid (HB.out.keep k1)
  have g0 := HB.out.c0
  have g1 := HB.out.c1
  have g2 := HB.out.c2
  have g3 := HB.out.c3
  have g4 := HB.out.c4
  have g5 := HB.out.c5
  dsimp only at g0 g1 g2 g3 g4 g5
  have gl := lt_of_cell g0
  replace k := k.trans k1
  clear k1 C0
  go_wp2_with fail
  clear g0 g1 g2 g3 g4 g5 gl
  refine (C1.out _).mono ?_
  rintro e w1 ⟨rfl, k1⟩
  replace HB := Lib.hid (HB.out.keep k1)
  have g0 := HB.out.c0
  have g1 := HB.out.c1
  have g2 := HB.out.c2
  have g3 := HB.out.c3
  have g4 := HB.out.c4
  have g5 := HB.out.c5
  dsimp only at g0 g1 g2 g3 g4 g5
  have gl := lt_of_cell g0
  replace k := k.trans k1
  clear k1 C1
  go_wp2_with fail
  clear g0 g1 g2 g3 g4 g5 gl
  exact ⟨rfl, rfl, k⟩
set_option maxHeartbeats 1600000 in
theorem needBlock_2 (B : Wm) (w : World) (hI : B.In w) (m1 : 1 ≤ B.mark) (m2 : B.mark ≤ 100) (e0 : inS B.llo B.lhi (-1000) 1000 = true) (e1 : decide (B.lhi - B.llo ≤ 24) = true) (e2 : inS B.clo B.chi 0 20 = false) : Calls Try.prog 48 #[B.v] w (Pan 1 w) := by
  have C0 := Lib.hid (fun w1 => within_any B.llo B.lhi (-1000) 1000 w1)
  rw [e0] at C0
  obtain ⟨i0, i1, i2⟩ := inS_bd e0
  have C1 := Lib.hid (fun w1 => wide_any B.llo B.lhi w1 (by omega) (by omega) (by omega) (by omega))
  have C2 := Lib.hid (fun w1 => within_any B.clo B.chi 0 20 w1)
  rw [e2] at C2
  have HB := Lib.hid (Wm.Box.new B w)
  obtain ⟨mark, llo, lhi, clo, chi, ra, rc, rs⟩ := B
  dsimp only [Wm.v] at *
  have k := (Keeps.refl w).alloc (.cells #[.int .i64 mark, .int .i64 llo, .int .i64 lhi, .int .i64 clo, .int .i64 chi, .slice ra rs.length rc] 26)
  clear hI
  go_enter Try.func48, Try.ntmps48
  go_wp2_with fail
  refine (C0.out _).mono ?_
  rintro e w1 ⟨rfl, k1⟩
  replace HB := Lib.hid (HB.out.keep k1)
  have g0 := HB.out.c0
  have g1 := HB.out.c1
  have g2 := HB.out.c2
  have g3 := HB.out.c3
  have g4 := HB.out.c4
  have g5 := HB.out.c5
  dsimp only at g0 g1 g2 g3 g4 g5
  have gl := lt_of_cell g0
  replace k := k.trans k1
  clear k1 C0
  go_wp2_with fail
  clear g0 g1 g2 g3 g4 g5 gl
  refine (C1.out _).mono ?_
  rintro e w1 ⟨rfl, k1⟩
  replace HB := Lib.hid (HB.out.keep k1)
  have g0 := HB.out.c0
  have g1 := HB.out.c1
  have g2 := HB.out.c2
  have g3 := HB.out.c3
  have g4 := HB.out.c4
  have g5 := HB.out.c5
  dsimp only at g0 g1 g2 g3 g4 g5
  have gl := lt_of_cell g0
  replace k := k.trans k1
  clear k1 C1
  go_wp2_with fail
  clear g0 g1 g2 g3 g4 g5 gl
  refine (C2.out _).mono ?_
  rintro e w1 ⟨rfl, k1⟩
  replace HB := Lib.hid (HB.out.keep k1)
  have g0 := HB.out.c0
  have g1 := HB.out.c1
  have g2 := HB.out.c2
  have g3 := HB.out.c3
  have g4 := HB.out.c4
  have g5 := HB.out.c5
  dsimp only at g0 g1 g2 g3 g4 g5
  have gl := lt_of_cell g0
  replace k := k.trans k1
  clear k1 C2
  go_wp2_with fail
  clear g0 g1 g2 g3 g4 g5 gl
  exact ⟨rfl, rfl, k⟩
set_option maxHeartbeats 1600000 in
theorem needBlock_3 (B : Wm) (w : World) (hI : B.In w) (m1 : 1 ≤ B.mark) (m2 : B.mark ≤ 100) (e0 : inS B.llo B.lhi (-1000) 1000 = true) (e1 : decide (B.lhi - B.llo ≤ 24) = true) (e2 : inS B.clo B.chi 0 20 = true) (e3 : decide (B.chi - B.clo ≤ 3) = false) : Calls Try.prog 48 #[B.v] w (Pan 1 w) := by
  have C0 := Lib.hid (fun w1 => within_any B.llo B.lhi (-1000) 1000 w1)
  rw [e0] at C0
  obtain ⟨i0, i1, i2⟩ := inS_bd e0
  have C1 := Lib.hid (fun w1 => wide_any B.llo B.lhi w1 (by omega) (by omega) (by omega) (by omega))
  have C2 := Lib.hid (fun w1 => within_any B.clo B.chi 0 20 w1)
  rw [e2] at C2
  obtain ⟨j0, j1, j2⟩ := inS_bd e2
  have C3 := Lib.hid (fun w1 => wide_any B.clo B.chi w1 (by omega) (by omega) (by omega) (by omega))
  have HB := Lib.hid (Wm.Box.new B w)
  obtain ⟨mark, llo, lhi, clo, chi, ra, rc, rs⟩ := B
  dsimp only [Wm.v] at *
  have k := (Keeps.refl w).alloc (.cells #[.int .i64 mark, .int .i64 llo, .int .i64 lhi, .int .i64 clo, .int .i64 chi, .slice ra rs.length rc] 26)
  clear hI
  go_enter Try.func48, Try.ntmps48
  go_wp2_with fail
  refine (C0.out _).mono ?_
  rintro e w1 ⟨rfl, k1⟩
  replace HB := Lib.hid (HB.out.keep k1)
  have g0 := HB.out.c0
  have g1 := HB.out.c1
  have g2 := HB.out.c2
  have g3 := HB.out.c3
  have g4 := HB.out.c4
  have g5 := HB.out.c5
  dsimp only at g0 g1 g2 g3 g4 g5
  have gl := lt_of_cell g0
  replace k := k.trans k1
  clear k1 C0
  go_wp2_with fail
  clear g0 g1 g2 g3 g4 g5 gl
  refine (C1.out _).mono ?_
  rintro e w1 ⟨rfl, k1⟩
  replace HB := Lib.hid (HB.out.keep k1)
  have g0 := HB.out.c0
  have g1 := HB.out.c1
  have g2 := HB.out.c2
  have g3 := HB.out.c3
  have g4 := HB.out.c4
  have g5 := HB.out.c5
  dsimp only at g0 g1 g2 g3 g4 g5
  have gl := lt_of_cell g0
  replace k := k.trans k1
  clear k1 C1
  go_wp2_with fail
  clear g0 g1 g2 g3 g4 g5 gl
  refine (C2.out _).mono ?_
  rintro e w1 ⟨rfl, k1⟩
  replace HB := Lib.hid (HB.out.keep k1)
  have g0 := HB.out.c0
  have g1 := HB.out.c1
  have g2 := HB.out.c2
  have g3 := HB.out.c3
  have g4 := HB.out.c4
  have g5 := HB.out.c5
  dsimp only at g0 g1 g2 g3 g4 g5
  have gl := lt_of_cell g0
  replace k := k.trans k1
  clear k1 C2
  go_wp2_with fail
  clear g0 g1 g2 g3 g4 g5 gl
  refine (C3.out _).mono ?_
  rintro e w1 ⟨rfl, k1⟩
  replace HB := Lib.hid (HB.out.keep k1)
  have g0 := HB.out.c0
  have g1 := HB.out.c1
  have g2 := HB.out.c2
  have g3 := HB.out.c3
  have g4 := HB.out.c4
  have g5 := HB.out.c5
  dsimp only at g0 g1 g2 g3 g4 g5
  have gl := lt_of_cell g0
  replace k := k.trans k1
  clear k1 C3
  go_wp2_with fail
  clear g0 g1 g2 g3 g4 g5 gl
  exact ⟨rfl, rfl, k⟩
set_option maxHeartbeats 1600000 in
theorem needBlock_4 (B : Wm) (w : World) (hI : B.In w) (m1 : 1 ≤ B.mark) (m2 : B.mark ≤ 100) (e0 : inS B.llo B.lhi (-1000) 1000 = true) (e1 : decide (B.lhi - B.llo ≤ 24) = true) (e2 : inS B.clo B.chi 0 20 = true) (e3 : decide (B.chi - B.clo ≤ 3) = true) (e4 : vWrs B.rs = false) : Calls Try.prog 48 #[B.v] w (Pan 1 w) := by
  have C0 := Lib.hid (fun w1 => within_any B.llo B.lhi (-1000) 1000 w1)
  rw [e0] at C0
  obtain ⟨i0, i1, i2⟩ := inS_bd e0
  have C1 := Lib.hid (fun w1 => wide_any B.llo B.lhi w1 (by omega) (by omega) (by omega) (by omega))
  have C2 := Lib.hid (fun w1 => within_any B.clo B.chi 0 20 w1)
  rw [e2] at C2
  obtain ⟨j0, j1, j2⟩ := inS_bd e2
  have C3 := Lib.hid (fun w1 => wide_any B.clo B.chi w1 (by omega) (by omega) (by omega) (by omega))
  have C4 := Lib.hid (fun w1 (k : Keeps w w1) => validReadings_any B.ra B.rc B.rs w1 (hI.rds.keep k) hI.rl)
  rw [e4] at C4
  have HB := Lib.hid (Wm.Box.new B w)
  obtain ⟨mark, llo, lhi, clo, chi, ra, rc, rs⟩ := B
  dsimp only [Wm.v] at *
  have k := (Keeps.refl w).alloc (.cells #[.int .i64 mark, .int .i64 llo, .int .i64 lhi, .int .i64 clo, .int .i64 chi, .slice ra rs.length rc] 26)
  clear hI
  go_enter Try.func48, Try.ntmps48
  go_wp2_with fail
  refine (C0.out _).mono ?_
  rintro e w1 ⟨rfl, k1⟩
  replace HB := Lib.hid (HB.out.keep k1)
  have g0 := HB.out.c0
  have g1 := HB.out.c1
  have g2 := HB.out.c2
  have g3 := HB.out.c3
  have g4 := HB.out.c4
  have g5 := HB.out.c5
  dsimp only at g0 g1 g2 g3 g4 g5
  have gl := lt_of_cell g0
  replace k := k.trans k1
  clear k1 C0
  go_wp2_with fail
  clear g0 g1 g2 g3 g4 g5 gl
  refine (C1.out _).mono ?_
  rintro e w1 ⟨rfl, k1⟩
  replace HB := Lib.hid (HB.out.keep k1)
  have g0 := HB.out.c0
  have g1 := HB.out.c1
  have g2 := HB.out.c2
  have g3 := HB.out.c3
  have g4 := HB.out.c4
  have g5 := HB.out.c5
  dsimp only at g0 g1 g2 g3 g4 g5
  have gl := lt_of_cell g0
  replace k := k.trans k1
  clear k1 C1
  go_wp2_with fail
  clear g0 g1 g2 g3 g4 g5 gl
  refine (C2.out _).mono ?_
  rintro e w1 ⟨rfl, k1⟩
  replace HB := Lib.hid (HB.out.keep k1)
  have g0 := HB.out.c0
  have g1 := HB.out.c1
  have g2 := HB.out.c2
  have g3 := HB.out.c3
  have g4 := HB.out.c4
  have g5 := HB.out.c5
  dsimp only at g0 g1 g2 g3 g4 g5
  have gl := lt_of_cell g0
  replace k := k.trans k1
  clear k1 C2
  go_wp2_with fail
  clear g0 g1 g2 g3 g4 g5 gl
  refine (C3.out _).mono ?_
  rintro e w1 ⟨rfl, k1⟩
  replace HB := Lib.hid (HB.out.keep k1)
  have g0 := HB.out.c0
  have g1 := HB.out.c1
  have g2 := HB.out.c2
  have g3 := HB.out.c3
  have g4 := HB.out.c4
  have g5 := HB.out.c5
  dsimp only at g0 g1 g2 g3 g4 g5
  have gl := lt_of_cell g0
  replace k := k.trans k1
  clear k1 C3
  go_wp2_with fail
  clear g0 g1 g2 g3 g4 g5 gl
  refine (C4.out _ k).mono ?_
  rintro e w1 ⟨rfl, k1⟩
  replace HB := Lib.hid (HB.out.keep k1)
  have g0 := HB.out.c0
  have g1 := HB.out.c1
  have g2 := HB.out.c2
  have g3 := HB.out.c3
  have g4 := HB.out.c4
  have g5 := HB.out.c5
  dsimp only at g0 g1 g2 g3 g4 g5
  have gl := lt_of_cell g0
  replace k := k.trans k1
  clear k1 C4
  go_wp2_with fail
  clear g0 g1 g2 g3 g4 g5 gl
  exact ⟨rfl, rfl, k⟩
end Go.Proofs.Ytidiikmpgpnmpaa
