/-
  WARM: needBlock, needWarmth, needOff.
  WARM: needBlock, needWarmth, needOff, needReading, whole.
  WARM: needReading, needOffers.
-/
import Derived.Test.YtmhpgjlegajpeaaA1
namespace Go.Proofs.Ytmhpgjlegajpeaa
open Go.RowKit

/-- The call panics with an error. -/
def Pan (k : Int) (w : World) (e : Ending) (w' : World) : Prop :=
  e = .panicked [{ v := .iface 29 (.int .i64 k), recovered := false }] ∧ Keeps w w'
/-- Block b holds a block. -/
structure Wm.Box (B : Wm) (w : World) (b : Nat) : Prop where
  c0 : w.cell? ⟨b, 0, none⟩ = some (.int .i64 B.mark)
  c1 : w.cell? ⟨b, 1, none⟩ = some (.int .i64 B.llo)
  c2 : w.cell? ⟨b, 2, none⟩ = some (.int .i64 B.lhi)
  c3 : w.cell? ⟨b, 3, none⟩ = some (.int .i64 B.clo)
  c4 : w.cell? ⟨b, 4, none⟩ = some (.int .i64 B.chi)
  c5 : w.cell? ⟨b, 5, none⟩ = some (.slice B.ra B.rs.length B.rc)
theorem Wm.Box.keep {B : Wm} {w w' : World} {b : Nat} (h : B.Box w b) (k : Keeps w w') : B.Box w' b := ⟨k.cell h.c0, k.cell h.c1, k.cell h.c2, k.cell h.c3, k.cell h.c4, k.cell h.c5⟩
theorem Wm.Box.new (B : Wm) (w : World) : B.Box (w.alloc (.cells #[.int .i64 B.mark, .int .i64 B.llo, .int .i64 B.lhi, .int .i64 B.clo, .int .i64 B.chi, .slice B.ra B.rs.length B.rc] 26)) w.heap.size :=
  ⟨by simp [go_sem], by simp [go_sem], by simp [go_sem], by simp [go_sem], by simp [go_sem], by simp [go_sem]⟩
set_option maxHeartbeats 1600000 in
theorem needBlock_ok (B : Wm) (w : World) (hI : B.In w) (m1 : 1 ≤ B.mark) (m2 : B.mark ≤ 100) (e0 : inS B.llo B.lhi (-1000) 1000 = true) (e1 : decide (B.lhi - B.llo ≤ 24) = true) (e2 : inS B.clo B.chi 0 20 = true) (e3 : decide (B.chi - B.clo ≤ 3) = true) (e4 : vWrs B.rs = true) : Calls Try.prog 48 #[B.v] w (Ret (.tuple #[]) w) := by
  have C0 := Lib.hid (fun w1 => within_any B.llo B.lhi (-1000) 1000 w1)
  rw [e0] at C0
  obtain ⟨i0, i1, i2⟩ := inS_bd e0
  have C1 := Lib.hid (fun w1 => wide_any B.llo B.lhi w1 (by omega) (by omega) (by omega) (by omega))
  have C2 := Lib.hid (fun w1 => within_any B.clo B.chi 0 20 w1)
  rw [e2] at C2
  obtain ⟨j0, j1, j2⟩ := inS_bd e2
  have C3 := Lib.hid (fun w1 => wide_any B.clo B.chi w1 (by omega) (by omega) (by omega) (by omega))
  have C4 := Lib.hid (fun w1 (k : Keeps w w1) => validReadings_any B.ra B.rc B.rs w1 (hI.rds.keep k) hI.rl)
  rw [e4] at C4
  have HB := Lib.hid (Wm.Box.new B w)
  obtain ⟨mark, llo, lhi, clo, chi, ra, rc, rs⟩ := B
  dsimp only [Wm.v] at *
  have k := (Keeps.refl w).alloc (.cells #[.int .i64 mark, .int .i64 llo, .int .i64 lhi, .int .i64 clo, .int .i64 chi, .slice ra rs.length rc] 26)
  clear hI
  go_enter Try.func48, Try.ntmps48
  go_wp2_with fail
  refine (C0.out _).mono ?_
  rintro e w1 ⟨rfl, k1⟩
  replace HB := Lib.hid (HB.out.keep k1)
  have g0 := HB.out.c0
  have g1 := HB.out.c1
  have g2 := HB.out.c2
  have g3 := HB.out.c3
  have g4 := HB.out.c4
  have g5 := HB.out.c5
  dsimp only at g0 g1 g2 g3 g4 g5
  have gl := lt_of_cell g0
  replace k := k.trans k1
  clear k1 C0
  go_wp2_with fail
  clear g0 g1 g2 g3 g4 g5 gl
  refine (C1.out _).mono ?_
  rintro e w1 ⟨rfl, k1⟩
  replace HB := Lib.hid (HB.out.keep k1)
  have g0 := HB.out.c0
  have g1 := HB.out.c1
  have g2 := HB.out.c2
  have g3 := HB.out.c3
  have g4 := HB.out.c4
  have g5 := HB.out.c5
  dsimp only at g0 g1 g2 g3 g4 g5
  have gl := lt_of_cell g0
  replace k := k.trans k1
  clear k1 C1
  go_wp2_with fail
  clear g0 g1 g2 g3 g4 g5 gl
  refine (C2.out _).mono ?_
  rintro e w1 ⟨rfl, k1⟩
  replace HB := Lib.hid (HB.out.keep k1)
  have g0 := HB.out.c0
  have g1 := HB.out.c1
  have g2 := HB.out.c2
  have g3 := HB.out.c3
  have g4 := HB.out.c4
  have g5 := HB.out.c5
  dsimp only at g0 g1 g2 g3 g4 g5
  have gl := lt_of_cell g0
  replace k := k.trans k1
  clear k1 C2
  go_wp2_with fail
  clear g0 g1 g2 g3 g4 g5 gl
  refine (C3.out _).mono ?_
  rintro e w1 ⟨rfl, k1⟩
  replace HB := Lib.hid (HB.out.keep k1)
  have g0 := HB.out.c0
  have g1 := HB.out.c1
  have g2 := HB.out.c2
  have g3 := HB.out.c3
  have g4 := HB.out.c4
  have g5 := HB.out.c5
  dsimp only at g0 g1 g2 g3 g4 g5
  have gl := lt_of_cell g0
  replace k := k.trans k1
  clear k1 C3
  go_wp2_with fail
  clear g0 g1 g2 g3 g4 g5 gl
  refine (C4.out _ k).mono ?_
  rintro e w1 ⟨rfl, k1⟩
  replace HB := Lib.hid (HB.out.keep k1)
  have g0 := HB.out.c0
  have g1 := HB.out.c1
  have g2 := HB.out.c2
  have g3 := HB.out.c3
  have g4 := HB.out.c4
  have g5 := HB.out.c5
  dsimp only at g0 g1 g2 g3 g4 g5
  have gl := lt_of_cell g0
  replace k := k.trans k1
  clear k1 C4
  go_wp2_with fail
  clear g0 g1 g2 g3 g4 g5 gl
  go_end0
  exact ⟨rfl, k⟩
set_option maxHeartbeats 1600000 in
theorem needBlock_0 (B : Wm) (w : World) (hI : B.In w) (m1 : 1 ≤ B.mark) (m2 : B.mark ≤ 100) (e0 : inS B.llo B.lhi (-1000) 1000 = false) : Calls Try.prog 48 #[B.v] w (Pan 1 w) := by
  have C0 := Lib.hid (fun w1 => within_any B.llo B.lhi (-1000) 1000 w1)
  rw [e0] at C0
  have HB := Lib.hid (Wm.Box.new B w)
  obtain ⟨mark, llo, lhi, clo, chi, ra, rc, rs⟩ := B
  dsimp only [Wm.v] at *
  have k := (Keeps.refl w).alloc (.cells #[.int .i64 mark, .int .i64 llo, .int .i64 lhi, .int .i64 clo, .int .i64 chi, .slice ra rs.length rc] 26)
  clear hI
  go_enter Try.func48, Try.ntmps48
  go_wp2_with fail
  refine (C0.out _).mono ?_
  rintro e w1 ⟨rfl, k1⟩
  replace HB := Lib.hid (HB.out.keep k1)
  have g0 := HB.out.c0
  have g1 := HB.out.c1
  have g2 := HB.out.c2
  have g3 := HB.out.c3
  have g4 := HB.out.c4
  have g5 := HB.out.c5
  dsimp only at g0 g1 g2 g3 g4 g5
  have gl := lt_of_cell g0
  replace k := k.trans k1
  clear k1 C0
  go_wp2_with fail
  clear g0 g1 g2 g3 g4 g5 gl
  exact ⟨rfl, rfl, k⟩
set_option maxHeartbeats 1600000 in
theorem needBlock_1 (B : Wm) (w : World) (hI : B.In w) (m1 : 1 ≤ B.mark) (m2 : B.mark ≤ 100) (e0 : inS B.llo B.lhi (-1000) 1000 = true) (e1 : decide (B.lhi - B.llo ≤ 24) = false) : Calls Try.prog 48 #[B.v] w (Pan 1 w) := by
  have C0 := Lib.hid (fun w1 => within_any B.llo B.lhi (-1000) 1000 w1)
  rw [e0] at C0
  obtain ⟨i0, i1, i2⟩ := inS_bd e0
  have C1 := Lib.hid (fun w1 => wide_any B.llo B.lhi w1 (by omega) (by omega) (by omega) (by omega))
  have HB := Lib.hid (Wm.Box.new B w)
  obtain ⟨mark, llo, lhi, clo, chi, ra, rc, rs⟩ := B
  dsimp only [Wm.v] at *
  have k := (Keeps.refl w).alloc (.cells #[.int .i64 mark, .int .i64 llo, .int .i64 lhi, .int .i64 clo, .int .i64 chi, .slice ra rs.length rc] 26)
  clear hI
  go_enter Try.func48, Try.ntmps48
  go_wp2_with fail
  refine (C0.out _).mono ?_
  rintro e w1 ⟨rfl, k1⟩
  replace HB := Lib.hid (HB.out.keep k1)
  have g0 := HB.out.c0
  have g1 := HB.out.c1
  have g2 := HB.out.c2
  have g3 := HB.out.c3
  have g4 := HB.out.c4
  have g5 := HB.out.c5
  dsimp only at g0 g1 g2 g3 g4 g5
  have gl := lt_of_cell g0
  replace k := k.trans k1
  clear k1 C0
  go_wp2_with fail
  clear g0 g1 g2 g3 g4 g5 gl
  refine (C1.out _).mono ?_
  rintro e w1 ⟨rfl, k1⟩
  replace HB := Lib.hid (HB.out.keep k1)
  have g0 := HB.out.c0
  have g1 := HB.out.c1
  have g2 := HB.out.c2
  have g3 := HB.out.c3
  have g4 := HB.out.c4
  have g5 := HB.out.c5
  dsimp only at g0 g1 g2 g3 g4 g5
  have gl := lt_of_cell g0
  replace k := k.trans k1
  clear k1 C1
  go_wp2_with fail
  clear g0 g1 g2 g3 g4 g5 gl
  exact ⟨rfl, rfl, k⟩
set_option maxHeartbeats 1600000 in
theorem needBlock_2 (B : Wm) (w : World) (hI : B.In w) (m1 : 1 ≤ B.mark) (m2 : B.mark ≤ 100) (e0 : inS B.llo B.lhi (-1000) 1000 = true) (e1 : decide (B.lhi - B.llo ≤ 24) = true) (e2 : inS B.clo B.chi 0 20 = false) : Calls Try.prog 48 #[B.v] w (Pan 1 w) := by
  have C0 := Lib.hid (fun w1 => within_any B.llo B.lhi (-1000) 1000 w1)
  rw [e0] at C0
  obtain ⟨i0, i1, i2⟩ := inS_bd e0
  have C1 := Lib.hid (fun w1 => wide_any B.llo B.lhi w1 (by omega) (by omega) (by omega) (by omega))
  have C2 := Lib.hid (fun w1 => within_any B.clo B.chi 0 20 w1)
  rw [e2] at C2
  have HB := Lib.hid (Wm.Box.new B w)
  obtain ⟨mark, llo, lhi, clo, chi, ra, rc, rs⟩ := B
  dsimp only [Wm.v] at *
  have k := (Keeps.refl w).alloc (.cells #[.int .i64 mark, .int .i64 llo, .int .i64 lhi, .int .i64 clo, .int .i64 chi, .slice ra rs.length rc] 26)
  clear hI
  go_enter Try.func48, Try.ntmps48
  go_wp2_with fail
  refine (C0.out _).mono ?_
  rintro e w1 ⟨rfl, k1⟩
  replace HB := Lib.hid (HB.out.keep k1)
  have g0 := HB.out.c0
  have g1 := HB.out.c1
  have g2 := HB.out.c2
  have g3 := HB.out.c3
  have g4 := HB.out.c4
  have g5 := HB.out.c5
  dsimp only at g0 g1 g2 g3 g4 g5
  have gl := lt_of_cell g0
  replace k := k.trans k1
  clear k1 C0
  go_wp2_with fail
  clear g0 g1 g2 g3 g4 g5 gl
  refine (C1.out _).mono ?_
  rintro e w1 ⟨rfl, k1⟩
  replace HB := Lib.hid (HB.out.keep k1)
  have g0 := HB.out.c0
  have g1 := HB.out.c1
  have g2 := HB.out.c2
  have g3 := HB.out.c3
  have g4 := HB.out.c4
  have g5 := HB.out.c5
  dsimp only at g0 g1 g2 g3 g4 g5
  have gl := lt_of_cell g0
  replace k := k.trans k1
  clear k1 C1
  go_wp2_with fail
  clear g0 g1 g2 g3 g4 g5 gl
  refine (C2.out _).mono ?_
  rintro e w1 ⟨rfl, k1⟩
  replace HB := Lib.hid (HB.out.keep k1)
  have g0 := HB.out.c0
  have g1 := HB.out.c1
  have g2 := HB.out.c2
  have g3 := HB.out.c3
  have g4 := HB.out.c4
  have g5 := HB.out.c5
  dsimp only at g0 g1 g2 g3 g4 g5
  have gl := lt_of_cell g0
  replace k := k.trans k1
  clear k1 C2
  go_wp2_with fail
  clear g0 g1 g2 g3 g4 g5 gl
  exact ⟨rfl, rfl, k⟩
set_option maxHeartbeats 1600000 in
theorem needBlock_3 (B : Wm) (w : World) (hI : B.In w) (m1 : 1 ≤ B.mark) (m2 : B.mark ≤ 100) (e0 : inS B.llo B.lhi (-1000) 1000 = true) (e1 : decide (B.lhi - B.llo ≤ 24) = true) (e2 : inS B.clo B.chi 0 20 = true) (e3 : decide (B.chi - B.clo ≤ 3) = false) : Calls Try.prog 48 #[B.v] w (Pan 1 w) := by
  have C0 := Lib.hid (fun w1 => within_any B.llo B.lhi (-1000) 1000 w1)
  rw [e0] at C0
  obtain ⟨i0, i1, i2⟩ := inS_bd e0
  have C1 := Lib.hid (fun w1 => wide_any B.llo B.lhi w1 (by omega) (by omega) (by omega) (by omega))
  have C2 := Lib.hid (fun w1 => within_any B.clo B.chi 0 20 w1)
  rw [e2] at C2
  obtain ⟨j0, j1, j2⟩ := inS_bd e2
  have C3 := Lib.hid (fun w1 => wide_any B.clo B.chi w1 (by omega) (by omega) (by omega) (by omega))
  have HB := Lib.hid (Wm.Box.new B w)
  obtain ⟨mark, llo, lhi, clo, chi, ra, rc, rs⟩ := B
  dsimp only [Wm.v] at *
  have k := (Keeps.refl w).alloc (.cells #[.int .i64 mark, .int .i64 llo, .int .i64 lhi, .int .i64 clo, .int .i64 chi, .slice ra rs.length rc] 26)
  clear hI
  go_enter Try.func48, Try.ntmps48
  go_wp2_with fail
  refine (C0.out _).mono ?_
  rintro e w1 ⟨rfl, k1⟩
  replace HB := Lib.hid (HB.out.keep k1)
  have g0 := HB.out.c0
  have g1 := HB.out.c1
  have g2 := HB.out.c2
  have g3 := HB.out.c3
  have g4 := HB.out.c4
  have g5 := HB.out.c5
  dsimp only at g0 g1 g2 g3 g4 g5
  have gl := lt_of_cell g0
  replace k := k.trans k1
  clear k1 C0
  go_wp2_with fail
  clear g0 g1 g2 g3 g4 g5 gl
  refine (C1.out _).mono ?_
  rintro e w1 ⟨rfl, k1⟩
  replace HB := Lib.hid (HB.out.keep k1)
  have g0 := HB.out.c0
  have g1 := HB.out.c1
  have g2 := HB.out.c2
  have g3 := HB.out.c3
  have g4 := HB.out.c4
  have g5 := HB.out.c5
  dsimp only at g0 g1 g2 g3 g4 g5
  have gl := lt_of_cell g0
  replace k := k.trans k1
  clear k1 C1
  go_wp2_with fail
  clear g0 g1 g2 g3 g4 g5 gl
  refine (C2.out _).mono ?_
  rintro e w1 ⟨rfl, k1⟩
  replace HB := Lib.hid (HB.out.keep k1)
  have g0 := HB.out.c0
  have g1 := HB.out.c1
  have g2 := HB.out.c2
  have g3 := HB.out.c3
  have g4 := HB.out.c4
  have g5 := HB.out.c5
  dsimp only at g0 g1 g2 g3 g4 g5
  have gl := lt_of_cell g0
  replace k := k.trans k1
  clear k1 C2
  go_wp2_with fail
  clear g0 g1 g2 g3 g4 g5 gl
  refine (C3.out _).mono ?_
  rintro e w1 ⟨rfl, k1⟩
  replace HB := Lib.hid (HB.out.keep k1)
  have g0 := HB.out.c0
  have g1 := HB.out.c1
  have g2 := HB.out.c2
  have g3 := HB.out.c3
  have g4 := HB.out.c4
  have g5 := HB.out.c5
  dsimp only at g0 g1 g2 g3 g4 g5
  have gl := lt_of_cell g0
  replace k := k.trans k1
  clear k1 C3
  go_wp2_with fail
  clear g0 g1 g2 g3 g4 g5 gl
  exact ⟨rfl, rfl, k⟩
set_option maxHeartbeats 1600000 in
theorem needBlock_4 (B : Wm) (w : World) (hI : B.In w) (m1 : 1 ≤ B.mark) (m2 : B.mark ≤ 100) (e0 : inS B.llo B.lhi (-1000) 1000 = true) (e1 : decide (B.lhi - B.llo ≤ 24) = true) (e2 : inS B.clo B.chi 0 20 = true) (e3 : decide (B.chi - B.clo ≤ 3) = true) (e4 : vWrs B.rs = false) : Calls Try.prog 48 #[B.v] w (Pan 1 w) := by
  have C0 := Lib.hid (fun w1 => within_any B.llo B.lhi (-1000) 1000 w1)
  rw [e0] at C0
  obtain ⟨i0, i1, i2⟩ := inS_bd e0
  have C1 := Lib.hid (fun w1 => wide_any B.llo B.lhi w1 (by omega) (by omega) (by omega) (by omega))
  have C2 := Lib.hid (fun w1 => within_any B.clo B.chi 0 20 w1)
  rw [e2] at C2
  obtain ⟨j0, j1, j2⟩ := inS_bd e2
  have C3 := Lib.hid (fun w1 => wide_any B.clo B.chi w1 (by omega) (by omega) (by omega) (by omega))
  have C4 := Lib.hid (fun w1 (k : Keeps w w1) => validReadings_any B.ra B.rc B.rs w1 (hI.rds.keep k) hI.rl)
  rw [e4] at C4
  have HB := Lib.hid (Wm.Box.new B w)
  obtain ⟨mark, llo, lhi, clo, chi, ra, rc, rs⟩ := B
  dsimp only [Wm.v] at *
  have k := (Keeps.refl w).alloc (.cells #[.int .i64 mark, .int .i64 llo, .int .i64 lhi, .int .i64 clo, .int .i64 chi, .slice ra rs.length rc] 26)
  clear hI
  go_enter Try.func48, Try.ntmps48
  go_wp2_with fail
  refine (C0.out _).mono ?_
  rintro e w1 ⟨rfl, k1⟩
  replace HB := Lib.hid (HB.out.keep k1)
  have g0 := HB.out.c0
  have g1 := HB.out.c1
  have g2 := HB.out.c2
  have g3 := HB.out.c3
  have g4 := HB.out.c4
  have g5 := HB.out.c5
  dsimp only at g0 g1 g2 g3 g4 g5
  have gl := lt_of_cell g0
  replace k := k.trans k1
  clear k1 C0
  go_wp2_with fail
  clear g0 g1 g2 g3 g4 g5 gl
  refine (C1.out _).mono ?_
  rintro e w1 ⟨rfl, k1⟩
  replace HB := Lib.hid (HB.out.keep k1)
  have g0 := HB.out.c0
  have g1 := HB.out.c1
  have g2 := HB.out.c2
  have g3 := HB.out.c3
  have g4 := HB.out.c4
  have g5 := HB.out.c5
  dsimp only at g0 g1 g2 g3 g4 g5
  have gl := lt_of_cell g0
  replace k := k.trans k1
  clear k1 C1
  go_wp2_with fail
  clear g0 g1 g2 g3 g4 g5 gl
  refine (C2.out _).mono ?_
  rintro e w1 ⟨rfl, k1⟩
  replace HB := Lib.hid (HB.out.keep k1)
  have g0 := HB.out.c0
  have g1 := HB.out.c1
  have g2 := HB.out.c2
  have g3 := HB.out.c3
  have g4 := HB.out.c4
  have g5 := HB.out.c5
  dsimp only at g0 g1 g2 g3 g4 g5
  have gl := lt_of_cell g0
  replace k := k.trans k1
  clear k1 C2
  go_wp2_with fail
  clear g0 g1 g2 g3 g4 g5 gl
  refine (C3.out _).mono ?_
  rintro e w1 ⟨rfl, k1⟩
  replace HB := Lib.hid (HB.out.keep k1)
  have g0 := HB.out.c0
  have g1 := HB.out.c1
  have g2 := HB.out.c2
  have g3 := HB.out.c3
  have g4 := HB.out.c4
  have g5 := HB.out.c5
  dsimp only at g0 g1 g2 g3 g4 g5
  have gl := lt_of_cell g0
  replace k := k.trans k1
  clear k1 C3
  go_wp2_with fail
  clear g0 g1 g2 g3 g4 g5 gl
  refine (C4.out _ k).mono ?_
  rintro e w1 ⟨rfl, k1⟩
  replace HB := Lib.hid (HB.out.keep k1)
  have g0 := HB.out.c0
  have g1 := HB.out.c1
  have g2 := HB.out.c2
  have g3 := HB.out.c3
  have g4 := HB.out.c4
  have g5 := HB.out.c5
  dsimp only at g0 g1 g2 g3 g4 g5
  have gl := lt_of_cell g0
  replace k := k.trans k1
  clear k1 C4
  go_wp2_with fail
  clear g0 g1 g2 g3 g4 g5 gl
  exact ⟨rfl, rfl, k⟩
end Go.Proofs.Ytmhpgjlegajpeaa

namespace Go.Proofs.Ytmhpgjlegajpeaa
open Go.RowKit

set_option maxHeartbeats 1600000 in
theorem needBlock_m (B : Wm) (w : World) (h : B.mark < 1 ∨ 100 < B.mark) : Calls Try.prog 48 #[B.v] w (Pan 1 w) := by
  obtain ⟨mark, llo, lhi, clo, chi, ra, rc, rs⟩ := B
  dsimp only [Wm.v] at *
  rcases h with h | h
  · go_enter Try.func48, Try.ntmps48
    go_wp2
    all_goals first | (exfalso; omega) | exact ⟨rfl, rfl, (Keeps.refl _).alloc _⟩
  · have h1 : 1 ≤ mark := by omega
    go_enter Try.func48, Try.ntmps48
    go_wp2
    all_goals first | (exfalso; omega) | exact ⟨rfl, rfl, (Keeps.refl _).alloc _⟩
theorem needBlock_yes (B : Wm) (w : World) (hI : B.In w) (h : B.ok = true) : Calls Try.prog 48 #[B.v] w (Ret (.tuple #[]) w) := by
  simp only [Wm.ok, Bool.and_eq_true] at h
  obtain ⟨⟨⟨h0, h1, h2⟩, h3, h4⟩, h5⟩ := h
  obtain ⟨m1, m2⟩ := of_decide_eq_true h0
  exact needBlock_ok B w hI m1 m2 h1 h2 h3 h4 h5
theorem needBlock_no (B : Wm) (w : World) (hI : B.In w) (h : B.ok = false) : Calls Try.prog 48 #[B.v] w (Pan 1 w) := by
  by_cases hm : B.mark < 1 ∨ 100 < B.mark
  · exact needBlock_m B w hm
  have m1 : 1 ≤ B.mark := by omega
  have m2 : B.mark ≤ 100 := by omega
  cases e0 : inS B.llo B.lhi (-1000) 1000 with
  | false => exact needBlock_0 B w hI m1 m2 e0
  | true =>
    cases e1 : decide (B.lhi - B.llo ≤ 24) with
    | false => exact needBlock_1 B w hI m1 m2 e0 e1
    | true =>
      cases e2 : inS B.clo B.chi 0 20 with
      | false => exact needBlock_2 B w hI m1 m2 e0 e1 e2
      | true =>
        cases e3 : decide (B.chi - B.clo ≤ 3) with
        | false => exact needBlock_3 B w hI m1 m2 e0 e1 e2 e3
        | true =>
          cases e4 : vWrs B.rs with
          | false => exact needBlock_4 B w hI m1 m2 e0 e1 e2 e3 e4
          | true =>
            exfalso
            unfold Wm.ok at h
            rw [e0, e1, e2, e3, e4, decide_eq_true (And.intro m1 m2)] at h
            cases h
theorem needOff_yes (n : Int) (w : World) (h1 : 0 ≤ n) (h2 : n ≤ 30000) : Calls Try.prog 71 #[.int .i64 n] w (Ret (.tuple #[]) w) := by
  go_enter Try.func71, Try.ntmps71
  go_wp2
  all_goals first | (exfalso; omega) | (go_end0; exact ⟨rfl, Keeps.refl _⟩)
theorem needOff_no (n : Int) (w : World) (h : n < 0 ∨ 30000 < n) : Calls Try.prog 71 #[.int .i64 n] w (Pan 2 w) := by
  rcases h with h | h
  all_goals
    go_enter Try.func71, Try.ntmps71
    go_wp2
    all_goals first | (exfalso; omega) | exact ⟨rfl, rfl, Keeps.refl _⟩
theorem needWarmth_yes (lo hi : Int) (w : World) (h : inS lo hi (-100) 100 = true) : Calls Try.prog 65 #[.agg #[.int .i64 lo, .int .i64 hi]] w (Ret (.tuple #[]) w) := by
  have H := Lib.hid (fun w1 => validWarmth_any lo hi w1)
  rw [h] at H
  go_enter Try.func65, Try.ntmps65
  go_wp2_with fail
  refine (H.out _).mono ?_
  rintro e w1 ⟨rfl, k1⟩
  go_wp2_with fail
  go_end0
  exact ⟨rfl, by first | exact k1 | exact ((Keeps.refl _).alloc _).trans k1⟩
theorem needWarmth_no (lo hi : Int) (w : World) (h : inS lo hi (-100) 100 = false) : Calls Try.prog 65 #[.agg #[.int .i64 lo, .int .i64 hi]] w (Pan 2 w) := by
  have H := Lib.hid (fun w1 => validWarmth_any lo hi w1)
  rw [h] at H
  go_enter Try.func65, Try.ntmps65
  go_wp2_with fail
  refine (H.out _).mono ?_
  rintro e w1 ⟨rfl, k1⟩
  go_wp2_with fail
  exact ⟨rfl, rfl, by first | exact k1 | exact ((Keeps.refl _).alloc _).trans k1⟩
end Go.Proofs.Ytmhpgjlegajpeaa

namespace Go.Proofs.Ytmhpgjlegajpeaa
open Go.RowKit

theorem needReading_yes (B : Wm) (n : Int) (w : World) (h1 : 0 ≤ n) (h2 : n < B.rs.length) : Calls Try.prog 59 #[B.v, .int .i64 n] w (Ret (.tuple #[]) w) := by
  obtain ⟨mark, llo, lhi, clo, chi, ra, rc, rs⟩ := B
  dsimp only [Wm.v] at *
  go_enter Try.func59, Try.ntmps59
  go_wp2
  all_goals first | (exfalso; omega) | (go_end0; exact ⟨rfl, by first | exact (Keeps.refl _).alloc _ | exact Keeps.refl _⟩)
theorem needReading_no (B : Wm) (n : Int) (w : World) (h : n < 0 ∨ (B.rs.length : Int) ≤ n) : Calls Try.prog 59 #[B.v, .int .i64 n] w (Pan 2 w) := by
  obtain ⟨mark, llo, lhi, clo, chi, ra, rc, rs⟩ := B
  dsimp only [Wm.v] at *
  rcases h with h | h
  all_goals
    go_enter Try.func59, Try.ntmps59
    go_wp2
    all_goals first | (exfalso; omega) | exact ⟨rfl, rfl, by first | exact (Keeps.refl _).alloc _ | exact Keeps.refl _⟩

/-- The slice at a holds these numbers. -/
def Ints (w : World) (a : Option Addr) (xs : List Int) : Prop := xs ≠ [] → ∃ b o, a = some ⟨b, o, none⟩ ∧ ∀ i, i < xs.length → w.cell? ⟨b, o + i, none⟩ = some (.int .i64 (xs[i]?.getD 0))
theorem Ints.keep {w w' : World} {a : Option Addr} {xs : List Int} (h : Ints w a xs) (k : Keeps w w') : Ints w' a xs := by
  intro hx
  obtain ⟨b, o, e, hc⟩ := h hx
  exact ⟨b, o, e, fun i hi => k.cell (hc i hi)⟩
def okOffer (x : Int) : Bool := decide (-100 ≤ x ∧ x ≤ 100)
theorem inS_same (x : Int) : inS x x (-100) 100 = okOffer x := by
  rw [Bool.eq_iff_iff]; simp [inS, okOffer]
set_option maxHeartbeats 800000 in
theorem needOffers_long (a : Option Addr) (cap : Nat) (xs : List Int) (w : World) (hl : 6 < xs.length) (hm : xs.length ≤ maxLen) : Calls Try.prog 80 #[.slice a xs.length cap] w (Pan 3 w) := by
  unfold maxLen at hm
  have hd : decide (6 < xs.length) = true := by simpa using hl
  go_enter Try.func80, Try.ntmps80
  go_wp2
  all_goals first | (exfalso; omega) | exact ⟨rfl, rfl, by first | exact (Keeps.refl _).alloc _ | exact Keeps.refl _⟩
set_option maxHeartbeats 800000 in
theorem needOffers_none (a : Option Addr) (cap : Nat) (w : World) : Calls Try.prog 80 #[.slice a 0 cap] w (Pan 2 w) := by
  go_enter Try.func80, Try.ntmps80
  go_wp2
  all_goals first | (exfalso; omega) | exact ⟨rfl, rfl, by first | exact (Keeps.refl _).alloc _ | exact Keeps.refl _⟩
set_option maxHeartbeats 1600000 in
theorem needOffers_any (a : Option Addr) (cap : Nat) (xs : List Int) (w : World) (hI : Ints w a xs) (h1 : xs ≠ []) (h2 : xs.length ≤ 6) :
    Calls Try.prog 80 #[.slice a xs.length cap] w (if xs.all okOffer then Ret (.tuple #[]) w else Pan 2 w) := by
  have hp := List.length_pos_iff.2 h1
  have hd : decide (6 < xs.length) = false := by simpa using h2
  have hd2 : ((xs.length : Int) == 0) = false := by rw [beq_eq_false_iff_ne]; omega
  have HI := Lib.hid hI
  have NY := Lib.hid (fun x w1 (h : okOffer x = true) => needWarmth_yes x x w1 ((inS_same x).trans h))
  have NN := Lib.hid (fun x w1 (h : okOffer x = false) => needWarmth_no x x w1 ((inS_same x).trans h))
  obtain ⟨t, ht⟩ : ∃ t, xs.all okOffer = t := ⟨_, rfl⟩
  rw [ht]
  have HT := Lib.hid ht
  clear hI h1 ht
  go_enter Try.func80, Try.ntmps80
  go_wp2
  go_loopw [14] (fun i wr => ∃ k : Nat, k ≤ xs.length ∧ i = .int .i64 k ∧ (∀ j, j < k → okOffer (xs[j]?.getD 0) = true) ∧ Keeps w wr) (fun i _ => xs.length - (intOf i).toNat)
  case atStart => exact ⟨0, Nat.zero_le _, rfl, fun j hj => absurd hj (by omega), by first | exact Keeps.refl _ | exact (Keeps.refl _).alloc _⟩
  case round =>
    obtain ⟨k, hk, rfl, hall, hkp⟩ := hrel
    have Hall := Lib.hid hall
    clear hall
    by_cases hlt : k < xs.length
    · obtain ⟨b, o, rfl, hc⟩ := (HI.out.keep hkp) (by intro e; rw [e] at hlt; simp at hlt)
      have c0 := hc k hlt
      obtain ⟨x, hx⟩ : ∃ x, xs[k]?.getD 0 = x := ⟨_, rfl⟩
      rw [hx] at c0
      have lb := lt_of_cell c0
      have Hx := Lib.hid hx
      clear hc hx
      cases hv : okOffer x with
      | true =>
        have N1 := Lib.hid (fun w1 => NY.out x w1 hv)
        have Hv := Lib.hid hv
        clear hv
        go_wp2_with fail
        refine (N1.out _).mono ?_
        rintro e w1 ⟨rfl, k1⟩
        go_wp2_with fail
        go_roundw
        case rel => exact ⟨k + 1, by omega, by go_num, fun j hj => by
          by_cases e : j = k
          · subst e; rw [Hx.out]; exact Hv.out
          · exact Hall.out j (by omega), hkp.trans k1⟩
        case measure => simp [intOf]; omega
      | false =>
        have N1 := Lib.hid (fun w1 => NN.out x w1 hv)
        have hf : t = false := by
          rw [← HT.out, List.all_eq_false]
          refine ⟨x, ?_, by simp [hv]⟩
          rw [← Hx.out, List.getElem?_eq_getElem hlt]
          exact List.getElem_mem hlt
        clear hv
        subst hf
        go_wp2_with fail
        refine (N1.out _).mono ?_
        rintro e w1 ⟨rfl, k1⟩
        exact ⟨rfl, rfl, hkp.trans k1⟩
    · have hf : t = true := by
        rw [← HT.out, List.all_eq_true]
        intro x hx
        obtain ⟨i, hi, rfl⟩ := List.getElem_of_mem hx
        have := Hall.out i (by omega)
        rwa [List.getElem?_eq_getElem hi] at this
      subst hf
      go_wp2
      go_end0
      exact ⟨rfl, hkp⟩
end Go.Proofs.Ytmhpgjlegajpeaa
