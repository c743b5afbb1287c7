/-
  WarmProves, WarmLooks and WarmReads walked: what the program answers is the document's answer.
-/
import Derived.Test.YtmhpgjlegajpeaaJ4
import Derived.Test.YtmhpgjlegajpeaaE2
import Derived.Test.YtmhpgjlegajpeaaF4
namespace Go.Proofs.Ytmhpgjlegajpeaa
open Go.RowKit
set_option maxRecDepth 100000 in
set_option maxHeartbeats 12800000 in
theorem warmProves_any (B : Wm) (w : World) (hI : B.In w) : Calls Try.prog 5 #[B.v] w (RetB true w) := by
  have FR := Lib.hid (fun w1 => far_any B none 0 0 w1 hI.rl (Nat.zero_le _))
  have AW := Lib.hid (fun w1 => awake_any w1)
  have A0 := Lib.hid (fun w1 (k : Keeps w w1) => Clash_any B w1 (hI.keep k))
  have R0 := Lib.hid (fun w1 (k : Keeps w w1) => refClash_any B w1 (hI.keep k))
  have BX := Wm.Box.new B w
  obtain ⟨r0, hr0⟩ : ∃ r, B.clashA = r := ⟨_, rfl⟩
  rw [hr0] at A0 R0
  obtain ⟨x0, e0⟩ := r0
  obtain ⟨v, hv⟩ : ∃ v, decide (40 < B.rs.length ∨ 40 < 0) = v := ⟨_, rfl⟩
  rw [hv] at FR
  obtain ⟨mark, llo, lhi, clo, chi, ra, rc, rs⟩ := B
  dsimp only [Wm.v, spV] at *
  clear hI hv hr0
  obtain ⟨W0, hW0⟩ : ∃ W, w.alloc (.cells #[.int .i64 mark, .int .i64 llo, .int .i64 lhi, .int .i64 clo, .int .i64 chi, .slice ra rs.length rc] 26) = W := ⟨_, rfl⟩
  rw [hW0] at BX
  have kB : Keeps w W0 := by rw [← hW0]; exact (Keeps.refl _).alloc _
  obtain ⟨W, rfl⟩ : ∃ W, W = W0 := ⟨_, rfl⟩
  obtain ⟨g0, g1, g2, g3, g4, g5⟩ := BX
  dsimp only at g0 g1 g2 g3 g4 g5
  obtain ⟨b0, hb0⟩ : ∃ b0, w.heap.size = b0 := ⟨_, rfl⟩
  rw [hb0] at g0 g1 g2 g3 g4 g5
  have hl0 := lt_of_cell g0
  cases v with
  | true =>
    go_enter Try.func5, Try.ntmps5
    go_wp2_with fail
    refine (FR.out _).mono ?_
    rintro e w1 ⟨rfl, k1⟩
    go_wp2_with fail
    refine (AW.out _).mono ?_
    rintro e w2 ⟨rfl, k2⟩
    go_wp2_with fail
    go_ret
    exact RetB.mk rfl ((kB.trans k1).trans k2)
  | false =>
    go_enter Try.func5, Try.ntmps5
    go_wp2_with fail
    refine (FR.out _).mono ?_
    rintro e w1 ⟨rfl, k1⟩
    have kw := kB.trans k1
    replace g0 := k1.cell g0
    replace g1 := k1.cell g1
    replace g2 := k1.cell g2
    replace g3 := k1.cell g3
    replace g4 := k1.cell g4
    replace g5 := k1.cell g5
    replace hl0 := lt_of_cell g0
    go_wp2_with fail
    refine (A0.out _ kw).mono ?_
    rintro e w2 ⟨rfl, k2⟩
    replace kw := kw.trans k2
    replace g0 := k2.cell g0
    replace g1 := k2.cell g1
    replace g2 := k2.cell g2
    replace g3 := k2.cell g3
    replace g4 := k2.cell g4
    replace g5 := k2.cell g5
    replace hl0 := lt_of_cell g0
    go_wp2_with fail
    refine (R0.out _ kw).mono ?_
    rintro e w3 ⟨rfl, k3⟩
    replace kw := kw.trans k3
    replace g0 := k3.cell g0
    replace g1 := k3.cell g1
    replace g2 := k3.cell g2
    replace g3 := k3.cell g3
    replace g4 := k3.cell g4
    replace g5 := k3.cell g5
    replace hl0 := lt_of_cell g0
    go_wp2_with fail
    refine (AW.out _).mono ?_
    rintro e wa ⟨rfl, ka⟩
    go_wp2_with fail
    go_ret
    exact RetB.mk rfl (kw.trans ka)
set_option maxRecDepth 100000 in
set_option maxHeartbeats 12800000 in
theorem warmLooks_any (B : Wm) (off : Int) (xa : Option Addr) (xc : Nat) (xs : List Int) (w : World) (hI : B.In w) (hX : Ints w xa xs) (hxl : xs.length ≤ maxLen) : Calls Try.prog 4 #[B.v, .int .i64 off, .slice xa xs.length xc] w (RetB true w) := by
  have FR := Lib.hid (fun w1 => far_any B xa xs.length xc w1 hI.rl hxl)
  have AW := Lib.hid (fun w1 => awake_any w1)
  have A0 := Lib.hid (fun w1 (k : Keeps w w1) => Room_any B off w1 (hI.keep k))
  have R0 := Lib.hid (fun w1 (k : Keeps w w1) => refRoom_any B off w1 (hI.keep k))
  have A1 := Lib.hid (fun w1 (k : Keeps w w1) => Count_any B w1 (hI.keep k))
  have R1 := Lib.hid (fun w1 (k : Keeps w w1) => refCount_any B w1 (hI.keep k))
  have A2 := Lib.hid (fun w1 (k : Keeps w w1) => Next_any B xs xa xc w1 (hI.keep k) (fun h => (by
    obtain ⟨b, o, e, hc⟩ := hX h
    exact ⟨b, o, e, fun i hi => k.cell (hc i hi)⟩)) hxl)
  have R2 := Lib.hid (fun w1 (k : Keeps w w1) => refNext_any B xs xa xc w1 (hI.keep k) (fun h => (by
    obtain ⟨b, o, e, hc⟩ := hX h
    exact ⟨b, o, e, fun i hi => k.cell (hc i hi)⟩)) hxl)
  have BX := Wm.Box.new B w
  obtain ⟨r0, hr0⟩ : ∃ r, B.roomA off = r := ⟨_, rfl⟩
  rw [hr0] at A0 R0
  obtain ⟨x0, e0⟩ := r0
  obtain ⟨r1, hr1⟩ : ∃ r, B.countA = r := ⟨_, rfl⟩
  rw [hr1] at A1 R1
  obtain ⟨x1, e1⟩ := r1
  obtain ⟨r2, hr2⟩ : ∃ r, B.nextA xs = r := ⟨_, rfl⟩
  rw [hr2] at A2 R2
  obtain ⟨⟨x2, y2⟩, e2⟩ := r2
  obtain ⟨v, hv⟩ : ∃ v, decide (40 < B.rs.length ∨ 40 < xs.length) = v := ⟨_, rfl⟩
  rw [hv] at FR
  obtain ⟨mark, llo, lhi, clo, chi, ra, rc, rs⟩ := B
  dsimp only [Wm.v, spV] at *
  clear hI hv hr0 hr1 hr2
  obtain ⟨W0, hW0⟩ : ∃ W, w.alloc (.cells #[.int .i64 mark, .int .i64 llo, .int .i64 lhi, .int .i64 clo, .int .i64 chi, .slice ra rs.length rc] 26) = W := ⟨_, rfl⟩
  rw [hW0] at BX
  have kB : Keeps w W0 := by rw [← hW0]; exact (Keeps.refl _).alloc _
  obtain ⟨W, rfl⟩ : ∃ W, W = W0 := ⟨_, rfl⟩
  obtain ⟨g0, g1, g2, g3, g4, g5⟩ := BX
  dsimp only at g0 g1 g2 g3 g4 g5
  obtain ⟨b0, hb0⟩ : ∃ b0, w.heap.size = b0 := ⟨_, rfl⟩
  rw [hb0] at g0 g1 g2 g3 g4 g5
  have hl0 := lt_of_cell g0
  cases v with
  | true =>
    go_enter Try.func4, Try.ntmps4
    go_wp2_with fail
    refine (FR.out _).mono ?_
    rintro e w1 ⟨rfl, k1⟩
    go_wp2_with fail
    refine (AW.out _).mono ?_
    rintro e w2 ⟨rfl, k2⟩
    go_wp2_with fail
    go_ret
    exact RetB.mk rfl ((kB.trans k1).trans k2)
  | false =>
    go_enter Try.func4, Try.ntmps4
    go_wp2_with fail
    refine (FR.out _).mono ?_
    rintro e w1 ⟨rfl, k1⟩
    have kw := kB.trans k1
    replace g0 := k1.cell g0
    replace g1 := k1.cell g1
    replace g2 := k1.cell g2
    replace g3 := k1.cell g3
    replace g4 := k1.cell g4
    replace g5 := k1.cell g5
    replace hl0 := lt_of_cell g0
    go_wp2_with fail
    refine (A0.out _ kw).mono ?_
    rintro e w2 ⟨rfl, k2⟩
    replace kw := kw.trans k2
    replace g0 := k2.cell g0
    replace g1 := k2.cell g1
    replace g2 := k2.cell g2
    replace g3 := k2.cell g3
    replace g4 := k2.cell g4
    replace g5 := k2.cell g5
    replace hl0 := lt_of_cell g0
    go_wp2_with fail
    refine (R0.out _ kw).mono ?_
    rintro e w3 ⟨rfl, k3⟩
    replace kw := kw.trans k3
    replace g0 := k3.cell g0
    replace g1 := k3.cell g1
    replace g2 := k3.cell g2
    replace g3 := k3.cell g3
    replace g4 := k3.cell g4
    replace g5 := k3.cell g5
    replace hl0 := lt_of_cell g0
    go_wp2_with fail
    refine (A1.out _ kw).mono ?_
    rintro e w4 ⟨rfl, k4⟩
    replace kw := kw.trans k4
    replace g0 := k4.cell g0
    replace g1 := k4.cell g1
    replace g2 := k4.cell g2
    replace g3 := k4.cell g3
    replace g4 := k4.cell g4
    replace g5 := k4.cell g5
    replace hl0 := lt_of_cell g0
    go_wp2_with fail
    refine (R1.out _ kw).mono ?_
    rintro e w5 ⟨rfl, k5⟩
    replace kw := kw.trans k5
    replace g0 := k5.cell g0
    replace g1 := k5.cell g1
    replace g2 := k5.cell g2
    replace g3 := k5.cell g3
    replace g4 := k5.cell g4
    replace g5 := k5.cell g5
    replace hl0 := lt_of_cell g0
    go_wp2_with fail
    refine (A2.out _ kw).mono ?_
    rintro e w6 ⟨rfl, k6⟩
    replace kw := kw.trans k6
    replace g0 := k6.cell g0
    replace g1 := k6.cell g1
    replace g2 := k6.cell g2
    replace g3 := k6.cell g3
    replace g4 := k6.cell g4
    replace g5 := k6.cell g5
    replace hl0 := lt_of_cell g0
    go_wp2_with fail
    refine (R2.out _ kw).mono ?_
    rintro e w7 ⟨rfl, k7⟩
    replace kw := kw.trans k7
    replace g0 := k7.cell g0
    replace g1 := k7.cell g1
    replace g2 := k7.cell g2
    replace g3 := k7.cell g3
    replace g4 := k7.cell g4
    replace g5 := k7.cell g5
    replace hl0 := lt_of_cell g0
    go_wp2_with fail
    refine (AW.out _).mono ?_
    rintro e wa ⟨rfl, ka⟩
    go_wp2_with fail
    go_ret
    exact RetB.mk rfl (kw.trans ka)
set_option maxRecDepth 100000 in
set_option maxHeartbeats 12800000 in
theorem warmReads_any (B : Wm) (n lo hi : Int) (w : World) (hI : B.In w) : Calls Try.prog 3 #[B.v, .int .i64 n, .agg #[.int .i64 lo, .int .i64 hi]] w (RetB true w) := by
  have FR := Lib.hid (fun w1 => far_any B none 0 0 w1 hI.rl (Nat.zero_le _))
  have AW := Lib.hid (fun w1 => awake_any w1)
  have A0 := Lib.hid (fun w1 (k : Keeps w w1) => Length_any B w1 (hI.keep k))
  have R0 := Lib.hid (fun w1 (k : Keeps w w1) => refLength_any B w1 (hI.keep k))
  have A1 := Lib.hid (fun w1 (k : Keeps w w1) => Coeff_any B w1 (hI.keep k))
  have R1 := Lib.hid (fun w1 (k : Keeps w w1) => refCoeff_any B w1 (hI.keep k))
  have A2 := Lib.hid (fun w1 (k : Keeps w w1) => Held_any B n w1 (hI.keep k))
  have R2 := Lib.hid (fun w1 (k : Keeps w w1) => refHeld_any B n w1 (hI.keep k))
  have A3 := Lib.hid (fun w1 (k : Keeps w w1) => Shows_any B lo hi w1 (hI.keep k))
  have R3 := Lib.hid (fun w1 (k : Keeps w w1) => refShows_any B lo hi w1 (hI.keep k))
  have BX := Wm.Box.new B w
  obtain ⟨r0, hr0⟩ : ∃ r, B.lenA = r := ⟨_, rfl⟩
  rw [hr0] at A0 R0
  obtain ⟨⟨x0, y0⟩, e0⟩ := r0
  obtain ⟨r1, hr1⟩ : ∃ r, B.coeffA = r := ⟨_, rfl⟩
  rw [hr1] at A1 R1
  obtain ⟨⟨x1, y1⟩, e1⟩ := r1
  obtain ⟨r2, hr2⟩ : ∃ r, B.heldA n = r := ⟨_, rfl⟩
  rw [hr2] at A2 R2
  obtain ⟨⟨x2, y2⟩, e2⟩ := r2
  obtain ⟨r3, hr3⟩ : ∃ r, B.showsA lo hi = r := ⟨_, rfl⟩
  rw [hr3] at A3 R3
  obtain ⟨⟨x3, y3⟩, e3⟩ := r3
  obtain ⟨v, hv⟩ : ∃ v, decide (40 < B.rs.length ∨ 40 < 0) = v := ⟨_, rfl⟩
  rw [hv] at FR
  obtain ⟨mark, llo, lhi, clo, chi, ra, rc, rs⟩ := B
  dsimp only [Wm.v, spV] at *
  clear hI hv hr0 hr1 hr2 hr3
  have fn0 : ∀ w1, (binOp .eql 23 (.agg #[.int .i64 x0, .int .i64 y0]) (.agg #[.int .i64 x0, .int .i64 y0])).run Try.prog w1 = .ok (.bool true) w1 := fun w1 => by rw [eql_span]; simp
  have fn1 : ∀ w1, (binOp .eql 23 (.agg #[.int .i64 x1, .int .i64 y1]) (.agg #[.int .i64 x1, .int .i64 y1])).run Try.prog w1 = .ok (.bool true) w1 := fun w1 => by rw [eql_span]; simp
  have fn2 : ∀ w1, (binOp .eql 23 (.agg #[.int .i64 x2, .int .i64 y2]) (.agg #[.int .i64 x2, .int .i64 y2])).run Try.prog w1 = .ok (.bool true) w1 := fun w1 => by rw [eql_span]; simp
  have fn3 : ∀ w1, (binOp .eql 23 (.agg #[.int .i64 x3, .int .i64 y3]) (.agg #[.int .i64 x3, .int .i64 y3])).run Try.prog w1 = .ok (.bool true) w1 := fun w1 => by rw [eql_span]; simp
  obtain ⟨W0, hW0⟩ : ∃ W, w.alloc (.cells #[.int .i64 mark, .int .i64 llo, .int .i64 lhi, .int .i64 clo, .int .i64 chi, .slice ra rs.length rc] 26) = W := ⟨_, rfl⟩
  rw [hW0] at BX
  have kB : Keeps w W0 := by rw [← hW0]; exact (Keeps.refl _).alloc _
  have hs0 : W0.heap.size = w.heap.size + 1 := by rw [← hW0]; simp
  obtain ⟨W, hW⟩ : ∃ W, W0.alloc (.cells #[.int .i64 lo, .int .i64 hi] 23) = W := ⟨_, rfl⟩
  have kV : Keeps W0 W := by rw [← hW]; exact (Keeps.refl _).alloc _
  have p0 : W.cell? ⟨w.heap.size + 1, 0, none⟩ = some (.int .i64 lo) := by rw [← hW, ← hs0]; simp [go_sem]
  have p1 : W.cell? ⟨w.heap.size + 1, 1, none⟩ = some (.int .i64 hi) := by rw [← hW, ← hs0]; simp [go_sem]
  replace BX := BX.keep kV
  replace kB := kB.trans kV
  obtain ⟨bs, hbs⟩ : ∃ b, w.heap.size + 1 = b := ⟨_, rfl⟩
  rw [hbs] at p0 p1
  obtain ⟨g0, g1, g2, g3, g4, g5⟩ := BX
  dsimp only at g0 g1 g2 g3 g4 g5
  obtain ⟨b0, hb0⟩ : ∃ b0, w.heap.size = b0 := ⟨_, rfl⟩
  rw [hb0] at g0 g1 g2 g3 g4 g5 hbs
  have hl0 := lt_of_cell g0
  have hlp := lt_of_cell p0
  cases v with
  | true =>
    go_enter Try.func3, Try.ntmps3
    go_wp2_with fail
    refine (FR.out _).mono ?_
    rintro e w1 ⟨rfl, k1⟩
    go_wp2_with fail
    refine (AW.out _).mono ?_
    rintro e w2 ⟨rfl, k2⟩
    go_wp2_with fail
    go_ret
    exact RetB.mk rfl ((kB.trans k1).trans k2)
  | false =>
    go_enter Try.func3, Try.ntmps3
    go_wp2_with fail
    refine (FR.out _).mono ?_
    rintro e w1 ⟨rfl, k1⟩
    have kw := kB.trans k1
    replace g0 := k1.cell g0
    replace g1 := k1.cell g1
    replace g2 := k1.cell g2
    replace g3 := k1.cell g3
    replace g4 := k1.cell g4
    replace g5 := k1.cell g5
    replace hl0 := lt_of_cell g0
    replace p0 := k1.cell p0
    replace p1 := k1.cell p1
    replace hlp := lt_of_cell p0
    go_wp2_with fail
    refine (A0.out _ kw).mono ?_
    rintro e w2 ⟨rfl, k2⟩
    replace kw := kw.trans k2
    replace g0 := k2.cell g0
    replace g1 := k2.cell g1
    replace g2 := k2.cell g2
    replace g3 := k2.cell g3
    replace g4 := k2.cell g4
    replace g5 := k2.cell g5
    replace hl0 := lt_of_cell g0
    replace p0 := k2.cell p0
    replace p1 := k2.cell p1
    replace hlp := lt_of_cell p0
    go_wp2_with fail
    refine (R0.out _ (kw.alloc _)).mono ?_
    rintro e w3 ⟨rfl, k3⟩
    replace kw := (kw.alloc _).trans k3
    replace g0 := (((Keeps.refl _).alloc _).trans k3).cell g0
    replace g1 := (((Keeps.refl _).alloc _).trans k3).cell g1
    replace g2 := (((Keeps.refl _).alloc _).trans k3).cell g2
    replace g3 := (((Keeps.refl _).alloc _).trans k3).cell g3
    replace g4 := (((Keeps.refl _).alloc _).trans k3).cell g4
    replace g5 := (((Keeps.refl _).alloc _).trans k3).cell g5
    replace hl0 := lt_of_cell g0
    replace p0 := (((Keeps.refl _).alloc _).trans k3).cell p0
    replace p1 := (((Keeps.refl _).alloc _).trans k3).cell p1
    replace hlp := lt_of_cell p0
    have cA0 : w3.cell? ⟨w2.heap.size, 0, none⟩ = some (.int .i64 x0) := k3.cell (by simp [go_sem])
    have dA0 : w3.cell? ⟨w2.heap.size, 1, none⟩ = some (.int .i64 y0) := k3.cell (by simp [go_sem])
    go_wp2_with fail
    refine (A1.out _ (kw.alloc _)).mono ?_
    rintro e w4 ⟨rfl, k4⟩
    replace kw := (kw.alloc _).trans k4
    replace g0 := (((Keeps.refl _).alloc _).trans k4).cell g0
    replace g1 := (((Keeps.refl _).alloc _).trans k4).cell g1
    replace g2 := (((Keeps.refl _).alloc _).trans k4).cell g2
    replace g3 := (((Keeps.refl _).alloc _).trans k4).cell g3
    replace g4 := (((Keeps.refl _).alloc _).trans k4).cell g4
    replace g5 := (((Keeps.refl _).alloc _).trans k4).cell g5
    replace hl0 := lt_of_cell g0
    replace p0 := (((Keeps.refl _).alloc _).trans k4).cell p0
    replace p1 := (((Keeps.refl _).alloc _).trans k4).cell p1
    replace hlp := lt_of_cell p0
    replace cA0 := (((Keeps.refl _).alloc _).trans k4).cell cA0
    replace dA0 := (((Keeps.refl _).alloc _).trans k4).cell dA0
    have cR0 : w4.cell? ⟨w3.heap.size, 0, none⟩ = some (.int .i64 x0) := k4.cell (by simp [go_sem])
    have dR0 : w4.cell? ⟨w3.heap.size, 1, none⟩ = some (.int .i64 y0) := k4.cell (by simp [go_sem])
    go_wp2_with fail
    refine (R1.out _ (kw.alloc _)).mono ?_
    rintro e w5 ⟨rfl, k5⟩
    replace kw := (kw.alloc _).trans k5
    replace g0 := (((Keeps.refl _).alloc _).trans k5).cell g0
    replace g1 := (((Keeps.refl _).alloc _).trans k5).cell g1
    replace g2 := (((Keeps.refl _).alloc _).trans k5).cell g2
    replace g3 := (((Keeps.refl _).alloc _).trans k5).cell g3
    replace g4 := (((Keeps.refl _).alloc _).trans k5).cell g4
    replace g5 := (((Keeps.refl _).alloc _).trans k5).cell g5
    replace hl0 := lt_of_cell g0
    replace p0 := (((Keeps.refl _).alloc _).trans k5).cell p0
    replace p1 := (((Keeps.refl _).alloc _).trans k5).cell p1
    replace hlp := lt_of_cell p0
    replace cA0 := (((Keeps.refl _).alloc _).trans k5).cell cA0
    replace dA0 := (((Keeps.refl _).alloc _).trans k5).cell dA0
    replace cR0 := (((Keeps.refl _).alloc _).trans k5).cell cR0
    replace dR0 := (((Keeps.refl _).alloc _).trans k5).cell dR0
    have cA1 : w5.cell? ⟨w4.heap.size, 0, none⟩ = some (.int .i64 x1) := k5.cell (by simp [go_sem])
    have dA1 : w5.cell? ⟨w4.heap.size, 1, none⟩ = some (.int .i64 y1) := k5.cell (by simp [go_sem])
    go_wp2_with fail
    refine (A2.out _ (kw.alloc _)).mono ?_
    rintro e w6 ⟨rfl, k6⟩
    replace kw := (kw.alloc _).trans k6
    replace g0 := (((Keeps.refl _).alloc _).trans k6).cell g0
    replace g1 := (((Keeps.refl _).alloc _).trans k6).cell g1
    replace g2 := (((Keeps.refl _).alloc _).trans k6).cell g2
    replace g3 := (((Keeps.refl _).alloc _).trans k6).cell g3
    replace g4 := (((Keeps.refl _).alloc _).trans k6).cell g4
    replace g5 := (((Keeps.refl _).alloc _).trans k6).cell g5
    replace hl0 := lt_of_cell g0
    replace p0 := (((Keeps.refl _).alloc _).trans k6).cell p0
    replace p1 := (((Keeps.refl _).alloc _).trans k6).cell p1
    replace hlp := lt_of_cell p0
    replace cA0 := (((Keeps.refl _).alloc _).trans k6).cell cA0
    replace dA0 := (((Keeps.refl _).alloc _).trans k6).cell dA0
    replace cR0 := (((Keeps.refl _).alloc _).trans k6).cell cR0
    replace dR0 := (((Keeps.refl _).alloc _).trans k6).cell dR0
    replace cA1 := (((Keeps.refl _).alloc _).trans k6).cell cA1
    replace dA1 := (((Keeps.refl _).alloc _).trans k6).cell dA1
    have cR1 : w6.cell? ⟨w5.heap.size, 0, none⟩ = some (.int .i64 x1) := k6.cell (by simp [go_sem])
    have dR1 : w6.cell? ⟨w5.heap.size, 1, none⟩ = some (.int .i64 y1) := k6.cell (by simp [go_sem])
    go_wp2_with fail
    refine (R2.out _ (kw.alloc _)).mono ?_
    rintro e w7 ⟨rfl, k7⟩
    replace kw := (kw.alloc _).trans k7
    replace g0 := (((Keeps.refl _).alloc _).trans k7).cell g0
    replace g1 := (((Keeps.refl _).alloc _).trans k7).cell g1
    replace g2 := (((Keeps.refl _).alloc _).trans k7).cell g2
    replace g3 := (((Keeps.refl _).alloc _).trans k7).cell g3
    replace g4 := (((Keeps.refl _).alloc _).trans k7).cell g4
    replace g5 := (((Keeps.refl _).alloc _).trans k7).cell g5
    replace hl0 := lt_of_cell g0
    replace p0 := (((Keeps.refl _).alloc _).trans k7).cell p0
    replace p1 := (((Keeps.refl _).alloc _).trans k7).cell p1
    replace hlp := lt_of_cell p0
    replace cA0 := (((Keeps.refl _).alloc _).trans k7).cell cA0
    replace dA0 := (((Keeps.refl _).alloc _).trans k7).cell dA0
    replace cR0 := (((Keeps.refl _).alloc _).trans k7).cell cR0
    replace dR0 := (((Keeps.refl _).alloc _).trans k7).cell dR0
    replace cA1 := (((Keeps.refl _).alloc _).trans k7).cell cA1
    replace dA1 := (((Keeps.refl _).alloc _).trans k7).cell dA1
    replace cR1 := (((Keeps.refl _).alloc _).trans k7).cell cR1
    replace dR1 := (((Keeps.refl _).alloc _).trans k7).cell dR1
    have cA2 : w7.cell? ⟨w6.heap.size, 0, none⟩ = some (.int .i64 x2) := k7.cell (by simp [go_sem])
    have dA2 : w7.cell? ⟨w6.heap.size, 1, none⟩ = some (.int .i64 y2) := k7.cell (by simp [go_sem])
    go_wp2_with fail
    refine (A3.out _ (kw.alloc _)).mono ?_
    rintro e w8 ⟨rfl, k8⟩
    replace kw := (kw.alloc _).trans k8
    replace g0 := (((Keeps.refl _).alloc _).trans k8).cell g0
    replace g1 := (((Keeps.refl _).alloc _).trans k8).cell g1
    replace g2 := (((Keeps.refl _).alloc _).trans k8).cell g2
    replace g3 := (((Keeps.refl _).alloc _).trans k8).cell g3
    replace g4 := (((Keeps.refl _).alloc _).trans k8).cell g4
    replace g5 := (((Keeps.refl _).alloc _).trans k8).cell g5
    replace hl0 := lt_of_cell g0
    replace p0 := (((Keeps.refl _).alloc _).trans k8).cell p0
    replace p1 := (((Keeps.refl _).alloc _).trans k8).cell p1
    replace hlp := lt_of_cell p0
    replace cA0 := (((Keeps.refl _).alloc _).trans k8).cell cA0
    replace dA0 := (((Keeps.refl _).alloc _).trans k8).cell dA0
    replace cR0 := (((Keeps.refl _).alloc _).trans k8).cell cR0
    replace dR0 := (((Keeps.refl _).alloc _).trans k8).cell dR0
    replace cA1 := (((Keeps.refl _).alloc _).trans k8).cell cA1
    replace dA1 := (((Keeps.refl _).alloc _).trans k8).cell dA1
    replace cR1 := (((Keeps.refl _).alloc _).trans k8).cell cR1
    replace dR1 := (((Keeps.refl _).alloc _).trans k8).cell dR1
    replace cA2 := (((Keeps.refl _).alloc _).trans k8).cell cA2
    replace dA2 := (((Keeps.refl _).alloc _).trans k8).cell dA2
    have cR2 : w8.cell? ⟨w7.heap.size, 0, none⟩ = some (.int .i64 x2) := k8.cell (by simp [go_sem])
    have dR2 : w8.cell? ⟨w7.heap.size, 1, none⟩ = some (.int .i64 y2) := k8.cell (by simp [go_sem])
    go_wp2_with fail
    refine (R3.out _ (kw.alloc _)).mono ?_
    rintro e w9 ⟨rfl, k9⟩
    replace kw := (kw.alloc _).trans k9
    replace g0 := (((Keeps.refl _).alloc _).trans k9).cell g0
    replace g1 := (((Keeps.refl _).alloc _).trans k9).cell g1
    replace g2 := (((Keeps.refl _).alloc _).trans k9).cell g2
    replace g3 := (((Keeps.refl _).alloc _).trans k9).cell g3
    replace g4 := (((Keeps.refl _).alloc _).trans k9).cell g4
    replace g5 := (((Keeps.refl _).alloc _).trans k9).cell g5
    replace hl0 := lt_of_cell g0
    replace p0 := (((Keeps.refl _).alloc _).trans k9).cell p0
    replace p1 := (((Keeps.refl _).alloc _).trans k9).cell p1
    replace hlp := lt_of_cell p0
    replace cA0 := (((Keeps.refl _).alloc _).trans k9).cell cA0
    replace dA0 := (((Keeps.refl _).alloc _).trans k9).cell dA0
    replace cR0 := (((Keeps.refl _).alloc _).trans k9).cell cR0
    replace dR0 := (((Keeps.refl _).alloc _).trans k9).cell dR0
    replace cA1 := (((Keeps.refl _).alloc _).trans k9).cell cA1
    replace dA1 := (((Keeps.refl _).alloc _).trans k9).cell dA1
    replace cR1 := (((Keeps.refl _).alloc _).trans k9).cell cR1
    replace dR1 := (((Keeps.refl _).alloc _).trans k9).cell dR1
    replace cA2 := (((Keeps.refl _).alloc _).trans k9).cell cA2
    replace dA2 := (((Keeps.refl _).alloc _).trans k9).cell dA2
    replace cR2 := (((Keeps.refl _).alloc _).trans k9).cell cR2
    replace dR2 := (((Keeps.refl _).alloc _).trans k9).cell dR2
    have cA3 : w9.cell? ⟨w8.heap.size, 0, none⟩ = some (.int .i64 x3) := k9.cell (by simp [go_sem])
    have dA3 : w9.cell? ⟨w8.heap.size, 1, none⟩ = some (.int .i64 y3) := k9.cell (by simp [go_sem])
    have cR3 : (w9.alloc (.cells #[.int .i64 x3, .int .i64 y3] 23)).cell? ⟨w9.heap.size, 0, none⟩ = some (.int .i64 x3) := by simp [go_sem]
    have dR3 : (w9.alloc (.cells #[.int .i64 x3, .int .i64 y3] 23)).cell? ⟨w9.heap.size, 1, none⟩ = some (.int .i64 y3) := by simp [go_sem]
    replace cA0 := ((Keeps.refl w9).alloc (.cells #[.int .i64 x3, .int .i64 y3] 23)).cell cA0
    replace dA0 := ((Keeps.refl w9).alloc (.cells #[.int .i64 x3, .int .i64 y3] 23)).cell dA0
    replace cR0 := ((Keeps.refl w9).alloc (.cells #[.int .i64 x3, .int .i64 y3] 23)).cell cR0
    replace dR0 := ((Keeps.refl w9).alloc (.cells #[.int .i64 x3, .int .i64 y3] 23)).cell dR0
    replace cA1 := ((Keeps.refl w9).alloc (.cells #[.int .i64 x3, .int .i64 y3] 23)).cell cA1
    replace dA1 := ((Keeps.refl w9).alloc (.cells #[.int .i64 x3, .int .i64 y3] 23)).cell dA1
    replace cR1 := ((Keeps.refl w9).alloc (.cells #[.int .i64 x3, .int .i64 y3] 23)).cell cR1
    replace dR1 := ((Keeps.refl w9).alloc (.cells #[.int .i64 x3, .int .i64 y3] 23)).cell dR1
    replace cA2 := ((Keeps.refl w9).alloc (.cells #[.int .i64 x3, .int .i64 y3] 23)).cell cA2
    replace dA2 := ((Keeps.refl w9).alloc (.cells #[.int .i64 x3, .int .i64 y3] 23)).cell dA2
    replace cR2 := ((Keeps.refl w9).alloc (.cells #[.int .i64 x3, .int .i64 y3] 23)).cell cR2
    replace dR2 := ((Keeps.refl w9).alloc (.cells #[.int .i64 x3, .int .i64 y3] 23)).cell dR2
    replace cA3 := ((Keeps.refl w9).alloc (.cells #[.int .i64 x3, .int .i64 y3] 23)).cell cA3
    replace dA3 := ((Keeps.refl w9).alloc (.cells #[.int .i64 x3, .int .i64 y3] 23)).cell dA3
    have lcA0 := lt_of_cell cA0
    have lcR0 := lt_of_cell cR0
    have lcA1 := lt_of_cell cA1
    have lcR1 := lt_of_cell cR1
    have lcA2 := lt_of_cell cA2
    have lcR2 := lt_of_cell cR2
    have lcA3 := lt_of_cell cA3
    have lcR3 := lt_of_cell cR3
    clear g0 g1 g2 g3 g4 g5 hl0
    go_wp2_with fail
    refine (AW.out _).mono ?_
    rintro e wa ⟨rfl, ka⟩
    go_wp2_with fail
    go_ret
    exact RetB.mk rfl ((kw.alloc _).trans ka)
end Go.Proofs.Ytmhpgjlegajpeaa
