/-
  FringeAsk, walked.
-/
import Derived.Test.YtgbojgachgodgaaTc
import Derived.Test.YtgbojgachgodgaaZn
namespace Go.Proofs.Ytgbojgachgodgaa
open Go.RowKit Go.Shelf

theorem enter_most (caps : Array Value) (w : World) : (callFunc 35 caps).run Try.prog w = .ok (.enter 35 caps) w := by kernel_rfl
set_option maxRecDepth 100000 in
set_option maxHeartbeats 1600000 in
theorem ask_long (F : Fr) (wh : Int) (w : World) (hI : F.In w) (h : F.long = true) : Calls Try.prog 9 #[F.v, .int .u8 wh] w (RetB true w) := by
  have AL := Lib.hid alive_any
  have LG := Lib.hid (fun w1 => long_any F w1 hI.wl hI.rl)
  rw [h] at LG
  obtain ⟨wa, wc, ws, lo, hi, ra, rc, rs⟩ := F
  dsimp only [Fr.v] at *
  clear h hI
  go_enter Try.func9, Try.ntmps9
  go_wp2_with fail
  refine (LG.out _).mono ?_
  rintro e w1 ⟨rfl, k1⟩
  go_wp2_with fail
  refine (AL.out _).mono ?_
  rintro e w2 ⟨rfl, k2⟩
  go_wp2_with fail
  go_ret
  exact ⟨rfl, (((Keeps.refl w).alloc _).trans k1).trans k2⟩
set_option maxRecDepth 100000 in
set_option maxHeartbeats 1600000 in
theorem ask_bad (F : Fr) (wh : Int) (w : World) (hI : F.In w) (h : F.long = false) (hok : F.ok = false) : Calls Try.prog 9 #[F.v, .int .u8 wh] w (RetB true w) := by
  have AL := Lib.hid alive_any
  have LG := Lib.hid (fun w1 => long_any F w1 hI.wl hI.rl)
  have RF := Lib.hid (fun w1 (k : Keeps w w1) => refFringe_any F w1 (hI.keep k))
  rw [h] at LG
  rw [hok] at RF
  obtain ⟨wa, wc, ws, lo, hi, ra, rc, rs⟩ := F
  dsimp only [Fr.v] at *
  clear h hI hok
  go_enter Try.func9, Try.ntmps9
  go_wp2_with fail
  have k := (Keeps.refl w).alloc (.cells #[.slice wa ws.length wc, .int .i64 lo, .int .i64 hi, .slice ra rs.length rc] 27)
  have hB := Fr.Box.new ⟨wa, wc, ws, lo, hi, ra, rc, rs⟩ w
  refine (LG.out _).mono ?_
  rintro e w1 ⟨rfl, k1⟩
  replace hB := hB.keep k1
  replace k := k.trans k1
  clear k1
  obtain ⟨g0, g1, g2, g3⟩ := hB
  dsimp only at g0 g1 g2 g3
  go_wp2_with fail
  refine (RF.out _ k).mono ?_
  rintro e w3 ⟨rfl, k1⟩
  replace k := k.trans k1
  clear k1
  go_wp2_with fail
  refine (AL.out _).mono ?_
  rintro e w5 ⟨rfl, k1⟩
  go_wp2_with fail
  go_ret
  exact ⟨rfl, k.trans k1⟩
set_option maxRecDepth 100000 in
set_option maxHeartbeats 1600000 in
theorem ask_full (F : Fr) (wh : Int) (w : World) (hI : F.In w) (hok : F.ok = true) (h6 : F.rs.length = 6) : Calls Try.prog 9 #[F.v, .int .u8 wh] w (RetB true w) := by
  have AL := Lib.hid alive_any
  have LG := Lib.hid (fun w1 => long_any F w1 hI.wl hI.rl)
  have RF := Lib.hid (fun w1 (k : Keeps w w1) => refFringe_any F w1 (hI.keep k))
  rw [F.short hok] at LG
  rw [hok] at RF
  obtain ⟨wa, wc, ws, lo, hi, ra, rc, rs⟩ := F
  dsimp only [Fr.v] at *
  have d6 : decide (6 ≤ (rs.length : Int)) = true := by simp; omega
  clear hI hok h6
  go_enter Try.func9, Try.ntmps9
  go_wp2_with fail
  have k := (Keeps.refl w).alloc (.cells #[.slice wa ws.length wc, .int .i64 lo, .int .i64 hi, .slice ra rs.length rc] 27)
  have hB := Fr.Box.new ⟨wa, wc, ws, lo, hi, ra, rc, rs⟩ w
  refine (LG.out _).mono ?_
  rintro e w1 ⟨rfl, k1⟩
  replace hB := hB.keep k1
  replace k := k.trans k1
  clear k1
  obtain ⟨g0, g1, g2, g3⟩ := hB
  dsimp only at g0 g1 g2 g3
  go_wp2_with fail
  refine (RF.out _ k).mono ?_
  rintro e w3 ⟨rfl, k1⟩
  replace g3 := k1.cell g3
  replace k := k.trans k1
  clear k1
  go_wp2_with fail
  refine (AL.out _).mono ?_
  rintro e w5 ⟨rfl, k1⟩
  go_wp2_with fail
  go_ret
  exact ⟨rfl, k.trans k1⟩
set_option maxRecDepth 100000 in
set_option maxHeartbeats 3200000 in
theorem ask_none (F : Fr) (wh : Int) (w : World) (hI : F.In w) (hok : F.ok = true) (h5 : F.rs.length ≤ 5) (ht : F.truths = []) : Calls Try.prog 9 #[F.v, .int .u8 wh] w (RetB true w) := by
  have AL := Lib.hid alive_any
  have LG := Lib.hid (fun w1 => long_any F w1 hI.wl hI.rl)
  have RF := Lib.hid (fun w1 (k : Keeps w w1) => refFringe_any F w1 (hI.keep k))
  have AK := Lib.hid (fun w1 (k : Keeps w w1) => Ask_any F w1 (hI.keep k))
  have CN := Lib.hid (fun w1 (k : Keeps w w1) => Count_any F w1 (hI.keep k))
  rw [F.short hok] at LG
  rw [hok] at RF
  rw [show askR F = ((0, 0), 10) by simp [askR, hok, ht]] at AK
  rw [show countR F = (0, 0) by simp [countR, hok, ht]] at CN
  dsimp only at AK CN
  obtain ⟨wa, wc, ws, lo, hi, ra, rc, rs⟩ := F
  dsimp only [Fr.v] at *
  have d6 : decide (6 ≤ (rs.length : Int)) = false := by simp; omega
  clear hI hok ht
  go_enter Try.func9, Try.ntmps9
  go_wp2_with fail
  have k := (Keeps.refl w).alloc (.cells #[.slice wa ws.length wc, .int .i64 lo, .int .i64 hi, .slice ra rs.length rc] 27)
  have hB := Fr.Box.new ⟨wa, wc, ws, lo, hi, ra, rc, rs⟩ w
  refine (LG.out _).mono ?_
  rintro e w1 ⟨rfl, k1⟩
  replace hB := hB.keep k1
  replace k := k.trans k1
  clear k1
  obtain ⟨g0, g1, g2, g3⟩ := hB
  dsimp only at g0 g1 g2 g3
  go_wp2_with fail
  refine (RF.out _ k).mono ?_
  rintro e w3 ⟨rfl, k1⟩
  replace g0 := k1.cell g0
  replace g1 := k1.cell g1
  replace g2 := k1.cell g2
  replace g3 := k1.cell g3
  replace k := k.trans k1
  clear k1
  go_wp2_with fail
  refine (AK.out _ k).mono ?_
  rintro e w4 ⟨rfl, k1⟩
  replace g0 := k1.cell g0
  replace g1 := k1.cell g1
  replace g2 := k1.cell g2
  replace g3 := k1.cell g3
  replace k := k.trans k1
  clear k1
  go_wp2_with fail
  refine (CN.out _ k).mono ?_
  rintro e w4 ⟨rfl, k1⟩
  replace k := k.trans k1
  clear k1
  go_wp2_with fail
  refine (AL.out _).mono ?_
  rintro e w5 ⟨rfl, k1⟩
  go_wp2_with fail
  go_ret
  exact ⟨rfl, k.trans k1⟩
end Go.Proofs.Ytgbojgachgodgaa
