/-
  WARM: awake: results that the document fixes.
-/
import Derived.Test.YtmhpgjlegajpeaaE2
import Derived.Test.YtmhpgjlegajpeaaF1
import Derived.Test.YtmhpgjlegajpeaaR2
import Derived.Laws.StructEq
namespace Go.Proofs.Ytmhpgjlegajpeaa
open Go.RowKit

theorem aw_len (ra : Option Addr) (rc : Nat) : Wm.lenA ⟨50, -3, 3, 10, 12, ra, rc, [(1, 2, 52, 58), (0, 0, 2, 3)]⟩ = ((2, 3), 0) := by kernel_rfl
theorem aw_coeff (ra : Option Addr) (rc : Nat) : Wm.coeffA ⟨50, -3, 3, 10, 12, ra, rc, [(1, 2, 52, 58), (0, 0, 2, 3)]⟩ = ((10, 11), 0) := by kernel_rfl
theorem aw_held (ra : Option Addr) (rc : Nat) : Wm.heldA ⟨50, -3, 3, 10, 12, ra, rc, [(1, 2, 52, 58)]⟩ 0 = ((1, 1), 0) := by kernel_rfl
theorem aw_shows (ra : Option Addr) (rc : Nat) : Wm.showsA ⟨50, -3, 3, 10, 12, ra, rc, [(1, 2, 52, 58), (0, 0, 2, 3)]⟩ (-1) 1 = ((-53, 58), 0) := by kernel_rfl
theorem aw_room (ra : Option Addr) (rc : Nat) : Wm.roomA ⟨50, -3, 3, 10, 12, ra, rc, [(1, 2, 52, 58)]⟩ 60 = (1, 0) := by kernel_rfl
theorem aw_count (ra : Option Addr) (rc : Nat) : Wm.countA ⟨50, -3, 3, 10, 12, ra, rc, [(1, 2, 52, 58)]⟩ = (11, 0) := by kernel_rfl
theorem aw_next (ra : Option Addr) (rc : Nat) : Wm.nextA ⟨50, -3, 3, 10, 12, ra, rc, [(1, 2, 52, 58)]⟩ [0, 1] = ((0, 2), 0) := by kernel_rfl
theorem aw_clash (ra : Option Addr) (rc : Nat) : Wm.clashA ⟨50, -3, 3, 10, 12, ra, rc, [(1, 2, 52, 58), (0, 0, 2, 3), (2, 2, 115, 120)]⟩ = (6, 0) := by kernel_rfl

theorem aw_len_any (ra : Option Addr) (rc : Nat) (w : World) (hI : Wm.In ⟨50, -3, 3, 10, 12, ra, rc, [(1, 2, 52, 58), (0, 0, 2, 3)]⟩ w) : Calls Try.prog 15 #[Wm.v ⟨50, -3, 3, 10, 12, ra, rc, [(1, 2, 52, 58), (0, 0, 2, 3)]⟩] w (Ret (.tuple #[.agg #[.int .i64 2, .int .i64 3], .int .i64 0]) w) := by
  have h := Length_any ⟨50, -3, 3, 10, 12, ra, rc, [(1, 2, 52, 58), (0, 0, 2, 3)]⟩  w hI
  rw [aw_len] at h
  exact h
theorem aw_coeff_any (ra : Option Addr) (rc : Nat) (w : World) (hI : Wm.In ⟨50, -3, 3, 10, 12, ra, rc, [(1, 2, 52, 58), (0, 0, 2, 3)]⟩ w) : Calls Try.prog 17 #[Wm.v ⟨50, -3, 3, 10, 12, ra, rc, [(1, 2, 52, 58), (0, 0, 2, 3)]⟩] w (Ret (.tuple #[.agg #[.int .i64 10, .int .i64 11], .int .i64 0]) w) := by
  have h := Coeff_any ⟨50, -3, 3, 10, 12, ra, rc, [(1, 2, 52, 58), (0, 0, 2, 3)]⟩  w hI
  rw [aw_coeff] at h
  exact h
theorem aw_held_any (ra : Option Addr) (rc : Nat) (w : World) (hI : Wm.In ⟨50, -3, 3, 10, 12, ra, rc, [(1, 2, 52, 58)]⟩ w) : Calls Try.prog 19 #[Wm.v ⟨50, -3, 3, 10, 12, ra, rc, [(1, 2, 52, 58)]⟩, .int .i64 0] w (Ret (.tuple #[.agg #[.int .i64 1, .int .i64 1], .int .i64 0]) w) := by
  have h := Held_any ⟨50, -3, 3, 10, 12, ra, rc, [(1, 2, 52, 58)]⟩ 0 w hI
  rw [aw_held] at h
  exact h
theorem aw_shows_any (ra : Option Addr) (rc : Nat) (w : World) (hI : Wm.In ⟨50, -3, 3, 10, 12, ra, rc, [(1, 2, 52, 58), (0, 0, 2, 3)]⟩ w) : Calls Try.prog 21 #[Wm.v ⟨50, -3, 3, 10, 12, ra, rc, [(1, 2, 52, 58), (0, 0, 2, 3)]⟩, .agg #[.int .i64 (-1), .int .i64 1]] w (Ret (.tuple #[.agg #[.int .i64 (-53), .int .i64 58], .int .i64 0]) w) := by
  have h := Shows_any ⟨50, -3, 3, 10, 12, ra, rc, [(1, 2, 52, 58), (0, 0, 2, 3)]⟩ (-1) 1 w hI
  rw [aw_shows] at h
  exact h
theorem aw_room_any (ra : Option Addr) (rc : Nat) (w : World) (hI : Wm.In ⟨50, -3, 3, 10, 12, ra, rc, [(1, 2, 52, 58)]⟩ w) : Calls Try.prog 23 #[Wm.v ⟨50, -3, 3, 10, 12, ra, rc, [(1, 2, 52, 58)]⟩, .int .i64 60] w (Ret (.tuple #[.int .i64 1, .int .i64 0]) w) := by
  have h := Room_any ⟨50, -3, 3, 10, 12, ra, rc, [(1, 2, 52, 58)]⟩ 60 w hI
  rw [aw_room] at h
  exact h
theorem aw_count_any (ra : Option Addr) (rc : Nat) (w : World) (hI : Wm.In ⟨50, -3, 3, 10, 12, ra, rc, [(1, 2, 52, 58)]⟩ w) : Calls Try.prog 25 #[Wm.v ⟨50, -3, 3, 10, 12, ra, rc, [(1, 2, 52, 58)]⟩] w (Ret (.tuple #[.int .i64 11, .int .i64 0]) w) := by
  have h := Count_any ⟨50, -3, 3, 10, 12, ra, rc, [(1, 2, 52, 58)]⟩  w hI
  rw [aw_count] at h
  exact h
theorem aw_clash_any (ra : Option Addr) (rc : Nat) (w : World) (hI : Wm.In ⟨50, -3, 3, 10, 12, ra, rc, [(1, 2, 52, 58), (0, 0, 2, 3), (2, 2, 115, 120)]⟩ w) : Calls Try.prog 29 #[Wm.v ⟨50, -3, 3, 10, 12, ra, rc, [(1, 2, 52, 58), (0, 0, 2, 3), (2, 2, 115, 120)]⟩] w (Ret (.tuple #[.int .i64 6, .int .i64 0]) w) := by
  have h := Clash_any ⟨50, -3, 3, 10, 12, ra, rc, [(1, 2, 52, 58), (0, 0, 2, 3), (2, 2, 115, 120)]⟩  w hI
  rw [aw_clash] at h
  exact h
theorem aw_next_any (ra : Option Addr) (rc : Nat) (a : Option Addr) (cap : Nat) (w : World) (hI : Wm.In ⟨50, -3, 3, 10, 12, ra, rc, [(1, 2, 52, 58)]⟩ w) (hX : Ints w a [0, 1]) : Calls Try.prog 27 #[Wm.v ⟨50, -3, 3, 10, 12, ra, rc, [(1, 2, 52, 58)]⟩, .slice a 2 cap] w (Ret (.tuple #[.int .i64 0, .int .i64 2, .int .i64 0]) w) := by
  have h := Next_any ⟨50, -3, 3, 10, 12, ra, rc, [(1, 2, 52, 58)]⟩ [0, 1] a cap w hI hX (by simp [maxLen])
  rw [aw_next] at h
  exact h

set_option maxRecDepth 100000 in
set_option maxHeartbeats 6400000 in
theorem awake_any (w : World) : Calls Try.prog 14 #[] w (RetB true w) := by
  have S0 := Lib.hid (fun w1 => sample_0 w1)
  have S1 := Lib.hid (fun b w1 h0 h1 h2 h3 => sample_1 b 0 0 2 3 w1 h0 h1 h2 h3)
  have S2 := Lib.hid (fun b w1 h0 h1 h2 h3 h4 h5 h6 h7 => sample_2 b 0 0 2 3 2 2 115 120 w1 h0 h1 h2 h3 h4 h5 h6 h7)
  have RD := Lib.hid (fun a b c d w1 => reading_any a b c d w1)
  have SP := Lib.hid (fun a b w1 => lawSpan_any a b w1)
  have L1 := Lib.hid (fun ra rc w1 hI => aw_len_any ra rc w1 hI)
  have L2 := Lib.hid (fun ra rc w1 hI => aw_coeff_any ra rc w1 hI)
  have L3 := Lib.hid (fun ra rc w1 hI => aw_held_any ra rc w1 hI)
  have L4 := Lib.hid (fun ra rc w1 hI => aw_shows_any ra rc w1 hI)
  have L5 := Lib.hid (fun ra rc w1 hI => aw_room_any ra rc w1 hI)
  have L6 := Lib.hid (fun ra rc w1 hI => aw_count_any ra rc w1 hI)
  have L8 := Lib.hid (fun ra rc w1 hI => aw_clash_any ra rc w1 hI)
  have L7 := Lib.hid (fun ra rc a cap w1 hI hX => aw_next_any ra rc a cap w1 hI hX)
  dsimp only [Wm.v, List.length_cons, List.length_nil] at L1 L2 L3 L4 L5 L6 L7 L8 S0 S1 S2
  go_enter Try.func14, Try.ntmps14
  go_wp2_with fail
  refine (S0.out _).mono ?_
  rintro e w1 ⟨ra, rc, rfl, hI1, k1⟩
  go_wp2_with fail
  refine (RD.out _ _ _ _ _).mono ?_
  rintro e w2 ⟨rfl, k2⟩
  go_wp2_with fail
  refine (S1.out w2.heap.size _ (by simp [go_sem]) (by simp [go_sem]) (by simp [go_sem]) (by simp [go_sem])).mono ?_
  rintro e w3 ⟨ra2, rc2, rfl, hI2, k3⟩
  have kA := (k1.trans k2).trans (((Keeps.refl w2).alloc (.cells #[.int .i64 0, .int .i64 0, .int .i64 2, .int .i64 3] 53)).trans k3)
  replace hI1 := hI1.keep (k2.trans (((Keeps.refl w2).alloc (.cells #[.int .i64 0, .int .i64 0, .int .i64 2, .int .i64 3] 53)).trans k3))
  clear k1 k2 k3
  go_wp2_with fail
  obtain ⟨W, hW⟩ : ∃ W, (w3.alloc (.cells #[.int .i64 50, .int .i64 (-3), .int .i64 3, .int .i64 10, .int .i64 12, .slice ra 1 rc] 26)).alloc (.cells #[.int .i64 50, .int .i64 (-3), .int .i64 3, .int .i64 10, .int .i64 12, .slice ra2 2 rc2] 26) = W := ⟨_, rfl⟩
  have kW : Keeps w3 W := by rw [← hW]; exact ((Keeps.refl _).alloc _).alloc _
  obtain ⟨b1, hb1⟩ : ∃ b, w3.heap.size = b := ⟨_, rfl⟩
  obtain ⟨b2, hb2⟩ : ∃ b, w3.heap.size + 1 = b := ⟨_, rfl⟩
  have x0 : W.cell? ⟨b1, 0, none⟩ = some (.int .i64 50) := by rw [← hW, ← hb1]; simp [go_sem]
  have x1 : W.cell? ⟨b1, 1, none⟩ = some (.int .i64 (-3)) := by rw [← hW, ← hb1]; simp [go_sem]
  have x2 : W.cell? ⟨b1, 2, none⟩ = some (.int .i64 3) := by rw [← hW, ← hb1]; simp [go_sem]
  have x3 : W.cell? ⟨b1, 3, none⟩ = some (.int .i64 10) := by rw [← hW, ← hb1]; simp [go_sem]
  have x4 : W.cell? ⟨b1, 4, none⟩ = some (.int .i64 12) := by rw [← hW, ← hb1]; simp [go_sem]
  have x5 : W.cell? ⟨b1, 5, none⟩ = some (.slice ra 1 rc) := by rw [← hW, ← hb1]; simp [go_sem]
  have y0 : W.cell? ⟨b2, 0, none⟩ = some (.int .i64 50) := by rw [← hW, ← hb2]; simp [go_sem]
  have y1 : W.cell? ⟨b2, 1, none⟩ = some (.int .i64 (-3)) := by rw [← hW, ← hb2]; simp [go_sem]
  have y2 : W.cell? ⟨b2, 2, none⟩ = some (.int .i64 3) := by rw [← hW, ← hb2]; simp [go_sem]
  have y3 : W.cell? ⟨b2, 3, none⟩ = some (.int .i64 10) := by rw [← hW, ← hb2]; simp [go_sem]
  have y4 : W.cell? ⟨b2, 4, none⟩ = some (.int .i64 12) := by rw [← hW, ← hb2]; simp [go_sem]
  have y5 : W.cell? ⟨b2, 5, none⟩ = some (.slice ra2 2 rc2) := by rw [← hW, ← hb2]; simp [go_sem]
  rw [hb2, hb1, hW]
  replace hI1 := hI1.keep kW
  replace hI2 := hI2.keep kW
  replace kA := kA.trans kW
  clear hW kW hb1 hb2
  have hlx := lt_of_cell x0
  have hly := lt_of_cell y0
  refine (L1.out _ _ _ hI2).mono ?_
  rintro e v4 ⟨rfl, k4⟩
  have K4 := k4.trans ((Keeps.refl v4).alloc (.cells #[.int .i64 2, .int .i64 3] 23))
  obtain ⟨s4, hs4⟩ : ∃ b, v4.heap.size = b := ⟨_, rfl⟩
  have p4 : (v4.alloc (.cells #[.int .i64 2, .int .i64 3] 23)).cell? ⟨s4, 0, none⟩ = some (.int .i64 2) := by rw [← hs4]; simp [go_sem]
  have q4 : (v4.alloc (.cells #[.int .i64 2, .int .i64 3] 23)).cell? ⟨s4, 1, none⟩ = some (.int .i64 3) := by rw [← hs4]; simp [go_sem]
  replace x0 := K4.cell x0
  replace x1 := K4.cell x1
  replace x2 := K4.cell x2
  replace x3 := K4.cell x3
  replace x4 := K4.cell x4
  replace x5 := K4.cell x5
  replace y0 := K4.cell y0
  replace y1 := K4.cell y1
  replace y2 := K4.cell y2
  replace y3 := K4.cell y3
  replace y4 := K4.cell y4
  replace y5 := K4.cell y5
  replace hI1 := hI1.keep K4
  replace hI2 := hI2.keep K4
  replace kA := kA.trans K4
  replace hlx := lt_of_cell x0
  replace hly := lt_of_cell y0
  dsimp only [spV]
  go_wp2_with fail
  try rw [hs4]
  clear K4 k4 hs4
  refine (L2.out _ _ _ hI2).mono ?_
  rintro e v5 ⟨rfl, k5⟩
  have K5 := k5.trans ((Keeps.refl v5).alloc (.cells #[.int .i64 10, .int .i64 11] 23))
  obtain ⟨s5, hs5⟩ : ∃ b, v5.heap.size = b := ⟨_, rfl⟩
  have p5 : (v5.alloc (.cells #[.int .i64 10, .int .i64 11] 23)).cell? ⟨s5, 0, none⟩ = some (.int .i64 10) := by rw [← hs5]; simp [go_sem]
  have q5 : (v5.alloc (.cells #[.int .i64 10, .int .i64 11] 23)).cell? ⟨s5, 1, none⟩ = some (.int .i64 11) := by rw [← hs5]; simp [go_sem]
  replace x0 := K5.cell x0
  replace x1 := K5.cell x1
  replace x2 := K5.cell x2
  replace x3 := K5.cell x3
  replace x4 := K5.cell x4
  replace x5 := K5.cell x5
  replace y0 := K5.cell y0
  replace y1 := K5.cell y1
  replace y2 := K5.cell y2
  replace y3 := K5.cell y3
  replace y4 := K5.cell y4
  replace y5 := K5.cell y5
  replace p4 := K5.cell p4
  replace q4 := K5.cell q4
  replace hI1 := hI1.keep K5
  replace hI2 := hI2.keep K5
  replace kA := kA.trans K5
  replace hlx := lt_of_cell x0
  replace hly := lt_of_cell y0
  dsimp only [spV]
  go_wp2_with fail
  try rw [hs5]
  clear K5 k5 hs5
  refine (L3.out _ _ _ hI1).mono ?_
  rintro e v6 ⟨rfl, k6⟩
  have K6 := k6.trans ((Keeps.refl v6).alloc (.cells #[.int .i64 1, .int .i64 1] 23))
  obtain ⟨s6, hs6⟩ : ∃ b, v6.heap.size = b := ⟨_, rfl⟩
  have p6 : (v6.alloc (.cells #[.int .i64 1, .int .i64 1] 23)).cell? ⟨s6, 0, none⟩ = some (.int .i64 1) := by rw [← hs6]; simp [go_sem]
  have q6 : (v6.alloc (.cells #[.int .i64 1, .int .i64 1] 23)).cell? ⟨s6, 1, none⟩ = some (.int .i64 1) := by rw [← hs6]; simp [go_sem]
  replace x0 := K6.cell x0
  replace x1 := K6.cell x1
  replace x2 := K6.cell x2
  replace x3 := K6.cell x3
  replace x4 := K6.cell x4
  replace x5 := K6.cell x5
  replace y0 := K6.cell y0
  replace y1 := K6.cell y1
  replace y2 := K6.cell y2
  replace y3 := K6.cell y3
  replace y4 := K6.cell y4
  replace y5 := K6.cell y5
  replace p4 := K6.cell p4
  replace q4 := K6.cell q4
  replace p5 := K6.cell p5
  replace q5 := K6.cell q5
  replace hI1 := hI1.keep K6
  replace hI2 := hI2.keep K6
  replace kA := kA.trans K6
  replace hlx := lt_of_cell x0
  replace hly := lt_of_cell y0
  dsimp only [spV]
  go_wp2_with fail
  try rw [hs6]
  clear K6 k6 hs6
  rename_i K5 hK5
  generalize v6.alloc (.cells #[.int .i64 1, .int .i64 1] 23) = W5 at *
  have HK5 : ∀ (bA : Nat) (W' : World), Keeps W5 W' → W'.cell? ⟨bA, 0, none⟩ = some (.int .i64 (-53)) → W'.cell? ⟨bA, 1, none⟩ = some (.int .i64 58) → K5 { tmps := #[.bool false, .pointer (some ⟨b1, 0, none⟩), .pointer (some ⟨b2, 0, none⟩), .pointer (some ⟨s4, 0, none⟩), .int .i64 0, .pointer (some ⟨s5, 0, none⟩), .int .i64 0, .pointer (some ⟨s6, 0, none⟩), .int .i64 0, .pointer (some ⟨bA, 0, none⟩), .int .i64 0, undef, undef, undef, undef, undef, undef, undef, undef, undef, .agg #[.int .i64 50, .int .i64 (-3), .int .i64 3, .int .i64 10, .int .i64 12, .slice ra 1 rc], .agg #[.int .i64 0, .int .i64 0, .int .i64 2, .int .i64 3], .slice (some ⟨w2.heap.size, 0, none⟩) 1 1, .agg #[.int .i64 50, .int .i64 (-3), .int .i64 3, .int .i64 10, .int .i64 12, .slice ra2 2 rc2], .tuple #[.agg #[.int .i64 2, .int .i64 3], .int .i64 0], .agg #[.int .i64 50, .int .i64 (-3), .int .i64 3, .int .i64 10, .int .i64 12, .slice ra2 2 rc2], .tuple #[.agg #[.int .i64 2, .int .i64 3], .int .i64 0], .agg #[.int .i64 2, .int .i64 3], .int .i64 0, .tuple #[.agg #[.int .i64 10, .int .i64 11], .int .i64 0], .agg #[.int .i64 50, .int .i64 (-3), .int .i64 3, .int .i64 10, .int .i64 12, .slice ra2 2 rc2], .tuple #[.agg #[.int .i64 10, .int .i64 11], .int .i64 0], .agg #[.int .i64 10, .int .i64 11], .int .i64 0, .tuple #[.agg #[.int .i64 1, .int .i64 1], .int .i64 0], .agg #[.int .i64 50, .int .i64 (-3), .int .i64 3, .int .i64 10, .int .i64 12, .slice ra 1 rc], .tuple #[.agg #[.int .i64 1, .int .i64 1], .int .i64 0], .agg #[.int .i64 1, .int .i64 1], .int .i64 0, .tuple #[.agg #[.int .i64 (-53), .int .i64 58], .int .i64 0], .agg #[.int .i64 50, .int .i64 (-3), .int .i64 3, .int .i64 10, .int .i64 12, .slice ra2 2 rc2], .agg #[.int .i64 (-1), .int .i64 1], .tuple #[.agg #[.int .i64 (-53), .int .i64 58], .int .i64 0], .agg #[.int .i64 (-53), .int .i64 58], .int .i64 0, undef, undef, undef, undef, undef, undef, undef, undef, undef, undef, undef, undef, undef, undef, undef, undef, undef, undef, undef, undef, undef, undef, undef, undef, undef, undef, undef, undef, undef, undef, undef, undef, undef, undef, undef, undef, undef, undef, undef, undef, undef, undef, undef, undef, undef, undef, undef, undef, undef, undef, undef, undef, undef, undef, undef, undef, undef, undef, undef, undef, undef, undef, undef, undef, undef, undef, undef, undef, undef, undef, undef, undef, undef, undef, undef, undef, undef, undef, undef, undef, undef, undef, undef, undef, undef, undef, undef, undef, undef, undef, undef, undef, undef], defers := [] } W' := by
    intro bA W1 kB p9a q9a
    refine hK5 _ _ ?_
    clear hK5
    replace x0 := kB.cell x0
    replace x1 := kB.cell x1
    replace x2 := kB.cell x2
    replace x3 := kB.cell x3
    replace x4 := kB.cell x4
    replace x5 := kB.cell x5
    replace y0 := kB.cell y0
    replace y1 := kB.cell y1
    replace y2 := kB.cell y2
    replace y3 := kB.cell y3
    replace y4 := kB.cell y4
    replace y5 := kB.cell y5
    replace p4 := kB.cell p4
    replace q4 := kB.cell q4
    replace p5 := kB.cell p5
    replace q5 := kB.cell q5
    replace p6 := kB.cell p6
    replace q6 := kB.cell q6
    replace hI1 := hI1.keep kB
    replace hI2 := hI2.keep kB
    replace kA := kA.trans kB
    replace hlx := lt_of_cell x0
    replace hly := lt_of_cell y0
    have p9 := p9a
    have q9 := q9a
    clear p9a q9a kB
    go_wp2_with fail
    refine (L5.out _ _ _ hI1).mono ?_
    rintro e ug1 ⟨rfl, g1⟩
    replace x0 := g1.cell x0
    replace x1 := g1.cell x1
    replace x2 := g1.cell x2
    replace x3 := g1.cell x3
    replace x4 := g1.cell x4
    replace x5 := g1.cell x5
    replace y0 := g1.cell y0
    replace y1 := g1.cell y1
    replace y2 := g1.cell y2
    replace y3 := g1.cell y3
    replace y4 := g1.cell y4
    replace y5 := g1.cell y5
    replace p4 := g1.cell p4
    replace q4 := g1.cell q4
    replace p5 := g1.cell p5
    replace q5 := g1.cell q5
    replace p6 := g1.cell p6
    replace q6 := g1.cell q6
    replace p9 := g1.cell p9
    replace q9 := g1.cell q9
    replace hI1 := hI1.keep g1
    replace hI2 := hI2.keep g1
    replace kA := kA.trans g1
    replace hlx := lt_of_cell x0
    replace hly := lt_of_cell y0
    clear g1
    go_wp2_with fail
    refine (L6.out _ _ _ hI1).mono ?_
    rintro e ug2 ⟨rfl, g2⟩
    replace x0 := g2.cell x0
    replace x1 := g2.cell x1
    replace x2 := g2.cell x2
    replace x3 := g2.cell x3
    replace x4 := g2.cell x4
    replace x5 := g2.cell x5
    replace y0 := g2.cell y0
    replace y1 := g2.cell y1
    replace y2 := g2.cell y2
    replace y3 := g2.cell y3
    replace y4 := g2.cell y4
    replace y5 := g2.cell y5
    replace p4 := g2.cell p4
    replace q4 := g2.cell q4
    replace p5 := g2.cell p5
    replace q5 := g2.cell q5
    replace p6 := g2.cell p6
    replace q6 := g2.cell q6
    replace p9 := g2.cell p9
    replace q9 := g2.cell q9
    replace hI1 := hI1.keep g2
    replace hI2 := hI2.keep g2
    replace kA := kA.trans g2
    replace hlx := lt_of_cell x0
    replace hly := lt_of_cell y0
    clear g2
    go_wp2_with fail
    have kq := (Keeps.refl ug2).alloc (.cells #[.int .i64 0, .int .i64 1] 3)
    have hX : Ints (ug2.alloc (.cells #[.int .i64 0, .int .i64 1] 3)) (some ⟨ug2.heap.size, 0, none⟩) [0, 1] := by
      intro _
      refine ⟨_, _, rfl, fun i hi => ?_⟩
      rcases i with _ | _ | i
      · simp [go_sem]
      · simp [go_sem]
      · exact absurd hi (by simp)
    refine (L7.out _ _ _ _ _ (hI1.keep kq) hX).mono ?_
    rintro e ug3 ⟨rfl, g3⟩
    replace g3 := kq.trans g3
    clear kq hX
    replace x0 := g3.cell x0
    replace x1 := g3.cell x1
    replace x2 := g3.cell x2
    replace x3 := g3.cell x3
    replace x4 := g3.cell x4
    replace x5 := g3.cell x5
    replace y0 := g3.cell y0
    replace y1 := g3.cell y1
    replace y2 := g3.cell y2
    replace y3 := g3.cell y3
    replace y4 := g3.cell y4
    replace y5 := g3.cell y5
    replace p4 := g3.cell p4
    replace q4 := g3.cell q4
    replace p5 := g3.cell p5
    replace q5 := g3.cell q5
    replace p6 := g3.cell p6
    replace q6 := g3.cell q6
    replace p9 := g3.cell p9
    replace q9 := g3.cell q9
    replace hI1 := hI1.keep g3
    replace hI2 := hI2.keep g3
    replace kA := kA.trans g3
    replace hlx := lt_of_cell x0
    replace hly := lt_of_cell y0
    clear g3
    go_wp2_with fail
    refine (RD.out 0 0 2 3 _).mono ?_
    rintro e ug4 ⟨rfl, g4⟩
    go_wp2_with fail
    refine (RD.out 2 2 115 120 _).mono ?_
    rintro e ug5 ⟨rfl, g5⟩
    go_wp2_with fail
    refine (S2.out ug5.heap.size _ (by simp [go_sem]) (by simp [go_sem]) (by simp [go_sem]) (by simp [go_sem]) (by simp [go_sem]) (by simp [go_sem]) (by simp [go_sem]) (by simp [go_sem])).mono ?_
    rintro e ug6 ⟨ra3, rc3, rfl, hI3, g6⟩
    replace g6 := (g4.trans g5).trans (((Keeps.refl ug5).alloc _).trans g6)
    clear g4 g5
    go_wp2_with fail
    refine (L8.out _ _ _ hI3).mono ?_
    rintro e ug7 ⟨rfl, g7⟩
    replace g7 := g6.trans g7
    clear g6 hI3
    replace x0 := g7.cell x0
    replace x1 := g7.cell x1
    replace x2 := g7.cell x2
    replace x3 := g7.cell x3
    replace x4 := g7.cell x4
    replace x5 := g7.cell x5
    replace y0 := g7.cell y0
    replace y1 := g7.cell y1
    replace y2 := g7.cell y2
    replace y3 := g7.cell y3
    replace y4 := g7.cell y4
    replace y5 := g7.cell y5
    replace p4 := g7.cell p4
    replace q4 := g7.cell q4
    replace p5 := g7.cell p5
    replace q5 := g7.cell q5
    replace p6 := g7.cell p6
    replace q6 := g7.cell q6
    replace p9 := g7.cell p9
    replace q9 := g7.cell q9
    replace hI1 := hI1.keep g7
    replace hI2 := hI2.keep g7
    replace kA := kA.trans g7
    replace hlx := lt_of_cell x0
    replace hly := lt_of_cell y0
    clear g7
    go_wp2_with fail
    have hmx : Try.prog.follows .mixedOrders = true := by kernel_rfl
    haveI : Nonempty (Since ug7) := Since.some _
    have gd := guard_span
    have hfw : ∀ f, Fence.wide.fn f := fun _ => trivial
    have fp4 : ∀ q : Since ug7, q.W.cell? ⟨s4, 0, none⟩ = some (.int .i64 2) := fun q => q.keeps.cell p4
    have fq4 : ∀ q : Since ug7, q.W.cell? ⟨s4, 1, none⟩ = some (.int .i64 3) := fun q => q.keeps.cell q4
    have fn4 : ∀ w1, (binOp .neq 23 (.agg #[.int .i64 2, .int .i64 3]) (.agg #[.int .i64 2, .int .i64 3])).run Try.prog w1 = .ok (.bool false) w1 := fun w1 => neq_span _ _ _ _ w1
    have gn4 : ∀ (o1 o2 : Operand) (w1 : World), (eqGuard .neq 23 o1 o2 (.agg #[.int .i64 2, .int .i64 3]) (.agg #[.int .i64 2, .int .i64 3])).run Try.prog w1 = .ok () w1 := fun o1 o2 w1 => run_eqGuard_agg w1 .neq _ o1 o2 _ _ guard_span
    have fp5 : ∀ q : Since ug7, q.W.cell? ⟨s5, 0, none⟩ = some (.int .i64 10) := fun q => q.keeps.cell p5
    have fq5 : ∀ q : Since ug7, q.W.cell? ⟨s5, 1, none⟩ = some (.int .i64 11) := fun q => q.keeps.cell q5
    have fn5 : ∀ w1, (binOp .neq 23 (.agg #[.int .i64 10, .int .i64 11]) (.agg #[.int .i64 10, .int .i64 11])).run Try.prog w1 = .ok (.bool false) w1 := fun w1 => neq_span _ _ _ _ w1
    have gn5 : ∀ (o1 o2 : Operand) (w1 : World), (eqGuard .neq 23 o1 o2 (.agg #[.int .i64 10, .int .i64 11]) (.agg #[.int .i64 10, .int .i64 11])).run Try.prog w1 = .ok () w1 := fun o1 o2 w1 => run_eqGuard_agg w1 .neq _ o1 o2 _ _ guard_span
    have fp6 : ∀ q : Since ug7, q.W.cell? ⟨s6, 0, none⟩ = some (.int .i64 1) := fun q => q.keeps.cell p6
    have fq6 : ∀ q : Since ug7, q.W.cell? ⟨s6, 1, none⟩ = some (.int .i64 1) := fun q => q.keeps.cell q6
    have fn6 : ∀ w1, (binOp .neq 23 (.agg #[.int .i64 1, .int .i64 1]) (.agg #[.int .i64 1, .int .i64 1])).run Try.prog w1 = .ok (.bool false) w1 := fun w1 => neq_span _ _ _ _ w1
    have gn6 : ∀ (o1 o2 : Operand) (w1 : World), (eqGuard .neq 23 o1 o2 (.agg #[.int .i64 1, .int .i64 1]) (.agg #[.int .i64 1, .int .i64 1])).run Try.prog w1 = .ok () w1 := fun o1 o2 w1 => run_eqGuard_agg w1 .neq _ o1 o2 _ _ guard_span
    have fp9 : ∀ q : Since ug7, q.W.cell? ⟨bA, 0, none⟩ = some (.int .i64 (-53)) := fun q => q.keeps.cell p9
    have fq9 : ∀ q : Since ug7, q.W.cell? ⟨bA, 1, none⟩ = some (.int .i64 58) := fun q => q.keeps.cell q9
    have fn9 : ∀ w1, (binOp .neq 23 (.agg #[.int .i64 (-53), .int .i64 58]) (.agg #[.int .i64 (-53), .int .i64 58])).run Try.prog w1 = .ok (.bool false) w1 := fun w1 => neq_span _ _ _ _ w1
    have gn9 : ∀ (o1 o2 : Operand) (w1 : World), (eqGuard .neq 23 o1 o2 (.agg #[.int .i64 (-53), .int .i64 58]) (.agg #[.int .i64 (-53), .int .i64 58])).run Try.prog w1 = .ok () w1 := fun o1 o2 w1 => run_eqGuard_agg w1 .neq _ o1 o2 _ _ guard_span
    refine (wpIn_wide (n := 3)).1 (region_keep (F := Fence.wide) (fun w' => ∃ q : Since ug7, w' = q.W) ⟨⟨_, (Keeps.refl _).drew⟩, rfl⟩ (by kernel_rfl) hmx (by kernel_rfl) ?_)
    iterate 1 (gi_big_quiet_step (fail))
    gi_big_quiet_step ((gi_at_call 34; refine ((callsIn_wide (n := 2)).2 (SP.out (2) 3 _)).mono ?_; rintro e w' ⟨rfl, k⟩; exact ⟨rfl, ⟨⟨w', Keeps.trans (Since.keeps _) k⟩, rfl⟩⟩))
    iterate 7 (gi_big_quiet_step (fail))
    gi_big_quiet_step ((gi_at_call 34; refine ((callsIn_wide (n := 2)).2 (SP.out (10) 11 _)).mono ?_; rintro e w' ⟨rfl, k⟩; exact ⟨rfl, ⟨⟨w', Keeps.trans (Since.keeps _) k⟩, rfl⟩⟩))
    iterate 8 (gi_big_quiet_step (fail))
    gi_big_quiet_step ((gi_at_call 34; refine ((callsIn_wide (n := 2)).2 (SP.out (1) 1 _)).mono ?_; rintro e w' ⟨rfl, k⟩; exact ⟨rfl, ⟨⟨w', Keeps.trans (Since.keeps _) k⟩, rfl⟩⟩))
    iterate 8 (gi_big_quiet_step (fail))
    gi_big_quiet_step ((gi_at_call 34; refine ((callsIn_wide (n := 2)).2 (SP.out (-53) 58 _)).mono ?_; rintro e w' ⟨rfl, k⟩; exact ⟨rfl, ⟨⟨w', Keeps.trans (Since.keeps _) k⟩, rfl⟩⟩))
    iterate 6 (gi_big_quiet_step (fail))
    refine wpQuietIn_nil ?_
    rintro _ ⟨qz, rfl⟩
    have kz := qz.keeps
    clear fp4 fq4 fp5 fq5 fp6 fq6 fp9 fq9 fn4 fn5 fn6 fn9 gn4 gn5 gn6 gn9
    go_wp2_with fail
    go_ret
    exact RetB.mk (by rfl) (kA.trans kz)
  clear hK5
  have hmx : Try.prog.follows .mixedOrders = true := by kernel_rfl
  have H5 := Lib.hid HK5
  clear HK5
  haveI : Nonempty (Inw (fun w' => Keeps W5 w')) := ⟨⟨W5, Keeps.refl _⟩⟩
  have e0 : ∀ q : Inw (fun w' => Keeps W5 w'), q.W.cell? ⟨b2, 0, none⟩ = some (.int .i64 50) := fun q => q.h.cell y0
  have e1 : ∀ q : Inw (fun w' => Keeps W5 w'), q.W.cell? ⟨b2, 1, none⟩ = some (.int .i64 (-3)) := fun q => q.h.cell y1
  have e2 : ∀ q : Inw (fun w' => Keeps W5 w'), q.W.cell? ⟨b2, 2, none⟩ = some (.int .i64 3) := fun q => q.h.cell y2
  have e3 : ∀ q : Inw (fun w' => Keeps W5 w'), q.W.cell? ⟨b2, 3, none⟩ = some (.int .i64 10) := fun q => q.h.cell y3
  have e4 : ∀ q : Inw (fun w' => Keeps W5 w'), q.W.cell? ⟨b2, 4, none⟩ = some (.int .i64 12) := fun q => q.h.cell y4
  have e5 : ∀ q : Inw (fun w' => Keeps W5 w'), q.W.cell? ⟨b2, 5, none⟩ = some (.slice ra2 2 rc2) := fun q => q.h.cell y5
  have k5d := (Keeps.refl W5).drew
  have hQ5 : ∀ c (a a' : Act) (w' : World), a.defers = a'.defers → (Exit.then K5 (bodyPost Try.prog Try.f14 (RetB true w))) (.panic c) a w' → (Exit.then K5 (bodyPost Try.prog Try.f14 (RetB true w))) (.panic c) a' w' := fun _ _ _ _ hd h => ⟨hd.symm.trans h.1, h.2⟩
  refine (wpIn_wide (n := 3)).1 ?_
  refine cix_start hmx (fun w' => Keeps W5 w') ?_
  refine cix_quiet (m := 8) (CixOk.of (fun _ => trivial) hQ5 (by kernel_rfl)) [0] rfl (by kernel_rfl) k5d ?_
  show wpQuietIn _ _ _ _ _ _ [_] _
  gi_big_quiet_step (fail)
  refine wpQuietIn_nil ?_
  refine cix_two (m := 7) 1 _ 6 _ rfl rfl rfl (by kernel_rfl) ?_ ?_
  · show wpListIn _ _ _ _ _ [_] _ _
    gi_wp2_with fail
    rename_i hK
    refine ⟨trivial, ((callsIn_wide (n := 2)).2 (SP.out (-1) 1 _)).mono ?_⟩
    rintro e u1 ⟨rfl, k⟩
    have c1 := k5d.trans k
    refine hK _ _ (.inl ⟨rfl, c1, ?_⟩)
    clear hK k
    refine cix_two (m := 6) 2 _ 6 _ rfl rfl rfl (by kernel_rfl) ?_ ?_
    · show wpListIn _ _ _ _ _ [_] _ _
      gi_wp2_with fail
      rename_i hK
      refine ⟨trivial, ((callsIn_wide (n := 2)).2 (L4.out _ _ _ (hI2.keep c1))).mono ?_⟩
      rintro e u2 ⟨rfl, k⟩
      have c2 := c1.trans k
      refine hK _ _ (.inl ⟨rfl, c2, ?_⟩)
      clear hK k
      refine cix_quiet (m := 3) (CixOk.of (fun _ => trivial) hQ5 (by kernel_rfl)) [3, 4, 5] rfl (by kernel_rfl) c2 ?_
      show wpQuietIn _ _ _ _ _ _ [_, _, _] _
      iterate 3 (gi_big_quiet_step (fail))
      refine wpQuietIn_nil ?_
      refine cix_one (m := 2) 6 _ rfl rfl (by kernel_rfl) ?_
      show wpListIn _ _ _ _ _ [_] _ _
      gi_wp2_with fail
      obtain ⟨s, hs⟩ : ∃ s, u2.heap.size = s := ⟨_, rfl⟩
      obtain ⟨u3, hu3⟩ : ∃ v, u2.alloc (.cells #[.int .i64 0, .int .i64 0] 23) = v := ⟨_, rfl⟩
      have c3 : Keeps W5 u3 := by rw [← hu3]; exact c2.alloc _
      have a0 : u3.cell? ⟨s, 0, none⟩ = some (.int .i64 0) := by rw [← hu3, ← hs]; simp [go_sem]
      have a1 : u3.cell? ⟨s, 1, none⟩ = some (.int .i64 0) := by rw [← hu3, ← hs]; simp [go_sem]
      have z0 : u3.frozen? ⟨s, 0, none⟩ = false := by rw [← hu3, ← hs]; simp [go_sem]
      have z1 : u3.frozen? ⟨s, 1, none⟩ = false := by rw [← hu3, ← hs]; simp [go_sem]
      have hsz : W5.heap.size ≤ s := by rw [← hs]; exact c2.size
      rw [hu3, hs]
      clear hu3 hs
      refine ⟨c3, ?_⟩
      refine cix_one (m := 1) 7 _ rfl rfl (by kernel_rfl) ?_
      show wpListIn _ _ _ _ _ [_] _ _
      obtain ⟨r0, r1, _, _⟩ := two_set (X := u3) (b := s) (v0 := .int .i64 (-53)) (v1 := .int .i64 58) (by rw [a0]; rfl) (by rw [a1]; rfl)
      have kY : Keeps W5 ((u3.setCell ⟨s, 0, none⟩ (.int .i64 (-53))).setCell ⟨s, 1, none⟩ (.int .i64 58)) := (c3.setCell (p := ⟨s, 0, none⟩) _ hsz).setCell (p := ⟨s, 1, none⟩) _ hsz
      gi_wp2_with fail
      refine cix_one (m := 0) 8 _ rfl rfl (by kernel_rfl) ?_
      show wpListIn _ _ _ _ _ [_] _ _
      gi_wp2_with fail
      refine cix_done (by kernel_rfl) ?_ _
      exact H5.out s _ kY r0 r1
    · show wpListIn _ _ _ _ _ [_] _ _
      gi_wp2_with fail
      obtain ⟨s, hs⟩ : ∃ s, u1.heap.size = s := ⟨_, rfl⟩
      obtain ⟨u2, hu2⟩ : ∃ v, u1.alloc (.cells #[.int .i64 0, .int .i64 0] 23) = v := ⟨_, rfl⟩
      have c2 : Keeps W5 u2 := by rw [← hu2]; exact c1.alloc _
      have a0 : u2.cell? ⟨s, 0, none⟩ = some (.int .i64 0) := by rw [← hu2, ← hs]; simp [go_sem]
      have a1 : u2.cell? ⟨s, 1, none⟩ = some (.int .i64 0) := by rw [← hu2, ← hs]; simp [go_sem]
      have z0 : u2.frozen? ⟨s, 0, none⟩ = false := by rw [← hu2, ← hs]; simp [go_sem]
      have z1 : u2.frozen? ⟨s, 1, none⟩ = false := by rw [← hu2, ← hs]; simp [go_sem]
      have hsz : W5.heap.size ≤ s := by rw [← hs]; exact c1.size
      rw [hu2, hs]
      clear hu2 hs
      refine ⟨c2, ?_⟩
      refine cix_one (m := 5) 2 _ rfl rfl (by kernel_rfl) ?_
      show wpListIn _ _ _ _ _ [_] _ _
      gi_wp2_with fail
      rename_i hK
      refine ⟨trivial, ((callsIn_wide (n := 2)).2 (L4.out _ _ _ (hI2.keep c2))).mono ?_⟩
      rintro e u3 ⟨rfl, k⟩
      have c3 := c2.trans k
      have hss := lt_of_cell a0
      replace z0 := (k.cells.2 s 0 hss).trans z0
      replace z1 := (k.cells.2 s 1 hss).trans z1
      replace a0 := k.cell a0
      replace a1 := k.cell a1
      refine hK _ _ (.inl ⟨rfl, c3, ?_⟩)
      clear hK k
      refine cix_quiet (m := 2) (CixOk.of (fun _ => trivial) hQ5 (by kernel_rfl)) [3, 4, 5] rfl (by kernel_rfl) c3 ?_
      show wpQuietIn _ _ _ _ _ _ [_, _, _] _
      iterate 3 (gi_big_quiet_step (fail))
      refine wpQuietIn_nil ?_
      refine cix_one (m := 1) 7 _ rfl rfl (by kernel_rfl) ?_
      show wpListIn _ _ _ _ _ [_] _ _
      obtain ⟨r0, r1, _, _⟩ := two_set (X := u3) (b := s) (v0 := .int .i64 (-53)) (v1 := .int .i64 58) (by rw [a0]; rfl) (by rw [a1]; rfl)
      have kY : Keeps W5 ((u3.setCell ⟨s, 0, none⟩ (.int .i64 (-53))).setCell ⟨s, 1, none⟩ (.int .i64 58)) := (c3.setCell (p := ⟨s, 0, none⟩) _ hsz).setCell (p := ⟨s, 1, none⟩) _ hsz
      gi_wp2_with fail
      refine cix_one (m := 0) 8 _ rfl rfl (by kernel_rfl) ?_
      show wpListIn _ _ _ _ _ [_] _ _
      gi_wp2_with fail
      refine cix_done (by kernel_rfl) ?_ _
      exact H5.out s _ kY r0 r1
  · show wpListIn _ _ _ _ _ [_] _ _
    gi_wp2_with fail
    obtain ⟨s, hs⟩ : ∃ s, W5.heap.size = s := ⟨_, rfl⟩
    obtain ⟨u1, hu1⟩ : ∃ v, (W5.alloc (.cells #[.int .i64 0, .int .i64 0] 23)).drew = v := ⟨_, rfl⟩
    have c1 : Keeps W5 u1 := by rw [← hu1]; exact ((Keeps.refl W5).alloc _).drew
    have a0 : u1.cell? ⟨s, 0, none⟩ = some (.int .i64 0) := by rw [← hu1, ← hs]; simp [go_sem]
    have a1 : u1.cell? ⟨s, 1, none⟩ = some (.int .i64 0) := by rw [← hu1, ← hs]; simp [go_sem]
    have z0 : u1.frozen? ⟨s, 0, none⟩ = false := by rw [← hu1, ← hs]; simp [go_sem]
    have z1 : u1.frozen? ⟨s, 1, none⟩ = false := by rw [← hu1, ← hs]; simp [go_sem]
    have hsz : W5.heap.size ≤ s := by rw [← hs]; exact (Keeps.refl W5).size
    rw [hu1, hs]
    clear hu1 hs
    refine ⟨c1, ?_⟩
    refine cix_one (m := 6) 1 _ rfl rfl (by kernel_rfl) ?_
    show wpListIn _ _ _ _ _ [_] _ _
    gi_wp2_with fail
    rename_i hK
    refine ⟨trivial, ((callsIn_wide (n := 2)).2 (SP.out (-1) 1 _)).mono ?_⟩
    rintro e u2 ⟨rfl, k⟩
    have c2 := c1.trans k
    have hss := lt_of_cell a0
    replace z0 := (k.cells.2 s 0 hss).trans z0
    replace z1 := (k.cells.2 s 1 hss).trans z1
    replace a0 := k.cell a0
    replace a1 := k.cell a1
    refine hK _ _ (.inl ⟨rfl, c2, ?_⟩)
    clear hK k
    refine cix_one (m := 5) 2 _ rfl rfl (by kernel_rfl) ?_
    show wpListIn _ _ _ _ _ [_] _ _
    gi_wp2_with fail
    rename_i hK
    refine ⟨trivial, ((callsIn_wide (n := 2)).2 (L4.out _ _ _ (hI2.keep c2))).mono ?_⟩
    rintro e u3 ⟨rfl, k⟩
    have c3 := c2.trans k
    have hss := lt_of_cell a0
    replace z0 := (k.cells.2 s 0 hss).trans z0
    replace z1 := (k.cells.2 s 1 hss).trans z1
    replace a0 := k.cell a0
    replace a1 := k.cell a1
    refine hK _ _ (.inl ⟨rfl, c3, ?_⟩)
    clear hK k
    refine cix_quiet (m := 2) (CixOk.of (fun _ => trivial) hQ5 (by kernel_rfl)) [3, 4, 5] rfl (by kernel_rfl) c3 ?_
    show wpQuietIn _ _ _ _ _ _ [_, _, _] _
    iterate 3 (gi_big_quiet_step (fail))
    refine wpQuietIn_nil ?_
    refine cix_one (m := 1) 7 _ rfl rfl (by kernel_rfl) ?_
    show wpListIn _ _ _ _ _ [_] _ _
    obtain ⟨r0, r1, _, _⟩ := two_set (X := u3) (b := s) (v0 := .int .i64 (-53)) (v1 := .int .i64 58) (by rw [a0]; rfl) (by rw [a1]; rfl)
    have kY : Keeps W5 ((u3.setCell ⟨s, 0, none⟩ (.int .i64 (-53))).setCell ⟨s, 1, none⟩ (.int .i64 58)) := (c3.setCell (p := ⟨s, 0, none⟩) _ hsz).setCell (p := ⟨s, 1, none⟩) _ hsz
    gi_wp2_with fail
    refine cix_one (m := 0) 8 _ rfl rfl (by kernel_rfl) ?_
    show wpListIn _ _ _ _ _ [_] _ _
    gi_wp2_with fail
    refine cix_done (by kernel_rfl) ?_ _
    exact H5.out s _ kY r0 r1
end Go.Proofs.Ytmhpgjlegajpeaa
