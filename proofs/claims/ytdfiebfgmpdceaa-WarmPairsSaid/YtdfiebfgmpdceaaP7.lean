/-
  WarmPairs walked, whole.
-/
import Derived.Test.YtdfiebfgmpdceaaP5
import Derived.Test.YtdfiebfgmpdceaaP6
import Derived.Deep.DeepCutAuto
namespace Go.Proofs.Ytdfiebfgmpdceaa
open Go.RowKit

set_option maxRecDepth 100000 in
set_option maxHeartbeats 12800000 in
theorem wp_ok (B : Wm) (wh : Int) (w : World) (hI : B.In w) (hf : decide (40 < B.rs.length ∨ 40 < 0) = false) (hok : B.ok = true) (p0 : 0 ≤ wh) (p1 : wh ≤ 255) : Calls Try.prog 7 #[B.v, .int .u8 wh] w (RetB true w) := by
  have hmx : Try.prog.follows .mixedOrders = true := by kernel_rfl
  have hms : ∀ w, (Instr.makeSlice 35 (.int .i64 7) (.int .i64 7)).run Try.prog w = .ok (.slice (some ⟨w.heap.size, 0, none⟩) 7 7) (w.alloc (.cells (Array.replicate 7 (.int .i64 0)) 3)) := fun w => by kernel_rfl
  obtain ⟨m1, m2, l1, l2, l3, l4, c1, c2, c3, c4⟩ := Wm.ok_lim hok
  obtain ⟨hrl, hrw⟩ := vWrs_at (Wm.ok_reads hok)
  obtain ⟨i0, hi0, hz0, hz1, hz2⟩ := info_parts info_int
  have F1 := Lib.hid (fun w1 => far_any B none 0 0 w1 hI.rl (Nat.zero_le _))
  rw [hf] at F1
  have AW := Lib.hid (fun w1 => awake_any w1)
  have SP := Lib.hid (fun a b w1 => lawSpan_any a b w1)
  obtain ⟨N, hN⟩ : ∃ N : Nat, B.truths.length = N := ⟨_, rfl⟩
  have CN := Lib.hid (fun w1 (k : Keeps w w1) => show Calls Try.prog 25 #[B.v] w1 (Ret (.tuple #[.int .i64 (N : Int), .int .i64 0]) w1) from by have h := Count_any B w1 (hI.keep k); rw [show B.countA = ((B.truths.length : Int), 0) from by unfold Wm.countA; rw [if_pos hok], hN] at h; exact h)
  have RW := Lib.hid (fun w1 (k : Keeps w w1) => refWarm_any B w1 (hI.keep k))
  rw [hok] at RW
  have HL := Lib.hid (fun w1 (k : Keeps w w1) => show Calls Try.prog 19 #[B.v, .int .i64 B.rs.length] w1 (Ret (.tuple #[.agg #[.int .i64 0, .int .i64 0], .int .i64 2]) w1) from by have h := Held_any B B.rs.length w1 (hI.keep k); rw [held_long hok] at h; exact h)
  have SH0 := Lib.hid (fun w1 (k : Keeps w w1) => show Calls Try.prog 21 #[B.v, .agg #[.int .i64 (-101), .int .i64 0]] w1 (Ret (.tuple #[.agg #[.int .i64 0, .int .i64 0], .int .i64 2]) w1) from by have h := Shows_any B (-101) 0 w1 (hI.keep k); rw [shows_wide hok] at h; exact h)
  have RM := Lib.hid (fun w1 (k : Keeps w w1) => show Calls Try.prog 23 #[B.v, .int .i64 (-1)] w1 (Ret (.tuple #[.int .i64 0, .int .i64 2]) w1) from by have h := Room_any B (-1) w1 (hI.keep k); rw [room_less hok] at h; exact h)
  have NX7 := Lib.hid (fun S cap w1 (k : Keeps w w1) (hX : Ints w1 (some ⟨S, 0, none⟩) [0, 0, 0, 0, 0, 0, 0]) => show Calls Try.prog 27 #[B.v, .slice (some ⟨S, 0, none⟩) 7 cap] w1 (Ret (.tuple #[.int .i64 0, .int .i64 0, .int .i64 3]) w1) from by have h := Next_any B [0, 0, 0, 0, 0, 0, 0] (some ⟨S, 0, none⟩) cap w1 (hI.keep k) hX (by simp [maxLen]); rw [next_seven hok] at h; exact h)
  have NX0 := Lib.hid (fun w1 (k : Keeps w w1) => show Calls Try.prog 27 #[B.v, .slice none 0 0] w1 (Ret (.tuple #[.int .i64 0, .int .i64 0, .int .i64 2]) w1) from by have h := Next_any B [] none 0 w1 (hI.keep k) (fun h => absurd rfl h) (by simp [maxLen]); rw [next_none hok] at h; exact h)
  have HI := Lib.hid hI
  have HN := Lib.hid hN
  have HOK := Lib.hid hok
  have k0 := (Keeps.refl w).alloc (.cells #[.int .i64 B.mark, .int .i64 B.llo, .int .i64 B.lhi, .int .i64 B.clo, .int .i64 B.chi, .slice B.ra B.rs.length B.rc] 26)
  have BX := Wm.Box.new B w
  obtain ⟨mark, llo, lhi, clo, chi, ra, rc, rs⟩ := B
  obtain ⟨g0, g1, g2, g3, g4, g5⟩ := BX
  dsimp only [Wm.v, xB] at *
  obtain ⟨W, hW⟩ : ∃ W, w.alloc (.cells #[.int .i64 mark, .int .i64 llo, .int .i64 lhi, .int .i64 clo, .int .i64 chi, .slice ra rs.length rc] 26) = W := ⟨_, rfl⟩
  rw [hW] at k0 g0 g1 g2 g3 g4 g5
  obtain ⟨b0, hb0⟩ : ∃ b0, w.heap.size = b0 := ⟨_, rfl⟩
  rw [hb0] at g0 g1 g2 g3 g4 g5
  clear hI hf hok hrw hN
  go_enter Try.func7, Try.ntmps7
  go_wp2_with fail
  refine (F1.out _).mono ?_
  rintro e w1 ⟨rfl, k1⟩
  have kk := k0.trans k1
  replace g0 := k1.cell g0
  replace g1 := k1.cell g1
  replace g2 := k1.cell g2
  replace g3 := k1.cell g3
  replace g4 := k1.cell g4
  replace g5 := k1.cell g5
  clear k0 k1 hW
  go_wp2_with fail
  refine (CN.out _ kk).mono ?_
  rintro e w2 ⟨rfl, k1⟩
  replace g0 := k1.cell g0
  replace g1 := k1.cell g1
  replace g2 := k1.cell g2
  replace g3 := k1.cell g3
  replace g4 := k1.cell g4
  replace g5 := k1.cell g5
  replace kk := kk.trans k1
  clear k1
  go_wp2_with fail
  refine (RW.out _ kk).mono ?_
  rintro e w3 ⟨rfl, k1⟩
  replace g0 := k1.cell g0
  replace g1 := k1.cell g1
  replace g2 := k1.cell g2
  replace g3 := k1.cell g3
  replace g4 := k1.cell g4
  replace g5 := k1.cell g5
  replace kk := kk.trans k1
  clear k1
  go_wp2_with fail
  refine (HL.out _ kk).mono ?_
  rintro e w4 ⟨rfl, k1⟩
  replace g0 := k1.cell g0
  replace g1 := k1.cell g1
  replace g2 := k1.cell g2
  replace g3 := k1.cell g3
  replace g4 := k1.cell g4
  replace g5 := k1.cell g5
  replace kk := kk.trans k1
  go_upto_region 8 with fail
  obtain ⟨w5, hw5⟩ : ∃ x, w4.alloc (.cells #[.int .i64 0, .int .i64 0] 23) = x := ⟨_, rfl⟩
  have k5 : Keeps w4 w5 := by rw [← hw5]; exact (Keeps.refl _).alloc _
  replace kk := kk.trans k5
  replace g0 := k5.cell g0
  replace g1 := k5.cell g1
  replace g2 := k5.cell g2
  replace g3 := k5.cell g3
  replace g4 := k5.cell g4
  replace g5 := k5.cell g5
  rw [hw5]
  clear hw5 k5 k1
  go_cut [11, 12] (fun a b wx => Tell w5 0 0 2 a b wx)
  case first =>
    have k5d := (Keeps.refl w5).drew
    haveI : Nonempty (Inw (fun w' => Keeps w5 w')) := ⟨⟨w5, Keeps.refl _⟩⟩
    have e0 : ∀ q : Inw (fun w' => Keeps w5 w'), q.W.cell? ⟨b0, 0, none⟩ = some (.int .i64 mark) := fun q => q.h.cell g0
    have e1 : ∀ q : Inw (fun w' => Keeps w5 w'), q.W.cell? ⟨b0, 1, none⟩ = some (.int .i64 llo) := fun q => q.h.cell g1
    have e2 : ∀ q : Inw (fun w' => Keeps w5 w'), q.W.cell? ⟨b0, 2, none⟩ = some (.int .i64 lhi) := fun q => q.h.cell g2
    have e3 : ∀ q : Inw (fun w' => Keeps w5 w'), q.W.cell? ⟨b0, 3, none⟩ = some (.int .i64 clo) := fun q => q.h.cell g3
    have e4 : ∀ q : Inw (fun w' => Keeps w5 w'), q.W.cell? ⟨b0, 4, none⟩ = some (.int .i64 chi) := fun q => q.h.cell g4
    have e5 : ∀ q : Inw (fun w' => Keeps w5 w'), q.W.cell? ⟨b0, 5, none⟩ = some (.slice ra rs.length rc) := fun q => q.h.cell g5
    go_wp2_with fail
    refine (wpIn_wide (n := 3)).1 ?_
    refine cix_start hmx (fun w' => Keeps w5 w') ?_
    refine cix_quiet (m := 8) (CixOk.of (fun _ => trivial) (fun _ _ _ _ hd h => ⟨hd.symm.trans h.1, h.2⟩) (by kernel_rfl)) [0] rfl (by kernel_rfl) k5d ?_
    show wpQuietIn _ _ _ _ _ _ [_] _
    iterate 1 (gi_big_quiet_step (fail))
    refine wpQuietIn_nil ?_
    refine cix_two (m := 7) 1 _ 6 _ rfl rfl rfl (by kernel_rfl) ?_ ?_
    · show wpListIn _ _ _ _ _ [_] _ _
      gi_wp2_with fail
      rename_i hK
      refine ⟨trivial, ((callsIn_wide (n := 2)).2 (SP.out (-101) (0) _)).mono ?_⟩
      rintro e u1 ⟨rfl, k⟩
      have c1 := k5d.trans k
      refine hK _ _ (.inl ⟨rfl, c1, ?_⟩)
      clear hK k
      refine cix_two (m := 6) 2 _ 6 _ rfl rfl rfl (by kernel_rfl) ?_ ?_
      · show wpListIn _ _ _ _ _ [_] _ _
        gi_wp2_with fail
        rename_i hK
        refine ⟨trivial, ((callsIn_wide (n := 2)).2 (SH0.out _ (kk.trans c1))).mono ?_⟩
        rintro e u2 ⟨rfl, k⟩
        have c2 := c1.trans k
        refine hK _ _ (.inl ⟨rfl, c2, ?_⟩)
        clear hK k
        refine cix_quiet (m := 3) (CixOk.of (fun _ => trivial) (fun _ _ _ _ hd h => ⟨hd.symm.trans h.1, h.2⟩) (by kernel_rfl)) [3, 4, 5] rfl (by kernel_rfl) c2 ?_
        show wpQuietIn _ _ _ _ _ _ [_, _, _] _
        iterate 3 (gi_big_quiet_step (fail))
        refine wpQuietIn_nil ?_
        refine cix_one (m := 2) 6 _ rfl rfl (by kernel_rfl) ?_
        show wpListIn _ _ _ _ _ [_] _ _
        gi_wp2_with fail
        obtain ⟨s, hs⟩ : ∃ s, u2.heap.size = s := ⟨_, rfl⟩
        obtain ⟨u3, hu3⟩ : ∃ v, u2.alloc (.cells #[.int .i64 0, .int .i64 0] 23) = v := ⟨_, rfl⟩
        have c3 : Keeps w5 u3 := by rw [← hu3]; exact c2.alloc _
        have a0 : u3.cell? ⟨s, 0, none⟩ = some (.int .i64 0) := by rw [← hu3, ← hs]; simp [go_sem]
        have a1 : u3.cell? ⟨s, 1, none⟩ = some (.int .i64 0) := by rw [← hu3, ← hs]; simp [go_sem]
        have z0 : u3.frozen? ⟨s, 0, none⟩ = false := by rw [← hu3, ← hs]; simp [go_sem]
        have z1 : u3.frozen? ⟨s, 1, none⟩ = false := by rw [← hu3, ← hs]; simp [go_sem]
        have hsz : w5.heap.size ≤ s := by rw [← hs]; exact c2.size
        rw [hu3, hs]
        clear hu3 hs
        refine ⟨c3, ?_⟩
        refine cix_one (m := 1) 7 _ rfl rfl (by kernel_rfl) ?_
        show wpListIn _ _ _ _ _ [_] _ _
        have hT : TwoI u3 s 0 0 := ⟨a0, a1, z0, z1⟩
        have kY : Keeps w5 ((u3.setCell ⟨s, 0, none⟩ (.int .i64 0)).setCell ⟨s, 1, none⟩ (.int .i64 0)) := (c3.setCell (p := ⟨s, 0, none⟩) _ hsz).setCell (p := ⟨s, 1, none⟩) _ hsz
        have hT2 := (hT.set0 (0)).set1 (0)
        gi_wp2_with fail
        refine cix_one (m := 0) 8 _ rfl rfl (by kernel_rfl) ?_
        show wpListIn _ _ _ _ _ [_] _ _
        gi_wp2_with fail
        refine cix_done (by kernel_rfl) ?_ _
        go_wp2_with fail
        go_meet
        exact ⟨s, rfl, hsz, hT2, kY, rfl⟩
      · show wpListIn _ _ _ _ _ [_] _ _
        gi_wp2_with fail
        obtain ⟨s, hs⟩ : ∃ s, u1.heap.size = s := ⟨_, rfl⟩
        obtain ⟨u2, hu2⟩ : ∃ v, u1.alloc (.cells #[.int .i64 0, .int .i64 0] 23) = v := ⟨_, rfl⟩
        have c2 : Keeps w5 u2 := by rw [← hu2]; exact c1.alloc _
        have a0 : u2.cell? ⟨s, 0, none⟩ = some (.int .i64 0) := by rw [← hu2, ← hs]; simp [go_sem]
        have a1 : u2.cell? ⟨s, 1, none⟩ = some (.int .i64 0) := by rw [← hu2, ← hs]; simp [go_sem]
        have z0 : u2.frozen? ⟨s, 0, none⟩ = false := by rw [← hu2, ← hs]; simp [go_sem]
        have z1 : u2.frozen? ⟨s, 1, none⟩ = false := by rw [← hu2, ← hs]; simp [go_sem]
        have hsz : w5.heap.size ≤ s := by rw [← hs]; exact c1.size
        rw [hu2, hs]
        clear hu2 hs
        refine ⟨c2, ?_⟩
        refine cix_one (m := 5) 2 _ rfl rfl (by kernel_rfl) ?_
        show wpListIn _ _ _ _ _ [_] _ _
        gi_wp2_with fail
        rename_i hK
        refine ⟨trivial, ((callsIn_wide (n := 2)).2 (SH0.out _ (kk.trans c2))).mono ?_⟩
        rintro e u3 ⟨rfl, k⟩
        have c3 := c2.trans k
        have hss := lt_of_cell a0
        replace z0 := (k.cells.2 s 0 hss).trans z0
        replace z1 := (k.cells.2 s 1 hss).trans z1
        replace a0 := k.cell a0
        replace a1 := k.cell a1
        refine hK _ _ (.inl ⟨rfl, c3, ?_⟩)
        clear hK k
        refine cix_quiet (m := 2) (CixOk.of (fun _ => trivial) (fun _ _ _ _ hd h => ⟨hd.symm.trans h.1, h.2⟩) (by kernel_rfl)) [3, 4, 5] rfl (by kernel_rfl) c3 ?_
        show wpQuietIn _ _ _ _ _ _ [_, _, _] _
        iterate 3 (gi_big_quiet_step (fail))
        refine wpQuietIn_nil ?_
        refine cix_one (m := 1) 7 _ rfl rfl (by kernel_rfl) ?_
        show wpListIn _ _ _ _ _ [_] _ _
        have hT : TwoI u3 s 0 0 := ⟨a0, a1, z0, z1⟩
        have kY : Keeps w5 ((u3.setCell ⟨s, 0, none⟩ (.int .i64 0)).setCell ⟨s, 1, none⟩ (.int .i64 0)) := (c3.setCell (p := ⟨s, 0, none⟩) _ hsz).setCell (p := ⟨s, 1, none⟩) _ hsz
        have hT2 := (hT.set0 (0)).set1 (0)
        gi_wp2_with fail
        refine cix_one (m := 0) 8 _ rfl rfl (by kernel_rfl) ?_
        show wpListIn _ _ _ _ _ [_] _ _
        gi_wp2_with fail
        refine cix_done (by kernel_rfl) ?_ _
        go_wp2_with fail
        go_meet
        exact ⟨s, rfl, hsz, hT2, kY, rfl⟩
    · show wpListIn _ _ _ _ _ [_] _ _
      gi_wp2_with fail
      obtain ⟨s, hs⟩ : ∃ s, w5.heap.size = s := ⟨_, rfl⟩
      obtain ⟨u1, hu1⟩ : ∃ v, (w5.alloc (.cells #[.int .i64 0, .int .i64 0] 23)).drew = v := ⟨_, rfl⟩
      have c1 : Keeps w5 u1 := by rw [← hu1]; exact ((Keeps.refl w5).alloc _).drew
      have a0 : u1.cell? ⟨s, 0, none⟩ = some (.int .i64 0) := by rw [← hu1, ← hs]; simp [go_sem]
      have a1 : u1.cell? ⟨s, 1, none⟩ = some (.int .i64 0) := by rw [← hu1, ← hs]; simp [go_sem]
      have z0 : u1.frozen? ⟨s, 0, none⟩ = false := by rw [← hu1, ← hs]; simp [go_sem]
      have z1 : u1.frozen? ⟨s, 1, none⟩ = false := by rw [← hu1, ← hs]; simp [go_sem]
      have hsz : w5.heap.size ≤ s := by rw [← hs]; exact (Keeps.refl w5).size
      rw [hu1, hs]
      clear hu1 hs
      refine ⟨c1, ?_⟩
      refine cix_one (m := 6) 1 _ rfl rfl (by kernel_rfl) ?_
      show wpListIn _ _ _ _ _ [_] _ _
      gi_wp2_with fail
      rename_i hK
      refine ⟨trivial, ((callsIn_wide (n := 2)).2 (SP.out (-101) (0) _)).mono ?_⟩
      rintro e u2 ⟨rfl, k⟩
      have c2 := c1.trans k
      have hss := lt_of_cell a0
      replace z0 := (k.cells.2 s 0 hss).trans z0
      replace z1 := (k.cells.2 s 1 hss).trans z1
      replace a0 := k.cell a0
      replace a1 := k.cell a1
      refine hK _ _ (.inl ⟨rfl, c2, ?_⟩)
      clear hK k
      refine cix_one (m := 5) 2 _ rfl rfl (by kernel_rfl) ?_
      show wpListIn _ _ _ _ _ [_] _ _
      gi_wp2_with fail
      rename_i hK
      refine ⟨trivial, ((callsIn_wide (n := 2)).2 (SH0.out _ (kk.trans c2))).mono ?_⟩
      rintro e u3 ⟨rfl, k⟩
      have c3 := c2.trans k
      have hss := lt_of_cell a0
      replace z0 := (k.cells.2 s 0 hss).trans z0
      replace z1 := (k.cells.2 s 1 hss).trans z1
      replace a0 := k.cell a0
      replace a1 := k.cell a1
      refine hK _ _ (.inl ⟨rfl, c3, ?_⟩)
      clear hK k
      refine cix_quiet (m := 2) (CixOk.of (fun _ => trivial) (fun _ _ _ _ hd h => ⟨hd.symm.trans h.1, h.2⟩) (by kernel_rfl)) [3, 4, 5] rfl (by kernel_rfl) c3 ?_
      show wpQuietIn _ _ _ _ _ _ [_, _, _] _
      iterate 3 (gi_big_quiet_step (fail))
      refine wpQuietIn_nil ?_
      refine cix_one (m := 1) 7 _ rfl rfl (by kernel_rfl) ?_
      show wpListIn _ _ _ _ _ [_] _ _
      have hT : TwoI u3 s 0 0 := ⟨a0, a1, z0, z1⟩
      have kY : Keeps w5 ((u3.setCell ⟨s, 0, none⟩ (.int .i64 0)).setCell ⟨s, 1, none⟩ (.int .i64 0)) := (c3.setCell (p := ⟨s, 0, none⟩) _ hsz).setCell (p := ⟨s, 1, none⟩) _ hsz
      have hT2 := (hT.set0 (0)).set1 (0)
      gi_wp2_with fail
      refine cix_one (m := 0) 8 _ rfl rfl (by kernel_rfl) ?_
      show wpListIn _ _ _ _ _ [_] _ _
      gi_wp2_with fail
      refine cix_done (by kernel_rfl) ?_ _
      go_wp2_with fail
      go_meet
      exact ⟨s, rfl, hsz, hT2, kY, rfl⟩
  case rest =>
    obtain ⟨s6, rfl, hs6, hT6, kc, rfl⟩ := hcut
    obtain ⟨z6, hz6⟩ : ∃ W : World, W = wc := ⟨_, rfl⟩
    cases hz6
    rename_i hK
    refine hK _ _ ?_
    clear hK
    replace kk := kk.trans kc
    replace g0 := kc.cell g0
    replace g1 := kc.cell g1
    replace g2 := kc.cell g2
    replace g3 := kc.cell g3
    replace g4 := kc.cell g4
    replace g5 := kc.cell g5
    clear kc hT6 hs6
    go_wp2_with fail
    refine (RM.out _ kk).mono ?_
    rintro e w7 ⟨rfl, k1⟩
    replace g0 := k1.cell g0
    replace g1 := k1.cell g1
    replace g2 := k1.cell g2
    replace g3 := k1.cell g3
    replace g4 := k1.cell g4
    replace g5 := k1.cell g5
    replace kk := kk.trans k1
    clear k1
    go_wp2_with fail
    have k7d := (Keeps.refl w7).drew
    haveI : Nonempty (Inw (fun w' => Keeps w7 w')) := ⟨⟨w7, Keeps.refl _⟩⟩
    have e0 : ∀ q : Inw (fun w' => Keeps w7 w'), q.W.cell? ⟨b0, 0, none⟩ = some (.int .i64 mark) := fun q => q.h.cell g0
    have e1 : ∀ q : Inw (fun w' => Keeps w7 w'), q.W.cell? ⟨b0, 1, none⟩ = some (.int .i64 llo) := fun q => q.h.cell g1
    have e2 : ∀ q : Inw (fun w' => Keeps w7 w'), q.W.cell? ⟨b0, 2, none⟩ = some (.int .i64 lhi) := fun q => q.h.cell g2
    have e3 : ∀ q : Inw (fun w' => Keeps w7 w'), q.W.cell? ⟨b0, 3, none⟩ = some (.int .i64 clo) := fun q => q.h.cell g3
    have e4 : ∀ q : Inw (fun w' => Keeps w7 w'), q.W.cell? ⟨b0, 4, none⟩ = some (.int .i64 chi) := fun q => q.h.cell g4
    have e5 : ∀ q : Inw (fun w' => Keeps w7 w'), q.W.cell? ⟨b0, 5, none⟩ = some (.slice ra rs.length rc) := fun q => q.h.cell g5
    refine (wpIn_wide (n := 3)).1 ?_
    refine cix_start hmx (fun w' => Keeps w7 w') ?_
    refine cix_quiet (m := 9) (CixOk.of (fun _ => trivial) (fun _ _ _ _ hd h => ⟨hd.symm.trans h.1, h.2⟩) (by kernel_rfl)) [0] rfl (by kernel_rfl) k7d ?_
    show wpQuietIn _ _ _ _ _ _ [_] _
    iterate 1 (gi_big_quiet_step (fail))
    refine wpQuietIn_nil ?_
    clear e0 e1 e2 e3 e4 e5
    refine cix_one (m := 8) 1 _ rfl rfl (by kernel_rfl) ?_
    show wpListIn _ _ _ _ _ [_] _ _
    gi_wp2_with fail
    obtain ⟨S7, hS7⟩ : ∃ x, w7.heap.size = x := ⟨_, rfl⟩
    obtain ⟨z8, hz8⟩ : ∃ x, (w7.alloc (.cells (Array.replicate 7 (.int .i64 0)) 3)).drew = x := ⟨_, rfl⟩
    have k8 : Keeps w7 z8 := by rw [← hz8]; exact ((Keeps.refl w7).alloc _).drew
    have X7 : Ints z8 (some ⟨S7, 0, none⟩) [0, 0, 0, 0, 0, 0, 0] := fun _ => ⟨S7, 0, rfl, fun i hi => by
      rw [← hz8, ← hS7]
      match i, hi with
      | 0, _ => simp [go_sem]
      | 1, _ => simp [go_sem]
      | 2, _ => simp [go_sem]
      | 3, _ => simp [go_sem]
      | 4, _ => simp [go_sem]
      | 5, _ => simp [go_sem]
      | 6, _ => simp [go_sem]
      | n + 7, h => simp at h; omega⟩
    have N7 := Lib.hid (NX7.out S7 7 z8 (kk.trans k8) X7)
    rw [hz8, hS7]
    clear hz8 hS7 X7
    refine ⟨k8, ?_⟩
    refine cix_one (m := 7) 2 _ rfl rfl (by kernel_rfl) ?_
    show wpListIn _ _ _ _ _ [_] _ _
    gi_wp2_with fail
    rename_i hK
    refine ⟨trivial, ((callsIn_wide (n := 2)).2 N7.out).mono ?_⟩
    rintro e z9 ⟨rfl, k⟩
    replace k8 := k8.trans k
    refine hK _ _ (.inl ⟨rfl, k8, ?_⟩)
    clear hK k
    refine cix_quiet (m := 3) (CixOk.of (fun _ => trivial) (fun _ _ _ _ hd h => ⟨hd.symm.trans h.1, h.2⟩) (by kernel_rfl)) [3, 4, 5, 6] rfl (by kernel_rfl) k8 ?_
    show wpQuietIn _ _ _ _ _ _ [_, _, _, _] _
    iterate 4 (gi_big_quiet_step (fail))
    refine wpQuietIn_nil ?_
    refine cix_one (m := 2) 7 _ rfl rfl (by kernel_rfl) ?_
    show wpListIn _ _ _ _ _ [_] _ _
    gi_wp2_with fail
    refine cix_one (m := 1) 8 _ rfl rfl (by kernel_rfl) ?_
    show wpListIn _ _ _ _ _ [_] _ _
    gi_wp2_with fail
    refine cix_one (m := 0) 9 _ rfl rfl (by kernel_rfl) ?_
    show wpListIn _ _ _ _ _ [_] _ _
    gi_wp2_with fail
    refine cix_done (by kernel_rfl) ?_ _
    replace g0 := k8.cell g0
    replace g1 := k8.cell g1
    replace g2 := k8.cell g2
    replace g3 := k8.cell g3
    replace g4 := k8.cell g4
    replace g5 := k8.cell g5
    replace kk := kk.trans k8
    clear k8 k7d N7 NX7 SH0 HL RM
    go_wp2_with fail
    refine (NX0.out _ kk).mono ?_
    rintro e wL ⟨rfl, k1⟩
    replace g0 := k1.cell g0
    replace g1 := k1.cell g1
    replace g2 := k1.cell g2
    replace g3 := k1.cell g3
    replace g4 := k1.cell g4
    replace g5 := k1.cell g5
    replace kk := kk.trans k1
    clear k1 NX0
    go_upto_region 16 with fail
    go_cut [25] (fun a wx => a = .int .i64 0 ∧ wx = wL)
    case first =>
      go_wp2_with fail
      go_meet
      exact ⟨rfl, rfl⟩
    case rest =>
      obtain ⟨rfl, rfl⟩ := hcut
      rename_i hK
      refine hK _ _ (wp_on (c' := pairs_two 17) (by kernel_rfl) ?_)
      rcases Nat.eq_zero_or_pos rs.length with hre | hre
      · obtain rfl : rs = [] := List.length_eq_zero_iff.1 hre
        exact pairs_17n mark llo lhi clo chi ra rc b0 N wh w _ HOK.out HI.out kk ⟨g0, g1, g2, g3, g4, g5⟩ HN.out.symm _ _ _ _ _ _ _ _ _ _ _ _ _ _ _ _ _ _ _ _ _ _ _ _ _ _ _ _ _ _ _ _ _ _ _ _ _ _ _ _ _ _ _ _ _ _ _ _ _ _ _ _ _ _ _ _ _ _ _ _ _ _ _ _ _ _ _ _ _ _ _ _ _ _ _ _ _ _ _ _ _ _ _ _ _ _ _ _ _ _ _ _ _ _ _ _ _ _ _ _ _ _ _ _ _ _ _ _ _ _ _ _ _ _ _ _ _ _ _ _ _ _ _ _ _ _ _ _ _ _ _ _ _ _ _ _ _ _ _ _ _ _ _ _ _ _ _ _ _ _ _ _ _ _ _ _ _ _ _ _ _ _ _ _ _ _ _ _ _ _ _ _ _ _ _ _ _ _ _ _ _ _ _ _ _ _ _ _ _ _ _ _ _ _ _ _ _ _ _ _ _ _ _ _ _ _ _ _ _ _ _ _ _ _ _ _ _ _ _ _ _ _ _ _ _ _ _ _ _ _ _ _ _ _ _ _ _ _ _ _ _ _ _ _ _ _ _ _ _ _ _ _ _ _ _ _ _ _ _ _ _ _ _ _ _ _ _ _ _ _ _ _ _ _ _ _ _ _ _ _ _ _ _ _ _ _ _ _ _ _ _ _ _ _ _ _ _ _ _ _ _ _ _ _ _ _ _ _ _ _ _ _ _ _ _ _ _ _
      · obtain ⟨rb, ro, rfl, _⟩ := HI.out.rds (fun e => by dsimp only at e; rw [e] at hre; cases hre)
        obtain ⟨num, hnum⟩ : ∃ n : Nat, wh % (rs.length : Int) = n := Int.eq_ofNat_of_zero_le (Int.emod_nonneg _ (by omega))
        have hnl : num < rs.length := by have := Int.emod_lt_of_pos wh (show (0 : Int) < rs.length by omega); omega
        obtain ⟨⟨rp, rq, ry, rz⟩, hrr⟩ : ∃ r : Wr, rs[num]?.getD (0, 0, 0, 0) = r := ⟨_, rfl⟩
        exact pairs_17y mark llo lhi clo chi rb ro rc rs b0 N num rp rq ry rz wh w _ HOK.out HI.out kk ⟨g0, g1, g2, g3, g4, g5⟩ HN.out.symm hnl hrr hnum p0 p1 _ _ _ _ _ _ _ _ _ _ _ _ _ _ _ _ _ _ _ _ _ _ _ _ _ _ _ _ _ _ _ _ _ _ _ _ _ _ _ _ _ _ _ _ _ _ _ _ _ _ _ _ _ _ _ _ _ _ _ _ _ _ _ _ _ _ _ _ _ _ _ _ _ _ _ _ _ _ _ _ _ _ _ _ _ _ _ _ _ _ _ _ _ _ _ _ _ _ _ _ _ _ _ _ _ _ _ _ _ _ _ _ _ _ _ _ _ _ _ _ _ _ _ _ _ _ _ _ _ _ _ _ _ _ _ _ _ _ _ _ _ _ _ _ _ _ _ _ _ _ _ _ _ _ _ _ _ _ _ _ _ _ _ _ _ _ _ _ _ _ _ _ _ _ _ _ _ _ _ _ _ _ _ _ _ _ _ _ _ _ _ _ _ _ _ _ _ _ _ _ _ _ _ _ _ _ _ _ _ _ _ _ _ _ _ _ _ _ _ _ _ _ _ _ _ _ _ _ _ _ _ _ _ _ _ _ _ _ _ _ _ _ _ _ _ _ _ _ _ _ _ _ _ _ _ _ _ _ _ _ _ _ _ _ _ _ _ _ _ _ _ _ _ _ _ _ _ _ _ _ _ _ _ _ _ _ _ _ _ _ _ _ _ _ _ _ _ _ _ _ _ _ _ _ _ _ _ _ _ _ _ _ _ _ _ _ _ _
theorem warmPairs_any (B : Wm) (wh : Int) (w : World) (hI : B.In w) (p0 : 0 ≤ wh) (p1 : wh ≤ 255) : Calls Try.prog 7 #[B.v, .int .u8 wh] w (RetB true w) := by
  cases hf : decide (40 < B.rs.length ∨ 40 < 0) with
  | true => exact wp_far B wh w hI hf
  | false =>
    cases hok : B.ok with
    | false => exact wp_bad B wh w hI hf hok
    | true => exact wp_ok B wh w hI hf hok p0 p1
end Go.Proofs.Ytdfiebfgmpdceaa
