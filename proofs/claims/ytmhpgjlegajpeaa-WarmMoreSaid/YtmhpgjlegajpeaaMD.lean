/-
  WarmMore walked, whole.
-/
import Derived.Test.YtmhpgjlegajpeaaMC
import Derived.Deep.DeepCutAuto
namespace Go.Proofs.Ytmhpgjlegajpeaa
open Go.RowKit

set_option maxRecDepth 100000 in
set_option maxHeartbeats 40000000 in
theorem wm_no (B : Wm) (ep eq ey ez wh wt at8 of16 : Int) (w : World) (hI : B.In w) (hf : B.fine = false) : Calls Try.prog 12 #[B.v, .agg #[.int .i64 ep, .int .i64 eq, .int .i64 ey, .int .i64 ez], .int .u8 wh, .int .u8 wt, .int .u8 at8, .int .u16 of16] w (RetB true w) := by
  have F1 := Lib.hid (fun w1 (k : Keeps w w1) => fine_any B w1 (hI.keep k))
  rw [hf] at F1
  have AW := Lib.hid (fun w1 => awake_any w1)
  have BX := Wm.Box.new B w
  obtain ⟨mark, llo, lhi, clo, chi, ra, rc, rs⟩ := B
  dsimp only [Wm.v] at *
  obtain ⟨W, hW⟩ : ∃ W, w.alloc (.cells #[.int .i64 mark, .int .i64 llo, .int .i64 lhi, .int .i64 clo, .int .i64 chi, .slice ra rs.length rc] 26) = W := ⟨_, rfl⟩
  have k0 : Keeps w W := by rw [← hW]; exact (Keeps.refl w).alloc _
  rw [hW] at BX
  obtain ⟨b0, hb0⟩ : ∃ b, w.heap.size = b := ⟨_, rfl⟩
  rw [hb0] at BX
  obtain ⟨V, hV⟩ : ∃ V, W.alloc (.cells #[.int .i64 ep, .int .i64 eq, .int .i64 ey, .int .i64 ez] 53) = V := ⟨_, rfl⟩
  obtain ⟨b7, hb7⟩ : ∃ b, W.heap.size = b := ⟨_, rfl⟩
  have k1 : Keeps W V := by rw [← hV]; exact (Keeps.refl W).alloc _
  have k01 := k0.trans k1
  have c0 : V.cell? ⟨b7, 0, none⟩ = some (.int .i64 ep) := by rw [← hV, ← hb7]; simp [go_sem]
  have c1 : V.cell? ⟨b7, 1, none⟩ = some (.int .i64 eq) := by rw [← hV, ← hb7]; simp [go_sem]
  have c2 : V.cell? ⟨b7, 2, none⟩ = some (.int .i64 ey) := by rw [← hV, ← hb7]; simp [go_sem]
  have c3 : V.cell? ⟨b7, 3, none⟩ = some (.int .i64 ez) := by rw [← hV, ← hb7]; simp [go_sem]
  replace BX := BX.keep k1
  have g0 := BX.c0
  have g1 := BX.c1
  have g2 := BX.c2
  have g3 := BX.c3
  have g4 := BX.c4
  have g5 := BX.c5
  dsimp only at g0 g1 g2 g3 g4 g5
  clear hI hf BX
  go_enter Try.func12, Try.ntmps12
  go_wp2_with fail
  refine (F1.out _ k01).mono ?_
  rintro e w1 ⟨rfl, k2⟩
  go_wp2_with fail
  refine (AW.out _).mono ?_
  rintro e w2 ⟨rfl, k3⟩
  go_wp2_with fail
  go_ret
  exact RetB.mk rfl ((k01.trans k2).trans k3)
set_option maxRecDepth 100000 in
set_option maxHeartbeats 40000000 in
theorem wm_yes (B : Wm) (ep eq ey ez wh wt at8 of16 : Int) (w : World) (hI : B.In w) (hf : B.fine = true) (h0 : 0 ≤ wh) (h1 : wh ≤ 255) (i0 : 0 ≤ wt) (a0 : 0 ≤ at8) (a1 : at8 ≤ 255) (f0 : 0 ≤ of16) (f1 : of16 ≤ 65535) : Calls Try.prog 12 #[B.v, .agg #[.int .i64 ep, .int .i64 eq, .int .i64 ey, .int .i64 ez], .int .u8 wh, .int .u8 wt, .int .u8 at8, .int .u16 of16] w (RetB true w) := by
  have hok := Wm.fine_ok hf
  have hl := (vWrs_at (Wm.ok_reads hok)).1
  have F1 := Lib.hid (fun w1 (k : Keeps w w1) => fine_any B w1 (hI.keep k))
  rw [hf] at F1
  have HI := Lib.hid hI
  have HOK := Lib.hid hok
  have BX := Wm.Box.new B w
  obtain ⟨mark, llo, lhi, clo, chi, ra, rc, rs⟩ := B
  dsimp only [Wm.v] at *
  obtain ⟨W, hW⟩ : ∃ W, w.alloc (.cells #[.int .i64 mark, .int .i64 llo, .int .i64 lhi, .int .i64 clo, .int .i64 chi, .slice ra rs.length rc] 26) = W := ⟨_, rfl⟩
  have k0 : Keeps w W := by rw [← hW]; exact (Keeps.refl w).alloc _
  rw [hW] at BX
  obtain ⟨b0, hb0⟩ : ∃ b, w.heap.size = b := ⟨_, rfl⟩
  rw [hb0] at BX
  obtain ⟨V, hV⟩ : ∃ V, W.alloc (.cells #[.int .i64 ep, .int .i64 eq, .int .i64 ey, .int .i64 ez] 53) = V := ⟨_, rfl⟩
  obtain ⟨b7, hb7⟩ : ∃ b, W.heap.size = b := ⟨_, rfl⟩
  have k1 : Keeps W V := by rw [← hV]; exact (Keeps.refl W).alloc _
  have k01 := k0.trans k1
  have c0 : V.cell? ⟨b7, 0, none⟩ = some (.int .i64 ep) := by rw [← hV, ← hb7]; simp [go_sem]
  have c1 : V.cell? ⟨b7, 1, none⟩ = some (.int .i64 eq) := by rw [← hV, ← hb7]; simp [go_sem]
  have c2 : V.cell? ⟨b7, 2, none⟩ = some (.int .i64 ey) := by rw [← hV, ← hb7]; simp [go_sem]
  have c3 : V.cell? ⟨b7, 3, none⟩ = some (.int .i64 ez) := by rw [← hV, ← hb7]; simp [go_sem]
  replace BX := BX.keep k1
  have g0 := BX.c0
  have g1 := BX.c1
  have g2 := BX.c2
  have g3 := BX.c3
  have g4 := BX.c4
  have g5 := BX.c5
  dsimp only at g0 g1 g2 g3 g4 g5
  clear hI hf hok
  go_enter Try.func12, Try.ntmps12
  go_wp2_with fail
  refine (F1.out _ k01).mono ?_
  rintro e w1 ⟨rfl, k2⟩
  have kk := k01.trans k2
  replace BX := BX.keep k2
  replace c0 := k2.cell c0
  replace c1 := k2.cell c1
  replace c2 := k2.cell c2
  replace c3 := k2.cell c3
  clear g0 g1 g2 g3 g4 g5
  have g5 := BX.c5
  dsimp only at g5
  have HB := Lib.hid BX
  clear k0 k1 k01 k2 hW hV F1 BX hb0 hb7
  go_upto_region 4 with fail
  refine wp_mo (c' := more_at 4) (by kernel_rfl) ?_
  refine more_4x mark llo lhi clo chi ra rc rs b0 w1 HB.out _ _ _ _ _ _ _ _ _ _ _ _ _ _ _ _ _ _ _ _ _ _ _ _ _ _ _ _ _ _ _ _ _ _ _ _ _ _ _ _ _ _ _ _ _ _ _ _ _ _ _ _ _ _ _ _ _ _ _ _ _ _ _ _ _ _ _ _ _ _ _ _ _ _ _ _ _ _ _ _ _ _ _ _ _ _ _ _ _ _ _ _ _ _ _ _ _ _ _ _ _ _ _ _ _ _ _ _ _ _ _ _ _ _ _ _ _ _ _ _ _ _ _ _ _ _ _ _ _ _ _ _ _ _ _ _ _ _ _ _ _ _ _ _ _ _ _ _ _ _ _ _ _ _ _ _ _ _ _ _ _ _ _ _ _ _ _ _ _ _ _ _ _ _ _ _ _ _ _ _ _ _ _ _ _ _ _ _ _ _ _ _ _ _ _ _ _ _ _ _ _ _ _ _ _ _ _ _ _ _ _ _ _ _ _ _ _ _ _ _ _ _ _ _ _ _ _ _ _ _ _ _ _ _ _ _ _ _ _ _ _ _ _ _ _ _ _ _ _ _ _ _ _ _ _ _ _ _ _ _ _ _ _ _ _ _ _ _ _ _ _ _ _ _ _ _ _ _ _ _ _ _ _ _ _ _ _ _ _ _ _ _ _ _ _ _ _ _ _ _ _ _ _ _ _ _ _ _ _ _ _ _ _ _ _ _ _ _ _ _ _ _ _ _ _ _ _ _ _ _ _ _ _ _ _ _ _ _ _ _ _ _ _ _ _ _ _ _ _ _ _ _ _ _ _ _ _ _ _ _ _ _ _ _ _ _ _ _ _ _ _ _ _ _ _ _ _ _ _ _ _ _ _ _ (Lib.hid fun w2 s1 s2 s3 y53 y54 y55 k2 hx hy hz n1 n2 n3 d12 d13 d23 => ?_)
  rename_i hK
  refine hK _ _ (wp_mo (c' := more_from 5) (by kernel_rfl) ?_)
  have hb := lt_of_cell g5
  have hsz := kk.size
  refine more_5 mark llo lhi clo chi ra rc rs b0 b7 s1 s2 s3 ep eq ey ez wh wt at8 of16 w w2 HOK.out HI.out (kk.trans k2) (HB.out.keep k2) hl h0 h1 i0 a0 a1 f0 f1 (k2.cell c0) (k2.cell c1) (k2.cell c2) (k2.cell c3) hx hy hz (by omega) (by omega) (by omega) (by omega) (by omega) (by omega) d12 d13 d23 _ _ _ _ _ _ _ _ _ _ _ _ _ _ _ _ _ _ _ _ _ _ _ _ _ _ _ _ _ _ _ _ _ _ _ _ _ _ _ _ _ _ _ _ _ _ _ _ _ _ _ _ _ _ _ _ _ _ _ _ _ _ _ _ _ _ _ _ _ _ _ _ _ _ _ _ _ _ _ _ _ _ _ _ _ _ _ _ _ _ _ _ _ _ _ _ _ _ _ _ _ _ _ _ _ _ _ _ _ _ _ _ _ _ _ _ _ _ _ _ _ _ _ _ _ _ _ _ _ _ _ _ _ _ _ _ _ _ _ _ _ _ _ _ _ _ _ _ _ _ _ _ _ _ _ _ _ _ _ _ _ _ _ _ _ _ _ _ _ _ _ _ _ _ _ _ _ _ _ _ _ _ _ _ _ _ _ _ _ _ _ _ _ _ _ _ _ _ _ _ _ _ _ _ _ _ _ _ _ _ _ _ _ _ _ _ _ _ _ _ _ _ _ _ _ _ _ _ _ _ _ _ _ _ _ _ _ _ _ _ _ _ _ _ _ _ _ _ _ _ _ _ _ _ _ _ _ _ _ _ _ _ _ _ _ _ _ _ _ _ _ _ _ _ _ _ _ _ _ _ _ _ _ _ _ _ _ _ _ _ _ _ _ _ _ _ _ _ _ _ _ _ _ _ _ _ _ _ _ _ _ _ _ _ _ _ _ _ _ _ _ _ _ _ _ _ _ _ _ _ _ _ _ _ _ _ _ _ _ _ _ _ _ _ _ _ _ _ _ _ _ _ _ _ _ _ _ _ _ _ _ _ _ _ _ _ _ _ _ _ _ _ _ _
theorem warmMore_any (B : Wm) (ep eq ey ez wh wt at8 of16 : Int) (w : World) (hI : B.In w) (h0 : 0 ≤ wh) (h1 : wh ≤ 255) (i0 : 0 ≤ wt) (a0 : 0 ≤ at8) (a1 : at8 ≤ 255) (f0 : 0 ≤ of16) (f1 : of16 ≤ 65535) : Calls Try.prog 12 #[B.v, .agg #[.int .i64 ep, .int .i64 eq, .int .i64 ey, .int .i64 ez], .int .u8 wh, .int .u8 wt, .int .u8 at8, .int .u16 of16] w (RetB true w) := by
  cases hf : B.fine with
  | true => exact wm_yes B ep eq ey ez wh wt at8 of16 w hI hf h0 h1 i0 a0 a1 f0 f1
  | false => exact wm_no B ep eq ey ez wh wt at8 of16 w hI hf
end Go.Proofs.Ytmhpgjlegajpeaa
