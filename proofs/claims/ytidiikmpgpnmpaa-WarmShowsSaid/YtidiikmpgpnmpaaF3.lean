/-
  WARM, the laws' own small functions: far, fine.
-/
import Derived.Test.YtidiikmpgpnmpaaF2
namespace Go.Proofs.Ytidiikmpgpnmpaa
open Go.RowKit

set_option maxHeartbeats 800000 in
theorem far_any (B : Wm) (a : Option Addr) (n cap : Nat) (w : World) (hr : B.rs.length ≤ maxLen) (hn : n ≤ maxLen) : Calls Try.prog 13 #[B.v, .slice a n cap] w (RetB (decide (40 < B.rs.length ∨ 40 < n)) w) := by
  unfold maxLen at hr hn
  obtain ⟨mark, llo, lhi, clo, chi, ra, rc, rs⟩ := B
  dsimp only [Wm.v] at *
  have k0 := (Keeps.refl w).alloc (.cells #[.int .i64 mark, .int .i64 llo, .int .i64 lhi, .int .i64 clo, .int .i64 chi, .slice ra rs.length rc] 26)
  go_enter Try.func13, Try.ntmps13
  go_wp2
  all_goals go_ret
  all_goals exact RetB.mk (by rw [Bool.eq_iff_iff]; simp; omega) k0
/-- Is a block valid, and are there not far too many readings? -/
def Wm.fine (B : Wm) : Bool := decide (B.rs.length ≤ 40) && B.ok
theorem Wm.fine_ok {B : Wm} (h : B.fine = true) : B.ok = true := by
  simp only [Wm.fine, Bool.and_eq_true] at h
  exact h.2
set_option maxHeartbeats 800000 in
theorem fine_any (B : Wm) (w : World) (hI : B.In w) : Calls Try.prog 31 #[B.v] w (RetB B.fine w) := by
  have hrl := hI.rl
  have F1 := Lib.hid (fun w1 => far_any B none 0 0 w1 hrl (Nat.zero_le _))
  have R1 := Lib.hid (fun w1 (k : Keeps w w1) => refWarm_any B w1 (hI.keep k))
  have BX := Wm.Box.new B w
  have k0 := (Keeps.refl w).alloc (.cells #[.int .i64 B.mark, .int .i64 B.llo, .int .i64 B.lhi, .int .i64 B.clo, .int .i64 B.chi, .slice B.ra B.rs.length B.rc] 26)
  have hfe : B.fine = (!decide (40 < B.rs.length ∨ 40 < 0) && B.ok) := by
    unfold Wm.fine
    congr 1
    rw [Bool.eq_iff_iff]
    simp
  rw [hfe]
  obtain ⟨v1, hv1⟩ : ∃ v, decide (40 < B.rs.length ∨ 40 < 0) = v := ⟨_, rfl⟩
  obtain ⟨v2, hv2⟩ : ∃ v, B.ok = v := ⟨_, rfl⟩
  rw [hv1] at F1 ⊢
  rw [hv2] at R1 ⊢
  obtain ⟨mark, llo, lhi, clo, chi, ra, rc, rs⟩ := B
  dsimp only [Wm.v] at *
  obtain ⟨W, hW⟩ : ∃ W, w.alloc (.cells #[.int .i64 mark, .int .i64 llo, .int .i64 lhi, .int .i64 clo, .int .i64 chi, .slice ra rs.length rc] 26) = W := ⟨_, rfl⟩
  rw [hW] at BX k0
  obtain ⟨g0, g1, g2, g3, g4, g5⟩ := BX
  dsimp only at g0 g1 g2 g3 g4 g5
  have hlb := lt_of_cell g0
  clear hI hv1 hv2 hfe hrl
  cases v1 with
  | true =>
    go_enter Try.func31, Try.ntmps31
    go_wp2_with fail
    refine (F1.out _).mono ?_
    rintro e w1 ⟨rfl, k1⟩
    go_wp2_with fail
    go_ret
    exact RetB.mk rfl (k0.trans k1)
  | false =>
    go_enter Try.func31, Try.ntmps31
    go_wp2_with fail
    refine (F1.out _).mono ?_
    rintro e w1 ⟨rfl, k1⟩
    have e0 := k1.cell g0
    have e1 := k1.cell g1
    have e2 := k1.cell g2
    have e3 := k1.cell g3
    have e4 := k1.cell g4
    have e5 := k1.cell g5
    have hle := lt_of_cell e0
    go_wp2_with fail
    refine (R1.out _ (k0.trans k1)).mono ?_
    rintro e w2 ⟨rfl, k2⟩
    go_wp2_with fail
    go_ret
    exact RetB.mk (by simp) ((k0.trans k1).trans k2)
end Go.Proofs.Ytidiikmpgpnmpaa
