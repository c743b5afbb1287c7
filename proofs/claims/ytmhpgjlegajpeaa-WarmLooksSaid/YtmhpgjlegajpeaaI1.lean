/-
  The document's own package, of WARM: power, every, Show.
-/
import Derived.Test.YtmhpgjlegajpeaaF1
import Derived.Test.YtmhpgjlegajpeaaA7
namespace Go.Proofs.Ytmhpgjlegajpeaa
open Go.RowKit

theorem pow_le20 {k : Nat} (h : k ≤ 20) : 1 ≤ 2 ^ k ∧ 2 ^ k ≤ 1048576 :=
  ⟨Nat.pow_pos (by omega), Nat.le_trans (Nat.pow_le_pow_right (by omega) h) (by decide)⟩
set_option maxHeartbeats 800000 in
theorem power_any (n : Nat) (hn : n ≤ 20) (w : World) : Calls Try.prog 108 #[.int .i64 n] w fun e w' => e = .returned (.int .i64 ((2 ^ n : Nat) : Int)) ∧ w = w' := by
  have PB := Lib.hid (fun k (h : k ≤ 20) => pow_le20 h)
  obtain ⟨V, hV⟩ : ∃ V, 2 ^ n = V := ⟨_, rfl⟩
  rw [hV]
  have HV := Lib.hid hV
  clear hV
  go_enter Try.func108, Try.ntmps108
  go_wp2
  go_loop [3, 4] (fun o i => ∃ k : Nat, k ≤ n ∧ i = .int .i64 k ∧ o = .int .i64 ((2 ^ k : Nat) : Int)) (fun _ i => n - (intOf i).toNat)
  case atStart => exact ⟨0, Nat.zero_le _, rfl, rfl⟩
  case round =>
    obtain ⟨k, hk, rfl, rfl⟩ := hrel
    obtain ⟨p1, p2⟩ := PB.out k (by omega)
    have HP := Lib.hid (show 2 ^ (k + 1) = 2 * 2 ^ k by rw [Nat.pow_succ, Nat.mul_comm])
    obtain ⟨P, hP⟩ : ∃ P, 2 ^ k = P := ⟨_, rfl⟩
    rw [hP] at HP p1 p2 ⊢
    by_cases hlt : k < n
    · clear hP
      go_wp2
      go_round
      case rel => exact ⟨k + 1, by omega, by go_num, by rw [HP.out]; go_num⟩
      case measure => simp [intOf]; omega
    · obtain rfl : k = n := by omega
      obtain rfl : P = V := hP.symm.trans HV.out
      clear hP HV
      go_wp2
      go_ret
      exact ⟨rfl, rfl⟩
theorem refEvery_any (B : Wm) (h5 : B.rs.length ≤ 5) (w : World) : Calls Try.prog 88 #[B.v] w (RetI ((2 ^ B.rs.length - 1 : Nat) : Int) w) := by
  have H1 := Lib.hid (fun w => power_any B.rs.length (by omega) w)
  obtain ⟨p1, p2⟩ := pow_le20 (k := B.rs.length) (by omega)
  have BX := (Wm.Box.new B w).c5
  obtain ⟨P, hP⟩ : ∃ P, 2 ^ B.rs.length = P := ⟨_, rfl⟩
  rw [hP] at H1 p1 p2 ⊢
  obtain ⟨mark, llo, lhi, clo, chi, ra, rc, rs⟩ := B
  dsimp only [Wm.v] at *
  rw [show ((P - 1 : Nat) : Int) = (P : Int) - 1 by omega]
  clear hP
  go_enter Try.func88, Try.ntmps88
  go_wp2_with fail
  refine (H1.out _).mono ?_
  rintro e w1 ⟨rfl, rfl⟩
  go_wp2_with fail
  go_ret
  exact ⟨rfl, (Keeps.refl _).alloc _⟩
/-- What the document says that a pair shows is what the program says. -/
theorem show_neg {L q : Int} : L - (9 - q) / 10 = L + q / 10 ∨ 0 ≤ q := by omega
set_option maxHeartbeats 1600000 in
theorem refShow_any (B : Wm) (L c t : Int) (w : World) (m1 : 1 ≤ B.mark) (m2 : B.mark ≤ 100) (l1 : -1000 ≤ L) (l2 : L ≤ 1000) (c1 : 0 ≤ c) (c2 : c ≤ 20) (t1 : -101 ≤ t) (t2 : t ≤ 101) :
    Calls Try.prog 68 #[B.v, .agg #[.int .i64 L, .int .i64 c], .int .i64 t] w (RetI (shI B.mark L c t) w) := by
  obtain ⟨⟨p1, p2⟩, q1, q2⟩ := mct_bd m1 m2 c1 c2 t1 t2
  have BX := Wm.Box.new B w
  obtain ⟨mark, llo, lhi, clo, chi, ra, rc, rs⟩ := B
  dsimp only [Wm.v] at *
  rw [show shI mark L c t = L + mark * c * t / 10 from rfl]
  obtain ⟨p, hp⟩ : ∃ p, mark * c = p := ⟨_, rfl⟩
  rw [hp] at p1 p2 q1 q2 ⊢
  obtain ⟨q, hq⟩ : ∃ q, p * t = q := ⟨_, rfl⟩
  rw [hq] at q1 q2 ⊢
  have wp : IntKind.i64.wrap (mark * c) = p := by rw [hp]; exact IntWalk.i64_in _ (by constructor <;> omega)
  have wq : IntKind.i64.wrap (p * t) = q := by rw [hq]; exact IntWalk.i64_in _ (by constructor <;> omega)
  have Wp := Lib.hid wp
  have Wq := Lib.hid wq
  obtain ⟨W, hW⟩ : ∃ W, w.alloc (.cells #[.int .i64 mark, .int .i64 llo, .int .i64 lhi, .int .i64 clo, .int .i64 chi, .slice ra rs.length rc] 26) = W := ⟨_, rfl⟩
  rw [hW] at BX
  have k0 : Keeps w W := by rw [← hW]; exact (Keeps.refl _).alloc _
  have hsz : W.heap.size = w.heap.size + 1 := by rw [← hW]; simp
  obtain ⟨V, hV⟩ : ∃ V, W.alloc (.cells #[.int .i64 L, .int .i64 c] 91) = V := ⟨_, rfl⟩
  have k1 : Keeps W V := by rw [← hV]; exact (Keeps.refl _).alloc _
  have h0 : V.cell? ⟨w.heap.size + 1, 0, none⟩ = some (.int .i64 L) := by rw [← hV, ← hsz]; simp [go_sem]
  have h1 : V.cell? ⟨w.heap.size + 1, 1, none⟩ = some (.int .i64 c) := by rw [← hV, ← hsz]; simp [go_sem]
  replace BX := BX.keep k1
  have g0 := BX.c0
  dsimp only at g0
  have hl1 := lt_of_cell g0
  have hl2 := lt_of_cell h0
  have kk := k0.trans k1
  clear BX hp hq
  go_enter Try.func68, Try.ntmps68
  go_wp2
  all_goals (go_ret; exact RetI.mk (by omega) kk)
end Go.Proofs.Ytmhpgjlegajpeaa
