/-
  The document's own answers: power, Has, every, Of, Right, check.
-/
import Derived.Test.YtoidnbpbeblokaaGreatWv
import Derived.Test.YtoidnbpbeblokaaGreatWf
import Derived.Test.YtoidnbpbeblokaaGreatZl
import Derived.Deep.QuietTactic
import Derived.BigQuiet
import Derived.Deep.RegionHeld3
import Derived.IntWalk
namespace Go.Proofs.YtoidnbpbeblokaaGreat
open Go.RowKit

theorem pow_le20 {k : Nat} (h : k ≤ 20) : 1 ≤ 2 ^ k ∧ 2 ^ k ≤ 1048576 :=
  ⟨Nat.pow_pos (by omega), Nat.le_trans (Nat.pow_le_pow_right (by omega) h) (by decide)⟩
set_option maxHeartbeats 800000 in
theorem power_any (n : Nat) (hn : n ≤ 20) (w : World) : Calls Tryz.prog 56 #[.int .i64 n] w fun e w' => e = .returned (.int .i64 ((2 ^ n : Nat) : Int)) ∧ w = w' := by
  have PB := Lib.hid (fun k (h : k ≤ 20) => pow_le20 h)
  obtain ⟨V, hV⟩ : ∃ V, 2 ^ n = V := ⟨_, rfl⟩
  rw [hV]
  have HV := Lib.hid hV
  clear hV
  go_enter Tryz.func56, Tryz.ntmps56
  go_wp2
  go_loop [3, 4] (fun o i => ∃ k : Nat, k ≤ n ∧ i = .int .i64 k ∧ o = .int .i64 ((2 ^ k : Nat) : Int)) (fun _ i => n - (intOf i).toNat)
  case atStart => exact ⟨0, Nat.zero_le _, rfl, rfl⟩
  case round =>
    obtain ⟨k, hk, rfl, rfl⟩ := hrel
    obtain ⟨p1, p2⟩ := PB.out k (by omega)
    have HP := Lib.hid (show 2 ^ (k + 1) = 2 * 2 ^ k by rw [Nat.pow_succ, Nat.mul_comm])
    obtain ⟨P, hP⟩ : ∃ P, 2 ^ k = P := ⟨_, rfl⟩
    rw [hP] at HP p1 p2 ⊢
    by_cases hlt : k < n
    · clear hP
      go_wp2
      go_round
      case rel => exact ⟨k + 1, by omega, by go_num, by rw [HP.out]; go_num⟩
      case measure => simp [intOf]; omega
    · obtain rfl : k = n := by omega
      obtain rfl : P = V := hP.symm.trans HV.out
      clear hP HV
      go_wp2
      go_ret
      exact ⟨rfl, rfl⟩
set_option maxHeartbeats 800000 in
theorem refHas_any (s n : Nat) (hs : s < 1048576) (hn : n ≤ 20) (v : Bool) (hv : hasB s n = v) (w : World) : Calls Tryz.prog 55 #[.int .i64 s, .int .i64 n] w fun e w' => e = .returned (.bool v) ∧ w = w' := by
  have H1 := Lib.hid (fun w => power_any n hn w)
  obtain ⟨p1, p2⟩ := pow_le20 hn
  have HV := Lib.hid (show ((s : Int) / ((2 ^ n : Nat) : Int) % 2 == 1) = v by
    rw [← hv, hasB, Nat.shiftRight_eq_div_pow, Bool.eq_iff_iff, beq_iff_eq, beq_iff_eq]
    constructor <;> intro h <;> omega)
  obtain ⟨P, hP⟩ : ∃ P, 2 ^ n = P := ⟨_, rfl⟩
  rw [hP] at H1 p1 p2 HV
  clear hP hv
  go_enter Tryz.func55, Tryz.ntmps55
  go_wp2_with fail
  refine (H1.out _).mono ?_
  rintro e w1 ⟨rfl, rfl⟩
  have hP0 : ¬ ((P : Int) = 0) := by omega
  have q0 : 0 ≤ (s : Int) / (P : Int) := Int.ediv_nonneg (by omega) (by omega)
  have q1 : (s : Int) / (P : Int) ≤ 1048576 := Int.le_trans (Int.ediv_le_self _ (by omega)) (by omega)
  go_wp2_with fail
  go_ret
  exact ⟨by rw [← HV.out]; rfl, rfl⟩
theorem refEvery_any (F : Fr) (h6 : F.rs.length ≤ 6) (w : World) : Calls Tryz.prog 87 #[F.v] w (RetI ((2 ^ F.rs.length - 1 : Nat) : Int) w) := by
  have H1 := Lib.hid (fun w => power_any F.rs.length (by omega) w)
  obtain ⟨p1, p2⟩ := pow_le20 (k := F.rs.length) (by omega)
  obtain ⟨P, hP⟩ : ∃ P, 2 ^ F.rs.length = P := ⟨_, rfl⟩
  rw [hP] at H1 p1 p2 ⊢
  obtain ⟨wa, wc, ws, lo, hi, ra, rc, rs⟩ := F
  dsimp only [Fr.v] at *
  rw [show ((P - 1 : Nat) : Int) = (P : Int) - 1 by omega]
  clear hP
  have g3 : (w.alloc (.cells #[.slice wa ws.length wc, .int .i64 lo, .int .i64 hi, .slice ra rs.length rc] 27)).cell? ⟨w.heap.size, 3, none⟩ = some (.slice ra rs.length rc) := by simp [go_sem]
  go_enter Tryz.func87, Tryz.ntmps87
  go_wp2_with fail
  refine (H1.out _).mono ?_
  rintro e w1 ⟨rfl, rfl⟩
  go_wp2_with fail
  go_ret
  exact ⟨rfl, (Keeps.refl _).alloc _⟩
set_option maxHeartbeats 1600000 in
theorem refOf_any (F : Fr) (n c : Nat) (x : Int) (w : World) (hI : F.In w) (hc : c < F.ws.length) (hx : F.ws[c]?.getD 0 = x) (h1 : 2 ≤ x) (h2 : x ≤ 60) (hn : n ≤ 2000) : Calls Tryz.prog 37 #[F.v, .int .i64 n, .int .i64 c] w (RetI (20 * ((n : Int) % x) / x) w) := by
  obtain ⟨bw, ow, hwa, hcs⟩ := hI.ints (by intro e; rw [e] at hc; simp at hc)
  have hcc := hcs c hc
  rw [hx] at hcc
  have hwl := hI.wl
  unfold maxLen at hwl
  obtain ⟨wa, wc, ws, lo, hi, ra, rc, rs⟩ := F
  dsimp only [Fr.v] at *
  subst hwa
  clear hcs hI hx
  have g0 : (w.alloc (.cells #[.slice (some ⟨bw, ow, none⟩) ws.length wc, .int .i64 lo, .int .i64 hi, .slice ra rs.length rc] 27)).cell? ⟨w.heap.size, 0, none⟩ = some (.slice (some ⟨bw, ow, none⟩) ws.length wc) := by simp [go_sem]
  have k := (Keeps.refl w).alloc (.cells #[.slice (some ⟨bw, ow, none⟩) ws.length wc, .int .i64 lo, .int .i64 hi, .slice ra rs.length rc] 27)
  replace hcc := k.cell hcc
  have hlb := lt_of_cell hcc
  have hlx := lt_of_cell g0
  have r0 : 0 ≤ (n : Int) % x := Int.emod_nonneg _ (by omega)
  have r1 : (n : Int) % x < x := Int.emod_lt_of_pos _ (by omega)
  have e1 : (n : Int).tmod x = (n : Int) % x := Int.tmod_eq_emod_of_nonneg (by omega)
  have e2 : IntKind.i64.wrap (20 * ((n : Int) % x)) = 20 * ((n : Int) % x) := IntWalk.i64_in _ (by constructor <;> omega)
  have e3 : (20 * ((n : Int) % x)).tdiv x = 20 * ((n : Int) % x) / x := Int.tdiv_eq_ediv_of_nonneg (by omega)
  obtain ⟨b0, b1⟩ := partI_bd (wv := x) (n := (n : Int)) (by omega)
  unfold partI at b0 b1
  have hx0 : ¬ (x = 0) := by omega
  have hc2 : (c : Int) < (ws.length : Int) := by omega
  go_enter Tryz.func37, Tryz.ntmps37
  go_wp2_with fail
  go_big_quiet (fail)
  go_wp2
  go_ret
  exact ⟨rfl, k.drewN _⟩
/-- No number from lo on, up to m, leaves p. -/
def NoneIn (lo m p : Int) : Prop := ∀ j : Int, lo ≤ j → j < m → j % 20 ≠ p
theorem NoneIn.next {lo m p : Int} (h : NoneIn lo m p) (hm : m % 20 ≠ p) : NoneIn lo (m + 1) p := fun j h1 h2 => by
  by_cases e : j = m
  · subst e; exact hm
  · exact h j h1 (by omega)
theorem right_found {x n p lo hi m : Int} (hv : vPart lo hi = true) (hp : 20 * (n % x) / x = p) (p0 : 0 ≤ p) (p1 : p ≤ 19) (h1 : lo ≤ m) (h2 : m ≤ hi) (hm : m % 20 = p) : rightB (x, lo, hi) n = true := by
  simp only [vPart, decide_eq_true_eq] at hv
  have e : m = p ∨ m = p + 20 := by omega
  unfold rightB plainB roundB partI
  dsimp only
  rw [hp]
  split <;> simp only [decide_eq_true_eq] <;> omega
theorem right_none {x n p lo hi : Int} (hlo : lo ≤ 19) (hp : 20 * (n % x) / x = p) (p0 : 0 ≤ p) (p1 : p ≤ 19) (hN : NoneIn lo (hi + 1) p) : rightB (x, lo, hi) n = false := by
  unfold rightB plainB roundB partI
  dsimp only
  rw [hp]
  have a := hN p
  have b := hN (p + 20)
  have e : p % 20 = p := by omega
  have e' : (p + 20) % 20 = p := by omega
  split
  · rw [decide_eq_false_iff_not]
    rintro ⟨h1, h2⟩
    exact a h1 (by omega) e
  · rename_i hh
    rw [decide_eq_false_iff_not]
    rintro (h1 | h2)
    · by_cases hx : p < hi + 1
      · exact a h1 hx e
      · omega
    · by_cases hx : lo ≤ p + 20
      · exact b hx (by omega) e'
      · omega
set_option maxHeartbeats 1600000 in
theorem refRight_any (F : Fr) (c : Nat) (lo hi : Int) (n : Nat) (w : World) (hI : F.In w) (hok : F.ok = true) (hc : c < F.ws.length) (hp : vPart lo hi = true) (hn : n ≤ 2000) (v : Bool) (hv : rightB (F.ws[c]?.getD 0, lo, hi) n = v) :
    Calls Tryz.prog 100 #[F.v, .agg #[.int .i64 c, .int .i64 lo, .int .i64 hi], .int .i64 n] w (RetB v w) := by
  have hw := F.wave_in hok hc
  obtain ⟨x, hx⟩ : ∃ x, F.ws[c]?.getD 0 = x := ⟨_, rfl⟩
  rw [hx] at hw hv
  have OF := Lib.hid (fun w1 (k : Keeps w w1) => refOf_any F n c x w1 (hI.keep k) hc hx hw.1 hw.2 hn)
  obtain ⟨p0, p1⟩ := partI_bd (wv := x) (n := (n : Int)) (by omega)
  unfold partI at p0 p1
  have RF := Lib.hid (fun (p : Int) (e : 20 * ((n : Int) % x) / x = p) (p0 : 0 ≤ p) (p1 : p ≤ 19) m h1 h2 hm => (right_found (m := m) hp e p0 p1 h1 h2 hm).symm.trans hv)
  have RN := Lib.hid (fun (p : Int) (e : 20 * ((n : Int) % x) / x = p) (p0 : 0 ≤ p) (p1 : p ≤ 19) hN => (right_none (lo := lo) (hi := hi) (by simp only [vPart, decide_eq_true_eq] at hp; omega) e p0 p1 hN).symm.trans hv)
  obtain ⟨p, hpe⟩ : ∃ p, 20 * ((n : Int) % x) / x = p := ⟨_, rfl⟩
  rw [hpe] at OF p0 p1
  replace RF := Lib.hid (fun m h1 h2 hm => RF.out p hpe p0 p1 m h1 h2 hm)
  replace RN := Lib.hid (fun hN => RN.out p hpe p0 p1 hN)
  simp only [vPart, decide_eq_true_eq] at hp
  obtain ⟨v0, v1, v2, v3⟩ := hp
  obtain ⟨wa, wc, ws, lo', hi', ra, rc, rs⟩ := F
  dsimp only [Fr.v] at *
  clear hI hok hv hpe hx
  have kB := ((Keeps.refl w).alloc (.cells #[.slice wa ws.length wc, .int .i64 lo', .int .i64 hi', .slice ra rs.length rc] 27)).alloc (.cells #[.int .i64 c, .int .i64 lo, .int .i64 hi] 47)
  go_enter Tryz.func100, Tryz.ntmps100
  go_wp2_with fail
  obtain ⟨W, hW⟩ : ∃ W, (w.alloc (.cells #[.slice wa ws.length wc, .int .i64 lo', .int .i64 hi', .slice ra rs.length rc] 27)).alloc (.cells #[.int .i64 c, .int .i64 lo, .int .i64 hi] 47) = W := ⟨_, rfl⟩
  have c0 : W.cell? ⟨w.heap.size, 0, none⟩ = some (.slice wa ws.length wc) := by subst hW; simp [go_sem]
  have c1 : W.cell? ⟨w.heap.size, 1, none⟩ = some (.int .i64 lo') := by subst hW; simp [go_sem]
  have c2 : W.cell? ⟨w.heap.size, 2, none⟩ = some (.int .i64 hi') := by subst hW; simp [go_sem]
  have c3 : W.cell? ⟨w.heap.size, 3, none⟩ = some (.slice ra rs.length rc) := by subst hW; simp [go_sem]
  have d0 : W.cell? ⟨w.heap.size + 1, 0, none⟩ = some (.int .i64 c) := by subst hW; simp [go_sem]
  have d1 : W.cell? ⟨w.heap.size + 1, 1, none⟩ = some (.int .i64 lo) := by subst hW; simp [go_sem]
  have d2 : W.cell? ⟨w.heap.size + 1, 2, none⟩ = some (.int .i64 hi) := by subst hW; simp [go_sem]
  rw [hW] at kB ⊢
  clear hW
  go_loopw [7] (fun i wr => ∃ m : Int, i = .int .i64 m ∧ lo ≤ m ∧ m ≤ hi + 1 ∧ NoneIn lo m p ∧ Keeps W wr) (fun i _ => (hi + 1 - intOf i).toNat)
  case atStart => exact ⟨lo, rfl, Int.le_refl _, by omega, fun j h1 h2 => absurd h2 (by omega), Keeps.refl _⟩
  case round =>
    obtain ⟨m, rfl, hm0, hm1, hN, hkp⟩ := hrel
    have HN := Lib.hid hN
    have g0 := hkp.cell c0
    have g1 := hkp.cell c1
    have g2 := hkp.cell c2
    have g3 := hkp.cell c3
    have e0 := hkp.cell d0
    have e1 := hkp.cell d1
    have e2 := hkp.cell d2
    have l1 := lt_of_cell g0
    have l2 := lt_of_cell e0
    clear c0 c1 c2 c3 d0 d1 d2 hN
    by_cases hlt : m ≤ hi
    · go_wp2_with fail
      refine (OF.out _ (kB.trans hkp)).mono ?_
      rintro e w2 ⟨rfl, k2⟩
      by_cases he : m % 20 = p
      · have hb : (m % 20 == p) = true := by simp [he]
        have hv := RF.out m hm0 hlt he
        have HV := Lib.hid hv
        clear he hv g0 g1 g2 g3 e0 e1 e2
        go_wp2_with fail
        go_ret
        exact ⟨by rw [← HV.out]; rfl, (kB.trans hkp).trans k2⟩
      · have hb : (m % 20 == p) = false := by simp [he]
        have HN2 := Lib.hid (HN.out.next he)
        clear he g0 g1 g2 g3 e0 e1 e2
        go_wp2_with fail
        go_roundw
        case rel => exact ⟨m + 1, rfl, by omega, by omega, HN2.out, hkp.trans k2⟩
        case measure => simp [intOf]; omega
    · obtain rfl : m = hi + 1 := by omega
      have HV := Lib.hid (RN.out HN.out)
      go_wp2_with fail
      go_ret
      exact ⟨by rw [← HV.out]; rfl, kB.trans hkp⟩
theorem refCheck_any (F : Fr) (w : World) (hI : F.In w) : Calls Tryz.prog 34 #[F.v, .bool true] w (RetI (if F.ok then 0 else 1) w) := by
  have RF := Lib.hid (fun w1 (k : Keeps w w1) => refFringe_any F w1 (hI.keep k))
  obtain ⟨ok, hok⟩ : ∃ ok, F.ok = ok := ⟨_, rfl⟩
  rw [hok] at RF ⊢
  clear hok
  obtain ⟨wa, wc, ws, lo, hi, ra, rc, rs⟩ := F
  dsimp only [Fr.v] at *
  clear hI
  have k := (Keeps.refl w).alloc (.cells #[.slice wa ws.length wc, .int .i64 lo, .int .i64 hi, .slice ra rs.length rc] 27)
  cases ok
  all_goals
    go_enter Tryz.func34, Tryz.ntmps34
    go_wp2_with fail
    refine (RF.out _ k).mono ?_
    rintro e w2 ⟨rfl, k2⟩
    go_wp2_with fail
    go_ret
    exact ⟨rfl, k.trans k2⟩
end Go.Proofs.YtoidnbpbeblokaaGreat
