/-
  The document's own answers: Period.
-/
import Derived.Test.YtoidnbpbeblokaaGreatQd
namespace Go.Proofs.YtoidnbpbeblokaaGreat
open Go.RowKit Go.Shelf

theorem perTo_all (ws : List Int) : perTo ws ws.length = period ws := by rw [perTo, List.take_length, period]
theorem perTo_zero (ws : List Int) : perTo ws 0 = 1 := by simp [perTo]
theorem pow60 {k : Nat} (h : k ≤ 4) : 60 ^ k ≤ 12960000 := Nat.le_trans (Nat.pow_le_pow_right (by omega) h) (by decide)
/-- Of the multiples up to now none is one of the wave. -/
def NoMult (x n j : Nat) : Prop := ∀ i, i < j → ¬ x ∣ n * (i + 1)
set_option maxRecDepth 100000 in
set_option maxHeartbeats 6400000 in
theorem refPeriod_ok (F : Fr) (w : World) (hI : F.In w) (hok : F.ok = true) : Calls Tryz.prog 20 #[F.v] w (Ret (.tuple #[.int .i64 ((period F.ws : Nat) : Int), .int .i64 0]) w) := by
  have CH := Lib.hid (fun w1 (k : Keeps w w1) => refCheck_at F true w1 (hI.keep k))
  rw [show chkE F true = 0 by simp [chkE, hok]] at CH
  obtain ⟨hw1, hw4⟩ := F.wl_in hok
  have WI := Lib.hid (fun k (hk : k < F.ws.length) => F.wave_in hok hk)
  have PB := Lib.hid (fun k (hk : k ≤ F.ws.length) => perTo_bd (fun i hi => WI.out i hi) k hk)
  have PS := Lib.hid (fun k (hk : k < F.ws.length) => perTo_succ hk)
  have PZ := Lib.hid (perTo_zero F.ws)
  have PA := Lib.hid (perTo_all F.ws)
  obtain ⟨R, hR⟩ : ∃ R, period F.ws = R := ⟨_, rfl⟩
  rw [hR] at PA ⊢
  obtain ⟨bw, ow, hwa, hws⟩ := hI.ints (by intro e; rw [e] at hw1; simp at hw1)
  have kB := (Keeps.refl w).alloc (.cells #[.slice F.wa F.ws.length F.wc, .int .i64 F.lo, .int .i64 F.hi, .slice F.ra F.rs.length F.rc] 27)
  have hB := Fr.Box.new F w
  have HW := Lib.hid (fun k (hk : k < F.ws.length) (w1 : World) (kk : Keeps w w1) => kk.cell (hws k hk))
  obtain ⟨wa, wc, ws, lo, hi, ra, rc, rs⟩ := F
  dsimp only [Fr.v] at *
  subst hwa
  clear hI hok hR hws
  go_enter Tryz.func20, Tryz.ntmps20
  go_wp2_with fail
  refine (CH.out _ kB).mono ?_
  rintro e w1 ⟨rfl, k1⟩
  have HB := Lib.hid (hB.keep k1)
  replace kB := kB.trans k1
  clear CH hB k1
  go_wp2_with fail
  go_loopw [5, 6] (fun o i wr => ∃ k : Nat, k ≤ ws.length ∧ i = .int .i64 k ∧ o = .int .i64 ((perTo ws k : Nat) : Int) ∧ Keeps w1 wr) (fun _ i _ => ws.length - (intOf i).toNat)
  case atStart => exact ⟨0, Nat.zero_le _, rfl, by rw [PZ.out]; rfl, Keeps.refl _⟩
  case round =>
    obtain ⟨k, hk, rfl, rfl, hkp⟩ := hrel
    have hBx := HB.out.keep hkp
    obtain ⟨g0, g1, g2, g3⟩ := hBx
    dsimp only at g0 g1 g2 g3
    have hgl := lt_of_cell g0
    by_cases hlt : k < ws.length
    · have hcw := HW.out k hlt _ (kB.trans hkp)
      have hlw := lt_of_cell hcw
      obtain ⟨x1, x2⟩ := WI.out k hlt
      have hps := PS.out k hlt
      obtain ⟨b1, b2⟩ := PB.out k hk
      have b3 := Nat.le_trans b2 (pow60 (by omega))
      obtain ⟨x, hx⟩ : ∃ x, ws[k]?.getD 0 = x := ⟨_, rfl⟩
      rw [hx] at hcw x1 x2 hps
      obtain ⟨X, rfl⟩ := Int.eq_ofNat_of_zero_le (show 0 ≤ x by omega)
      rw [Int.toNat_natCast] at hps
      obtain ⟨n, hn⟩ : ∃ n, perTo ws k = n := ⟨_, rfl⟩
      rw [hn] at hps b1 b2 b3 ⊢
      have HPS := Lib.hid hps
      have hX1 : 2 ≤ X := by omega
      have hX2 : X ≤ 60 := by omega
      have hX0 : ¬ ((X : Int) = 0) := by omega
      clear hx hn hps b2
      obtain ⟨wo, rfl⟩ : ∃ wo : World, wo = wr := ⟨_, rfl⟩
      go_wp2_with fail
      go_loopw [5, 8] (fun o i wx => ∃ j : Nat, NoMult X n j ∧ i = .int .i64 j ∧ o = .int .i64 ((n * (j + 1) : Nat) : Int) ∧ Keeps wo wx) (fun _ i _ => 60 - (intOf i).toNat)
      case atStart => exact ⟨0, fun i h => absurd h (by omega), rfl, by simp, Keeps.refl _⟩
      case round =>
        obtain ⟨j, hno, rfl, rfl, hkq⟩ := hrel
        have hj := lcm_stop (show 1 ≤ X by omega) hno
        have f0 := hkq.cell g0
        have f1 := hkq.cell g1
        have f2 := hkq.cell g2
        have f3 := hkq.cell g3
        have fw := hkq.cell hcw
        have fl := lt_of_cell f0
        have fl2 := lt_of_cell fw
        have hj60 : ((j : Int) < 60) := by omega
        have hmul : n * (j + 1) ≤ 12960000 * 60 := Nat.mul_le_mul b3 (by omega)
        have hdv : (((n * (j + 1) : Nat) : Int).tmod (X : Int) = 0) ↔ X ∣ n * (j + 1) := by
          rw [Int.tmod_eq_emod_of_nonneg (by omega), ← Int.dvd_iff_emod_eq_zero, Int.natCast_dvd_natCast]
        have hnx : n * (j + 1) + n = n * (j + 1 + 1) := by rw [Nat.mul_succ n (j + 1)]
        have HNO := Lib.hid hno
        by_cases hd : X ∣ n * (j + 1)
        · have hz := hdv.2 hd
          have HLC := Lib.hid (lcm_step hd hno (by omega))
          obtain ⟨m, hm⟩ : ∃ m, n * (j + 1) = m := ⟨_, rfl⟩
          rw [hm] at hz hmul HLC ⊢
          clear hdv hd hno hnx hm
          go_wp2_with fail
          go_roundw
          case rel => exact ⟨k + 1, by omega, by go_num, by rw [HPS.out, ← HLC.out], hkp.trans hkq⟩
          case measure => simp [intOf]; omega
        · have hz : ¬ (((n * (j + 1) : Nat) : Int).tmod (X : Int) = 0) := fun h => hd (hdv.1 h)
          have HNO2 := Lib.hid (show NoMult X n (j + 1) from fun i hi => by
            rcases Nat.lt_or_ge i j with h | h
            · exact hno i h
            · obtain rfl : i = j := by omega
              exact hd)
          obtain ⟨m, hm⟩ : ∃ m, n * (j + 1) = m := ⟨_, rfl⟩
          rw [hm] at hz hmul hnx ⊢
          have hz1 : ((m : Int) % (X : Int) != 0) = true := by rw [Int.tmod_eq_emod_of_nonneg (by omega)] at hz; simpa using hz
          have HX := Lib.hid hnx
          clear hz
          clear hdv hd hno hnx hm
          go_wp2_with fail
          go_roundw
          case rel => exact ⟨j + 1, HNO2.out, by go_num, by rw [← HX.out]; go_num, hkq⟩
          case measure => simp [intOf]; omega
    · obtain rfl : k = ws.length := by omega
      rw [PA.out]
      clear HB
      go_wp2_with fail
      refine bodyPost_ret (v := .tuple #[.int .i64 R, .int .i64 0]) (by simp [results, Tryz.results20, go_sem]) rfl ⟨rfl, kB.trans hkp⟩
theorem refPeriod_any (F : Fr) (w : World) (hI : F.In w) : Calls Tryz.prog 20 #[F.v] w (Ret (.tuple #[.int .i64 (periodR F).1, .int .i64 (periodR F).2]) w) := by
  cases hok : F.ok with
  | true => rw [show periodR F = (((period F.ws : Nat) : Int), 0) by simp [periodR, hok]]; exact refPeriod_ok F w hI hok
  | false =>
    rw [show periodR F = (0, 1) by simp [periodR, hok]]
    have CH := Lib.hid (fun w1 (k : Keeps w w1) => refCheck_at F true w1 (hI.keep k))
    rw [show chkE F true = 1 by simp [chkE, hok]] at CH
    have kB := (Keeps.refl w).alloc (.cells #[.slice F.wa F.ws.length F.wc, .int .i64 F.lo, .int .i64 F.hi, .slice F.ra F.rs.length F.rc] 27)
    obtain ⟨wa, wc, ws, lo, hi, ra, rc, rs⟩ := F
    dsimp only [Fr.v] at *
    clear hI hok
    go_enter Tryz.func20, Tryz.ntmps20
    go_wp2_with fail
    refine (CH.out _ kB).mono ?_
    rintro e w1 ⟨rfl, k1⟩
    clear CH
    go_wp2_with fail
    go_ret2
    exact ⟨rfl, kB.trans k1⟩
end Go.Proofs.YtoidnbpbeblokaaGreat
