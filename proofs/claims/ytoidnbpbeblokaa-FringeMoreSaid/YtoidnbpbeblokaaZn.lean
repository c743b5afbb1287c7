/-
  FringeParts, walked.
-/
import Derived.Test.YtoidnbpbeblokaaYi
import Derived.Test.YtoidnbpbeblokaaZl
import Derived.Test.YtoidnbpbeblokaaZm
namespace Go.Proofs.Ytoidnbpbeblokaa
open Go.RowKit Go.Shelf

theorem Fr.short (F : Fr) (h : F.ok = true) : F.long = false := by
  have h1 := F.rl_in h
  have h2 := F.wl_in h
  simp [Fr.long]; omega
/-- Is l above 0, and a multiple of the first j waves? -/
def AllIs (ws : List Int) (l : Int) (j : Nat) (t : Bool) : Prop := t = true ↔ 0 < l ∧ ∀ i, i < j → l % (ws[i]?.getD 0) = 0
theorem parts_next {ws : List Int} {l : Int} {j : Nat} {t t' : Bool} (h : AllIs ws l j t) (h' : t' = (t && (l % (ws[j]?.getD 0) == 0))) : AllIs ws l (j + 1) t' := by
  subst h'
  unfold AllIs at *
  rw [Bool.and_eq_true, h, beq_iff_eq]
  constructor
  · rintro ⟨⟨h1, h2⟩, h3⟩
    refine ⟨h1, fun i hi => ?_⟩
    by_cases e : i = j
    · subst e; exact h3
    · exact h2 i (by omega)
  · rintro ⟨h1, h2⟩
    exact ⟨⟨h1, fun i hi => h2 i (by omega)⟩, h2 j (by omega)⟩
set_option maxRecDepth 100000 in
set_option maxHeartbeats 1600000 in
theorem parts_long (F : Fr) (at_ wh : Int) (w : World) (hI : F.In w) (h : F.long = true) : Calls Try.prog 6 #[F.v, .int .u16 at_, .int .u16 wh] w (RetB true w) := by
  have AL := Lib.hid alive_any
  have LG := Lib.hid (fun w1 => long_any F w1 hI.wl hI.rl)
  rw [h] at LG
  obtain ⟨wa, wc, ws, lo, hi, ra, rc, rs⟩ := F
  dsimp only [Fr.v] at *
  clear h hI
  go_enter Try.func6, Try.ntmps6
  go_wp2_with fail
  refine (LG.out _).mono ?_
  rintro e w1 ⟨rfl, k1⟩
  go_wp2_with fail
  refine (AL.out _).mono ?_
  rintro e w2 ⟨rfl, k2⟩
  go_wp2_with fail
  go_ret
  exact ⟨rfl, (((Keeps.refl w).alloc _).trans k1).trans k2⟩
set_option maxRecDepth 100000 in
set_option maxHeartbeats 1600000 in
theorem parts_bad (F : Fr) (at_ wh : Int) (w : World) (hI : F.In w) (h : F.long = false) (hok : F.ok = false) : Calls Try.prog 6 #[F.v, .int .u16 at_, .int .u16 wh] w (RetB true w) := by
  have AL := Lib.hid alive_any
  have LG := Lib.hid (fun w1 => long_any F w1 hI.wl hI.rl)
  have PE := Lib.hid (fun w1 (k : Keeps w w1) => Period_any F w1 (hI.keep k))
  have RF := Lib.hid (fun w1 (k : Keeps w w1) => refFringe_any F w1 (hI.keep k))
  have PA := Lib.hid (fun w1 (k : Keeps w w1) => Part_any F 0 0 w1 (hI.keep k))
  rw [h] at LG
  rw [show periodR F = (0, 1) by simp [periodR, hok]] at PE
  rw [hok] at RF
  rw [part_arg F hok] at PA
  obtain ⟨wa, wc, ws, lo, hi, ra, rc, rs⟩ := F
  dsimp only [Fr.v] at *
  clear h hI hok
  go_enter Try.func6, Try.ntmps6
  go_wp2_with fail
  have k := (Keeps.refl w).alloc (.cells #[.slice wa ws.length wc, .int .i64 lo, .int .i64 hi, .slice ra rs.length rc] 27)
  have hB := Fr.Box.new ⟨wa, wc, ws, lo, hi, ra, rc, rs⟩ w
  refine (LG.out _).mono ?_
  rintro e w1 ⟨rfl, k1⟩
  replace hB := hB.keep k1
  replace k := k.trans k1
  clear k1
  obtain ⟨g0, g1, g2, g3⟩ := hB
  dsimp only at g0 g1 g2 g3
  go_wp2_with fail
  refine (PE.out _ k).mono ?_
  rintro e w2 ⟨rfl, k1⟩
  replace g0 := k1.cell g0
  replace g1 := k1.cell g1
  replace g2 := k1.cell g2
  replace g3 := k1.cell g3
  replace k := k.trans k1
  clear k1
  go_wp2_with fail
  refine (RF.out _ k).mono ?_
  rintro e w3 ⟨rfl, k1⟩
  replace g0 := k1.cell g0
  replace g1 := k1.cell g1
  replace g2 := k1.cell g2
  replace g3 := k1.cell g3
  replace k := k.trans k1
  clear k1
  go_wp2_with fail
  refine (PA.out _ k).mono ?_
  rintro e w4 ⟨rfl, k1⟩
  replace k := k.trans k1
  clear k1
  go_wp2_with fail
  refine (AL.out _).mono ?_
  rintro e w5 ⟨rfl, k1⟩
  go_wp2_with fail
  go_ret
  exact ⟨rfl, k.trans k1⟩
set_option maxRecDepth 100000 in
set_option maxHeartbeats 8000000 in
theorem parts_ok (F : Fr) (at_ wh : Int) (w : World) (hI : F.In w) (hok : F.ok = true) (a0 : 0 ≤ at_) (a1 : at_ ≤ 65535) (b0 : 0 ≤ wh) (b1 : wh ≤ 65535) : Calls Try.prog 6 #[F.v, .int .u16 at_, .int .u16 wh] w (RetB true w) := by
  have AL := Lib.hid alive_any
  have LG := Lib.hid (fun w1 => long_any F w1 hI.wl hI.rl)
  rw [F.short hok] at LG
  have hwl := F.wl_in hok
  obtain ⟨hw1, hw4⟩ : 1 ≤ F.ws.length ∧ F.ws.length ≤ 4 := by
    simp only [Fr.ok, vFringe, vWaves, Bool.and_eq_true, decide_eq_true_eq] at hok
    exact hok.1.1.1
  obtain ⟨hp1, hp2⟩ := period_bd F hok
  obtain ⟨n, hn⟩ : ∃ n : Nat, at_ % 2001 = n := Int.eq_ofNat_of_zero_le (by omega)
  have hn2 : n ≤ 2000 := by omega
  obtain ⟨c, hc⟩ : ∃ c : Nat, wh % (F.ws.length : Int) = c := Int.eq_ofNat_of_zero_le (Int.emod_nonneg _ (by omega))
  have hcl : c < F.ws.length := by have := Int.emod_lt_of_pos wh (show (0 : Int) < F.ws.length by omega); omega
  obtain ⟨x, hx⟩ : ∃ x, F.ws[c]?.getD 0 = x := ⟨_, rfl⟩
  have hx1 := F.wave_in hok hcl
  rw [hx] at hx1
  obtain ⟨q, r, p, e1, e2, e3, f1, f2, f3, f4, f5, f6, f7, f8, f9, f10, f11, f12, f13⟩ := split_facts (n := (n : Int)) hx1.1 hx1.2 (by omega) (by omega)
  have PE := Lib.hid (fun w1 (k : Keeps w w1) => Period_any F w1 (hI.keep k))
  have RF := Lib.hid (fun w1 (k : Keeps w w1) => refFringe_any F w1 (hI.keep k))
  have PA := Lib.hid (fun w1 (k : Keeps w w1) => Part_any F n c w1 (hI.keep k))
  have PB := Lib.hid (fun w1 (k : Keeps w w1) => Part_any F 2001 c w1 (hI.keep k))
  have PC := Lib.hid (fun w1 (k : Keeps w w1) => Part_any F n F.ws.length w1 (hI.keep k))
  have PD := Lib.hid (fun w1 (k : Keeps w w1) => Part_any F (-1) c w1 (hI.keep k))
  have PX := Lib.hid (fun (j : Nat) (m : Int) (hj : j < F.ws.length) (y : Int) (hy : F.ws[j]?.getD 0 = y) (m0 : 0 ≤ m) (m1 : m ≤ 2000) w1 (k : Keeps w w1) => Part_at F hok hj hy m0 m1 w1 (hI.keep k))
  have PM := Lib.hid (fun (j : Nat) (hj : j < F.ws.length) => period_mod F hok hj)
  have PN := Lib.hid (fun (l : Int) => period_not_all F hok (l := l))
  have WI := Lib.hid (fun (j : Nat) (hj : j < F.ws.length) => F.wave_in hok hj)
  have HI := Lib.hid hI
  rw [show periodR F = (((period F.ws : Nat) : Int), 0) by simp [periodR, hok]] at PE
  rw [hok] at RF
  rw [part_ok F hok hcl hx (by omega) (by omega), e1, e3] at PA
  rw [part_range F hok (by omega)] at PB PC PD
  dsimp only at PA PB PC PD PE
  obtain ⟨P, hP⟩ : ∃ P, period F.ws = P := ⟨_, rfl⟩
  rw [hP] at hp1 hp2 PE PN
  simp only [hP] at PM
  obtain ⟨l, hl⟩ : ∃ l : Int, wh % (P : Int) = l := ⟨_, rfl⟩
  have hl0 : 0 ≤ l := by rw [← hl]; exact Int.emod_nonneg _ (by omega)
  have hl1 : l < P := by rw [← hl]; exact Int.emod_lt_of_pos _ (by omega)
  obtain ⟨wa, wc, ws, lo, hi, ra, rc, rs⟩ := F
  dsimp only [Fr.v] at *
  obtain ⟨b, o, rfl, hcs⟩ := hI.ints (by intro e; simp only at e; rw [e] at hcl; simp at hcl)
  dsimp only at hcs
  have hcc := hcs c hcl
  rw [hx] at hcc
  have hlw := lt_of_cell hcc
  have HX := Lib.hid hx
  clear hI hok hP e1 e2 e3 hx hwl hcs
  have hne : ¬ ((ws.length : Int) = 0) := by omega
  have hnp : ¬ ((P : Int) = 0) := by omega
  go_enter Try.func6, Try.ntmps6
  go_wp2_with fail
  have k := (Keeps.refl w).alloc (.cells #[.slice (some ⟨b, o, none⟩) ws.length wc, .int .i64 lo, .int .i64 hi, .slice ra rs.length rc] 27)
  have hB := Fr.Box.new ⟨some ⟨b, o, none⟩, wc, ws, lo, hi, ra, rc, rs⟩ w
  replace hcc := k.cell hcc
  refine (LG.out _).mono ?_
  rintro e w1 ⟨rfl, k1⟩
  replace hB := hB.keep k1
  replace hcc := k1.cell hcc
  replace k := k.trans k1
  clear k1
  obtain ⟨g0, g1, g2, g3⟩ := hB
  dsimp only at g0 g1 g2 g3
  go_wp2_with fail
  refine (PE.out _ k).mono ?_
  rintro e w2 ⟨rfl, k1⟩
  replace g0 := k1.cell g0
  replace g1 := k1.cell g1
  replace g2 := k1.cell g2
  replace g3 := k1.cell g3
  replace hcc := k1.cell hcc
  replace k := k.trans k1
  clear k1
  go_wp2_with fail
  refine (RF.out _ k).mono ?_
  rintro e w3 ⟨rfl, k1⟩
  replace g0 := k1.cell g0
  replace g1 := k1.cell g1
  replace g2 := k1.cell g2
  replace g3 := k1.cell g3
  replace hcc := k1.cell hcc
  replace k := k.trans k1
  clear k1
  go_wp2_with fail
  go_region
  replace k := k.drew
  rw [hn, hc]
  clear hn hc
  go_wp2_with fail
  refine (PA.out _ k).mono ?_
  rintro e w4 ⟨rfl, k1⟩
  replace g0 := k1.cell g0
  replace g1 := k1.cell g1
  replace g2 := k1.cell g2
  replace g3 := k1.cell g3
  replace hcc := k1.cell hcc
  replace k := k.trans k1
  clear k1
  go_wp2_with fail
  refine (PB.out _ k).mono ?_
  rintro e w5 ⟨rfl, k1⟩
  replace g0 := k1.cell g0
  replace g1 := k1.cell g1
  replace g2 := k1.cell g2
  replace g3 := k1.cell g3
  replace hcc := k1.cell hcc
  replace k := k.trans k1
  clear k1
  go_wp2_with fail
  refine (PC.out _ k).mono ?_
  rintro e w6 ⟨rfl, k1⟩
  replace g0 := k1.cell g0
  replace g1 := k1.cell g1
  replace g2 := k1.cell g2
  replace g3 := k1.cell g3
  replace hcc := k1.cell hcc
  replace k := k.trans k1
  clear k1
  go_wp2_with fail
  refine (PD.out _ k).mono ?_
  rintro e w7 ⟨rfl, k1⟩
  replace g0 := k1.cell g0
  replace g1 := k1.cell g1
  replace g2 := k1.cell g2
  replace g3 := k1.cell g3
  replace hcc := k1.cell hcc
  replace k := k.trans k1
  clear k1
  clear PA PB PC PD PE RF LG
  go_wp2_with fail
  obtain ⟨wE, rfl⟩ : ∃ wE : World, wE = w7 := ⟨_, rfl⟩
  go_loopw [29, 185] (fun al i wr => ∃ k : Nat, k ≤ ws.length ∧ i = .int .i64 k ∧ (∃ t : Bool, al = .bool t ∧ AllIs ws l k t) ∧ Keeps wE wr) (fun _ i _ => ws.length - (intOf i).toNat)
  case atStart =>
    refine ⟨0, Nat.zero_le _, rfl, ⟨_, rfl, ?_⟩, Keeps.refl _⟩
    unfold AllIs
    rw [decide_eq_true_eq]
    exact ⟨fun h => ⟨h, fun j hj => absurd hj (by omega)⟩, fun h => h.1⟩
  case round =>
    obtain ⟨j, hj, rfl, ⟨t, rfl, ht⟩, hkp⟩ := hrel
    have HT := Lib.hid ht
    clear ht
    replace g0 := hkp.cell g0
    replace g1 := hkp.cell g1
    replace g2 := hkp.cell g2
    replace g3 := hkp.cell g3
    have kr := k.trans hkp
    clear hcc f1 f2 f3 f4 f5 f6 f7 f8 f9 f10 f11 f12 f13
    by_cases hlt : j < ws.length
    · obtain ⟨y, hy⟩ : ∃ y, ws[j]?.getD 0 = y := ⟨_, rfl⟩
      obtain ⟨b', o', e', hcs⟩ := HI.out.ints (by intro e; simp only at e; rw [e] at hlt; simp at hlt)
      cases e'
      have hcj := kr.cell (hcs j hlt)
      try dsimp only at hcj
      have hy1 := WI.out j hlt
      have hpm := PM.out j hlt
      try dsimp only at hy1 hpm
      rw [hy] at hcj hy1 hpm
      have hlj := lt_of_cell hcj
      have hy0 : ¬ (y = 0) := by omega
      have hsame := part_same (n := (n : Int)) hpm
      have X1 := Lib.hid (PX.out j n hlt y hy (by omega) (by omega))
      have X2 := Lib.hid (fun (h : (n : Int) + P ≤ 2000) => PX.out j (n + P) hlt y hy (by omega) h)
      rw [hsame] at X2
      obtain ⟨p1, hp1'⟩ : ∃ p1, 20 * ((n : Int) % y) / y = p1 := ⟨_, rfl⟩
      rw [hp1'] at X1 X2
      have HY := Lib.hid hy
      clear hcs hsame hp1' hy
      by_cases hd : l % y = 0
      · by_cases hlen : (n : Int) + P ≤ 2000
        · have X2' := Lib.hid (X2.out hlen)
          clear X2
          cases t
          all_goals
            go_wp2_with fail
            refine (X1.out _ kr).mono ?_
            rintro e u1 ⟨rfl, k1⟩
            replace g0 := k1.cell g0
            replace g1 := k1.cell g1
            replace g2 := k1.cell g2
            replace g3 := k1.cell g3
            go_wp2_with fail
            refine (X2'.out _ (kr.trans k1)).mono ?_
            rintro e u2 ⟨rfl, k2⟩
            go_wp2_with fail
            go_roundw
            case rel => exact ⟨j + 1, by omega, by go_num, ⟨_, rfl, parts_next HT.out (by rw [HY.out]; simp [hd])⟩, (hkp.trans k1).trans k2⟩
            case measure => simp [intOf]; omega
        · clear X1 X2
          cases t
          all_goals
            go_wp2_with fail
            go_roundw
            case rel => exact ⟨j + 1, by omega, by go_num, ⟨_, rfl, parts_next HT.out (by rw [HY.out]; simp [hd])⟩, hkp⟩
            case measure => simp [intOf]; omega
      · have hdb : (l % y == 0) = false := by simp [hd]
        have Hd := Lib.hid hd
        clear hd
        by_cases hlen : (n : Int) + P ≤ 2000
        · have X2' := Lib.hid (X2.out hlen)
          clear X2
          cases t
          all_goals
            go_wp2_with fail
            refine (X1.out _ kr).mono ?_
            rintro e u1 ⟨rfl, k1⟩
            replace g0 := k1.cell g0
            replace g1 := k1.cell g1
            replace g2 := k1.cell g2
            replace g3 := k1.cell g3
            go_wp2_with fail
            refine (X2'.out _ (kr.trans k1)).mono ?_
            rintro e u2 ⟨rfl, k2⟩
            go_wp2_with fail
            go_roundw
            case rel => exact ⟨j + 1, by omega, by go_num, ⟨_, rfl, parts_next HT.out (by rw [HY.out]; simp [Hd.out])⟩, (hkp.trans k1).trans k2⟩
            case measure => simp [intOf]; omega
        · clear X1 X2
          cases t
          all_goals
            go_wp2_with fail
            go_roundw
            case rel => exact ⟨j + 1, by omega, by go_num, ⟨_, rfl, parts_next HT.out (by rw [HY.out]; simp [Hd.out])⟩, hkp⟩
            case measure => simp [intOf]; omega
    · have hf : t = false := by
        cases t with
        | false => rfl
        | true =>
          obtain ⟨h1, h2⟩ := HT.out.1 rfl
          exact absurd (fun i hi => h2 i (by omega)) (PN.out l h1 hl1)
      subst hf
      go_wp2_with fail
      refine (AL.out _).mono ?_
      rintro e u1 ⟨rfl, k1⟩
      go_wp2_with fail
      go_ret
      exact ⟨rfl, kr.trans k1⟩
end Go.Proofs.Ytoidnbpbeblokaa
