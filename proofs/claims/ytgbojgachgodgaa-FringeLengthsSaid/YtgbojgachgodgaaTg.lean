/-
  FringeLengths, walked.
-/
import Derived.Test.YtgbojgachgodgaaTh
namespace Go.Proofs.Ytgbojgachgodgaa
open Go.RowKit Go.Shelf

theorem len_pos (F : Fr) (h : F.ok = true) : 0 ≤ F.lo ∧ F.lo ≤ F.hi ∧ F.hi ≤ 2000 ∧ F.hi - F.lo ≤ 400 := F.len_in h
set_option maxRecDepth 100000 in
set_option maxHeartbeats 40000000 in
theorem lens_long (F : Fr) (at_ wh : Int) (w : World) (hI : F.In w) (h : F.long = true) : Calls Try.prog 7 #[F.v, .int .u16 at_, .int .u16 wh] w (RetB true w) := by
  have AL := Lib.hid alive_any
  have LG := Lib.hid (fun w1 => long_any F w1 hI.wl hI.rl)
  rw [h] at LG
  obtain ⟨wa, wc, ws, lo, hi, ra, rc, rs⟩ := F
  dsimp only [Fr.v] at *
  clear h hI
  go_enter Try.func7, Try.ntmps7
  go_wp2_with fail
  refine (LG.out _).mono ?_
  rintro e w1 ⟨rfl, k1⟩
  go_wp2_with fail
  refine (AL.out _).mono ?_
  rintro e w2 ⟨rfl, k2⟩
  go_wp2_with fail
  go_ret
  exact ⟨rfl, (((Keeps.refl w).alloc _).trans k1).trans k2⟩
set_option maxRecDepth 100000 in
set_option maxHeartbeats 40000000 in
theorem lens_bad (F : Fr) (at_ wh : Int) (w : World) (hI : F.In w) (h : F.long = false) (hok : F.ok = false) : Calls Try.prog 7 #[F.v, .int .u16 at_, .int .u16 wh] w (RetB true w) := by
  have AL := Lib.hid alive_any
  have LG := Lib.hid (fun w1 => long_any F w1 hI.wl hI.rl)
  have RF := Lib.hid (fun w1 (k : Keeps w w1) => refFringe_any F w1 (hI.keep k))
  rw [h] at LG
  rw [hok] at RF
  obtain ⟨wa, wc, ws, lo, hi, ra, rc, rs⟩ := F
  dsimp only [Fr.v] at *
  clear h hI hok
  go_enter Try.func7, Try.ntmps7
  go_wp2_with fail
  have k := (Keeps.refl w).alloc (.cells #[.slice wa ws.length wc, .int .i64 lo, .int .i64 hi, .slice ra rs.length rc] 27)
  have hB := Fr.Box.new ⟨wa, wc, ws, lo, hi, ra, rc, rs⟩ w
  refine (LG.out _).mono ?_
  rintro e w1 ⟨rfl, k1⟩
  replace hB := hB.keep k1
  replace k := k.trans k1
  clear k1
  obtain ⟨g0, g1, g2, g3⟩ := hB
  dsimp only at g0 g1 g2 g3
  go_wp2_with fail
  refine (RF.out _ k).mono ?_
  rintro e w3 ⟨rfl, k1⟩
  replace k := k.trans k1
  clear k1
  go_wp2_with fail
  refine (AL.out _).mono ?_
  rintro e w5 ⟨rfl, k1⟩
  go_wp2_with fail
  go_ret
  exact ⟨rfl, k.trans k1⟩
set_option maxRecDepth 100000 in
set_option maxHeartbeats 40000000 in
theorem lens_none (F : Fr) (at_ wh : Int) (w : World) (hI : F.In w) (hok : F.ok = true) (a0 : 0 ≤ at_) (a1 : at_ ≤ 65535) (b0 : 0 ≤ wh) (b1 : wh ≤ 65535) (ht : F.truths = []) : Calls Try.prog 7 #[F.v, .int .u16 at_, .int .u16 wh] w (RetB true w) := by
  have AL := Lib.hid alive_any
  have LG := Lib.hid (fun w1 => long_any F w1 hI.wl hI.rl)
  rw [F.short hok] at LG
  have hwl := F.wl_in hok
  have hrl := F.rl_in hok
  obtain ⟨l1, l2, l3, l4⟩ := F.len_in hok
  have RF := Lib.hid (fun w1 (k : Keeps w w1) => refFringe_any F w1 (hI.keep k))
  rw [hok] at RF
  obtain ⟨m, hm⟩ : ∃ m : Nat, wh % 2001 = m := Int.eq_ofNat_of_zero_le (by omega)
  have hm2 : m ≤ 2000 := by omega
  obtain ⟨N, hN⟩ : ∃ N : Int, F.lo + at_ % (F.hi - F.lo + 1) = N := ⟨_, rfl⟩
  have hN0 : F.lo ≤ N := by have := Int.emod_nonneg at_ (show F.hi - F.lo + 1 ≠ 0 by omega); omega
  have hN1 : N ≤ F.hi := by have := Int.emod_lt_of_pos at_ (show 0 < F.hi - F.lo + 1 by omega); omega
  have hr0 : 0 ≤ at_ % (F.hi - F.lo + 1) := by omega
  have hr1 : at_ % (F.hi - F.lo + 1) ≤ 400 := by omega
  have LE := Lib.hid (fun w1 (k : Keeps w w1) => Lengths_at F w1 (hI.keep k))
  have CN := Lib.hid (fun w1 (k : Keeps w w1) => Count_any F w1 (hI.keep k))
  have NR := Lib.hid (fun w1 (k : Keeps w w1) => Near_any F m w1 (hI.keep k))
  have P1 := Lib.hid (fun (c : Nat) (x : Int) (hc : c < F.ws.length) (hx : F.ws[c]?.getD 0 = x) w1 (k : Keeps w w1) => Part_at F hok (n := N) hc hx (by omega) (by omega) w1 (hI.keep k))
  have RI := Lib.hid (fun (k : Nat) (hk : k < F.rs.length) => F.rd_in hok hk)
  have WI := Lib.hid (fun (c : Nat) (hc : c < F.ws.length) => F.wave_in hok hc)
  have AS := Lib.hid (fun (k : Nat) (hk : k < F.rs.length) => allR_succ F hok N hk)
  have AA := Lib.hid (allR_all F hok hN0 hN1)
  have HI := Lib.hid hI
  rw [show lenE F = 10 by simp [lenE, hok, ht], show lenL F = [] by simp [lenL, ht]] at LE
  rw [show countR F = (0, 0) by simp [countR, hok, ht]] at CN
  rw [show nearR F m = (0, 10) by simp only [nearR, hok]; rw [if_neg (by simp), if_neg (by omega), if_pos ht]] at NR
  rw [show (F.truths.map fun x => ((x.val : Nat) : Int)) = [] by rw [ht]; rfl] at AA
  obtain ⟨R, hR⟩ : ∃ R : Nat → Bool, allR F N = R := ⟨_, rfl⟩
  have R0 := Lib.hid (show R 0 = true from hR ▸ allR_zero F N)
  rw [hR] at AA
  simp only [hR] at AS
  obtain ⟨wa, wc, ws, lo, hi, ra, rc, rs⟩ := F
  dsimp only [Fr.v] at *
  have HM := Lib.hid hm
  have HN' := Lib.hid hN
  have hne : ¬ (hi - lo + 1 = 0) := by omega
  clear hI hok ht hR hm hN
  go_enter Try.func7, Try.ntmps7
  go_wp2_with fail
  have k := (Keeps.refl w).alloc (.cells #[.slice wa ws.length wc, .int .i64 lo, .int .i64 hi, .slice ra rs.length rc] 27)
  have hB := Fr.Box.new ⟨wa, wc, ws, lo, hi, ra, rc, rs⟩ w
  refine (LG.out _).mono ?_
  rintro e w1 ⟨rfl, k1⟩
  replace hB := hB.keep k1
  replace k := k.trans k1
  clear k1
  obtain ⟨g0, g1, g2, g3⟩ := hB
  dsimp only at g0 g1 g2 g3
  go_wp2_with fail
  refine (RF.out _ k).mono ?_
  rintro e w2 ⟨rfl, k1⟩
  replace g0 := k1.cell g0
  replace g1 := k1.cell g1
  replace g2 := k1.cell g2
  replace g3 := k1.cell g3
  replace k := k.trans k1
  clear k1
  go_wp2_with fail
  refine (LE.out _ k).mono ?_
  rintro e w3 ⟨al, cl, rfl, hL, k1⟩
  replace g0 := k1.cell g0
  replace g1 := k1.cell g1
  replace g2 := k1.cell g2
  replace g3 := k1.cell g3
  replace k := k.trans k1
  clear k1
  have HL := Lib.hid (fun w' (kk : Keeps w3 w') => hL.keep kk)
  have kL := Keeps.refl w3
  clear hL
  go_wp2_with fail
  refine (CN.out _ k).mono ?_
  rintro e w4 ⟨rfl, k1⟩
  replace kL := kL.trans k1
  replace g0 := k1.cell g0
  replace g1 := k1.cell g1
  replace g2 := k1.cell g2
  replace g3 := k1.cell g3
  replace k := k.trans k1
  clear k1
  go_wp2_with fail
  rw [HM.out]
  refine (NR.out _ k).mono ?_
  rintro e w5 ⟨rfl, k1⟩
  replace kL := kL.trans k1
  replace g0 := k1.cell g0
  replace g1 := k1.cell g1
  replace g2 := k1.cell g2
  replace g3 := k1.cell g3
  replace k := k.trans k1
  clear k1
  clear LG RF LE CN NR HM
  go_wp2_with fail
  go_region
  rw [HN'.out]
  clear hne hr0 hr1 HN'
  go_wp2_with fail
  go_loopw [15, 106] (fun r i wr => ∃ j : Nat, j ≤ rs.length ∧ i = .int .i64 j ∧ r = .bool (R j) ∧ Keeps w5 wr) (fun _ i _ => rs.length - (intOf i).toNat)
  case atStart => exact ⟨0, Nat.zero_le _, rfl, by rw [R0.out], (Keeps.refl _).drew⟩
  case round =>
    obtain ⟨j, hj, rfl, rfl, hkp⟩ := hrel
    replace g0 := hkp.cell g0
    replace g1 := hkp.cell g1
    replace g2 := hkp.cell g2
    replace g3 := hkp.cell g3
    have kr := k.trans hkp
    obtain ⟨t, ht⟩ : ∃ t, R j = t := ⟨_, rfl⟩
    rw [ht]
    by_cases hlt : j < rs.length
    · obtain ⟨b, o, rfl, hcs⟩ := (HI.out.rds).keep kr (by intro e; simp only at e; rw [e] at hlt; simp at hlt)
      have h1 := RI.out j hlt
      have h2 := hcs j hlt
      have hS := AS.out j hlt
      dsimp only at h1 h2
      obtain ⟨⟨c, x, y⟩, hrj⟩ : ∃ r : Rd, rs[j]?.getD (0, 0, 0) = r := ⟨_, rfl⟩
      rw [hrj] at h1 h2 hS
      dsimp only at h1 h2 hS
      obtain ⟨hc0, hcw, hp⟩ := h1
      obtain ⟨c, rfl⟩ := Int.eq_ofNat_of_zero_le hc0
      have hcw' : c < ws.length := by omega
      obtain ⟨wv, hwv⟩ : ∃ x, ws[c]?.getD 0 = x := ⟨_, rfl⟩
      have hw1 := WI.out c hcw'
      rw [hwv] at hw1
      rw [Int.toNat_natCast, hwv] at hS
      have X1 := Lib.hid (fun w1 kk => P1.out c wv hcw' hwv w1 kk)
      have hpb := partI_bd (wv := wv) (n := N) (by omega)
      unfold partI at hpb
      obtain ⟨p, hpe⟩ : ∃ p, 20 * (N % wv) / wv = p := ⟨_, rfl⟩
      rw [hpe] at X1 hS hpb
      rw [ht] at hS
      simp only [vPart, decide_eq_true_eq] at hp
      obtain ⟨h2a, h2b, h2c⟩ := h2
      have hlb := lt_of_cell h2a
      have hlx := lt_of_cell g0
      have HS := Lib.hid hS
      clear hS hpe hwv hrj hcs ht hw1 hc0 hcw'
      go_wp2_with fail
      refine (X1.out _ (kr.alloc _)).mono ?_
      rintro e u1 ⟨rfl, k1⟩
      have ka := (hkp.alloc (.cells #[.int .i64 c, .int .i64 x, .int .i64 y] 41)).trans k1
      have c0 : u1.cell? ⟨wr.heap.size, 0, none⟩ = some (.int .i64 c) := k1.cell (by simp [go_sem])
      have c1 : u1.cell? ⟨wr.heap.size, 1, none⟩ = some (.int .i64 x) := k1.cell (by simp [go_sem])
      have c2 : u1.cell? ⟨wr.heap.size, 2, none⟩ = some (.int .i64 y) := k1.cell (by simp [go_sem])
      clear X1 k1
      cases t
      · have H1 := Lib.hid (show R (j + 1) = false from by rw [HS.out]; rfl)
        go_wp2
        go_roundw
        case rel => exact ⟨j + 1, by omega, by go_num, by rw [H1.out], ka⟩
        case measure => simp [intOf]; omega
      · by_cases o1 : x ≤ p
        · by_cases o2 : p ≤ y
          · have H1 := Lib.hid (show R (j + 1) = true from by rw [HS.out]; simp [okR]; omega)
            clear HS
            go_wp2
            go_roundw
            case rel => exact ⟨j + 1, by omega, by go_num, by rw [H1.out], ka⟩
            case measure => simp [intOf]; omega
          · have H1 := Lib.hid (show R (j + 1) = false from by rw [HS.out]; simp [okR]; omega)
            have o3 : x ≤ p + 20 := by omega
            have o4 : decide (p + 20 ≤ y) = false := by simp; omega
            have o5 : decide (p ≤ y) = false := by simp; omega
            clear HS o2
            go_wp2
            go_roundw
            case rel => exact ⟨j + 1, by omega, by go_num, by rw [H1.out], ka⟩
            case measure => simp [intOf]; omega
        · have o3 : x ≤ p + 20 := by omega
          have o5 : decide (x ≤ p) = false := by simp; omega
          by_cases o4 : p + 20 ≤ y
          · have H1 := Lib.hid (show R (j + 1) = true from by rw [HS.out]; simp [okR]; omega)
            clear HS
            go_wp2
            go_roundw
            case rel => exact ⟨j + 1, by omega, by go_num, by rw [H1.out], ka⟩
            case measure => simp [intOf]; omega
          · have H1 := Lib.hid (show R (j + 1) = false from by rw [HS.out]; simp [okR]; omega)
            have o6 : decide (p + 20 ≤ y) = false := by simp; omega
            clear HS o1 o4
            go_wp2
            go_roundw
            case rel => exact ⟨j + 1, by omega, by go_num, by rw [H1.out], ka⟩
            case measure => simp [intOf]; omega
    · obtain rfl : j = rs.length := by omega
      have HT := Lib.hid (AA.out.symm.trans ht)
      clear ht AA AS RI WI P1
      have ht0 : t = false := by rw [← HT.out]; simp
      subst ht0
      go_wp2_with fail
      obtain ⟨wo, rfl⟩ : ∃ wo : World, wo = wr := ⟨_, rfl⟩
      go_loopw [21, 22, 23, 162] (fun a b c i wx => i = .int .i64 0 ∧ a = .int .i64 0 ∧ b = .bool false ∧ c = .bool false ∧ Keeps wo wx) (fun _ _ _ _ _ => 0)
      case atStart => exact ⟨rfl, rfl, rfl, rfl, Keeps.refl _⟩
      case round =>
        obtain ⟨rfl, rfl, rfl, rfl, hkp2⟩ := hrel
        go_wp2_with fail
        refine (AL.out _).mono ?_
        rintro e u9 ⟨rfl, k9⟩
        go_wp2_with fail
        go_ret
        exact ⟨rfl, (kr.trans hkp2).trans k9⟩
set_option maxRecDepth 100000 in
set_option maxHeartbeats 40000000 in
theorem lens_some (F : Fr) (at_ wh : Int) (w : World) (hI : F.In w) (hok : F.ok = true) (a0 : 0 ≤ at_) (a1 : at_ ≤ 65535) (b0 : 0 ≤ wh) (b1 : wh ≤ 65535) (ht : F.truths ≠ []) : Calls Try.prog 7 #[F.v, .int .u16 at_, .int .u16 wh] w (RetB true w) := by
  have AL := Lib.hid alive_any
  have LG := Lib.hid (fun w1 => long_any F w1 hI.wl hI.rl)
  rw [F.short hok] at LG
  have hwl := F.wl_in hok
  have hrl := F.rl_in hok
  obtain ⟨l1, l2, l3, l4⟩ := F.len_in hok
  have RF := Lib.hid (fun w1 (k : Keeps w w1) => refFringe_any F w1 (hI.keep k))
  rw [hok] at RF
  obtain ⟨m, hm⟩ : ∃ m : Nat, wh % 2001 = m := Int.eq_ofNat_of_zero_le (by omega)
  have hm2 : m ≤ 2000 := by omega
  obtain ⟨N, hN⟩ : ∃ N : Int, F.lo + at_ % (F.hi - F.lo + 1) = N := ⟨_, rfl⟩
  have hN0 : F.lo ≤ N := by have := Int.emod_nonneg at_ (show F.hi - F.lo + 1 ≠ 0 by omega); omega
  have hN1 : N ≤ F.hi := by have := Int.emod_lt_of_pos at_ (show 0 < F.hi - F.lo + 1 by omega); omega
  have hr0 : 0 ≤ at_ % (F.hi - F.lo + 1) := by omega
  have hr1 : at_ % (F.hi - F.lo + 1) ≤ 400 := by omega
  have LE := Lib.hid (fun w1 (k : Keeps w w1) => Lengths_at F w1 (hI.keep k))
  have CN := Lib.hid (fun w1 (k : Keeps w w1) => Count_any F w1 (hI.keep k))
  have NR := Lib.hid (fun w1 (k : Keeps w w1) => Near_any F m w1 (hI.keep k))
  have P1 := Lib.hid (fun (c : Nat) (x : Int) (hc : c < F.ws.length) (hx : F.ws[c]?.getD 0 = x) w1 (k : Keeps w w1) => Part_at F hok (n := N) hc hx (by omega) (by omega) w1 (hI.keep k))
  have RI := Lib.hid (fun (k : Nat) (hk : k < F.rs.length) => F.rd_in hok hk)
  have WI := Lib.hid (fun (c : Nat) (hc : c < F.ws.length) => F.wave_in hok hc)
  have AS := Lib.hid (fun (k : Nat) (hk : k < F.rs.length) => allR_succ F hok N hk)
  have AA := Lib.hid (allR_all F hok hN0 hN1)
  have HI := Lib.hid hI
  have SB := Lib.hid (fun i (hi : i < (spansOf F.truths).length) => span_in F hok hi)
  obtain ⟨nf1, nf2⟩ := near_flat F ht m
  have htl := F.truths_len hok
  have htp : 0 < F.truths.length := List.length_pos_iff.2 ht
  have hsl := spansOf_len F.truths
  obtain ⟨sf1, sf2, sf3⟩ := spansOf_facts F.truths (truths_sorted F)
  have hvin : ∀ n ∈ flat (spansOf F.truths), F.lo ≤ n ∧ n ≤ F.hi := by
    intro n hn
    rw [sf1] at hn
    obtain ⟨x, hx, rfl⟩ := List.mem_map.1 hn
    have := (mem_truths hok).1 hx
    exact ⟨this.1, this.2.1⟩
  have hv := hvin _ nf1
  rw [show lenE F = 0 by simp [lenE, hok, ht], show lenL F = spansOf F.truths by simp [lenL, hok, ht]] at LE
  rw [show countR F = ((((flat (spansOf F.truths)).length : Nat) : Int), 0) by simp [countR, hok, sf1]] at CN
  rw [show nearR F m = (near m F.truths, 0) by simp only [nearR, hok]; rw [if_neg (by simp), if_neg (by omega), if_neg ht]] at NR
  rw [show (F.truths.map fun x => ((x.val : Nat) : Int)) = flat (spansOf F.truths) from sf1.symm] at AA
  have hfl : (flat (spansOf F.truths)).length = F.truths.length := by rw [sf1, List.length_map]
  rw [← hfl] at htl htp hsl
  clear hfl sf1 sf3
  obtain ⟨L, hL⟩ : ∃ L, spansOf F.truths = L := ⟨_, rfl⟩
  rw [hL] at LE CN AA SB nf1 nf2 htl htp hsl sf2 hvin
  obtain ⟨v, hve⟩ : ∃ v, near m F.truths = v := ⟨_, rfl⟩
  rw [hve] at NR nf1 nf2 hv
  have NF := Lib.hid nf2
  have N1 := Lib.hid nf1
  have AP := Lib.hid sf2
  have VI := Lib.hid hvin
  have FL := Lib.hid (fun k => flat_le (L := L) k)
  clear hL hve nf1 nf2 sf2 hvin
  obtain ⟨n, hn⟩ : ∃ n, (flat L).length = n := ⟨_, rfl⟩
  rw [hn] at CN htl htp FL hsl
  have HN := Lib.hid hn
  clear hn
  obtain ⟨R, hR⟩ : ∃ R : Nat → Bool, allR F N = R := ⟨_, rfl⟩
  have R0 := Lib.hid (show R 0 = true from hR ▸ allR_zero F N)
  rw [hR] at AA
  simp only [hR] at AS
  obtain ⟨wa, wc, ws, lo, hi, ra, rc, rs⟩ := F
  dsimp only [Fr.v] at *
  have HM := Lib.hid hm
  have HN' := Lib.hid hN
  have hne : ¬ (hi - lo + 1 = 0) := by omega
  clear hI hok ht hR hm hN
  go_enter Try.func7, Try.ntmps7
  go_wp2_with fail
  have k := (Keeps.refl w).alloc (.cells #[.slice wa ws.length wc, .int .i64 lo, .int .i64 hi, .slice ra rs.length rc] 27)
  have hB := Fr.Box.new ⟨wa, wc, ws, lo, hi, ra, rc, rs⟩ w
  refine (LG.out _).mono ?_
  rintro e w1 ⟨rfl, k1⟩
  replace hB := hB.keep k1
  replace k := k.trans k1
  clear k1
  obtain ⟨g0, g1, g2, g3⟩ := hB
  dsimp only at g0 g1 g2 g3
  go_wp2_with fail
  refine (RF.out _ k).mono ?_
  rintro e w2 ⟨rfl, k1⟩
  replace g0 := k1.cell g0
  replace g1 := k1.cell g1
  replace g2 := k1.cell g2
  replace g3 := k1.cell g3
  replace k := k.trans k1
  clear k1
  go_wp2_with fail
  refine (LE.out _ k).mono ?_
  rintro e w3 ⟨al, cl, rfl, hL, k1⟩
  replace g0 := k1.cell g0
  replace g1 := k1.cell g1
  replace g2 := k1.cell g2
  replace g3 := k1.cell g3
  replace k := k.trans k1
  clear k1
  have HL := Lib.hid (fun w' (kk : Keeps w3 w') => hL.keep kk)
  have kL := Keeps.refl w3
  clear hL
  go_wp2_with fail
  refine (CN.out _ k).mono ?_
  rintro e w4 ⟨rfl, k1⟩
  replace kL := kL.trans k1
  replace g0 := k1.cell g0
  replace g1 := k1.cell g1
  replace g2 := k1.cell g2
  replace g3 := k1.cell g3
  replace k := k.trans k1
  clear k1
  go_wp2_with fail
  rw [HM.out]
  refine (NR.out _ k).mono ?_
  rintro e w5 ⟨rfl, k1⟩
  replace kL := kL.trans k1
  replace g0 := k1.cell g0
  replace g1 := k1.cell g1
  replace g2 := k1.cell g2
  replace g3 := k1.cell g3
  replace k := k.trans k1
  clear k1
  clear LG RF LE CN NR HM
  go_wp2_with fail
  go_region
  rw [HN'.out]
  clear hne hr0 hr1 HN'
  go_wp2_with fail
  go_loopw [15, 106] (fun r i wr => ∃ j : Nat, j ≤ rs.length ∧ i = .int .i64 j ∧ r = .bool (R j) ∧ Keeps w5 wr) (fun _ i _ => rs.length - (intOf i).toNat)
  case atStart => exact ⟨0, Nat.zero_le _, rfl, by rw [R0.out], (Keeps.refl _).drew⟩
  case round =>
    obtain ⟨j, hj, rfl, rfl, hkp⟩ := hrel
    replace g0 := hkp.cell g0
    replace g1 := hkp.cell g1
    replace g2 := hkp.cell g2
    replace g3 := hkp.cell g3
    have kr := k.trans hkp
    obtain ⟨t, ht⟩ : ∃ t, R j = t := ⟨_, rfl⟩
    rw [ht]
    by_cases hlt : j < rs.length
    · obtain ⟨b, o, rfl, hcs⟩ := (HI.out.rds).keep kr (by intro e; simp only at e; rw [e] at hlt; simp at hlt)
      have h1 := RI.out j hlt
      have h2 := hcs j hlt
      have hS := AS.out j hlt
      dsimp only at h1 h2
      obtain ⟨⟨c, x, y⟩, hrj⟩ : ∃ r : Rd, rs[j]?.getD (0, 0, 0) = r := ⟨_, rfl⟩
      rw [hrj] at h1 h2 hS
      dsimp only at h1 h2 hS
      obtain ⟨hc0, hcw, hp⟩ := h1
      obtain ⟨c, rfl⟩ := Int.eq_ofNat_of_zero_le hc0
      have hcw' : c < ws.length := by omega
      obtain ⟨wv, hwv⟩ : ∃ x, ws[c]?.getD 0 = x := ⟨_, rfl⟩
      have hw1 := WI.out c hcw'
      rw [hwv] at hw1
      rw [Int.toNat_natCast, hwv] at hS
      have X1 := Lib.hid (fun w1 kk => P1.out c wv hcw' hwv w1 kk)
      have hpb := partI_bd (wv := wv) (n := N) (by omega)
      unfold partI at hpb
      obtain ⟨p, hpe⟩ : ∃ p, 20 * (N % wv) / wv = p := ⟨_, rfl⟩
      rw [hpe] at X1 hS hpb
      rw [ht] at hS
      simp only [vPart, decide_eq_true_eq] at hp
      obtain ⟨h2a, h2b, h2c⟩ := h2
      have hlb := lt_of_cell h2a
      have hlx := lt_of_cell g0
      have HS := Lib.hid hS
      clear hS hpe hwv hrj hcs ht hw1 hc0 hcw'
      go_wp2_with fail
      refine (X1.out _ (kr.alloc _)).mono ?_
      rintro e u1 ⟨rfl, k1⟩
      have ka := (hkp.alloc (.cells #[.int .i64 c, .int .i64 x, .int .i64 y] 41)).trans k1
      have c0 : u1.cell? ⟨wr.heap.size, 0, none⟩ = some (.int .i64 c) := k1.cell (by simp [go_sem])
      have c1 : u1.cell? ⟨wr.heap.size, 1, none⟩ = some (.int .i64 x) := k1.cell (by simp [go_sem])
      have c2 : u1.cell? ⟨wr.heap.size, 2, none⟩ = some (.int .i64 y) := k1.cell (by simp [go_sem])
      clear X1 k1
      cases t
      · have H1 := Lib.hid (show R (j + 1) = false from by rw [HS.out]; rfl)
        go_wp2
        go_roundw
        case rel => exact ⟨j + 1, by omega, by go_num, by rw [H1.out], ka⟩
        case measure => simp [intOf]; omega
      · by_cases o1 : x ≤ p
        · by_cases o2 : p ≤ y
          · have H1 := Lib.hid (show R (j + 1) = true from by rw [HS.out]; simp [okR]; omega)
            clear HS
            go_wp2
            go_roundw
            case rel => exact ⟨j + 1, by omega, by go_num, by rw [H1.out], ka⟩
            case measure => simp [intOf]; omega
          · have H1 := Lib.hid (show R (j + 1) = false from by rw [HS.out]; simp [okR]; omega)
            have o3 : x ≤ p + 20 := by omega
            have o4 : decide (p + 20 ≤ y) = false := by simp; omega
            have o5 : decide (p ≤ y) = false := by simp; omega
            clear HS o2
            go_wp2
            go_roundw
            case rel => exact ⟨j + 1, by omega, by go_num, by rw [H1.out], ka⟩
            case measure => simp [intOf]; omega
        · have o3 : x ≤ p + 20 := by omega
          have o5 : decide (x ≤ p) = false := by simp; omega
          by_cases o4 : p + 20 ≤ y
          · have H1 := Lib.hid (show R (j + 1) = true from by rw [HS.out]; simp [okR]; omega)
            clear HS
            go_wp2
            go_roundw
            case rel => exact ⟨j + 1, by omega, by go_num, by rw [H1.out], ka⟩
            case measure => simp [intOf]; omega
          · have H1 := Lib.hid (show R (j + 1) = false from by rw [HS.out]; simp [okR]; omega)
            have o6 : decide (p + 20 ≤ y) = false := by simp; omega
            clear HS o1 o4
            go_wp2
            go_roundw
            case rel => exact ⟨j + 1, by omega, by go_num, by rw [H1.out], ka⟩
            case measure => simp [intOf]; omega
    · obtain rfl : j = rs.length := by omega
      have HT := Lib.hid (AA.out.symm.trans ht)
      clear ht AA AS RI WI P1
      go_upto_region 19 with fail
      go_cut [21, 22, 23] (fun a b c wx => a = .int .i64 0 ∧ b = .bool false ∧ c = .bool false ∧ wx = wr)
      case first =>
        go_wp2_with fail
        go_meet
        exact ⟨rfl, rfl, rfl, rfl⟩
      case rest =>
      obtain ⟨rfl, rfl, rfl, rfl⟩ := hcut
      rename_i hK
      refine hK _ _ (wp_of_eq (c' := lens_from 20) (by kernel_rfl) ?_)
      exact lens_rest w _ L m n v N lo hi t al cl wa _ ws ra rc rs AL hm2 l1 l3 hv hsl htl SB NF N1 AP VI FL HN HT g0 g1 g2 g3 kr (HL.out _ (kL.trans hkp)) _ _ _ _ _ _ _ _ _ _ _ _ _ _ _ _ _ _ _ _ _ _ _ _ _ _ _ _ _ _ _ _ _ _ _ _ _ _ _ _ _ _ _ _ _ _ _ _ _ _ _ _ _ _ _ _ _ _ _ _ _ _ _ _ _ _ _ _ _ _ _ _ _ _ _ _ _ _ _ _ _ _ _ _ _ _ _ _ _ _ _ _ _ _ _ _ _ _ _ _ _ _ _ _ _ _ _ _ _ _ _ _ _ _ _ _ _ _ _ _ _ _ _ _ _ _ _ _ _ _ _ _ _ _ _ _ _ _ _ _ _ _ _ _ _ _ _ _ _ _ _ _ _ _ _ _ _ _ _ _ _ _ _ _ _ _ _ _ _ _ _ _ _ _ _ _ _ _ _ _ _ _ _ _ _ _ _ _ _ _ _ _ _ _ _ _ _ _ _ _ _ _ _ _ _ _ _ _ _ _ _ _ _ _ _ _ _ _ _ _ _ _ _ _ _ _ _ _ _ _ _ _ _ _ _ _ _ _ _ _ _ _ _ _ _ _ _ _ _ _ _ _ _ _ _ _ _ _ _ _ _ _ _ _ _ _ _ _ _ _ _ _ _ _ _ _ _ _ _ _ _ _ _
end Go.Proofs.Ytgbojgachgodgaa
