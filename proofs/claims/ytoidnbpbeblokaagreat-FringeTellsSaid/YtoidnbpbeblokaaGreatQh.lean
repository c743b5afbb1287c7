/-
  FringeTells, walked.
-/
import Derived.Test.YtoidnbpbeblokaaGreatQg
import Derived.Test.YtoidnbpbeblokaaGreatYi
namespace Go.Proofs.YtoidnbpbeblokaaGreat
open Go.RowKit Go.Shelf

theorem lenL_len (F : Fr) : (lenL F).length ≤ 401 := by
  rw [← told_spans]
  exact Nat.le_trans (spTo_len _ _) (told_len F)
theorem whoL_len (F : Fr) (c : Int) : (whoL F c).length ≤ 401 := by
  unfold whoL
  split
  · rename_i h
    have hok : F.ok = true := by
      cases hok : F.ok
      · rw [colE_1 hok] at h; exact absurd h (by decide)
      · rfl
    have h1 := compact_len ((frs (F.ws[c.toNat]?.getD 0) F.truths).map (·.1))
    have h2 := frs_len (F.ws[c.toNat]?.getD 0) F.truths
    have h3 := F.truths_len hok
    rw [List.length_map] at h1
    unfold whs
    omega
  · simp
set_option maxRecDepth 100000 in
set_option maxHeartbeats 1600000 in
theorem tells_long (F : Fr) (n c : Int) (w : World) (hI : F.In w) (h : F.long = true) : Calls Tryz.prog 3 #[F.v, .int .i64 n, .int .i64 c] w (RetB true w) := by
  have AL := Lib.hid alive_any
  have LG := Lib.hid (fun w1 => long_any F w1 hI.wl hI.rl)
  rw [h] at LG
  obtain ⟨wa, wc, ws, lo, hi, ra, rc, rs⟩ := F
  dsimp only [Fr.v] at *
  clear h hI
  go_enter Tryz.func3, Tryz.ntmps3
  go_wp2_with fail
  refine (LG.out _).mono ?_
  rintro e w1 ⟨rfl, k1⟩
  go_wp2_with fail
  refine (AL.out _).mono ?_
  rintro e w2 ⟨rfl, k2⟩
  go_wp2_with fail
  go_ret
  exact ⟨rfl, (((Keeps.refl w).alloc _).trans k1).trans k2⟩
set_option maxRecDepth 100000 in
set_option maxHeartbeats 3200000 in
theorem tells_same (F : Fr) (n c : Int) (w : World) (hI : F.In w) (h : F.long = false) : Calls Tryz.prog 3 #[F.v, .int .i64 n, .int .i64 c] w (RetB true w) := by
  have AL := Lib.hid alive_any
  have LG := Lib.hid (fun w1 => long_any F w1 hI.wl hI.rl)
  rw [h] at LG
  have P1 := Lib.hid (fun w1 (k : Keeps w w1) => Part_any F n c w1 (hI.keep k))
  have P2 := Lib.hid (fun w1 (k : Keeps w w1) => refPart_any F n c w1 (hI.keep k))
  have L1 := Lib.hid (fun w1 (k : Keeps w w1) => Lengths_at F w1 (hI.keep k))
  have L2 := Lib.hid (fun w1 (k : Keeps w w1) => refLengths_any F w1 (hI.keep k))
  have C1 := Lib.hid (fun w1 (k : Keeps w w1) => Count_any F w1 (hI.keep k))
  have C2 := Lib.hid (fun w1 (k : Keeps w w1) => refCount_any F w1 (hI.keep k))
  have N1 := Lib.hid (fun w1 (k : Keeps w w1) => Near_any F n w1 (hI.keep k))
  have N2 := Lib.hid (fun w1 (k : Keeps w w1) => refNear_any F n w1 (hI.keep k))
  have W1 := Lib.hid (fun w1 (k : Keeps w w1) => Whole_at F c w1 (hI.keep k))
  have W2 := Lib.hid (fun w1 (k : Keeps w w1) => refWhole_any F c w1 (hI.keep k))
  have S1 := Lib.hid (fun w1 (k : Keeps w w1) => Parts_any F c w1 (hI.keep k))
  have S2 := Lib.hid (fun w1 (k : Keeps w w1) => refParts_any F c w1 (hI.keep k))
  have D1 := Lib.hid (fun w1 (k : Keeps w w1) => Period_any F w1 (hI.keep k))
  have D2 := Lib.hid (fun w1 (k : Keeps w w1) => refPeriod_any F w1 (hI.keep k))
  have SP := Lib.hid (fun a b ca cb w1 (ha : Sps w1 a (lenL F)) (hb : Sps w1 b (lenL F)) => refSpans_any a b ca cb (lenL F) (lenL F) w1 ha hb (by have := lenL_len F; unfold maxLen; omega))
  have IN := Lib.hid (fun a b ca cb w1 (ha : Ints w1 a (whoL F c)) (hb : Ints w1 b (whoL F c)) => refInts_any a b ca cb (whoL F c) (whoL F c) w1 ha hb (by have := whoL_len F c; unfold maxLen; omega))
  rw [decide_eq_true (rfl : lenL F = lenL F)] at SP
  rw [decide_eq_true (rfl : whoL F c = whoL F c)] at IN
  obtain ⟨⟨p1, p2, p3⟩, hp⟩ : ∃ a, partR F n c = a := ⟨_, rfl⟩
  rw [hp] at P1 P2
  obtain ⟨le, hle⟩ : ∃ a, lenE F = a := ⟨_, rfl⟩
  rw [hle] at L1 L2
  obtain ⟨ll, hll⟩ : ∃ a, lenL F = a := ⟨_, rfl⟩
  rw [hll] at L1 L2 SP
  obtain ⟨⟨c1, c2⟩, hc⟩ : ∃ a, countR F = a := ⟨_, rfl⟩
  rw [hc] at C1 C2
  obtain ⟨⟨n1, n2⟩, hn⟩ : ∃ a, nearR F n = a := ⟨_, rfl⟩
  rw [hn] at N1 N2
  obtain ⟨ce, hce⟩ : ∃ a, colE F c = a := ⟨_, rfl⟩
  rw [hce] at W1 W2 S1 S2
  obtain ⟨wl, hwl⟩ : ∃ a, whoL F c = a := ⟨_, rfl⟩
  rw [hwl] at W1 W2 IN
  obtain ⟨ps, hps⟩ : ∃ a, parS F c = a := ⟨_, rfl⟩
  rw [hps] at S1 S2
  obtain ⟨⟨d1, d2⟩, hd⟩ : ∃ a, periodR F = a := ⟨_, rfl⟩
  rw [hd] at D1 D2
  dsimp only at P1 P2 C1 C2 N1 N2 D1 D2
  obtain ⟨wa, wc, ws, lo, hi, ra, rc, rs⟩ := F
  dsimp only [Fr.v] at *
  clear h hI hp hle hll hc hn hce hwl hps hd
  go_enter Tryz.func3, Tryz.ntmps3
  go_wp2_with fail
  have k := (Keeps.refl w).alloc (.cells #[.slice wa ws.length wc, .int .i64 lo, .int .i64 hi, .slice ra rs.length rc] 27)
  have hB := Fr.Box.new ⟨wa, wc, ws, lo, hi, ra, rc, rs⟩ w
  refine (LG.out _).mono ?_
  rintro e w1 ⟨rfl, k1⟩
  have HB := Lib.hid (hB.keep k1)
  have g0 := HB.out.c0
  have g1 := HB.out.c1
  have g2 := HB.out.c2
  have g3 := HB.out.c3
  dsimp only at g0 g1 g2 g3
  have hgl := lt_of_cell g0
  replace k := k.trans k1
  clear k1 hB LG
  go_wp2_with fail
  refine (P1.out _ k).mono ?_
  rintro e w1 ⟨rfl, k1⟩
  replace HB := Lib.hid (HB.out.keep k1)
  replace g0 := HB.out.c0
  replace g1 := HB.out.c1
  replace g2 := HB.out.c2
  replace g3 := HB.out.c3
  dsimp only at g0 g1 g2 g3
  replace hgl := lt_of_cell g0
  replace k := k.trans k1
  clear k1 P1
  go_wp2_with fail
  refine (P2.out _ k).mono ?_
  rintro e w1 ⟨rfl, k1⟩
  replace HB := Lib.hid (HB.out.keep k1)
  replace g0 := HB.out.c0
  replace g1 := HB.out.c1
  replace g2 := HB.out.c2
  replace g3 := HB.out.c3
  dsimp only at g0 g1 g2 g3
  replace hgl := lt_of_cell g0
  replace k := k.trans k1
  clear k1 P2
  go_wp2_with fail
  refine (L1.out _ k).mono ?_
  rintro e wl1 ⟨a1, x1, rfl, hs1, k1⟩
  have HS1 := Lib.hid (fun w2 (kk : Keeps wl1 w2) => hs1.keep kk)
  have kl := Keeps.refl wl1
  clear hs1
  replace HB := Lib.hid (HB.out.keep k1)
  replace g0 := HB.out.c0
  replace g1 := HB.out.c1
  replace g2 := HB.out.c2
  replace g3 := HB.out.c3
  dsimp only at g0 g1 g2 g3
  replace hgl := lt_of_cell g0
  replace k := k.trans k1
  clear k1 L1
  go_wp2_with fail
  refine (L2.out _ k).mono ?_
  rintro e wl2 ⟨a2, x2, rfl, hs2, k1⟩
  replace kl := kl.trans k1
  have HS2 := Lib.hid (fun w2 (kk : Keeps wl2 w2) => hs2.keep kk)
  have km := Keeps.refl wl2
  clear hs2
  replace HB := Lib.hid (HB.out.keep k1)
  replace g0 := HB.out.c0
  replace g1 := HB.out.c1
  replace g2 := HB.out.c2
  replace g3 := HB.out.c3
  dsimp only at g0 g1 g2 g3
  replace hgl := lt_of_cell g0
  replace k := k.trans k1
  clear k1 L2
  go_wp2_with fail
  refine (C1.out _ k).mono ?_
  rintro e w1 ⟨rfl, k1⟩
  replace kl := kl.trans k1
  replace km := km.trans k1
  replace HB := Lib.hid (HB.out.keep k1)
  replace g0 := HB.out.c0
  replace g1 := HB.out.c1
  replace g2 := HB.out.c2
  replace g3 := HB.out.c3
  dsimp only at g0 g1 g2 g3
  replace hgl := lt_of_cell g0
  replace k := k.trans k1
  clear k1 C1
  go_wp2_with fail
  refine (C2.out _ k).mono ?_
  rintro e w1 ⟨rfl, k1⟩
  replace kl := kl.trans k1
  replace km := km.trans k1
  replace HB := Lib.hid (HB.out.keep k1)
  replace g0 := HB.out.c0
  replace g1 := HB.out.c1
  replace g2 := HB.out.c2
  replace g3 := HB.out.c3
  dsimp only at g0 g1 g2 g3
  replace hgl := lt_of_cell g0
  replace k := k.trans k1
  clear k1 C2
  go_wp2_with fail
  refine (SP.out _ _ _ _ _ (HS1.out _ kl) (HS2.out _ km)).mono ?_
  rintro e w1 ⟨rfl, k1⟩
  replace HB := Lib.hid (HB.out.keep k1)
  replace g0 := HB.out.c0
  replace g1 := HB.out.c1
  replace g2 := HB.out.c2
  replace g3 := HB.out.c3
  dsimp only at g0 g1 g2 g3
  replace hgl := lt_of_cell g0
  replace k := k.trans k1
  clear k1 SP HS1 HS2 kl km
  go_wp2_with fail
  refine (N1.out _ k).mono ?_
  rintro e w1 ⟨rfl, k1⟩
  replace HB := Lib.hid (HB.out.keep k1)
  replace g0 := HB.out.c0
  replace g1 := HB.out.c1
  replace g2 := HB.out.c2
  replace g3 := HB.out.c3
  dsimp only at g0 g1 g2 g3
  replace hgl := lt_of_cell g0
  replace k := k.trans k1
  clear k1 N1
  go_wp2_with fail
  refine (N2.out _ k).mono ?_
  rintro e w1 ⟨rfl, k1⟩
  replace HB := Lib.hid (HB.out.keep k1)
  replace g0 := HB.out.c0
  replace g1 := HB.out.c1
  replace g2 := HB.out.c2
  replace g3 := HB.out.c3
  dsimp only at g0 g1 g2 g3
  replace hgl := lt_of_cell g0
  replace k := k.trans k1
  clear k1 N2
  go_wp2_with fail
  refine (W1.out _ k).mono ?_
  rintro e wl3 ⟨a3, x3, rfl, hs3, k1⟩
  have HS3 := Lib.hid (fun w2 (kk : Keeps wl3 w2) => hs3.keep kk)
  have kl := Keeps.refl wl3
  clear hs3
  replace HB := Lib.hid (HB.out.keep k1)
  replace g0 := HB.out.c0
  replace g1 := HB.out.c1
  replace g2 := HB.out.c2
  replace g3 := HB.out.c3
  dsimp only at g0 g1 g2 g3
  replace hgl := lt_of_cell g0
  replace k := k.trans k1
  clear k1 W1
  go_wp2_with fail
  refine (W2.out _ k).mono ?_
  rintro e wl4 ⟨a4, x4, rfl, hs4, k1⟩
  replace kl := kl.trans k1
  have HS4 := Lib.hid (fun w2 (kk : Keeps wl4 w2) => hs4.keep kk)
  have km := Keeps.refl wl4
  clear hs4
  replace HB := Lib.hid (HB.out.keep k1)
  replace g0 := HB.out.c0
  replace g1 := HB.out.c1
  replace g2 := HB.out.c2
  replace g3 := HB.out.c3
  dsimp only at g0 g1 g2 g3
  replace hgl := lt_of_cell g0
  replace k := k.trans k1
  clear k1 W2
  go_wp2_with fail
  refine (S1.out _ k).mono ?_
  rintro e w1 ⟨rfl, k1⟩
  replace kl := kl.trans k1
  replace km := km.trans k1
  replace HB := Lib.hid (HB.out.keep k1)
  replace g0 := HB.out.c0
  replace g1 := HB.out.c1
  replace g2 := HB.out.c2
  replace g3 := HB.out.c3
  dsimp only at g0 g1 g2 g3
  replace hgl := lt_of_cell g0
  replace k := k.trans k1
  clear k1 S1
  go_wp2_with fail
  refine (S2.out _ k).mono ?_
  rintro e w1 ⟨rfl, k1⟩
  replace kl := kl.trans k1
  replace km := km.trans k1
  replace HB := Lib.hid (HB.out.keep k1)
  replace g0 := HB.out.c0
  replace g1 := HB.out.c1
  replace g2 := HB.out.c2
  replace g3 := HB.out.c3
  dsimp only at g0 g1 g2 g3
  replace hgl := lt_of_cell g0
  replace k := k.trans k1
  clear k1 S2
  go_wp2_with fail
  refine (D1.out _ k).mono ?_
  rintro e w1 ⟨rfl, k1⟩
  replace kl := kl.trans k1
  replace km := km.trans k1
  replace HB := Lib.hid (HB.out.keep k1)
  replace g0 := HB.out.c0
  replace g1 := HB.out.c1
  replace g2 := HB.out.c2
  replace g3 := HB.out.c3
  dsimp only at g0 g1 g2 g3
  replace hgl := lt_of_cell g0
  replace k := k.trans k1
  clear k1 D1
  go_wp2_with fail
  refine (D2.out _ k).mono ?_
  rintro e w1 ⟨rfl, k1⟩
  replace kl := kl.trans k1
  replace km := km.trans k1
  replace HB := Lib.hid (HB.out.keep k1)
  replace g0 := HB.out.c0
  replace g1 := HB.out.c1
  replace g2 := HB.out.c2
  replace g3 := HB.out.c3
  dsimp only at g0 g1 g2 g3
  replace hgl := lt_of_cell g0
  replace k := k.trans k1
  clear k1 D2
  go_wp2_with fail
  refine (IN.out _ _ _ _ _ (HS3.out _ kl) (HS4.out _ km)).mono ?_
  rintro e w1 ⟨rfl, k1⟩
  replace k := k.trans k1
  clear k1 IN HS3 HS4 kl km
  go_wp2_with fail
  refine (AL.out _).mono ?_
  rintro e w2 ⟨rfl, k2⟩
  go_wp2_with fail
  go_ret
  exact ⟨rfl, k.trans k2⟩
theorem tells_any (F : Fr) (n c : Int) (w : World) (hI : F.In w) : Calls Tryz.prog 3 #[F.v, .int .i64 n, .int .i64 c] w (RetB true w) := by
  cases hl : F.long with
  | true => exact tells_long F n c w hI hl
  | false => exact tells_same F n c w hI hl
end Go.Proofs.YtoidnbpbeblokaaGreat
