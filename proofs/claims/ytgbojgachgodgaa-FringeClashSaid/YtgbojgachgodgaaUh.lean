/-
  FringeClash, walked: something clashes, and the set that the bits name has as many readings as those that must be wrong.
-/
import Derived.Test.YtgbojgachgodgaaUd
namespace Go.Proofs.Ytgbojgachgodgaa
open Go.RowKit Go.Shelf

set_option maxRecDepth 100000 in
set_option maxHeartbeats 16000000 in
theorem fc_some_c (F : Fr) (bi : Int) (w : World) (hI : F.In w) (hok : F.ok = true) (b0 : 0 ≤ bi) (b1 : bi ≤ 255) (x : St) (hc : F.clash = some x) (hcase : ∀ own : Nat, own < 2 ^ F.rs.length → bits .and .i64 bi ((2 ^ F.rs.length - 1 : Nat) : Int) = own → F.clB (cm (2 ^ F.rs.length - 1) own) = false ∧ pop (setOf F.wrong) = pop own ∧ setOf F.wrong ≤ own) : Calls Try.prog 10 #[F.v, .int .u8 bi] w (RetB true w) := by
  have hmf : ∀ (fn : Fn) (first cap : Array Value) (w : World), (Instr.makeFunc fn first cap).run Try.prog w = .ok (.func fn first cap) w := fun _ _ _ _ => rfl
  have AL := Lib.hid alive_any
  have LG := Lib.hid (fun w1 => long_any F w1 hI.wl hI.rl)
  have RF := Lib.hid (fun w1 (k : Keeps w w1) => refFringe_any F w1 (hI.keep k))
  have CL := Lib.hid (fun w1 (k : Keeps w w1) => Clash_any F w1 (hI.keep k))
  have WR := Lib.hid (fun w1 (k : Keeps w w1) => Wrong_any F w1 (hI.keep k))
  rw [not_long F hok] at LG
  rw [hok] at RF
  have hrl := F.rl_in hok
  obtain ⟨S, o, T, e1, e2, e3, t64, s1, sT, oT, po1, cS, cT, co, coT, hand, hrem, hmin, hout⟩ := clash_facts F hok hc
  rw [show clashR F = (S, 0) by simp [clashR, hok, hc, setOf, ← e1]] at CL
  rw [show wrongR F = (o, 0) by simp [wrongR, hok, e2]] at WR
  have hgl := F.gs_len
  have C1 := Lib.hid (fun s (hs : s < 2 ^ F.rs.length) b (hb : F.clB s = b) w1 (k : Keeps w w1) hB => clash1_is F hok w.heap.size s hs b hb w1 (hI.keep k) hB)
  have HB := Lib.hid (fun w1 k => (Fr.Box.new F w).keep (w' := w1) k)
  have hT1 := shl_full F.rs.length hrl
  obtain ⟨own, ho1, ho2⟩ := and_full F.rs.length hrl bi b0 b1
  have hcs0 := hcase own ho2 ho1
  rw [e3] at hT1 ho1 hcs0
  have hpp := Nat.pow_pos (a := 2) (n := F.rs.length) (by omega)
  have hwT : own ≤ T := by clear e1 e2 po1 hand hcs0 hcase hout hmin hrem; omega
  have SZ := Lib.hid (fun (s : Nat) (hs : s ≤ T) p (hp : pop s = p) w1 => refSize_is s (Nat.lt_of_le_of_lt hs t64) p hp w1)
  have EO := Lib.hid (andNot_bits T t64 o (Nat.lt_of_le_of_lt oT t64)).1
  have EW := Lib.hid (andNot_bits T t64 own (Nat.lt_of_le_of_lt hwT t64)).1
  have EA := Lib.hid (and_nat62 S o (Nat.lt_of_le_of_lt sT t64) (Nat.lt_of_le_of_lt oT t64))
  have EK := Lib.hid (fun k (hk : k < F.rs.length) => has_bits S (Nat.lt_of_le_of_lt sT t64) k (Nat.lt_of_lt_of_le hk hrl))
  have ER := Lib.hid (fun k (hk : k < F.rs.length) => (andNot_bits S (Nat.lt_of_le_of_lt sT t64) (2 ^ k) (Nat.pow_lt_pow_right (a := 2) (n := 6) (by decide) (Nat.lt_of_lt_of_le hk hrl))).1)
  have HR := Lib.hid hrem
  have TL := Lib.hid (fun y (hy : y ≤ T) => show y < 2 ^ F.rs.length by clear e1 e2 po1 hand hcs0 hcase hout hmin hrem; omega)
  obtain ⟨cb, hcb⟩ : ∃ cb : Nat → Bool, F.clB = cb := ⟨_, rfl⟩
  simp only [hcb] at C1 cS cT co HR
  rw [hcb] at hcs0
  obtain ⟨cw, hcw⟩ : ∃ b, cb (cm T own) = b := ⟨_, rfl⟩
  rw [hcw] at hcs0
  obtain ⟨cs, hcs⟩ : ∃ b, cb own = b := ⟨_, rfl⟩
  have CS := Lib.hid cS
  have CT := Lib.hid cT
  have CO := Lib.hid co
  have CW := Lib.hid hcw
  have CI := Lib.hid hcs
  obtain ⟨po, hpo⟩ : ∃ p, pop o = p := ⟨_, rfl⟩
  obtain ⟨ps, hps⟩ : ∃ p, pop S = p := ⟨_, rfl⟩
  obtain ⟨pw, hpw⟩ : ∃ p, pop own = p := ⟨_, rfl⟩
  have PO := Lib.hid hpo
  have PS := Lib.hid hps
  have PW := Lib.hid hpw
  have hq2 := hmin own hwT
  have hcwT := (hout own hwT).1
  rw [hcb, hcs] at hq2
  unfold NoLater at hq2
  rw [hps, hpw] at hq2
  obtain ⟨hcs0, hcs1, hcs2⟩ := hcs0
  rw [e2, hpo, hpw] at hcs1
  rw [e2] at hcs2
  rw [hpo] at po1 WR
  have Q2 := Lib.hid hq2
  have HA := Lib.hid (show ((S &&& o : Nat) : Int) ≠ 0 from Int.natCast_ne_zero.2 hand)
  have HCT := Lib.hid coT
  clear hq2 hcb hcase hcs hcw hpo hps hpw cS cT co hrem hmin hout hand e1 e2 e3 coT
  obtain ⟨wa, wc, ws, lo, hi, ra, rc, rs⟩ := F
  dsimp only [Fr.v] at *
  have d0 : decide ((o : Int) < 0) = false := by simp
  have d1 : decide (T < o) = false := by simp; omega
  have d2 : ((po : Int) == 0) = false := by simp; omega
  have d3 : decide (T < S) = false := by simp; omega
  have d4 : decide ((S : Int) < 1) = false := by simp; omega
  have d5 : decide (S < 1) = false := by simp; omega
  clear hI hok hc ho2 hpp hgl
  go_enter Try.func10, Try.ntmps10
  go_wp2_with fail
  have k := (Keeps.refl w).alloc (.cells #[.slice wa ws.length wc, .int .i64 lo, .int .i64 hi, .slice ra rs.length rc] 27)
  refine (LG.out _).mono ?_
  rintro e w1 ⟨rfl, k1⟩
  have kb := k1
  replace k := k.trans k1
  clear k1
  obtain ⟨g0, g1, g2, g3⟩ := HB.out _ kb
  dsimp only at g0 g1 g2 g3
  go_wp2_with fail
  refine (CL.out _ k).mono ?_
  rintro e w2 ⟨rfl, k1⟩
  replace g0 := k1.cell g0
  replace g1 := k1.cell g1
  replace g2 := k1.cell g2
  replace g3 := k1.cell g3
  replace k := k.trans k1
  replace kb := kb.trans k1
  clear k1
  go_wp2_with fail
  refine (WR.out _ k).mono ?_
  rintro e w3 ⟨rfl, k1⟩
  replace g0 := k1.cell g0
  replace g1 := k1.cell g1
  replace g2 := k1.cell g2
  replace g3 := k1.cell g3
  replace k := k.trans k1
  replace kb := kb.trans k1
  clear k1
  go_wp2_with fail
  refine (RF.out _ k).mono ?_
  rintro e w4 ⟨rfl, k1⟩
  replace g0 := k1.cell g0
  replace g1 := k1.cell g1
  replace g2 := k1.cell g2
  replace g3 := k1.cell g3
  replace k := k.trans k1
  replace kb := kb.trans k1
  clear k1
  clear LG CL WR RF
  go_wp2_with fail
  refine (SZ.out o oT _ PO.out _).mono ?_
  rintro e wy ⟨rfl, rfl⟩
  go_wp2_with fail
  rw [EO.out]
  refine (C1.out _ HCT.out _ CO.out _ k (HB.out _ kb)).mono ?_
  rintro e wx ⟨rfl, k1⟩
  replace g0 := k1.cell g0
  replace g1 := k1.cell g1
  replace g2 := k1.cell g2
  replace g3 := k1.cell g3
  replace k := k.trans k1
  replace kb := kb.trans k1
  clear k1
  clear hT1 ho1 hmf
  go_wp2_with fail
  refine (C1.out T (TL.out T (Nat.le_refl _)) _ CT.out _ k (HB.out _ kb)).mono ?_
  rintro e wx ⟨rfl, k1⟩
  replace g0 := k1.cell g0
  replace g1 := k1.cell g1
  replace g2 := k1.cell g2
  replace g3 := k1.cell g3
  replace k := k.trans k1
  replace kb := kb.trans k1
  clear k1
  go_wp2_with fail
  rw [EW.out]
  refine (C1.out _ (TL.out _ hcwT) _ CW.out _ k (HB.out _ kb)).mono ?_
  rintro e wx ⟨rfl, k1⟩
  replace g0 := k1.cell g0
  replace g1 := k1.cell g1
  replace g2 := k1.cell g2
  replace g3 := k1.cell g3
  replace k := k.trans k1
  replace kb := kb.trans k1
  clear k1
  have hg2 : (cs = false) ∨ (cs = true ∧ ps < pw) ∨ (cs = true ∧ ps = pw ∧ S ≤ own) := by
    cases cs with
    | false => exact .inl rfl
    | true =>
      rcases Q2.out rfl with h | h
      · exact .inr (.inl ⟨rfl, h⟩)
      · exact .inr (.inr ⟨rfl, h.1, h.2⟩)
  have HG2 := Lib.hid hg2
  clear hg2 Q2
  subst hcs0
  obtain rfl : pw = po := hcs1.symm
  have f1 : decide (pw < pw) = false := by simp
  have f3 : decide (own < o) = false := by simp; omega
  go_wp2_with fail
  refine (SZ.out own hwT _ PW.out _).mono ?_
  rintro e wy ⟨rfl, rfl⟩
  go_wp2_with fail
  refine (SZ.out own hwT _ PW.out _).mono ?_
  rintro e wy ⟨rfl, rfl⟩
  go_wp2_with fail
  refine (C1.out S (TL.out S sT) _ CS.out _ k (HB.out _ kb)).mono ?_
  rintro e wx ⟨rfl, k1⟩
  replace g0 := k1.cell g0
  replace g1 := k1.cell g1
  replace g2 := k1.cell g2
  replace g3 := k1.cell g3
  replace k := k.trans k1
  replace kb := kb.trans k1
  clear k1
  have fa : (bits .and .i64 (S : Int) (o : Int) == 0) = false := by rw [EA.out]; simpa using HA.out
  go_wp2_with fail
  obtain ⟨wE, rfl⟩ : ∃ wE : World, wE = wx := ⟨_, rfl⟩
  clear fa
  go_loopw [166] (fun i wr => ∃ j : Nat, j ≤ rs.length ∧ i = .int .i64 j ∧ Keeps wE wr) (fun i _ => rs.length - (intOf i).toNat)
  case atStart => exact ⟨0, Nat.zero_le _, rfl, Keeps.refl _⟩
  case round =>
    obtain ⟨j, hj, rfl, hkp⟩ := hrel
    replace k := k.trans hkp
    replace kb := kb.trans hkp
    by_cases hlt : j < rs.length
    · have hb := EK.out j hlt
      have hpk : RowKit.wrap64 (2 ^ j) = ((2 ^ j : Nat) : Int) := by
        rw [show ((2 : Int) ^ j) = ((2 ^ j : Nat) : Int) by simp]
        have h1 := Nat.pow_lt_pow_right (a := 2) (by omega) (show j < 6 by omega)
        have h2 := Nat.pow_pos (a := 2) (n := j) (by omega)
        obtain ⟨v, hv⟩ : ∃ v, 2 ^ j = v := ⟨_, rfl⟩
        rw [hv] at h1 h2 ⊢
        unfold RowKit.wrap64; omega
      cases hh : hasB S j with
      | false =>
        rw [hh] at hb
        clear hh hpk
        go_wp2_with fail
        go_roundw
        case rel => exact ⟨j + 1, by omega, by go_num, hkp⟩
        case measure => simp [intOf]; omega
      | true =>
        rw [hh] at hb
        obtain ⟨r1, r2⟩ := HR.out j hlt hh
        have R1 := Lib.hid r1
        have PK := Lib.hid hpk
        clear hh r1 hpk
        go_wp2_with fail
        rw [PK.out, ER.out j hlt]
        refine (C1.out _ (TL.out _ r2) _ R1.out _ k (HB.out _ kb)).mono ?_
        rintro e wz ⟨rfl, k1⟩
        replace hkp := hkp.trans k1
        clear k1
        go_wp2_with fail
        go_roundw
        case rel => exact ⟨j + 1, by omega, by go_num, hkp⟩
        case measure => simp [intOf]; omega
    · have hz : decide (j < rs.length) = false := by simpa using hlt
      clear g0 g1 g2 g3
      go_wp2_with fail
      refine (C1.out own (TL.out own hwT) _ CI.out _ k (HB.out _ kb)).mono ?_
      rintro e wx ⟨rfl, k1⟩
      replace k := k.trans k1
      replace kb := kb.trans k1
      clear k1
      rcases HG2.out with h | ⟨h, h'⟩ | ⟨h, h', h''⟩
      · subst h
        go_wp2_with fail
        refine (AL.out _).mono ?_
        rintro e w9 ⟨rfl, k9⟩
        go_wp2_with fail
        go_ret
        exact ⟨rfl, k.trans k9⟩
      · subst h
        have f1 : decide (ps < pw) = true := by simp; omega
        go_wp2_with fail
        refine (SZ.out own hwT _ PW.out _).mono ?_
        rintro e wy ⟨rfl, rfl⟩
        go_wp2_with fail
        refine (SZ.out S sT _ PS.out _).mono ?_
        rintro e wy ⟨rfl, rfl⟩
        go_wp2_with fail
        refine (AL.out _).mono ?_
        rintro e w9 ⟨rfl, k9⟩
        go_wp2_with fail
        go_ret
        exact ⟨rfl, k.trans k9⟩
      · subst h
        subst h'
        have f1 : decide (ps < ps) = false := by simp
        have f3 : decide (S ≤ own) = true := by simpa using h''
        go_wp2_with fail
        refine (SZ.out own hwT _ PW.out _).mono ?_
        rintro e wy ⟨rfl, rfl⟩
        go_wp2_with fail
        refine (SZ.out S sT _ PS.out _).mono ?_
        rintro e wy ⟨rfl, rfl⟩
        go_wp2_with fail
        refine (SZ.out own hwT _ PW.out _).mono ?_
        rintro e wy ⟨rfl, rfl⟩
        go_wp2_with fail
        refine (SZ.out S sT _ PS.out _).mono ?_
        rintro e wy ⟨rfl, rfl⟩
        go_wp2_with fail
        refine (AL.out _).mono ?_
        rintro e w9 ⟨rfl, k9⟩
        go_wp2_with fail
        go_ret
        exact ⟨rfl, k.trans k9⟩
end Go.Proofs.Ytgbojgachgodgaa
