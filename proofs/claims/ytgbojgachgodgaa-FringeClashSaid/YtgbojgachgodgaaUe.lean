/-
  FringeClash, walked.
-/
import Derived.Test.YtgbojgachgodgaaUd
namespace Go.Proofs.Ytgbojgachgodgaa
open Go.RowKit Go.Shelf

set_option maxRecDepth 100000 in
set_option maxHeartbeats 16000000 in
theorem fc_long (F : Fr) (bi : Int) (w : World) (hI : F.In w) (h : F.long = true) : Calls Try.prog 10 #[F.v, .int .u8 bi] w (RetB true w) := by
  have AL := Lib.hid alive_any
  have LG := Lib.hid (fun w1 => long_any F w1 hI.wl hI.rl)
  rw [h] at LG
  obtain ⟨wa, wc, ws, lo, hi, ra, rc, rs⟩ := F
  dsimp only [Fr.v] at *
  clear h hI
  go_enter Try.func10, Try.ntmps10
  go_wp2_with fail
  refine (LG.out _).mono ?_
  rintro e w1 ⟨rfl, k1⟩
  go_wp2_with fail
  refine (AL.out _).mono ?_
  rintro e w2 ⟨rfl, k2⟩
  go_wp2_with fail
  go_ret
  exact ⟨rfl, (((Keeps.refl w).alloc _).trans k1).trans k2⟩
set_option maxRecDepth 100000 in
set_option maxHeartbeats 16000000 in
theorem fc_bad (F : Fr) (bi : Int) (w : World) (hI : F.In w) (h : F.long = false) (hok : F.ok = false) : Calls Try.prog 10 #[F.v, .int .u8 bi] w (RetB true w) := by
  have hmf : ∀ (fn : Fn) (first cap : Array Value) (w : World), (Instr.makeFunc fn first cap).run Try.prog w = .ok (.func fn first cap) w := fun _ _ _ _ => rfl
  have AL := Lib.hid alive_any
  have LG := Lib.hid (fun w1 => long_any F w1 hI.wl hI.rl)
  have RF := Lib.hid (fun w1 (k : Keeps w w1) => refFringe_any F w1 (hI.keep k))
  have CL := Lib.hid (fun w1 (k : Keeps w w1) => Clash_any F w1 (hI.keep k))
  have WR := Lib.hid (fun w1 (k : Keeps w w1) => Wrong_any F w1 (hI.keep k))
  rw [h] at LG
  rw [hok] at RF
  rw [show clashR F = (0, 1) by simp [clashR, hok]] at CL
  rw [show wrongR F = (0, 1) by simp [wrongR, hok], show pop 0 = 0 from rfl] at WR
  have HB := Lib.hid (fun w1 k => (Fr.Box.new F w).keep (w' := w1) k)
  obtain ⟨wa, wc, ws, lo, hi, ra, rc, rs⟩ := F
  dsimp only [Fr.v] at *
  rw [show ((0 : Nat) : Int) = 0 from rfl] at CL WR
  clear hI hok h
  go_enter Try.func10, Try.ntmps10
  go_wp2_with fail
  have k := (Keeps.refl w).alloc (.cells #[.slice wa ws.length wc, .int .i64 lo, .int .i64 hi, .slice ra rs.length rc] 27)
  refine (LG.out _).mono ?_
  rintro e w1 ⟨rfl, k1⟩
  have kb := k1
  replace k := k.trans k1
  clear k1
  obtain ⟨g0, g1, g2, g3⟩ := HB.out _ kb
  dsimp only at g0 g1 g2 g3
  go_wp2_with fail
  refine (CL.out _ k).mono ?_
  rintro e w2 ⟨rfl, k1⟩
  replace g0 := k1.cell g0
  replace g1 := k1.cell g1
  replace g2 := k1.cell g2
  replace g3 := k1.cell g3
  replace k := k.trans k1
  replace kb := kb.trans k1
  clear k1
  go_wp2_with fail
  refine (WR.out _ k).mono ?_
  rintro e w3 ⟨rfl, k1⟩
  replace g0 := k1.cell g0
  replace g1 := k1.cell g1
  replace g2 := k1.cell g2
  replace g3 := k1.cell g3
  replace k := k.trans k1
  replace kb := kb.trans k1
  clear k1
  go_wp2_with fail
  refine (RF.out _ k).mono ?_
  rintro e w4 ⟨rfl, k1⟩
  replace g0 := k1.cell g0
  replace g1 := k1.cell g1
  replace g2 := k1.cell g2
  replace g3 := k1.cell g3
  replace k := k.trans k1
  replace kb := kb.trans k1
  clear k1
  clear LG CL WR RF
  go_wp2_with fail
  refine (AL.out _).mono ?_
  rintro e w9 ⟨rfl, k9⟩
  go_wp2_with fail
  go_ret
  exact ⟨rfl, k.trans k9⟩
set_option maxRecDepth 100000 in
set_option maxHeartbeats 16000000 in
theorem fc_none (F : Fr) (bi : Int) (w : World) (hI : F.In w) (hok : F.ok = true) (b0 : 0 ≤ bi) (b1 : bi ≤ 255) (hc : F.clash = none) : Calls Try.prog 10 #[F.v, .int .u8 bi] w (RetB true w) := by
  have hmf : ∀ (fn : Fn) (first cap : Array Value) (w : World), (Instr.makeFunc fn first cap).run Try.prog w = .ok (.func fn first cap) w := fun _ _ _ _ => rfl
  have AL := Lib.hid alive_any
  have LG := Lib.hid (fun w1 => long_any F w1 hI.wl hI.rl)
  have RF := Lib.hid (fun w1 (k : Keeps w w1) => refFringe_any F w1 (hI.keep k))
  have CL := Lib.hid (fun w1 (k : Keeps w w1) => Clash_any F w1 (hI.keep k))
  have WR := Lib.hid (fun w1 (k : Keeps w w1) => Wrong_any F w1 (hI.keep k))
  rw [not_long F hok] at LG
  rw [hok] at RF
  rw [show clashR F = (0, 4) by simp [clashR, hok, hc]] at CL
  rw [show wrongR F = (setOf F.wrong, 0) by simp [wrongR, hok]] at WR
  have hrl := F.rl_in hok
  have h0 : F.agreeW 0 = true := clash_none F hok hc
  obtain ⟨wf1, wf2, wf3⟩ := wrong_facts F hok
  have hpp := Nat.pow_pos (a := 2) (n := F.gs.length) (by omega)
  have hs0 : setOf F.wrong = 0 := by
    rcases wf3 0 hpp h0 with h | ⟨h, h'⟩
    · have : pop 0 = 0 := rfl
      omega
    · omega
  rw [hs0, show pop 0 = 0 from rfl] at WR
  have h64 := pow_le F hok
  have hgl := F.gs_len
  have C1 := Lib.hid (fun s (hs : s < 2 ^ F.rs.length) w1 (k : Keeps w w1) hB => (show F.clB s = false by rw [Fr.clB, agree_any0 F hok h0]; rfl) ▸ clash1_any F hok w.heap.size s (by rw [hgl]; exact hs) w1 (hI.keep k) hB)
  have S0 := Lib.hid (fun w1 => refSize_any 0 (by omega) w1)
  have HB := Lib.hid (fun w1 k => (Fr.Box.new F w).keep (w' := w1) k)
  rw [hgl] at h64 hpp
  obtain ⟨T, hT⟩ : ∃ T : Nat, 2 ^ F.rs.length - 1 = T := ⟨_, rfl⟩
  have hT1 := shl_full F.rs.length hrl
  obtain ⟨own, ho1, ho2⟩ := and_full F.rs.length hrl bi b0 b1
  rw [hT] at hT1 ho1
  have E1 := Lib.hid (show bits .andNot .i64 (T : Int) 0 = (T : Int) from by
    have := (andNot_bits T (by omega) 0 (by omega)).1
    rw [show cm T 0 = T by rw [← hT]; exact (bits_cc F.rs.length (by omega) 0 (by omega) hpp).2.2.1] at this
    exact this)
  have E2 := Lib.hid (andNot_bits T (by omega) own (by omega)).1
  have E3 : cm T own < 2 ^ F.rs.length := by rw [← hT]; exact (bits_cc F.rs.length (by omega) own (by omega) ho2).2.1
  have SZ := Lib.hid (fun w1 => refSize_any own (by omega) w1)
  have hTl : T < 2 ^ F.rs.length := by omega
  obtain ⟨po, hpo⟩ : ∃ po, pop own = po := ⟨_, rfl⟩
  rw [hpo] at SZ
  obtain ⟨wa, wc, ws, lo, hi, ra, rc, rs⟩ := F
  dsimp only [Fr.v] at *
  rw [show ((0 : Nat) : Int) = 0 from rfl] at CL WR
  rw [show pop 0 = 0 from rfl, show ((0 : Nat) : Int) = 0 from rfl] at S0
  have H2 := Lib.hid ho2
  have H3 := Lib.hid E3
  have H4 := Lib.hid hTl
  have d1 : decide ((own : Int) < 0) = false := by simp
  have d2 : decide ((po : Int) < 0) = false := by simp
  have d3 : decide ((T : Int) < 0) = false := by simp
  clear hI hok hc wf1 wf2 wf3 hs0 h0 hT ho2 E3 hTl hpp h64 hpo
  go_enter Try.func10, Try.ntmps10
  go_wp2_with fail
  have k := (Keeps.refl w).alloc (.cells #[.slice wa ws.length wc, .int .i64 lo, .int .i64 hi, .slice ra rs.length rc] 27)
  refine (LG.out _).mono ?_
  rintro e w1 ⟨rfl, k1⟩
  have kb := k1
  replace k := k.trans k1
  clear k1
  obtain ⟨g0, g1, g2, g3⟩ := HB.out _ kb
  dsimp only at g0 g1 g2 g3
  go_wp2_with fail
  refine (CL.out _ k).mono ?_
  rintro e w2 ⟨rfl, k1⟩
  replace g0 := k1.cell g0
  replace g1 := k1.cell g1
  replace g2 := k1.cell g2
  replace g3 := k1.cell g3
  replace k := k.trans k1
  replace kb := kb.trans k1
  clear k1
  go_wp2_with fail
  refine (WR.out _ k).mono ?_
  rintro e w3 ⟨rfl, k1⟩
  replace g0 := k1.cell g0
  replace g1 := k1.cell g1
  replace g2 := k1.cell g2
  replace g3 := k1.cell g3
  replace k := k.trans k1
  replace kb := kb.trans k1
  clear k1
  go_wp2_with fail
  refine (RF.out _ k).mono ?_
  rintro e w4 ⟨rfl, k1⟩
  replace g0 := k1.cell g0
  replace g1 := k1.cell g1
  replace g2 := k1.cell g2
  replace g3 := k1.cell g3
  replace k := k.trans k1
  replace kb := kb.trans k1
  clear k1
  clear LG CL WR RF
  go_wp2_with fail
  refine (S0.out _).mono ?_
  rintro e w5 ⟨rfl, rfl⟩
  go_wp2_with fail
  rw [E1.out]
  refine (C1.out T H4.out _ k (HB.out _ kb)).mono ?_
  rintro e wx ⟨rfl, k1⟩
  replace g0 := k1.cell g0
  replace g1 := k1.cell g1
  replace g2 := k1.cell g2
  replace g3 := k1.cell g3
  replace k := k.trans k1
  replace kb := kb.trans k1
  clear k1
  go_wp2_with fail
  refine (C1.out T H4.out _ k (HB.out _ kb)).mono ?_
  rintro e wx ⟨rfl, k1⟩
  replace g0 := k1.cell g0
  replace g1 := k1.cell g1
  replace g2 := k1.cell g2
  replace g3 := k1.cell g3
  replace k := k.trans k1
  replace kb := kb.trans k1
  clear k1
  go_wp2_with fail
  rw [E2.out]
  refine (C1.out _ H3.out _ k (HB.out _ kb)).mono ?_
  rintro e wx ⟨rfl, k1⟩
  replace g0 := k1.cell g0
  replace g1 := k1.cell g1
  replace g2 := k1.cell g2
  replace g3 := k1.cell g3
  replace k := k.trans k1
  replace kb := kb.trans k1
  clear k1
  go_wp2_with fail
  refine (SZ.out _).mono ?_
  rintro e w6 ⟨rfl, rfl⟩
  go_wp2_with fail
  refine (SZ.out _).mono ?_
  rintro e w7 ⟨rfl, rfl⟩
  by_cases hp : po = 0
  · have e1 : ((po : Int) == 0) = true := by simp [hp]
    clear hp
    go_wp2_with fail
    refine (AL.out _).mono ?_
    rintro e w9 ⟨rfl, k9⟩
    go_wp2_with fail
    go_ret
    exact ⟨rfl, k.trans k9⟩
  · have e1 : ((po : Int) == 0) = false := by simp; omega
    clear hp
    go_wp2_with fail
    refine (AL.out _).mono ?_
    rintro e w9 ⟨rfl, k9⟩
    go_wp2_with fail
    go_ret
    exact ⟨rfl, k.trans k9⟩
end Go.Proofs.Ytgbojgachgodgaa
