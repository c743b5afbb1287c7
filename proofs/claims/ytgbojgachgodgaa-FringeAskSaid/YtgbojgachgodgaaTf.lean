/-
  FringeAsk, walked: there are truths.
-/
import Derived.Test.YtgbojgachgodgaaTd
namespace Go.Proofs.Ytgbojgachgodgaa
open Go.RowKit Go.Shelf
set_option maxRecDepth 100000 in
set_option maxHeartbeats 6400000 in
theorem ask_some (F : Fr) (wh : Int) (w : World) (hI : F.In w) (hok : F.ok = true) (h5 : F.rs.length ≤ 5) (ht : F.truths ≠ []) (b0 : 0 ≤ wh) (b1 : wh ≤ 255) : Calls Try.prog 9 #[F.v, .int .u8 wh] w (RetB true w) := by
  have hmf : ∀ (fn : Fn) (first cap : Array Value) (w : World), (Instr.makeFunc fn first cap).run Try.prog w = .ok (.func fn first cap) w := fun _ _ _ _ => rfl
  have AL := Lib.hid alive_any
  have LG := Lib.hid (fun w1 => long_any F w1 hI.wl hI.rl)
  have RF := Lib.hid (fun w1 (k : Keeps w w1) => refFringe_any F w1 (hI.keep k))
  have AK := Lib.hid (fun w1 (k : Keeps w w1) => Ask_any F w1 (hI.keep k))
  have CN := Lib.hid (fun w1 (k : Keeps w w1) => Count_any F w1 (hI.keep k))
  obtain ⟨hw1, hw4⟩ : 1 ≤ F.ws.length ∧ F.ws.length ≤ 4 := by
    have h := hok
    simp only [Fr.ok, vFringe, vWaves, Bool.and_eq_true, decide_eq_true_eq] at h
    exact h.1.1.1
  obtain ⟨a1, a2, a3⟩ := askTo_facts F.ws F.truths F.ws.length (by omega)
  rw [F.short hok] at LG
  rw [hok] at RF
  obtain ⟨⟨c, l⟩, hcl⟩ : ∃ cl, askTo F.ws F.truths F.ws.length = cl := ⟨_, rfl⟩
  rw [show askR F = ((c, l), 0) by simp [askR, hok, ht, hcl]] at AK
  rw [show countR F = (((F.truths.length : Nat) : Int), 0) by simp [countR, hok]] at CN
  rw [hcl] at a1 a2 a3
  dsimp only at AK CN a1 a2 a3
  obtain ⟨d, hd⟩ : ∃ d : Nat, wh % (F.ws.length : Int) = d := Int.eq_ofNat_of_zero_le (Int.emod_nonneg _ (by omega))
  have hdl : d < F.ws.length := by have := Int.emod_lt_of_pos wh (show (0 : Int) < F.ws.length by omega); omega
  have MC := Lib.hid (fun b w1 (k : Keeps w w1) (hB : F.Box w1 b) => most_any F hok h5 b a1 w1 (hI.keep k) hB)
  have MD := Lib.hid (fun b w1 (k : Keeps w w1) (hB : F.Box w1 b) => most_any F hok h5 b hdl w1 (hI.keep k) hB)
  have hlast := a3 d hdl
  rw [← a2] at MC
  obtain ⟨m, hm⟩ : ∃ m, mostP (F.ws[d]?.getD 0) F.truths = m := ⟨_, rfl⟩
  rw [hm] at MD hlast
  rw [← hd] at MD
  have HD := Lib.hid hd
  have HL := Lib.hid hlast
  have A1 := Lib.hid a1
  have htl := F.truths_len hok
  have htp : 0 < F.truths.length := List.length_pos_iff.2 ht
  have hml : m ≤ 401 := by rw [← hm]; exact Nat.le_trans (mostP_bd _ _) htl
  have hll : l ≤ 401 := by rw [a2]; exact Nat.le_trans (mostP_bd _ _) htl
  obtain ⟨n, hn⟩ : ∃ n, F.truths.length = n := ⟨_, rfl⟩
  rw [hn] at htl htp CN MC MD
  clear a2 a3 hm hn hcl hd hlast
  obtain ⟨wa, wc, ws, lo, hi, ra, rc, rs⟩ := F
  dsimp only [Fr.v] at *
  have d6 : decide (6 ≤ (rs.length : Int)) = false := by simp; omega
  have wsm := hI.wl
  clear hI hok ht h5
  go_enter Try.func9, Try.ntmps9
  go_wp2_with fail
  have k := (Keeps.refl w).alloc (.cells #[.slice wa ws.length wc, .int .i64 lo, .int .i64 hi, .slice ra rs.length rc] 27)
  have hB := Fr.Box.new ⟨wa, wc, ws, lo, hi, ra, rc, rs⟩ w
  refine (LG.out _).mono ?_
  rintro e w1 ⟨rfl, k1⟩
  replace hB := hB.keep k1
  replace k := k.trans k1
  clear k1
  have HB := Lib.hid hB
  obtain ⟨g0, g1, g2, g3⟩ := hB
  dsimp only at g0 g1 g2 g3
  go_wp2_with fail
  refine (RF.out _ k).mono ?_
  rintro e w3 ⟨rfl, k1⟩
  replace HB := Lib.hid (HB.out.keep k1)
  replace g0 := k1.cell g0
  replace g1 := k1.cell g1
  replace g2 := k1.cell g2
  replace g3 := k1.cell g3
  replace k := k.trans k1
  clear k1
  go_wp2_with fail
  refine (AK.out _ k).mono ?_
  rintro e w4 ⟨rfl, k1⟩
  replace HB := Lib.hid (HB.out.keep k1)
  replace g0 := k1.cell g0
  replace g1 := k1.cell g1
  replace g2 := k1.cell g2
  replace g3 := k1.cell g3
  replace k := k.trans k1
  clear k1
  go_wp2_with fail
  refine (CN.out _ k).mono ?_
  rintro e w5 ⟨rfl, k1⟩
  replace HB := Lib.hid (HB.out.keep k1)
  replace g0 := k1.cell g0
  replace g1 := k1.cell g1
  replace g2 := k1.cell g2
  replace g3 := k1.cell g3
  replace k := k.trans k1
  clear k1
  have d1 : decide ((0 : Int) < (n : Int)) = true := by simp; omega
  have d2 : decide ((c : Int) < 0) = false := by simp
  have d3 : decide ((ws.length : Int) ≤ (c : Int)) = false := by simp; omega
  go_wp2_with fail
  obtain ⟨z, hz⟩ : ∃ z, wh % (ws.length : Int) = z := ⟨_, rfl⟩
  rw [hz] at HD MD ⊢
  clear hz
  refine (MC.out _ _ k HB.out).mono ?_
  rintro e w6 ⟨rfl, k1⟩
  replace HB := Lib.hid (HB.out.keep k1)
  replace k := k.trans k1
  clear k1 MC RF AK CN LG g0 g1 g2 g3
  skip
  go_wp2_with fail
  refine (MD.out _ _ k HB.out).mono ?_
  rintro e w7 ⟨rfl, k1⟩
  replace k := k.trans k1
  clear k1 MD HB
  have hdc : (l : Int) < m ∨ ((l : Int) = m ∧ (c : Int) ≤ z) := by
    have hd := HD.out
    rcases HL.out with h | ⟨h, h'⟩
    · exact .inl (by omega)
    · exact .inr ⟨by omega, by omega⟩
  rcases hdc with h | ⟨h, h'⟩
  · have e1 : decide ((l : Int) < (m : Int)) = true := by simpa using h
    go_wp2_with fail
    refine (AL.out _).mono ?_
    rintro e w8 ⟨rfl, k1⟩
    go_wp2_with fail
    go_ret
    exact ⟨rfl, k.trans k1⟩
  · obtain rfl : l = m := by omega
    have e1 : decide ((c : Int) ≤ z) = true := by simpa using h'
    go_wp2_with fail
    refine (AL.out _).mono ?_
    rintro e w8 ⟨rfl, k1⟩
    go_wp2_with fail
    go_ret
    exact ⟨rfl, k.trans k1⟩
end Go.Proofs.Ytgbojgachgodgaa
