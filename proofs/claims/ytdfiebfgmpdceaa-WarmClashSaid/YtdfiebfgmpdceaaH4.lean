/-
  WarmClash walked.
-/
import Derived.Test.YtdfiebfgmpdceaaF4
import Derived.Test.YtdfiebfgmpdceaaH3
namespace Go.Proofs.Ytdfiebfgmpdceaa
open Go.RowKit Go.Shelf

set_option maxRecDepth 100000 in
set_option maxHeartbeats 6400000 in
theorem wc_no (B : Wm) (bi : Int) (w : World) (hI : B.In w) (hf : B.fine = false) : Calls Try.prog 11 #[B.v, .int .u8 bi] w (RetB true w) := by
  have F1 := Lib.hid (fun w1 (k : Keeps w w1) => fine_any B w1 (hI.keep k))
  rw [hf] at F1
  have AW := Lib.hid (fun w1 => awake_any w1)
  have k0 := (Keeps.refl w).alloc (.cells #[.int .i64 B.mark, .int .i64 B.llo, .int .i64 B.lhi, .int .i64 B.clo, .int .i64 B.chi, .slice B.ra B.rs.length B.rc] 26)
  obtain ⟨mark, llo, lhi, clo, chi, ra, rc, rs⟩ := B
  dsimp only [Wm.v] at *
  clear hI hf
  go_enter Try.func11, Try.ntmps11
  go_wp2_with fail
  refine (F1.out _ k0).mono ?_
  rintro e w1 ⟨rfl, k1⟩
  go_wp2_with fail
  refine (AW.out _).mono ?_
  rintro e w2 ⟨rfl, k2⟩
  go_wp2_with fail
  go_ret
  exact RetB.mk rfl ((k0.trans k1).trans k2)
set_option maxRecDepth 100000 in
set_option maxHeartbeats 6400000 in
theorem wc_none (B : Wm) (bi : Int) (w : World) (hI : B.In w) (hf : B.fine = true) (ht : B.truths.isEmpty = false) : Calls Try.prog 11 #[B.v, .int .u8 bi] w (RetB true w) := by
  have hmf : ∀ (fn : Fn) (first cap : Array Value) (w : World), (Instr.makeFunc fn first cap).run Try.prog w = .ok (.func fn first cap) w := fun _ _ _ _ => rfl
  have hok := Wm.fine_ok hf
  have hl := (vWrs_at (Wm.ok_reads hok)).1
  have F1 := Lib.hid (fun w1 (k : Keeps w w1) => fine_any B w1 (hI.keep k))
  rw [hf] at F1
  have AW := Lib.hid (fun w1 => awake_any w1)
  have CL := Lib.hid (fun w1 (k : Keeps w w1) => show Calls Try.prog 29 #[B.v] w1 (Ret (.tuple #[.int .i64 0, .int .i64 4]) w1) from by have h := Clash_any B w1 (hI.keep k); rw [clash_nothing hok ht] at h; exact h)
  obtain ⟨Q, hQ⟩ : ∃ Q : Int, (B.truths.length : Int) = Q := ⟨_, rfl⟩
  have Q1 : 0 < Q := by
    have h : B.truths ≠ [] := fun e => by rw [e] at ht; cases ht
    have := List.length_pos_iff.2 h
    omega
  have CN := Lib.hid (fun w1 (k : Keeps w w1) => show Calls Try.prog 25 #[B.v] w1 (Ret (.tuple #[.int .i64 Q, .int .i64 0]) w1) from by have h := Count_any B w1 (hI.keep k); rw [cn_ok hok, hQ] at h; exact h)
  have k0 := (Keeps.refl w).alloc (.cells #[.int .i64 B.mark, .int .i64 B.llo, .int .i64 B.lhi, .int .i64 B.clo, .int .i64 B.chi, .slice B.ra B.rs.length B.rc] 26)
  have BX := Wm.Box.new B w
  have HB := Lib.hid (fun w1 k => (Wm.Box.new B w).keep (w' := w1) k)
  obtain ⟨mark, llo, lhi, clo, chi, ra, rc, rs⟩ := B
  obtain ⟨g0, g1, g2, g3, g4, g5⟩ := BX
  dsimp only [Wm.v] at *
  obtain ⟨W, hW⟩ : ∃ W, w.alloc (.cells #[.int .i64 mark, .int .i64 llo, .int .i64 lhi, .int .i64 clo, .int .i64 chi, .slice ra rs.length rc] 26) = W := ⟨_, rfl⟩
  rw [hW] at k0 g0 g1 g2 g3 g4 g5 HB
  clear hI hf ht hok hQ
  go_enter Try.func11, Try.ntmps11
  go_wp2_with fail
  have kb := Keeps.refl W
  have kk := k0
  refine (F1.out _ kk).mono ?_
  rintro e w1 ⟨rfl, k1⟩
  replace g0 := k1.cell g0
  replace g1 := k1.cell g1
  replace g2 := k1.cell g2
  replace g3 := k1.cell g3
  replace g4 := k1.cell g4
  replace g5 := k1.cell g5
  replace kk := kk.trans k1
  replace kb := kb.trans k1
  clear k1
  go_wp2_with fail
  refine (CL.out _ kk).mono ?_
  rintro e w2 ⟨rfl, k1⟩
  replace g0 := k1.cell g0
  replace g1 := k1.cell g1
  replace g2 := k1.cell g2
  replace g3 := k1.cell g3
  replace g4 := k1.cell g4
  replace g5 := k1.cell g5
  replace kk := kk.trans k1
  replace kb := kb.trans k1
  clear k1
  go_wp2_with fail
  refine (CN.out _ kk).mono ?_
  rintro e w3 ⟨rfl, k1⟩
  replace g0 := k1.cell g0
  replace g1 := k1.cell g1
  replace g2 := k1.cell g2
  replace g3 := k1.cell g3
  replace g4 := k1.cell g4
  replace g5 := k1.cell g5
  replace kk := kk.trans k1
  replace kb := kb.trans k1
  clear k1
  go_wp2_with fail
  refine (AW.out _).mono ?_
  rintro e w9 ⟨rfl, k9⟩
  go_wp2_with fail
  go_ret
  exact RetB.mk rfl (kk.trans k9)
set_option maxRecDepth 100000 in
set_option maxHeartbeats 6400000 in
theorem wc_some (B : Wm) (bi : Int) (w : World) (hI : B.In w) (hf : B.fine = true) (ht : B.truths.isEmpty = true) (b0 : 0 ≤ bi) (b1 : bi ≤ 255) : Calls Try.prog 11 #[B.v, .int .u8 bi] w (RetB true w) := by
  have hmf : ∀ (fn : Fn) (first cap : Array Value) (w : World), (Instr.makeFunc fn first cap).run Try.prog w = .ok (.func fn first cap) w := fun _ _ _ _ => rfl
  have hok := Wm.fine_ok hf
  have hl := (vWrs_at (Wm.ok_reads hok)).1
  have F1 := Lib.hid (fun w1 (k : Keeps w w1) => fine_any B w1 (hI.keep k))
  rw [hf] at F1
  have AW := Lib.hid (fun w1 => awake_any w1)
  obtain ⟨S, T, hcl, hT, t32, s1, sT, cS, hrem, hmin⟩ := clash_facts hok ht
  have CL := Lib.hid (fun w1 (k : Keeps w w1) => show Calls Try.prog 29 #[B.v] w1 (Ret (.tuple #[.int .i64 S, .int .i64 0]) w1) from by have h := Clash_any B w1 (hI.keep k); rw [hcl] at h; exact h)
  have CN := Lib.hid (fun w1 (k : Keeps w w1) => show Calls Try.prog 25 #[B.v] w1 (Ret (.tuple #[.int .i64 0, .int .i64 0]) w1) from by have h := Count_any B w1 (hI.keep k); rw [cn_ok hok, List.isEmpty_iff.1 ht] at h; exact h)
  have C1 := Lib.hid (fun s (hs : s ≤ T) b (hb : B.clB s = b) w1 (k : Keeps w w1) hB => clash1_is B hok w.heap.size s (Nat.lt_of_le_of_lt hs t32) b hb w1 (hI.keep k) hB)
  have hT1 := shl_full B.rs.length hl
  obtain ⟨own, ho1, ho2⟩ := and_full B.rs.length hl bi b0 b1
  rw [hT] at hT1 ho1
  have hwT : own ≤ T := by clear hcl cS hrem hmin; omega
  have SZ := Lib.hid (fun (s : Nat) (hs : s ≤ T) p (hp : popW s = p) w1 => refSize_is s (Nat.lt_of_le_of_lt hs t32) p hp w1)
  have EK := Lib.hid (fun k (hk : k < B.rs.length) => has_bits S (Nat.lt_of_le_of_lt sT t32) k (Nat.lt_of_lt_of_le hk hl))
  have ER := Lib.hid (fun k (hk : k < B.rs.length) hb => (bit_out S (Nat.lt_of_le_of_lt sT t32) k (Nat.lt_of_lt_of_le hk hl) hb).2)
  have HR := Lib.hid hrem
  obtain ⟨cb, hcb⟩ : ∃ cb : Nat → Bool, B.clB = cb := ⟨_, rfl⟩
  simp only [hcb] at C1 cS HR
  obtain ⟨cs, hcs⟩ : ∃ b, cb own = b := ⟨_, rfl⟩
  have CS := Lib.hid cS
  have CI := Lib.hid hcs
  obtain ⟨ps, hps⟩ : ∃ p, popW S = p := ⟨_, rfl⟩
  obtain ⟨pw, hpw⟩ : ∃ p, popW own = p := ⟨_, rfl⟩
  have PS := Lib.hid hps
  have PW := Lib.hid hpw
  have hq2 := hmin own hwT
  rw [hcb, hcs] at hq2
  unfold NoLater at hq2
  rw [hps, hpw] at hq2
  have hg2 : (cs = false) ∨ (cs = true ∧ ps < pw) ∨ (cs = true ∧ ps = pw ∧ S ≤ own) := by
    cases cs with
    | false => exact .inl rfl
    | true =>
      rcases hq2 rfl with h | h
      · exact .inr (.inl ⟨rfl, h⟩)
      · exact .inr (.inr ⟨rfl, h.1, h.2⟩)
  have HG2 := Lib.hid hg2
  clear hq2 hg2 hcb hcs hps hpw cS hrem hmin hcl hT
  have k0 := (Keeps.refl w).alloc (.cells #[.int .i64 B.mark, .int .i64 B.llo, .int .i64 B.lhi, .int .i64 B.clo, .int .i64 B.chi, .slice B.ra B.rs.length B.rc] 26)
  have BX := Wm.Box.new B w
  have HB := Lib.hid (fun w1 k => (Wm.Box.new B w).keep (w' := w1) k)
  obtain ⟨mark, llo, lhi, clo, chi, ra, rc, rs⟩ := B
  obtain ⟨g0, g1, g2, g3, g4, g5⟩ := BX
  dsimp only [Wm.v] at *
  obtain ⟨W, hW⟩ : ∃ W, w.alloc (.cells #[.int .i64 mark, .int .i64 llo, .int .i64 lhi, .int .i64 clo, .int .i64 chi, .slice ra rs.length rc] 26) = W := ⟨_, rfl⟩
  rw [hW] at k0 g0 g1 g2 g3 g4 g5 HB
  have d3 : decide (T < S) = false := by simp; omega
  have d4 : decide ((S : Int) < 1) = false := by simp; omega
  have d5 : decide (S < 1) = false := by simp; omega
  clear hI hf ht hok ho2
  go_enter Try.func11, Try.ntmps11
  go_wp2_with fail
  have kb := Keeps.refl W
  have kk := k0
  refine (F1.out _ kk).mono ?_
  rintro e w1 ⟨rfl, k1⟩
  replace g0 := k1.cell g0
  replace g1 := k1.cell g1
  replace g2 := k1.cell g2
  replace g3 := k1.cell g3
  replace g4 := k1.cell g4
  replace g5 := k1.cell g5
  replace kk := kk.trans k1
  replace kb := kb.trans k1
  clear k1
  go_wp2_with fail
  refine (CL.out _ kk).mono ?_
  rintro e w2 ⟨rfl, k1⟩
  replace g0 := k1.cell g0
  replace g1 := k1.cell g1
  replace g2 := k1.cell g2
  replace g3 := k1.cell g3
  replace g4 := k1.cell g4
  replace g5 := k1.cell g5
  replace kk := kk.trans k1
  replace kb := kb.trans k1
  clear k1
  go_wp2_with fail
  refine (CN.out _ kk).mono ?_
  rintro e w3 ⟨rfl, k1⟩
  replace g0 := k1.cell g0
  replace g1 := k1.cell g1
  replace g2 := k1.cell g2
  replace g3 := k1.cell g3
  replace g4 := k1.cell g4
  replace g5 := k1.cell g5
  replace kk := kk.trans k1
  replace kb := kb.trans k1
  clear k1
  go_wp2_with fail
  refine (C1.out S sT _ CS.out _ kk (HB.out _ kb)).mono ?_
  rintro e w4 ⟨rfl, k1⟩
  replace g0 := k1.cell g0
  replace g1 := k1.cell g1
  replace g2 := k1.cell g2
  replace g3 := k1.cell g3
  replace g4 := k1.cell g4
  replace g5 := k1.cell g5
  replace kk := kk.trans k1
  replace kb := kb.trans k1
  clear k1
  go_wp2_with fail
  clear d3 d4 d5 hmf
  obtain ⟨wE, rfl⟩ : ∃ wE : World, wE = w4 := ⟨_, rfl⟩
  go_loopw [74] (fun i wr => ∃ j : Nat, j ≤ rs.length ∧ i = .int .i64 j ∧ Keeps wE wr) (fun i _ => rs.length - (intOf i).toNat)
  case atStart => exact ⟨0, Nat.zero_le _, rfl, Keeps.refl _⟩
  case round =>
    obtain ⟨j, hj, rfl, hkp⟩ := hrel
    replace kk := kk.trans hkp
    replace kb := kb.trans hkp
    by_cases hlt : j < rs.length
    · have hb := EK.out j hlt
      cases hh : hasB S j with
      | false =>
        rw [hh] at hb
        clear hh
        go_wp2_with fail
        go_roundw
        case rel => exact ⟨j + 1, by omega, by go_num, hkp⟩
        case measure => simp [intOf]; omega
      | true =>
        rw [hh] at hb
        obtain ⟨r1, r2⟩ := HR.out j hlt hh
        have R1 := Lib.hid r1
        have hpk := ER.out j hlt hh
        obtain ⟨Z, hZ⟩ : ∃ Z : Int, bits BinOp.andNot IntKind.i64 (S : Int) (wrap64 (2 ^ j)) = Z := ⟨_, rfl⟩
        rw [hZ] at hpk
        have PK := Lib.hid hpk
        clear hh r1 hpk
        go_wp2_with fail
        rw [PK.out]
        refine (C1.out _ r2 _ R1.out _ kk (HB.out _ kb)).mono ?_
        rintro e wz ⟨rfl, k1⟩
        replace hkp := hkp.trans k1
        clear k1
        go_wp2_with fail
        go_roundw
        case rel => exact ⟨j + 1, by omega, by go_num, hkp⟩
        case measure => simp [intOf]; omega
    · have hz : decide (j < rs.length) = false := by simpa using hlt
      clear g0 g1 g2 g3 g4 g5
      go_wp2_with fail
      refine (C1.out own hwT _ CI.out _ kk (HB.out _ kb)).mono ?_
      rintro e wx ⟨rfl, k1⟩
      replace kk := kk.trans k1
      replace kb := kb.trans k1
      clear k1
      rcases HG2.out with h | ⟨h, h'⟩ | ⟨h, h', h''⟩
      · subst h
        go_wp2_with fail
        refine (AW.out _).mono ?_
        rintro e w9 ⟨rfl, k9⟩
        go_wp2_with fail
        go_ret
        exact RetB.mk rfl (kk.trans k9)
      · subst h
        have f1 : decide (ps < pw) = true := by simp; omega
        go_wp2_with fail
        refine (SZ.out own hwT _ PW.out _).mono ?_
        rintro e wy ⟨rfl, rfl⟩
        go_wp2_with fail
        refine (SZ.out S sT _ PS.out _).mono ?_
        rintro e wy ⟨rfl, rfl⟩
        go_wp2_with fail
        refine (AW.out _).mono ?_
        rintro e w9 ⟨rfl, k9⟩
        go_wp2_with fail
        go_ret
        exact RetB.mk rfl (kk.trans k9)
      · subst h
        subst h'
        have f1 : decide (ps < ps) = false := by simp
        have f2 : decide (S ≤ own) = true := by simpa using h''
        go_wp2_with fail
        refine (SZ.out own hwT _ PW.out _).mono ?_
        rintro e wy ⟨rfl, rfl⟩
        go_wp2_with fail
        refine (SZ.out S sT _ PS.out _).mono ?_
        rintro e wy ⟨rfl, rfl⟩
        go_wp2_with fail
        refine (SZ.out own hwT _ PW.out _).mono ?_
        rintro e wy ⟨rfl, rfl⟩
        go_wp2_with fail
        refine (SZ.out S sT _ PS.out _).mono ?_
        rintro e wy ⟨rfl, rfl⟩
        go_wp2_with fail
        refine (AW.out _).mono ?_
        rintro e w9 ⟨rfl, k9⟩
        go_wp2_with fail
        go_ret
        exact RetB.mk rfl (kk.trans k9)
end Go.Proofs.Ytdfiebfgmpdceaa
