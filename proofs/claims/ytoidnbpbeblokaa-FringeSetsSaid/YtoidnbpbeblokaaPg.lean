/-
  The document's own answer: Clash.
-/
import Derived.Test.YtoidnbpbeblokaaPf
namespace Go.Proofs.Ytoidnbpbeblokaa
open Go.RowKit Go.Shelf

set_option maxRecDepth 100000 in
set_option maxHeartbeats 6400000 in
theorem refClash_no (F : Fr) (w : World) (hI : F.In w) (hok : F.ok = false) : Calls Try.prog 19 #[F.v] w (Ret (.tuple #[.int .i64 (clashR F).1, .int .i64 (clashR F).2]) w) := by
  have CH := Lib.hid (fun w1 (k : Keeps w w1) => refCheck_any F w1 (hI.keep k))
  rw [hok] at CH
  rw [show clashR F = (0, 1) by simp [clashR, hok]]
  try rw [show pop (0, (1 : Int)).1 = 0 from by decide]
  obtain ⟨wa, wc, ws, lo, hi, ra, rc, rs⟩ := F
  dsimp only [Fr.v] at *
  clear hI hok
  have kB := (Keeps.refl w).alloc (.cells #[.slice wa ws.length wc, .int .i64 lo, .int .i64 hi, .slice ra rs.length rc] 27)
  go_enter Try.func19, Try.ntmps19
  go_wp2_with fail
  refine (CH.out _ kB).mono ?_
  rintro e w1 ⟨rfl, k1⟩
  clear CH
  go_wp2_with fail
  go_ret2
  exact ⟨rfl, kB.trans k1⟩
set_option maxRecDepth 100000 in
set_option maxHeartbeats 6400000 in
theorem refClash_none (F : Fr) (w : World) (hI : F.In w) (hok : F.ok = true) (ht : F.truths ≠ []) (hcl : F.agreeW 0 = true) : Calls Try.prog 19 #[F.v] w (Ret (.tuple #[.int .i64 (clashR F).1, .int .i64 (clashR F).2]) w) := by
  have CH := Lib.hid (fun w1 (k : Keeps w w1) => refCheck_any F w1 (hI.keep k))
  rw [hok] at CH
  have TA := Lib.hid (fun w1 (k : Keeps w w1) => refTruthsAll_any F w1 (hI.keep k) hok)
  rw [show clashR F = (0, 4) by unfold clashR; rw [if_neg (by simp [hok]), clash_is_none F hok hcl]; rfl]
  have hlp : 0 < (intsOf F.truths).length := by rw [intsOf, List.length_map]; exact List.length_pos_iff.2 ht
  obtain ⟨L, hL⟩ : ∃ L, intsOf F.truths = L := ⟨_, rfl⟩
  rw [hL] at TA hlp
  have hB := Fr.Box.new F w
  obtain ⟨wa, wc, ws, lo, hi, ra, rc, rs⟩ := F
  obtain ⟨g0, g1, g2, g3⟩ := hB
  dsimp only [Fr.v] at *
  clear hI hok ht hcl hL
  have kB := (Keeps.refl w).alloc (.cells #[.slice wa ws.length wc, .int .i64 lo, .int .i64 hi, .slice ra rs.length rc] 27)
  go_enter Try.func19, Try.ntmps19
  go_wp2_with fail
  refine (CH.out _ kB).mono ?_
  rintro e w1 ⟨rfl, k1⟩
  have q0 := k1.cell g0
  have q1 := k1.cell g1
  have q2 := k1.cell g2
  have q3 := k1.cell g3
  have ql := lt_of_cell q0
  clear CH g0 g1 g2 g3
  go_wp2_with fail
  refine (TA.out _ (kB.trans k1)).mono ?_
  rintro e w2 ⟨a, cap, rfl, _, k2⟩
  have hd : decide (0 < L.length) = true := by simpa using hlp
  clear TA q0 q1 q2 q3 ql
  go_wp2_with fail
  go_ret2
  exact ⟨rfl, (kB.trans k1).trans k2⟩
set_option maxRecDepth 100000 in
set_option maxHeartbeats 6400000 in
theorem refClash_yes (F : Fr) (w : World) (hI : F.In w) (hok : F.ok = true) (hcl : F.agreeW 0 = false) : Calls Try.prog 19 #[F.v] w (Ret (.tuple #[.int .i64 (clashR F).1, .int .i64 (clashR F).2]) w) := by
  have CH := Lib.hid (fun w1 (k : Keeps w w1) => refCheck_any F w1 (hI.keep k))
  rw [hok] at CH
  have h6 := F.rl_in hok
  have EV := Lib.hid (fun w1 => refEvery_any F h6 w1)
  have h64 := pow_le F hok
  rw [F.gs_len] at h64
  have hp := Nat.pow_pos (a := 2) (n := F.rs.length) (by omega)
  have hT : F.clB (2 ^ F.rs.length - 1) = true := by
    unfold Fr.clB
    rw [F.gs_len, (bits_cc F.rs.length (by omega) 0 (by omega) (by omega)).2.2.2, hcl]
    rfl
  have BF := Lib.hid (fun k hk => bestTo_facts h6 hT k hk)
  have ht : F.truths = [] := by
    have h1 := sel_clash F hok (s := 2 ^ F.rs.length - 1) (by omega)
    rw [selG_full F hok, hT] at h1
    simpa using h1
  have TA := Lib.hid (fun w1 (k : Keeps w w1) => refTruthsAll_any F w1 (hI.keep k) hok)
  rw [ht] at TA
  obtain ⟨x, hx⟩ : ∃ x, F.clash = some x := by
    cases h : F.clash with
    | none => rw [clash_none F hok h] at hcl; cases hcl
    | some x => exact ⟨x, rfl⟩
  have hBW := best_clash F hok hx
  rw [show clashR F = (x.val, 0) by simp [clashR, hok, hx, setOf]]
  dsimp only
  have SZ := Lib.hid (fun (s p : Nat) (hs : s < 64) (hp : pop s = p) w1 => refSize_same s hs p hp w1)
  have P6 := Lib.hid (fun (s : Nat) (hs : s < 64) => (bits_pop0 s hs).1)
  have SEL := Lib.hid (fun (s : Nat) (hs : s < 2 ^ F.rs.length) b (hb : F.clB s = b) w1 (k : Keeps w w1) => refSel_any F (s) (by omega) b ((sel_clash F hok hs).trans hb) w1 (hI.keep k) hok)
  obtain ⟨P, hPe⟩ : ∃ P, F.clB = P := ⟨_, rfl⟩
  rw [hPe] at SEL BF hBW
  obtain ⟨T, hT2⟩ : ∃ T, 2 ^ F.rs.length = T + 1 := ⟨2 ^ F.rs.length - 1, by omega⟩
  rw [hT2] at EV BF SEL hBW h64
  rw [Nat.add_sub_cancel] at EV BF hBW
  obtain ⟨R, hR⟩ : ∃ R, x.val = R := ⟨_, rfl⟩
  rw [hR] at hBW ⊢
  have hB := Fr.Box.new F w
  have HBW := Lib.hid hBW
  obtain ⟨wa, wc, ws, lo, hi, ra, rc, rs⟩ := F
  dsimp only [Fr.v] at *
  clear hI hok hp hPe hT2 hR hBW h6 hcl hT hx ht
  have kB := (Keeps.refl w).alloc (.cells #[.slice wa ws.length wc, .int .i64 lo, .int .i64 hi, .slice ra rs.length rc] 27)
  go_enter Try.func19, Try.ntmps19
  go_wp2_with fail
  refine (CH.out _ kB).mono ?_
  rintro e w1 ⟨rfl, k1⟩
  replace hB := hB.keep k1
  replace kB := kB.trans k1
  have HB := Lib.hid hB
  obtain ⟨g0, g1, g2, g3⟩ := hB
  dsimp only at g0 g1 g2 g3
  have hgl := lt_of_cell g0
  clear CH k1
  go_wp2_with fail
  refine (TA.out _ kB).mono ?_
  rintro e w1 ⟨a, cap, rfl, _, k1⟩
  replace HB := Lib.hid (HB.out.keep k1)
  replace kB := kB.trans k1
  replace g0 := k1.cell g0
  replace g1 := k1.cell g1
  replace g2 := k1.cell g2
  replace g3 := k1.cell g3
  replace hgl := lt_of_cell g0
  have hd : decide (0 < (intsOf []).length) = false := rfl
  clear TA k1
  go_wp2_with fail
  refine (EV.out _).mono ?_
  rintro e w2 ⟨rfl, k2⟩
  replace HB := Lib.hid (HB.out.keep k2)
  replace kB := kB.trans k2
  clear k2 g0 g1 g2 g3 hgl
  go_wp2_with fail
  go_loopw [5, 6] (fun b i wr => ∃ k : Nat, k ≤ T + 1 ∧ i = .int .i64 k ∧ b = .int .i64 ((bestTo P T k : Nat) : Int) ∧ Keeps w2 wr) (fun _ i _ => T + 1 - (intOf i).toNat)
  case atStart => exact ⟨0, Nat.zero_le _, rfl, rfl, Keeps.refl _⟩
  case round =>
    obtain ⟨k, hk, rfl, rfl, hkp⟩ := hrel
    have hBx := HB.out.keep hkp
    obtain ⟨g0, g1, g2, g3⟩ := hBx
    dsimp only at g0 g1 g2 g3
    have hgl := lt_of_cell g0
    obtain ⟨_, hb2, _, _⟩ := BF.out k hk
    have hbs : bestTo P T (k + 1) = if pop k < pop (bestTo P T k) ∧ P k = true then k else bestTo P T k := rfl
    have HBS := Lib.hid hbs
    obtain ⟨b, hb⟩ : ∃ b, bestTo P T k = b := ⟨_, rfl⟩
    rw [hb] at hb2 HBS ⊢
    have HBb := Lib.hid hb
    clear hbs hb
    go_wp2_with fail
    refine (EV.out _).mono ?_
    rintro e w3 ⟨rfl, k3⟩
    replace g0 := k3.cell g0
    replace g1 := k3.cell g1
    replace g2 := k3.cell g2
    replace g3 := k3.cell g3
    replace hgl := lt_of_cell g0
    replace hkp := hkp.trans k3
    clear k3
    by_cases hlt : k ≤ T
    · obtain ⟨pk, hpk⟩ : ∃ p, pop k = p := ⟨_, rfl⟩
      obtain ⟨pb, hpb⟩ : ∃ p, pop b = p := ⟨_, rfl⟩
      have SK := Lib.hid (fun w1 => SZ.out k pk (by omega) hpk w1)
      have SB := Lib.hid (fun w1 => SZ.out b pb (by omega) hpb w1)
      have hk6 := P6.out k (by omega)
      have hb6 := P6.out b (by omega)
      rw [hpk] at HBS hk6
      rw [hpb] at HBS hb6
      clear hpk hpb
      by_cases hg : pk < pb
      · have hd : decide (pk < pb) = true := by simpa using hg
        have hd2 : decide ((pk : Int) < (pb : Int)) = true := by simpa using hg
        obtain ⟨u, hu⟩ : ∃ u, P k = u := ⟨_, rfl⟩
        rw [hu] at HBS
        have TR := Lib.hid (fun w1 kk => SEL.out k (by omega) _ (by rw [hu]) w1 kk)
        have HS := Lib.hid (fun (w' : World) (kk : Keeps w3 w') => show w'.cell? ⟨w.heap.size, 0, none⟩ = some (.slice wa ws.length wc) ∧ w'.cell? ⟨w.heap.size, 1, none⟩ = some (.int .i64 lo) ∧ w'.cell? ⟨w.heap.size, 2, none⟩ = some (.int .i64 hi) ∧ w'.cell? ⟨w.heap.size, 3, none⟩ = some (.slice ra rs.length rc) ∧ Keeps w3 w' from ⟨kk.cell g0, kk.cell g1, kk.cell g2, kk.cell g3, kk⟩)
        have HK := Lib.hid (fun (w' : World) (kk : Keeps w3 w') => kB.trans (hkp.trans kk))
        have kz := Keeps.refl w3
        have HBT := Lib.hid (fun (h : u = true) => HBS.out.trans (if_pos ⟨hg, h⟩))
        have HBF := Lib.hid (fun (h : u = false) => HBS.out.trans (if_neg (fun h' => by rw [h] at h'; exact absurd h'.2 (by decide))))
        clear hu SEL SZ P6 BF HBW
        cases u
        all_goals
          go_wp2_with fail
          skip
          refine (SK.out _).mono ?_
          rintro e w4 ⟨rfl, rfl⟩
          go_wp2_with fail
          refine (SB.out _).mono ?_
          rintro e w5 ⟨rfl, rfl⟩
          go_wp2_with fail
          refine (TR.out _ (HK.out _ (Keeps.refl _))).mono ?_
          rintro e w6 ⟨a6, n6, c6, rfl, t1, t2, t3, t4, k6⟩
          replace kz : Keeps _ w6 := k6
          all_goals
            have kf := hkp.trans kz
            clear HS HK TR SK SB
            go_wp2
            skip
            go_roundw
            case rel => exact ⟨k + 1, by omega, by go_num, by first | rw [HBT.out (by first | rfl | trivial)] | rw [HBF.out (by first | rfl | trivial)], by first | exact kf | exact kf.drew⟩
            case measure => simp [intOf]; omega
      · have hd : decide (pk < pb) = false := by simpa using hg
        have hd2 : decide ((pk : Int) < (pb : Int)) = false := by simpa using hg
        have HBS2 := Lib.hid (HBS.out.trans (if_neg (fun h => hg h.1)))
        clear hg SEL SZ P6 BF HBW
        go_wp2_with fail
        refine (SK.out _).mono ?_
        rintro e w4 ⟨rfl, rfl⟩
        go_wp2_with fail
        refine (SB.out _).mono ?_
        rintro e w5 ⟨rfl, rfl⟩
        go_wp2
        go_roundw
        case rel => exact ⟨k + 1, by omega, by go_num, by rw [HBS2.out], by first | exact hkp | exact hkp.drewN _⟩
        case measure => simp [intOf]; omega
    · obtain rfl : k = T + 1 := by omega
      obtain rfl : b = R := HBb.out.symm.trans HBW.out
      clear SEL SZ P6 BF HBS HBb HBW
      go_wp2_with fail
      skip
      go_ret2
      exact ⟨rfl, kB.trans hkp⟩
theorem truths_of_agree {F : Fr} (hok : F.ok = true) (h : F.agreeW 0 = true) : F.truths ≠ [] := by
  intro e
  have hl := F.gl_in hok
  have h64 := pow_le F hok
  have hp := Nat.pow_pos (a := 2) (n := F.rs.length) (by omega)
  have h1 := sel_clash F hok (s := 2 ^ F.rs.length - 1) (by omega)
  rw [F.gs_len] at hl h64
  rw [selG_full F hok, e, Fr.clB, F.gs_len, (bits_cc F.rs.length (by omega) 0 (by omega) (by omega)).2.2.2, h] at h1
  cases h1
theorem refWrong_any (F : Fr) (w : World) (hI : F.In w) : Calls Try.prog 17 #[F.v] w (Ret (.tuple #[.int .i64 (pop (wrongR F).1), .int .i64 (wrongR F).1, .int .i64 (wrongR F).2]) w) := by
  cases hok : F.ok with
  | false => exact refWrong_no F w hI hok
  | true => exact refWrong_yes F w hI hok
theorem refClash_any (F : Fr) (w : World) (hI : F.In w) : Calls Try.prog 19 #[F.v] w (Ret (.tuple #[.int .i64 (clashR F).1, .int .i64 (clashR F).2]) w) := by
  cases hok : F.ok with
  | false => exact refClash_no F w hI hok
  | true =>
    cases h : F.agreeW 0 with
    | false => exact refClash_yes F w hI hok h
    | true => exact refClash_none F w hI hok (truths_of_agree hok h) h
end Go.Proofs.Ytoidnbpbeblokaa
