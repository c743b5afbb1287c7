/-
  The document's own answers: Whole.
-/
import Derived.Test.YtoidnbpbeblokaaGreatQd
namespace Go.Proofs.YtoidnbpbeblokaaGreat
open Go.RowKit Go.Shelf

set_option maxRecDepth 100000 in
set_option maxHeartbeats 3200000 in
theorem refWhole_err (F : Fr) (c : Int) (v : Bool) (hv : decide (0 ≤ c ∧ c < F.ws.length) = v) (w : World) (hI : F.In w) (h0 : toldE F v ≠ 0) : Calls Tryz.prog 16 #[F.v, .int .i64 c] w (Ret (.tuple #[.slice none 0 0, .int .i64 (toldE F v)]) w) := by
  have CO := Lib.hid (fun w1 => refColour_is F c v hv hI.wl w1)
  have TO := Lib.hid (fun w1 (k : Keeps w w1) => refTold_at F v w1 (hI.keep k))
  have kB := (Keeps.refl w).alloc (.cells #[.slice F.wa F.ws.length F.wc, .int .i64 F.lo, .int .i64 F.hi, .slice F.ra F.rs.length F.rc] 27)
  have hB := Fr.Box.new F w
  have hE : (toldE F v != 0) = true := by simp [h0]
  obtain ⟨E, hEq⟩ : ∃ E, toldE F v = E := ⟨_, rfl⟩
  obtain ⟨L, hLq⟩ : ∃ L, toldV F v = L := ⟨_, rfl⟩
  rw [hEq] at TO hE ⊢
  rw [hLq] at TO
  obtain ⟨wa, wc, ws, lo, hi, ra, rc, rs⟩ := F
  obtain ⟨g0, g1, g2, g3⟩ := hB
  dsimp only [Fr.v] at *
  clear hI hEq hLq h0 hv
  go_enter Tryz.func16, Tryz.ntmps16
  go_wp2_with fail
  obtain ⟨W, hW⟩ : ∃ W, w.alloc (.cells #[.slice wa ws.length wc, .int .i64 lo, .int .i64 hi, .slice ra rs.length rc] 27) = W := ⟨_, rfl⟩
  have HS := Lib.hid (fun (w' : World) (kk : Keeps W w') => show w'.cell? ⟨w.heap.size, 0, none⟩ = some (.slice wa ws.length wc) ∧ w'.cell? ⟨w.heap.size, 1, none⟩ = some (.int .i64 lo) ∧ w'.cell? ⟨w.heap.size, 2, none⟩ = some (.int .i64 hi) ∧ w'.cell? ⟨w.heap.size, 3, none⟩ = some (.slice ra rs.length rc) ∧ Keeps W w' from
    ⟨kk.cell (by subst hW; exact g0), kk.cell (by subst hW; exact g1), kk.cell (by subst hW; exact g2), kk.cell (by subst hW; exact g3), kk⟩)
  rw [hW] at kB ⊢
  have kz := Keeps.refl W
  clear hW g0 g1 g2 g3
  go_region_held3 (fun w' => w'.cell? ⟨w.heap.size, 0, none⟩ = some (.slice wa ws.length wc) ∧ w'.cell? ⟨w.heap.size, 1, none⟩ = some (.int .i64 lo) ∧ w'.cell? ⟨w.heap.size, 2, none⟩ = some (.int .i64 hi) ∧ w'.cell? ⟨w.heap.size, 3, none⟩ = some (.slice ra rs.length rc) ∧ Keeps W w')
    (first | exact HS.out _ (Keeps.refl _).drew | exact HS.out _ (Keeps.refl _) | exact HS.out _ kz | exact HS.out _ kz.drew)
    (first
      | (go_at_call 36; refine (CO.out _).mono ?_; rintro e w4 ⟨rfl, k4⟩; replace kz : Keeps W w4 := by first | exact kz.trans k4 | exact kz.trans k4.undrew
         clear k4)
      | (go_at_call 43; refine (TO.out _ (by first | exact kB.trans kz | exact (kB.trans kz).drew)).mono ?_; rintro e w4 ⟨a, cap, rfl, hL4, k4⟩; replace kz : Keeps W w4 := by first | exact kz.trans k4 | exact kz.trans k4.undrew
         have HL4 := Lib.hid hL4
         clear k4 hL4))
  all_goals
    have kf := kB.trans kz
    clear HS CO TO
    go_wp2
    refine bodyPost_ret (v := .tuple #[.slice none 0 0, .int .i64 E]) (by simp [results, Tryz.results16, go_sem]) rfl ⟨rfl, by first | exact kf | exact kf.drew⟩
set_option maxRecDepth 100000 in
set_option maxHeartbeats 6400000 in
theorem refWhole_ok (F : Fr) (c : Nat) (x : Int) (hc : c < F.ws.length) (hx : F.ws[c]?.getD 0 = x) (w : World) (hI : F.In w) (hok : F.ok = true) (ht : F.truths ≠ []) : Calls Tryz.prog 16 #[F.v, .int .i64 c] w fun e w' => ∃ a cap, e = .returned (.tuple #[.slice a (whs x F.truths).length cap, .int .i64 0]) ∧ Ints w' a (whs x F.truths) ∧ Keeps w w' := by
  have CO := Lib.hid (fun w1 => refColour_is F c true (by simp; omega) hI.wl w1)
  have TO := Lib.hid (fun w1 (k : Keeps w w1) => refTold_any F w1 (hI.keep k))
  rw [show toldL F = intsOf F.truths by simp [toldL, lenE_0 hok ht], lenE_0 hok ht] at TO
  have hlen : (intsOf F.truths).length ≤ 401 := by rw [intsOf_len]; exact F.truths_len hok
  have hpos : 0 < (intsOf F.truths).length := by rw [intsOf_len]; exact List.length_pos_iff.2 ht
  have LB := Lib.hid (fun i (h : i < (intsOf F.truths).length) => intsOf_bd h)
  have hw := F.wave_in hok hc
  rw [hx] at hw
  obtain ⟨hw1, hw2⟩ := hw
  have hwl := hI.wl
  unfold maxLen at hwl
  obtain ⟨bw, ow, hwa, hws⟩ := hI.ints (by intro e; rw [e] at hc; simp at hc)
  have hwc := hws c hc
  rw [hx] at hwc
  have hx0 : ¬ (x = 0) := by omega
  have kB := (Keeps.refl w).alloc (.cells #[.slice F.wa F.ws.length F.wc, .int .i64 F.lo, .int .i64 F.hi, .slice F.ra F.rs.length F.rc] 27)
  have hB := Fr.Box.new F w
  have HWC := Lib.hid (fun (w1 : World) (k : Keeps w w1) => k.cell hwc)
  have CA := Lib.hid (cdTo_all F (x := x) (by omega))
  obtain ⟨L, hLq⟩ : ∃ L, intsOf F.truths = L := ⟨_, rfl⟩
  rw [hLq] at TO hlen hpos LB CA
  obtain ⟨R, hR⟩ : ∃ R, whs x F.truths = R := ⟨_, rfl⟩
  rw [hR] at CA ⊢
  have CN := Lib.hid (fun k (hk : k < L.length) => cdTo_succ (x := x) hk)
  have CL := Lib.hid (fun k => cdTo_len x L k)
  obtain ⟨i0, hi0, hz0, hz1, hz2⟩ := info_parts info_int
  obtain ⟨wa, wc, ws, lo, hi, ra, rc, rs⟩ := F
  obtain ⟨g0, g1, g2, g3⟩ := hB
  dsimp only [Fr.v] at *
  subst hwa
  have hc2 : (c : Int) < (ws.length : Int) := by omega
  clear hI hok ht hLq hR hws hwc hx
  go_enter Tryz.func16, Tryz.ntmps16
  go_wp2_with fail
  obtain ⟨W, hW⟩ : ∃ W, w.alloc (.cells #[.slice (some ⟨bw, ow, none⟩) ws.length wc, .int .i64 lo, .int .i64 hi, .slice ra rs.length rc] 27) = W := ⟨_, rfl⟩
  have HS := Lib.hid (fun (w' : World) (kk : Keeps W w') => show w'.cell? ⟨w.heap.size, 0, none⟩ = some (.slice (some ⟨bw, ow, none⟩) ws.length wc) ∧ w'.cell? ⟨w.heap.size, 1, none⟩ = some (.int .i64 lo) ∧ w'.cell? ⟨w.heap.size, 2, none⟩ = some (.int .i64 hi) ∧ w'.cell? ⟨w.heap.size, 3, none⟩ = some (.slice ra rs.length rc) ∧ Keeps W w' from
    ⟨kk.cell (by subst hW; exact g0), kk.cell (by subst hW; exact g1), kk.cell (by subst hW; exact g2), kk.cell (by subst hW; exact g3), kk⟩)
  rw [hW] at kB ⊢
  have kz := Keeps.refl W
  clear hW g0 g1 g2 g3
  go_region_held3 (fun w' => w'.cell? ⟨w.heap.size, 0, none⟩ = some (.slice (some ⟨bw, ow, none⟩) ws.length wc) ∧ w'.cell? ⟨w.heap.size, 1, none⟩ = some (.int .i64 lo) ∧ w'.cell? ⟨w.heap.size, 2, none⟩ = some (.int .i64 hi) ∧ w'.cell? ⟨w.heap.size, 3, none⟩ = some (.slice ra rs.length rc) ∧ Keeps W w')
    (first | exact HS.out _ (Keeps.refl _).drew | exact HS.out _ (Keeps.refl _) | exact HS.out _ kz | exact HS.out _ kz.drew)
    (first
      | (go_at_call 36; refine (CO.out _).mono ?_; rintro e w4 ⟨rfl, k4⟩; replace kz : Keeps W w4 := by first | exact kz.trans k4 | exact kz.trans k4.undrew
         clear k4)
      | (go_at_call 43; refine (TO.out _ (by first | exact kB.trans kz | exact (kB.trans kz).drew)).mono ?_; rintro e w4 ⟨a, cap, rfl, hL4, k4⟩; replace kz : Keeps W w4 := by first | exact kz.trans k4 | exact kz.trans k4.undrew
         have HL4 := Lib.hid hL4
         clear k4 hL4))
  all_goals
    clear CO TO
    have hI0 := HL4.out
    obtain ⟨bl, ol, rfl, hcs0⟩ := hI0 (by intro e; rw [e] at hpos; simp at hpos)
    clear hcs0 hI0
    replace kz : Keeps W w4 := by first | exact kz | exact kz.undrew
    go_wp2_with fail
    go_loopw [8, 9] (fun o i wr => ∃ (k : Nat) (v : Value), k ≤ L.length ∧ i = .int .i64 k ∧ o = v ∧ wr.ownsRow w4.heap.size 3 1 v (cdTo x L k).length ((cdTo x L k).map (Value.int .i64)) ∧ Keeps w4 wr) (fun _ i _ => L.length - (intOf i).toNat)
    case atStart => exact ⟨0, _, Nat.zero_le _, rfl, rfl, World.ownsRow_nil _ _ _ _, by first | exact Keeps.refl _ | exact (Keeps.refl _).drew⟩
    case round =>
      obtain ⟨k, v, hk, rfl, rfl, hrow, hkp⟩ := hrel
      by_cases hlt : k < L.length
      · obtain ⟨bl', ol', he, hcs⟩ := (HL4.out.keep hkp) (by intro e; rw [e] at hpos; simp at hpos)
        cases he
        have hb := LB.out k hlt
        have hcn := CN.out k hlt
        have hcl := CL.out k
        obtain ⟨y, hy⟩ : ∃ y, L[k]?.getD 0 = y := ⟨_, rfl⟩
        rw [hy] at hb hcn
        have hcc := ints_take hcs hlt hy
        have hlb2 := lt_of_cell hcc
        obtain ⟨f0, f1, f2, f3, _⟩ := HS.out _ (kz.trans hkp)
        have fw := HWC.out _ (kB.trans (kz.trans hkp))
        have flw := lt_of_cell fw
        have flb := lt_of_cell f0
        have e1 : y.tdiv x = y / x := Int.tdiv_eq_ediv_of_nonneg hb.1
        have d0 : 0 ≤ y / x := Int.ediv_nonneg hb.1 (by omega)
        have d1 : y / x ≤ 2000 := Int.le_trans (Int.ediv_le_self _ hb.1) hb.2
        obtain ⟨q, hq⟩ : ∃ q, y / x = q := ⟨_, rfl⟩
        rw [hq] at e1 d0 d1 hcn
        obtain ⟨cd, hcd⟩ : ∃ cd, cdTo x L k = cd := ⟨_, rfl⟩
        rw [hcd] at hrow hcn hcl
        have HCN := Lib.hid hcn
        have hzk := hkp.size
        clear hcs hy hq hcn hcd
        rcases List.eq_nil_or_concat cd with e | ⟨l', z, e⟩
        · subst e
          rcases hrow.2 with ⟨rfl, _⟩ | ⟨g', c', cur, rfl, _, _, hcc', _⟩
          all_goals
            have HR := Lib.hid hrow
            clear hrow
            go_wp2_with fail
            go_big_quiet (fail)
            rename_i nq
            obtain ⟨W1, hW1⟩ : ∃ W1 : World, wr.drewN nq = W1 := ⟨_, rfl⟩
            have HR1 := Lib.hid (show W1.ownsRow w4.heap.size 3 1 _ _ _ from by rw [← hW1]; exact HR.out)
            have kW1 : Keeps w4 W1 := by rw [← hW1]; exact hkp.drewN _
            have hzk := kW1.size
            rw [hW1]
            clear hW1 f0 f1 f2 f3 fw hcc e1 hkp
            go_wp2_with (at_builtin; refine wpList_append_own _ rfl _ _ 22 rfl w4.heap.size 3 i0 (.int .i64 0) 1 8 Tryz.underlying22 hi0 hz0 hz1 hz2 rfl (by decide) _ _ _ rfl (HR1.out.alloc _) ⟨W1.heap.size, 0, none⟩ 1 1 [.int .i64 q] rfl rfl (by simp [go_sem]) (by simp [Value.oneCell']) (by unfold maxLen; omega) (by first | omega | (simp; done) | (simp; omega)) (by simp; omega) ?_; intro v' w5 hown' hgrow _)
            have hk5 : Keeps w4 w5 := Below.grown (kW1.alloc _) hgrow (by simp; omega) (fun j e => (HR1.out.lt j e).1)
            have HO5 := Lib.hid hown'
            clear hown' hgrow
            go_wp2
            go_roundw
            case rel => exact ⟨k + 1, _, by omega, by go_num, rfl, by rw [HCN.out, cdStep_new (by simp)]; simpa using HO5.out, hk5⟩
            case measure => simp [intOf]; omega
        · rw [List.concat_eq_append] at e
          subst e
          obtain ⟨m, hm⟩ : ∃ m, l'.length = m := ⟨_, rfl⟩
          have hlen1 : (l' ++ [z]).length = m + 1 := by simp [hm]
          have HLEN := Lib.hid hlen1
          have HM := Lib.hid hm
          rw [hlen1] at hrow hcl
          obtain ⟨g, cap', rfl⟩ := ownsRow_succ hrow
          have hcell := hrow.cellAt m (by omega)
          rw [show ((l' ++ [z]).map (Value.int .i64))[m]? = some (.int .i64 z) by simp [← hm]] at hcell
          have hlg := lt_of_cell hcell
          have HR := Lib.hid hrow
          have kw1 := hkp
          clear hrow hlen1 hm
          by_cases hzq : z = q
          · have hb1 : (z != q) = false := by simp [hzq]
            have HZ := Lib.hid hzq
            clear hzq
            go_wp2_with fail
            go_big_quiet (fail)
            go_wp2_with fail
            go_roundw
            case rel => exact ⟨k + 1, _, by omega, by go_num, rfl, by rw [HCN.out, cdStep_old (by simp [HZ.out]), HLEN.out]; exact HR.out, hkp.drewN _⟩
            case measure => simp [intOf]; omega
          · have hb1 : (z != q) = true := by simp [hzq]
            have HZ := Lib.hid hzq
            clear hzq
            go_wp2_with fail
            go_big_quiet (fail)
            rename_i nq
            obtain ⟨W1, hW1⟩ : ∃ W1 : World, wr.drewN nq = W1 := ⟨_, rfl⟩
            have HR1 := Lib.hid (show W1.ownsRow w4.heap.size 3 1 _ _ _ from by rw [← hW1]; exact HR.out)
            have kW1 : Keeps w4 W1 := by rw [← hW1]; exact hkp.drewN _
            have hzk := kW1.size
            rw [hW1]
            have hcell1 : W1.cell? ⟨g, m, none⟩ = some (.int .i64 z) := by rw [← hW1]; exact hcell
            clear hW1 f0 f1 f2 f3 fw hcc e1 hkp hcell
            go_wp2_with (at_builtin; refine wpList_append_own _ rfl _ _ 22 rfl w4.heap.size 3 i0 (.int .i64 0) 1 8 Tryz.underlying22 hi0 hz0 hz1 hz2 rfl (by decide) _ _ _ rfl (HR1.out.alloc _) ⟨W1.heap.size, 0, none⟩ 1 1 [.int .i64 q] rfl rfl (by simp [go_sem]) (by simp [Value.oneCell']) (by unfold maxLen; omega) (by first | omega | (simp; done) | (simp; omega)) (by simp; omega) ?_; intro v' w5 hown' hgrow _)
            have hk5 : Keeps w4 w5 := Below.grown (kW1.alloc _) hgrow (by simp; omega) (fun j e => (HR1.out.lt j e).1)
            have HO5 := Lib.hid hown'
            clear hown' hgrow
            go_wp2
            go_roundw
            case rel => exact ⟨k + 1, _, by omega, by go_num, rfl, by rw [HCN.out, cdStep_new (by simpa using HZ.out)]; simpa [HM.out] using HO5.out, hk5⟩
            case measure => simp [intOf]; omega
      · obtain rfl : k = L.length := by omega
        rw [CA.out] at hrow
        obtain ⟨a5, c5, rfl, hi5⟩ := ints_of_owns hrow
        have HI5 := Lib.hid hi5
        clear hrow hi5
        go_wp2_with fail
        refine bodyPost_ret (v := .tuple #[.slice a5 R.length c5, .int .i64 0]) (by simp [results, Tryz.results16, go_sem]) rfl ⟨a5, c5, rfl, HI5.out, kB.trans (kz.trans hkp)⟩
theorem refWhole_any (F : Fr) (c : Int) (w : World) (hI : F.In w) : Calls Tryz.prog 16 #[F.v, .int .i64 c] w fun e w' => ∃ a cap, e = .returned (.tuple #[.slice a (whoL F c).length cap, .int .i64 (colE F c)]) ∧ Ints w' a (whoL F c) ∧ Keeps w w' := by
  have hcol := toldE_col F c
  by_cases h : toldE F (decide (0 ≤ c ∧ c < F.ws.length)) = 0
  · obtain ⟨hv, hok, ht⟩ := toldE_0 h
    have hn := of_decide_eq_true hv
    obtain ⟨d, rfl⟩ := Int.eq_ofNat_of_zero_le hn.1
    rw [h] at hcol
    rw [whoL, ← hcol, if_pos rfl, Int.toNat_natCast]
    exact refWhole_ok F d _ (by omega) rfl w hI hok ht
  · have hw : whoL F c = [] := by rw [whoL, ← hcol, if_neg h]
    rw [hw, ← hcol]
    exact (refWhole_err F c _ rfl w hI h).mono fun e w' h => ⟨none, 0, h.1, fun h => absurd rfl h, h.2⟩
end Go.Proofs.YtoidnbpbeblokaaGreat
