/-
  The document's own answers: truths, Truths.
-/
import Derived.Test.YtoidnbpbeblokaaGreatPa
import Derived.Test.YtoidnbpbeblokaaGreatUa
import Derived.Test.YtoidnbpbeblokaaGreatZq
import Derived.Deep.DeepCutAuto
namespace Go.Proofs.YtoidnbpbeblokaaGreat
open Go.RowKit Go.Shelf

theorem refHas_same (s n : Nat) (hs : s < 1048576) (hn : n ≤ 20) (v : Bool) (hv : hasB s n = v) (w : World) : Calls Tryz.prog 55 #[.int .i64 s, .int .i64 n] w fun e w' => e = .returned (.bool v) ∧ w' = w := (refHas_any s n hs hn v hv w).mono fun _ _ h => ⟨h.1, h.2.symm⟩
/-- The readings of a set, each with its wave. -/
def Fr.selG (F : Fr) (s : Nat) : List Rg := (selR F.rs s F.rs.length).map (rgOf F.ws)
def intsOf (ts : List Ln) : List Int := ts.map fun x => ((x.val : Nat) : Int)
/-- Do the first j readings fit, those that are in a set? -/
def fitsTo (ws : List Int) (rs : List Rd) (s : Nat) (m : Nat) (j : Nat) : Bool := ((selR rs s j).map (rgOf ws)).all (rightB · (m : Int))
theorem fits_in {ws : List Int} {rs : List Rd} {s m j : Nat} (h : hasB s j = true) : fitsTo ws rs s m (j + 1) = (fitsTo ws rs s m j && rightB (rgOf ws (rs[j]?.getD (0, 0, 0))) m) := by
  rw [fitsTo, selR_in h, List.map_append, List.all_append, fitsTo]
  simp
theorem fits_out {ws : List Int} {rs : List Rd} {s m j : Nat} (h : hasB s j = false) : fitsTo ws rs s m (j + 1) = fitsTo ws rs s m j := by
  rw [fitsTo, selR_out h, fitsTo]
theorem fits_zero (ws : List Int) (rs : List Rd) (s m : Nat) : fitsTo ws rs s m 0 = true := rfl
theorem row_yes {lo k : Nat} {gs : List Rg} (hl : lo + k < 2001) (h : gs.all (rightB · ((lo + k : Nat) : Int)) = true) : (lensTo lo gs (k + 1)).length = (lensTo lo gs k).length + 1 ∧ (intsOf (lensTo lo gs (k + 1))).map (Value.int .i64) = (intsOf (lensTo lo gs k)).map (Value.int .i64) ++ [.int .i64 ((lo + k : Nat) : Int)] := by
  rw [lensTo_yes hl h]
  simp [intsOf]
theorem row_no {lo k : Nat} {gs : List Rg} (hl : lo + k < 2001) (h : gs.all (rightB · ((lo + k : Nat) : Int)) = false) : lensTo lo gs (k + 1) = lensTo lo gs k := lensTo_no hl h
set_option maxRecDepth 100000 in
set_option maxHeartbeats 3200000 in
theorem refTruths_any (F : Fr) (s : Nat) (hs : s < 64) (w : World) (hI : F.In w) (hok : F.ok = true) : Calls Tryz.prog 86 #[F.v, .int .i64 s] w fun e w' => ∃ a cap, e = .returned (.slice a (intsOf (lens F.lo.toNat F.hi.toNat (F.selG s))).length cap) ∧ Ints w' a (intsOf (lens F.lo.toNat F.hi.toNat (F.selG s))) ∧ Keeps w w' := by
  obtain ⟨i0, hi0, hz0, hz1, hz2⟩ := info_parts info_int
  have hrl := F.rl_in hok
  obtain ⟨l1, l2, l3, l4⟩ := F.len_in hok
  have HI := Lib.hid hI
  have RI := Lib.hid (fun (k : Nat) (hk : k < F.rs.length) => F.rd_in hok hk)
  have HS := Lib.hid (fun (j : Nat) (hj : j ≤ 20) v (hv : hasB s j = v) w1 => refHas_any s j (by omega) hj v hv w1)
  have HQ := Lib.hid (fun (j : Nat) (hj : j ≤ 20) v (hv : hasB s j = v) w1 => refHas_same s j (by omega) hj v hv w1)
  have RR := Lib.hid (fun (c : Nat) lo hi (n : Nat) (hc : c < F.ws.length) (hp : vPart lo hi = true) (hn : n ≤ 2000) v (hv : rightB (F.ws[c]?.getD 0, lo, hi) n = v) w1 (k : Keeps w w1) => refRight_any F c lo hi n w1 (hI.keep k) hok hc hp hn v hv)
  have hgl : ∀ k, (lensTo F.lo.toNat (F.selG s) k).length ≤ k := fun k => lensTo_len _ _ _
  have GL := Lib.hid hgl
  obtain ⟨gs, hgs⟩ : ∃ gs, F.selG s = gs := ⟨_, rfl⟩
  have HG := Lib.hid (show ∀ m, fitsTo F.ws F.rs s m F.rs.length = gs.all (rightB · (m : Int)) from fun m => by rw [← hgs]; rfl)
  rw [hgs] at GL ⊢
  obtain ⟨wa, wc, ws, lo, hi, ra, rc, rs⟩ := F
  dsimp only [Fr.v] at *
  obtain ⟨lo, rfl⟩ := Int.eq_ofNat_of_zero_le l1
  obtain ⟨hi, rfl⟩ := Int.eq_ofNat_of_zero_le (show 0 ≤ hi by omega)
  simp only [Int.toNat_natCast] at GL ⊢
  rw [show lens lo hi gs = lensTo lo gs (hi + 1 - lo) from rfl]
  clear hI hok hgs hgl
  go_enter Tryz.func86, Tryz.ntmps86
  go_wp2_with fail
  have kB := (Keeps.refl w).alloc (.cells #[.slice wa ws.length wc, .int .i64 lo, .int .i64 hi, .slice ra rs.length rc] 27)
  obtain ⟨W, hW⟩ : ∃ W, w.alloc (.cells #[.slice wa ws.length wc, .int .i64 lo, .int .i64 hi, .slice ra rs.length rc] 27) = W := ⟨_, rfl⟩
  have c0 : W.cell? ⟨w.heap.size, 0, none⟩ = some (.slice wa ws.length wc) := by subst hW; simp [go_sem]
  have c1 : W.cell? ⟨w.heap.size, 1, none⟩ = some (.int .i64 lo) := by subst hW; simp [go_sem]
  have c2 : W.cell? ⟨w.heap.size, 2, none⟩ = some (.int .i64 hi) := by subst hW; simp [go_sem]
  have c3 : W.cell? ⟨w.heap.size, 3, none⟩ = some (.slice ra rs.length rc) := by subst hW; simp [go_sem]
  rw [hW] at kB ⊢
  clear hW
  go_loopw [5, 6] (fun o i wr => ∃ k : Nat, k ≤ hi + 1 - lo ∧ i = .int .i64 ((lo + k : Nat) : Int) ∧ wr.ownsRow W.heap.size 3 1 o (lensTo lo gs k).length ((intsOf (lensTo lo gs k)).map (Value.int .i64)) ∧ Keeps W wr) (fun _ i _ => hi + 1 - (intOf i).toNat)
  case atStart => exact ⟨0, Nat.zero_le _, by simp, World.ownsRow_nil _ _ _ _, Keeps.refl _⟩
  case round =>
    obtain ⟨k, hk, rfl, hown, hkp⟩ := hrel
    have g0 := hkp.cell c0
    have g1 := hkp.cell c1
    have g2 := hkp.cell c2
    have g3 := hkp.cell c3
    have l0 := lt_of_cell g0
    have hgl := GL.out k
    by_cases hlt : k < hi + 1 - lo
    · obtain ⟨m, hm⟩ : ∃ m, lo + k = m := ⟨_, rfl⟩
      have hm2 : m ≤ hi := by omega
      have hm3 : lo + (k + 1) = m + 1 := by omega
      have HM3 := Lib.hid hm3
      have HY := Lib.hid (fun (h : gs.all (rightB · ((lo + k : Nat) : Int)) = true) => row_yes (lo := lo) (k := k) (gs := gs) (by omega) h)
      have HN := Lib.hid (fun (h : gs.all (rightB · ((lo + k : Nat) : Int)) = false) => row_no (lo := lo) (k := k) (gs := gs) (by omega) h)
      obtain ⟨L, hL⟩ : ∃ L, lensTo lo gs k = L := ⟨_, rfl⟩
      rw [hL] at hown HY HN hgl
      rw [hm] at HY HN ⊢
      have HO := Lib.hid hown
      have HLL := Lib.hid hL
      clear c0 c1 c2 c3 hm hL hm3 hown
      obtain ⟨wo, rfl⟩ : ∃ wo : World, wo = wr := ⟨_, rfl⟩
      go_wp2_with fail
      go_loopw [7, 8] (fun f i wx => ∃ j : Nat, j ≤ rs.length ∧ i = .int .i64 j ∧ f = .bool (fitsTo ws rs s m j) ∧ Keeps wo wx) (fun _ i _ => rs.length - (intOf i).toNat)
      case atStart => exact ⟨0, Nat.zero_le _, rfl, by rw [fits_zero], Keeps.refl _⟩
      case round =>
        obtain ⟨j, hj, rfl, rfl, hkq⟩ := hrel
        obtain ⟨wx, rfl⟩ : ∃ wx : World, wx = wr := ⟨_, rfl⟩
        have f0 := hkq.cell g0
        have f1 := hkq.cell g1
        have f2 := hkq.cell g2
        have f3 := hkq.cell g3
        have l1' := lt_of_cell f0
        clear g0 g1 g2 g3 l0
        by_cases hlj : j < rs.length
        · obtain ⟨rb, ro, rfl, hr⟩ := (HI.out.rds).keep ((kB.trans hkp).trans hkq) (by intro e; simp only at e; rw [e] at hlj; simp at hlj)
          have hrj := hr j hlj
          have hri := RI.out j hlj
          dsimp only at hrj hri
          have HFI := Lib.hid (fun h => fits_in (ws := ws) (rs := rs) (s := s) (m := m) (j := j) h)
          have HFO := Lib.hid (fun h => fits_out (ws := ws) (rs := rs) (s := s) (m := m) (j := j) h)
          obtain ⟨⟨c, x, y⟩, hrk⟩ : ∃ r : Rd, rs[j]?.getD (0, 0, 0) = r := ⟨_, rfl⟩
          rw [hrk] at hrj hri HFI
          obtain ⟨h2a, h2b, h2c⟩ := hrj
          obtain ⟨hc0, hcw, hp⟩ := hri
          dsimp only at h2a h2b h2c hc0 hcw hp
          obtain ⟨c, rfl⟩ := Int.eq_ofNat_of_zero_le hc0
          have hlr := lt_of_cell h2a
          have hcw' : c < ws.length := by omega
          obtain ⟨v, hv⟩ : ∃ v, rightB (ws[c]?.getD 0, x, y) m = v := ⟨_, rfl⟩
          have R1 := Lib.hid (fun w1 k1 => RR.out c x y m hcw' hp (by omega) v hv w1 k1)
          have hrg : rightB (rgOf ws ((c : Int), x, y)) m = v := by rw [← hv, rgOf, Int.toNat_natCast]
          rw [hrg] at HFI
          obtain ⟨u, hu⟩ : ∃ u, fitsTo ws rs s m j = u := ⟨_, rfl⟩
          rw [hu] at HFI HFO ⊢
          have kw := (kB.trans hkp).trans hkq
          have H0 := Lib.hid (fun b hb w1 => HS.out j (by omega) b hb w1)
          clear hr hrk hc0 hp hv hrg hu HS RR RI
          cases hh : hasB s j with
          | false =>
            have H1 := Lib.hid (fun w1 => HQ.out j (by omega) false hh w1)
            have HF := Lib.hid (HFO.out hh)
            clear hh H0 HFI HFO R1
            go_wp2_with fail
            go_quiet ((go_at_call 55; exact Calls.quiet_of_same (H1.out _)))
            go_wp2
            go_roundw
            case rel => exact ⟨j + 1, by omega, by go_num, by rw [HF.out], hkq.drewN _⟩
            case measure => simp [intOf]; omega
          | true =>
            have H1 := Lib.hid (fun w1 => H0.out true hh w1)
            have HF := Lib.hid (HFI.out hh)
            have HSS := Lib.hid (fun (w' : World) (kk : Keeps wx w') => show w'.cell? ⟨w.heap.size, 0, none⟩ = some (.slice wa ws.length wc) ∧ w'.cell? ⟨w.heap.size, 1, none⟩ = some (.int .i64 lo) ∧ w'.cell? ⟨w.heap.size, 2, none⟩ = some (.int .i64 hi) ∧ w'.cell? ⟨w.heap.size, 3, none⟩ = some (.slice (some ⟨rb, ro, none⟩) rs.length rc) ∧ w'.cell? ⟨rb, ro + j * 3, none⟩ = some (.int .i64 c) ∧ w'.cell? ⟨rb, ro + j * 3 + 1, none⟩ = some (.int .i64 x) ∧ w'.cell? ⟨rb, ro + j * 3 + 2, none⟩ = some (.int .i64 y) ∧ Keeps wx w' from ⟨kk.cell f0, kk.cell f1, kk.cell f2, kk.cell f3, kk.cell h2a, kk.cell h2b, kk.cell h2c, kk⟩)
            clear hh H0 HFI HFO
            cases v
            all_goals
              go_wp2_with fail
              go_region_held3 (fun w' => w'.cell? ⟨w.heap.size, 0, none⟩ = some (.slice wa ws.length wc) ∧ w'.cell? ⟨w.heap.size, 1, none⟩ = some (.int .i64 lo) ∧ w'.cell? ⟨w.heap.size, 2, none⟩ = some (.int .i64 hi) ∧ w'.cell? ⟨w.heap.size, 3, none⟩ = some (.slice (some ⟨rb, ro, none⟩) rs.length rc) ∧ w'.cell? ⟨rb, ro + j * 3, none⟩ = some (.int .i64 c) ∧ w'.cell? ⟨rb, ro + j * 3 + 1, none⟩ = some (.int .i64 x) ∧ w'.cell? ⟨rb, ro + j * 3 + 2, none⟩ = some (.int .i64 y) ∧ Keeps wx w')
                (first | exact HSS.out _ (Keeps.refl _).drew | exact HSS.out _ (Keeps.refl _) | exact HSS.out _ k4 | exact HSS.out _ k4.drew)
                (first
                  | (go_at_call 55; refine (H1.out _).mono ?_; rintro e w4 ⟨rfl, rfl⟩)
                  | (go_at_call 100; refine (R1.out _ (by first | exact kw | exact kw.drew)).mono ?_; rintro e w4 ⟨rfl, k4⟩; replace k4 : Keeps wx w4 := by first | exact k4 | exact k4.undrew))
              all_goals
                clear HSS H1 R1
                go_wp2
                go_roundw
                case rel => exact ⟨j + 1, by omega, by go_num, by rw [HF.out]; cases u <;> rfl, hkq.trans k4⟩
                case measure => simp [intOf]; omega
        · obtain rfl : j = rs.length := by omega
          have HL := Lib.hid (HG.out m)
          rw [HL.out]
          obtain ⟨u, hu⟩ : ∃ u, gs.all (rightB · (m : Int)) = u := ⟨_, rfl⟩
          rw [hu] at HY HN ⊢
          have hsz := hkp.size
          have hsz2 := hkq.size
          clear HL hu f0 f1 f2
          cases u with
          | false =>
            have HF := Lib.hid (HN.out rfl)
            clear HY HN
            go_wp2
            go_roundw
            case rel => exact ⟨k + 1, by omega, by rw [HM3.out]; go_num, by rw [HF.out]; exact HO.out.kept (hkq.grown none) (not_own_none _), hkp.trans hkq⟩
            case measure => simp [intOf]; omega
          | true =>
            have HF := Lib.hid (HY.out rfl)
            have HOX := Lib.hid (HO.out.kept (hkq.grown none) (not_own_none _))
            clear HY HN
            go_wp2_with (at_builtin; refine wpList_append_own _ rfl _ _ 22 rfl W.heap.size 3 i0 (.int .i64 0) 1 8 Tryz.underlying22 hi0 hz0 hz1 hz2 rfl (by decide) _ _ _ rfl (HOX.out.alloc _) ⟨wx.heap.size, 0, none⟩ 1 1 [.int .i64 m] rfl rfl (by simp [go_sem]) (by simp [Value.oneCell']) (by unfold maxLen; omega) (by omega) (by simp; omega) ?_; intro v' w4 hown' hgrow _)
            have hk4 : Keeps W w4 := Below.grown ((hkp.trans hkq).alloc _) hgrow (by simp; omega) (fun j e => (HOX.out.lt j e).1)
            clear hgrow
            have HO4 := Lib.hid hown'
            clear hown'
            go_wp2
            go_roundw
            case rel => exact ⟨k + 1, by omega, by rw [HM3.out]; go_num, by rw [HF.out.1, HF.out.2]; exact HO4.out, hk4⟩
            case measure => simp [intOf]; omega
    · obtain rfl : k = hi + 1 - lo := by omega
      have hown2 := hown
      rw [show (lensTo lo gs (hi + 1 - lo)).length = (intsOf (lensTo lo gs (hi + 1 - lo))).length by simp [intsOf]] at hown2
      obtain ⟨a, cap, rfl, hIL⟩ := ints_of_owns hown2
      clear hown2
      have e1 : decide (((lo + (hi + 1 - lo) : Nat) : Int) ≤ (hi : Int)) = false := by simp; omega
      have HIL := Lib.hid hIL
      clear hIL hown
      go_wp2_with fail
      skip
      go_ret
      exact ⟨a, cap, rfl, HIL.out, kB.trans hkp⟩
end Go.Proofs.YtoidnbpbeblokaaGreat
