/-
  The document's own answers: Parts.
-/
import Derived.Test.YtoidnbpbeblokaaGreatQe
import Derived.Test.YtoidnbpbeblokaaGreatQf
namespace Go.Proofs.YtoidnbpbeblokaaGreat
open Go.RowKit Go.Shelf

set_option maxRecDepth 100000 in
set_option maxHeartbeats 3200000 in
theorem refParts_err (F : Fr) (c : Int) (v : Bool) (hv : decide (0 ≤ c ∧ c < F.ws.length) = v) (w : World) (hI : F.In w) (h0 : toldE F v ≠ 0) : Calls Tryz.prog 18 #[F.v, .int .i64 c] w (Ret (.tuple #[.int .i64 0, .int .i64 (toldE F v)]) w) := by
  have CO := Lib.hid (fun w1 => refColour_is F c v hv hI.wl w1)
  have TO := Lib.hid (fun w1 (k : Keeps w w1) => refTold_at F v w1 (hI.keep k))
  have kB := (Keeps.refl w).alloc (.cells #[.slice F.wa F.ws.length F.wc, .int .i64 F.lo, .int .i64 F.hi, .slice F.ra F.rs.length F.rc] 27)
  have hB := Fr.Box.new F w
  have hE : (toldE F v != 0) = true := by simp [h0]
  obtain ⟨E, hEq⟩ : ∃ E, toldE F v = E := ⟨_, rfl⟩
  obtain ⟨L, hLq⟩ : ∃ L, toldV F v = L := ⟨_, rfl⟩
  rw [hEq] at TO hE ⊢
  rw [hLq] at TO
  obtain ⟨wa, wc, ws, lo, hi, ra, rc, rs⟩ := F
  obtain ⟨g0, g1, g2, g3⟩ := hB
  dsimp only [Fr.v] at *
  clear hI hEq hLq h0 hv
  go_enter Tryz.func18, Tryz.ntmps18
  go_wp2_with fail
  obtain ⟨W, hW⟩ : ∃ W, w.alloc (.cells #[.slice wa ws.length wc, .int .i64 lo, .int .i64 hi, .slice ra rs.length rc] 27) = W := ⟨_, rfl⟩
  have HS := Lib.hid (fun (w' : World) (kk : Keeps W w') => show w'.cell? ⟨w.heap.size, 0, none⟩ = some (.slice wa ws.length wc) ∧ w'.cell? ⟨w.heap.size, 1, none⟩ = some (.int .i64 lo) ∧ w'.cell? ⟨w.heap.size, 2, none⟩ = some (.int .i64 hi) ∧ w'.cell? ⟨w.heap.size, 3, none⟩ = some (.slice ra rs.length rc) ∧ Keeps W w' from
    ⟨kk.cell (by subst hW; exact g0), kk.cell (by subst hW; exact g1), kk.cell (by subst hW; exact g2), kk.cell (by subst hW; exact g3), kk⟩)
  rw [hW] at kB ⊢
  have kz := Keeps.refl W
  clear hW g0 g1 g2 g3
  go_region_held3 (fun w' => w'.cell? ⟨w.heap.size, 0, none⟩ = some (.slice wa ws.length wc) ∧ w'.cell? ⟨w.heap.size, 1, none⟩ = some (.int .i64 lo) ∧ w'.cell? ⟨w.heap.size, 2, none⟩ = some (.int .i64 hi) ∧ w'.cell? ⟨w.heap.size, 3, none⟩ = some (.slice ra rs.length rc) ∧ Keeps W w')
    (first | exact HS.out _ (Keeps.refl _).drew | exact HS.out _ (Keeps.refl _) | exact HS.out _ kz | exact HS.out _ kz.drew)
    (first
      | (go_at_call 36; refine (CO.out _).mono ?_; rintro e w4 ⟨rfl, k4⟩; replace kz : Keeps W w4 := by first | exact kz.trans k4 | exact kz.trans k4.undrew
         clear k4)
      | (go_at_call 43; refine (TO.out _ (by first | exact kB.trans kz | exact (kB.trans kz).drew)).mono ?_; rintro e w4 ⟨a, cap, rfl, hL4, k4⟩; replace kz : Keeps W w4 := by first | exact kz.trans k4 | exact kz.trans k4.undrew
         have HL4 := Lib.hid hL4
         clear k4 hL4))
  all_goals
    have kf := kB.trans kz
    clear HS CO TO
    go_wp2
    refine bodyPost_ret (v := .tuple #[.int .i64 0, .int .i64 E]) (by simp [results, Tryz.results18, go_sem]) rfl ⟨rfl, by first | exact kf | exact kf.drew⟩
set_option maxRecDepth 100000 in
set_option maxHeartbeats 6400000 in
theorem refParts_ok (F : Fr) (c : Nat) (x : Int) (hc : c < F.ws.length) (hx : F.ws[c]?.getD 0 = x) (w : World) (hI : F.In w) (hok : F.ok = true) (ht : F.truths ≠ []) : Calls Tryz.prog 18 #[F.v, .int .i64 c] w (Ret (.tuple #[.int .i64 ((partSet (frs x F.truths) : Nat) : Int), .int .i64 0]) w) := by
  have CO := Lib.hid (fun w1 => refColour_is F c true (by simp; omega) hI.wl w1)
  have TO := Lib.hid (fun w1 (k : Keeps w w1) => refTold_any F w1 (hI.keep k))
  rw [show toldL F = intsOf F.truths by simp [toldL, lenE_0 hok ht], lenE_0 hok ht] at TO
  have hlen : (intsOf F.truths).length ≤ 401 := by rw [intsOf_len]; exact F.truths_len hok
  have hpos : 0 < (intsOf F.truths).length := by rw [intsOf_len]; exact List.length_pos_iff.2 ht
  have LB := Lib.hid (fun i (h : i < (intsOf F.truths).length) => intsOf_bd h)
  have hw := F.wave_in hok hc
  rw [hx] at hw
  obtain ⟨hw1, hw2⟩ := hw
  have kB := (Keeps.refl w).alloc (.cells #[.slice F.wa F.ws.length F.wc, .int .i64 F.lo, .int .i64 F.hi, .slice F.ra F.rs.length F.rc] 27)
  have hB := Fr.Box.new F w
  have OF := Lib.hid (fun (m : Nat) (hm : m ≤ 2000) w1 (k : Keeps w w1) => refOf_any F m c x w1 (hI.keep k) hc hx hw1 hw2 hm)
  have PA := Lib.hid (psTo_all F x)
  have PL := Lib.hid (fun ns => psOf_lt (x := x) (by omega) ns)
  obtain ⟨L, hLq⟩ : ∃ L, intsOf F.truths = L := ⟨_, rfl⟩
  rw [hLq] at TO hlen hpos LB PA
  obtain ⟨R, hR⟩ : ∃ R, partSet (frs x F.truths) = R := ⟨_, rfl⟩
  rw [hR] at PA ⊢
  have PN := Lib.hid (fun k (hk : k < L.length) => psTo_succ (x := x) hk)
  have PB := Lib.hid (fun k => show psTo x L k < 1048576 from PL.out _)
  have HH := Lib.hid (fun (s n : Nat) (hs : s < 1048576) (hn : n ≤ 20) v (hv : hasB s n = v) w1 => refHas_any s n hs hn v hv w1)
  have PO := Lib.hid (fun (n : Nat) (hn : n ≤ 20) w1 => power_any n hn w1)
  obtain ⟨wa, wc, ws, lo, hi, ra, rc, rs⟩ := F
  obtain ⟨g0, g1, g2, g3⟩ := hB
  dsimp only [Fr.v] at *
  clear hI hok ht hLq hR hx PL
  go_enter Tryz.func18, Tryz.ntmps18
  go_wp2_with fail
  obtain ⟨W, hW⟩ : ∃ W, w.alloc (.cells #[.slice wa ws.length wc, .int .i64 lo, .int .i64 hi, .slice ra rs.length rc] 27) = W := ⟨_, rfl⟩
  have HS := Lib.hid (fun (w' : World) (kk : Keeps W w') => show w'.cell? ⟨w.heap.size, 0, none⟩ = some (.slice wa ws.length wc) ∧ w'.cell? ⟨w.heap.size, 1, none⟩ = some (.int .i64 lo) ∧ w'.cell? ⟨w.heap.size, 2, none⟩ = some (.int .i64 hi) ∧ w'.cell? ⟨w.heap.size, 3, none⟩ = some (.slice ra rs.length rc) ∧ Keeps W w' from
    ⟨kk.cell (by subst hW; exact g0), kk.cell (by subst hW; exact g1), kk.cell (by subst hW; exact g2), kk.cell (by subst hW; exact g3), kk⟩)
  rw [hW] at kB ⊢
  have kz := Keeps.refl W
  clear hW g0 g1 g2 g3
  go_region_held3 (fun w' => w'.cell? ⟨w.heap.size, 0, none⟩ = some (.slice wa ws.length wc) ∧ w'.cell? ⟨w.heap.size, 1, none⟩ = some (.int .i64 lo) ∧ w'.cell? ⟨w.heap.size, 2, none⟩ = some (.int .i64 hi) ∧ w'.cell? ⟨w.heap.size, 3, none⟩ = some (.slice ra rs.length rc) ∧ Keeps W w')
    (first | exact HS.out _ (Keeps.refl _).drew | exact HS.out _ (Keeps.refl _) | exact HS.out _ kz | exact HS.out _ kz.drew)
    (first
      | (go_at_call 36; refine (CO.out _).mono ?_; rintro e w4 ⟨rfl, k4⟩; replace kz : Keeps W w4 := by first | exact kz.trans k4 | exact kz.trans k4.undrew
         clear k4)
      | (go_at_call 43; refine (TO.out _ (by first | exact kB.trans kz | exact (kB.trans kz).drew)).mono ?_; rintro e w4 ⟨a, cap, rfl, hL4, k4⟩; replace kz : Keeps W w4 := by first | exact kz.trans k4 | exact kz.trans k4.undrew
         have HL4 := Lib.hid hL4
         clear k4 hL4))
  all_goals
    clear CO TO
    have hI0 := HL4.out
    obtain ⟨bl, ol, rfl, hcs0⟩ := hI0 (by intro e; rw [e] at hpos; simp at hpos)
    clear hcs0 hI0
    replace kz : Keeps W w4 := by first | exact kz | exact kz.undrew
    go_wp2_with fail
    go_loopw [8, 9] (fun o i wr => ∃ k : Nat, k ≤ L.length ∧ i = .int .i64 k ∧ o = .int .i64 ((psTo x L k : Nat) : Int) ∧ Keeps w4 wr) (fun _ i _ => L.length - (intOf i).toNat)
    case atStart => exact ⟨0, Nat.zero_le _, rfl, rfl, by first | exact Keeps.refl _ | exact (Keeps.refl _).drew⟩
    case round =>
      obtain ⟨k, hk, rfl, rfl, hkp⟩ := hrel
      have hsb := PB.out k
      by_cases hlt : k < L.length
      · obtain ⟨bl', ol', he, hcs⟩ := (HL4.out.keep hkp) (by intro e; rw [e] at hpos; simp at hpos)
        cases he
        have hb := LB.out k hlt
        have hpn := PN.out k hlt
        obtain ⟨y, hy⟩ : ∃ y, L[k]?.getD 0 = y := ⟨_, rfl⟩
        rw [hy] at hb hpn
        have hcc := ints_take hcs hlt hy
        have hlb2 := lt_of_cell hcc
        obtain ⟨m, rfl⟩ := Int.eq_ofNat_of_zero_le hb.1
        have hm : m ≤ 2000 := by omega
        obtain ⟨p0, p1⟩ := partI_bd (wv := x) (n := (m : Int)) (by omega)
        unfold partI at p0 p1
        obtain ⟨q, hq⟩ := Int.eq_ofNat_of_zero_le p0
        rw [hq] at p1 hpn
        rw [Int.toNat_natCast] at hpn
        have hq20 : q < 20 := by omega
        have OF1 := Lib.hid (fun w1 kk => OF.out m hm w1 kk)
        rw [hq] at OF1
        obtain ⟨f0, f1, f2, f3, _⟩ := HS.out _ (kz.trans hkp)
        have flb := lt_of_cell f0
        obtain ⟨s, hs⟩ : ∃ s, psTo x L k = s := ⟨_, rfl⟩
        rw [hs] at hpn hsb ⊢
        have HPN := Lib.hid hpn
        have kw := kB.trans (kz.trans hkp)
        have HSS := Lib.hid (fun (w' : World) (kk : Keeps wr w') => show w'.cell? ⟨w.heap.size, 0, none⟩ = some (.slice wa ws.length wc) ∧ w'.cell? ⟨w.heap.size, 1, none⟩ = some (.int .i64 lo) ∧ w'.cell? ⟨w.heap.size, 2, none⟩ = some (.int .i64 hi) ∧ w'.cell? ⟨w.heap.size, 3, none⟩ = some (.slice ra rs.length rc) ∧ w'.cell? ⟨bl, ol + k, none⟩ = some (.int .i64 m) ∧ Keeps wr w' from ⟨kk.cell f0, kk.cell f1, kk.cell f2, kk.cell f3, kk.cell hcc, kk⟩)
        clear hcs hy hq hpn hs p0 p1 OF HS PN PB f0 f1 f2 f3 hcc
        go_wp2_with fail
        go_region_held3 (fun w' => w'.cell? ⟨w.heap.size, 0, none⟩ = some (.slice wa ws.length wc) ∧ w'.cell? ⟨w.heap.size, 1, none⟩ = some (.int .i64 lo) ∧ w'.cell? ⟨w.heap.size, 2, none⟩ = some (.int .i64 hi) ∧ w'.cell? ⟨w.heap.size, 3, none⟩ = some (.slice ra rs.length rc) ∧ w'.cell? ⟨bl, ol + k, none⟩ = some (.int .i64 m) ∧ Keeps wr w')
          (first | exact HSS.out _ (Keeps.refl _).drew | exact HSS.out _ (Keeps.refl _) | exact HSS.out _ k5 | exact HSS.out _ k5.drew)
          (first | (go_at_call 37; refine (OF1.out _ (by first | exact kw | exact kw.drew)).mono ?_; rintro e w5 ⟨rfl, k5⟩; replace k5 : Keeps wr w5 := by first | exact k5 | exact k5.undrew))
        all_goals
          have kf := hkp.trans k5
          clear HSS OF1
          cases hh : hasB s q with
          | true =>
            have H1 := Lib.hid (fun w1 => HH.out s q hsb (by omega) true hh w1)
            have HO := Lib.hid (or_has hh)
            clear hh
            go_wp2_with fail
            refine (H1.out _).mono ?_
            rintro e w6 ⟨rfl, rfl⟩
            go_wp2_with fail
            go_roundw
            case rel => exact ⟨k + 1, by omega, by go_num, by rw [HPN.out, HO.out], kf⟩
            case measure => simp [intOf]; omega
          | false =>
            have H1 := Lib.hid (fun w1 => HH.out s q hsb (by omega) false hh w1)
            have H2 := Lib.hid (fun w1 => PO.out q (by omega) w1)
            have HO := Lib.hid (or_has_not hsb hq20 hh)
            obtain ⟨b1, b2⟩ := pow_le20 (show q ≤ 20 by omega)
            obtain ⟨P, hP⟩ : ∃ P, 2 ^ q = P := ⟨_, rfl⟩
            rw [hP] at HO H2 b1 b2 HPN
            clear hh hP
            go_wp2_with fail
            refine (H1.out _).mono ?_
            rintro e w6 ⟨rfl, rfl⟩
            go_wp2_with fail
            refine (H2.out _).mono ?_
            rintro e w6 ⟨rfl, rfl⟩
            go_wp2_with fail
            go_roundw
            case rel => exact ⟨k + 1, by omega, by go_num, by rw [HPN.out, HO.out]; go_num, kf⟩
            case measure => simp [intOf]; omega
      · obtain rfl : k = L.length := by omega
        rw [PA.out]
        go_wp2_with fail
        refine bodyPost_ret (v := .tuple #[.int .i64 R, .int .i64 0]) (by simp [results, Tryz.results18, go_sem]) rfl ⟨rfl, kB.trans (kz.trans hkp)⟩
theorem refParts_any (F : Fr) (c : Int) (w : World) (hI : F.In w) : Calls Tryz.prog 18 #[F.v, .int .i64 c] w (Ret (.tuple #[.int .i64 (parS F c), .int .i64 (colE F c)]) w) := by
  have hcol := toldE_col F c
  by_cases h : toldE F (decide (0 ≤ c ∧ c < F.ws.length)) = 0
  · obtain ⟨hv, hok, ht⟩ := toldE_0 h
    have hn := of_decide_eq_true hv
    obtain ⟨d, rfl⟩ := Int.eq_ofNat_of_zero_le hn.1
    rw [h] at hcol
    rw [parS, ← hcol, if_pos rfl, Int.toNat_natCast]
    exact refParts_ok F d _ (by omega) rfl w hI hok ht
  · have hw : parS F c = 0 := by rw [parS, ← hcol, if_neg h]
    rw [hw, ← hcol]
    exact refParts_err F c _ rfl w hI h
end Go.Proofs.YtoidnbpbeblokaaGreat
