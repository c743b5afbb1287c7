/-
  FringeAsk's inner function: of a colour, how many lengths are left at most, and how many those of all parts are together.
-/
import Derived.Test.YtgbojgachgodgaaTb
namespace Go.Proofs.Ytgbojgachgodgaa
open Go.RowKit Go.Shelf

theorem with_count (F : Fr) (hok : F.ok = true) (h5 : F.rs.length ≤ 5) {c : Nat} (hc : c < F.ws.length) (p : Nat) (hp : p < 20) (ra : Option Addr) (rc : Nat) (w : World) (hI : (F.more ((c : Int), (p : Int), (p : Int)) ra rc).In w) :
    Calls Try.prog 23 #[(F.more ((c : Int), (p : Int), (p : Int)) ra rc).v] w (Ret (.tuple #[.int .i64 (cntP (F.ws[c]?.getD 0) F.truths p : Nat), .int .i64 0]) w) := by
  have h := Count_any (F.more ((c : Int), (p : Int), (p : Int)) ra rc) w hI
  have hr : vRead F.ws.length ((c : Int), (p : Int), (p : Int)) = true := by simp [vRead, vPart]; omega
  rw [show countR (F.more ((c : Int), (p : Int), (p : Int)) ra rc) = (((cntP (F.ws[c]?.getD 0) F.truths p : Nat) : Int), 0) by
    rw [countR, if_pos (more_ok F hok h5 _ hr ra rc), truths_more F hok hc p hp ra rc]] at h
  exact h

set_option maxRecDepth 100000 in
set_option maxHeartbeats 3200000 in
theorem most_any (F : Fr) (hok : F.ok = true) (h5 : F.rs.length ≤ 5) (b : Nat) {c : Nat} (hc : c < F.ws.length) (w : World) (hI : F.In w) (hB : F.Box w b) :
    Calls Try.prog 35 #[.int .i64 c, .pointer (some ⟨b, 0, none⟩)] w (Ret (.tuple #[.int .i64 (mostP (F.ws[c]?.getD 0) F.truths : Nat), .int .i64 (F.truths.length : Nat)]) w) := by
  have hw := F.wave_in hok hc
  obtain ⟨x, hx⟩ : ∃ x, F.ws[c]?.getD 0 = x := ⟨_, rfl⟩
  rw [hx] at hw ⊢
  obtain ⟨ts, hts⟩ : ∃ ts, F.truths = ts := ⟨_, rfl⟩
  have HA := Lib.hid (fun q => alls_le (wv := x) (by omega) ts q)
  have HW := Lib.hid (fun q => worst_le x ts q)
  have HC := Lib.hid (fun p => cntP_le x ts p)
  have HN := Lib.hid (fun (p : Nat) (hp : p < 20) w1 (k : Keeps w w1) => with_any F ((c : Int), (p : Int), (p : Int)) w1 (hI.keep k) (by omega))
  have HQ := Lib.hid (fun (p : Nat) (hp : p < 20) ra rc w1 (h : (F.more ((c : Int), (p : Int), (p : Int)) ra rc).In w1) => with_count F hok h5 hc p hp ra rc w1 h)
  have RD := Lib.hid (fun (p : Nat) => read_any c p p)
  have htl : ts.length ≤ 401 := hts ▸ F.truths_len hok
  rw [hx, hts] at HQ
  rw [show mostP x F.truths = worst x ts 20 by rw [hts]; rfl, show F.truths.length = alls x ts 20 by rw [hts]; exact (alls_all (by omega) ts).symm]
  clear hok h5 hx hts hw
  obtain ⟨wa, wc, ws, lo, hi, ra, rc, rs⟩ := F
  obtain ⟨g0, g1, g2, g3⟩ := hB
  dsimp only [Fr.v, Fr.more] at *
  simp only [List.length_append, List.length_singleton] at HN HQ
  clear hI
  go_enter Try.func35, Try.ntmps35
  go_wp2_with fail
  go_loopw [3, 4, 8] (fun a s i wr => ∃ k : Nat, k ≤ 20 ∧ i = .int .i64 k ∧ a = .int .i64 (worst x ts k : Nat) ∧ s = .int .i64 (alls x ts k : Nat) ∧ Keeps w wr) (fun _ _ i _ => 20 - (intOf i).toNat)
  case atStart => exact ⟨0, Nat.zero_le _, rfl, rfl, rfl, Keeps.refl _⟩
  case round =>
    obtain ⟨k, hk, rfl, rfl, rfl, hkp⟩ := hrel
    by_cases hlt : k < 20
    · have G0 := hkp.cell g0
      have G1 := hkp.cell g1
      have G2 := hkp.cell g2
      have G3 := hkp.cell g3
      have HS := Lib.hid (fun (w' : World) (kk : Keeps wr w') => show w'.cell? ⟨b, 0, none⟩ = some (.slice wa ws.length wc) ∧ w'.cell? ⟨b, 1, none⟩ = some (.int .i64 lo) ∧ w'.cell? ⟨b, 2, none⟩ = some (.int .i64 hi) ∧ w'.cell? ⟨b, 3, none⟩ = some (.slice ra rs.length rc) ∧ Keeps w w' from ⟨kk.cell G0, kk.cell G1, kk.cell G2, kk.cell G3, hkp.trans kk⟩)
      have hw1 := HW.out (k + 1)
      have ha1 := HA.out (k + 1)
      rw [worst_succ] at hw1
      rw [alls_succ] at ha1
      have HR := Lib.hid (RD.out k)
      have HN' := Lib.hid (HN.out k hlt)
      have HQ' := Lib.hid (HQ.out k hlt)
      obtain ⟨n, hn⟩ : ∃ n : Nat, cntP x ts (k : Nat) = n := ⟨_, rfl⟩
      obtain ⟨u, hu⟩ : ∃ u : Nat, worst x ts k = u := ⟨_, rfl⟩
      obtain ⟨v, hv⟩ : ∃ v : Nat, alls x ts k = v := ⟨_, rfl⟩
      have HE := Lib.hid (show worst x ts (k + 1) = max u n ∧ alls x ts (k + 1) = v + n from ⟨by rw [worst_succ, hu, hn], by rw [alls_succ, hv, hn]⟩)
      rw [hn] at HQ' hw1 ha1
      rw [hu] at hw1 ⊢
      rw [hv] at ha1 ⊢
      clear RD HN HQ HA HW HC hn hu hv G0 G1 G2 G3 g0 g1 g2 g3
      go_wp2_with fail
      go_region_held3 (fun w' => w'.cell? ⟨b, 0, none⟩ = some (.slice wa ws.length wc) ∧ w'.cell? ⟨b, 1, none⟩ = some (.int .i64 lo) ∧ w'.cell? ⟨b, 2, none⟩ = some (.int .i64 hi) ∧ w'.cell? ⟨b, 3, none⟩ = some (.slice ra rs.length rc) ∧ Keeps w w')
        (first | exact HS.out _ (Keeps.refl _).drew | exact HS.out _ (Keeps.refl _) | exact HS.out _ k4 | exact HS.out _ k4.drew | exact HS.out _ k5 | exact HS.out _ k5.drew | exact HS.out _ k6 | exact HS.out _ k6.drew)
        (first
          | (go_at_call 24; refine (HR.out _).mono ?_; rintro e w4 ⟨rfl, k4⟩; replace k4 : Keeps wr w4 := by first | exact k4 | exact k4.undrew)
          | (go_at_call 32; refine (HN'.out _ (by first | exact hkp.trans k4 | exact (hkp.trans k4).drew)).mono ?_; rintro e w5 ⟨ra2, rc2, rfl, hI2, k5⟩; replace k5 : Keeps wr w5 := by first | exact k4.trans k5 | exact k4.trans k5.undrew)
          | (go_at_call 23; refine (HQ'.out _ _ _ (by first | exact hI2 | exact hI2.keep (Keeps.refl _).drew)).mono ?_; rintro e w6 ⟨rfl, k6⟩; replace k6 : Keeps wr w6 := by first | exact k5.trans k6 | exact k5.trans k6.undrew))
      all_goals
        have kw := hkp.trans k6
        clear HS HR HN' HQ' hkp k4 k5 k6 hI2
        go_wp2
        go_roundw
        case rel => exact ⟨k + 1, by omega, by go_num, by rw [HE.out.1]; go_num, by rw [HE.out.2]; go_num, kw⟩
        case measure => simp [intOf]; omega
    · obtain rfl : k = 20 := by omega
      go_wp2
      go_ret2
      exact ⟨rfl, hkp⟩
end Go.Proofs.Ytgbojgachgodgaa
