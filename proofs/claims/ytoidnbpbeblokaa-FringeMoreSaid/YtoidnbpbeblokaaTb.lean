/-
  FringeAsk, its numbers: a reading of one part more leaves the lengths of that part; all parts together are all lengths; the colour that is told is the first best one.
  FringeAsk's inner function: of a colour, how many lengths are left at most, and how many those of all parts are together.
-/
import Derived.Test.YtoidnbpbeblokaaTa
import Derived.Test.YtoidnbpbeblokaaWu
import Derived.Test.YtoidnbpbeblokaaWr
namespace Go.Proofs.Ytoidnbpbeblokaa

/-- The fringe with a reading more. -/
def Fr.more (F : Fr) (r : Rd) (ra : Option Go.Addr) (rc : Nat) : Fr := ⟨F.wa, F.wc, F.ws, F.lo, F.hi, ra, rc, F.rs ++ [r]⟩

theorem more_ok (F : Fr) (h : F.ok = true) (h5 : F.rs.length ≤ 5) (r : Rd) (hr : vRead F.ws.length r = true) (ra : Option Go.Addr) (rc : Nat) : (F.more r ra rc).ok = true := by
  simp only [Fr.ok, vFringe, vReads, Bool.and_eq_true, decide_eq_true_eq, Fr.more] at h ⊢
  refine ⟨h.1, by simp; omega, ?_⟩
  rw [List.all_append, h.2.2]
  simp [hr]
theorem lensTo_more (lo : Nat) (gs : List Rg) (g : Rg) (k : Nat) : lensTo lo (gs ++ [g]) k = (lensTo lo gs k).filter fun x => rightB g ((x.val : Nat) : Int) := by
  induction k with
  | zero => rfl
  | succ k ih =>
    by_cases hl : lo + k < 2001
    · cases ha : gs.all (rightB · ((lo + k : Nat) : Int)) with
      | false =>
        rw [lensTo_no hl ha, lensTo_no hl (by rw [List.all_append, ha]; rfl)]
        exact ih
      | true =>
        rw [lensTo_yes hl ha, List.filter_append, ← ih]
        cases hg : rightB g ((lo + k : Nat) : Int) with
        | true =>
          rw [lensTo_yes hl (by rw [List.all_append, ha, List.all_cons, List.all_nil, hg]; rfl), List.filter_cons_of_pos (by exact hg), List.filter_nil]
        | false =>
          rw [lensTo_no hl (by rw [List.all_append, ha, List.all_cons, List.all_nil, hg]; rfl), List.filter_cons_of_neg (by rw [hg]; simp), List.filter_nil, List.append_nil]
    · have e : ∀ gs : List Rg, lensTo lo gs (k + 1) = lensTo lo gs k := fun gs => by
        simp only [lensTo, List.range_succ, List.filterMap_append, List.filterMap_cons, List.filterMap_nil, dif_neg hl, List.append_nil]
      rw [e, e, ih]
theorem right_one {wv p n : Int} (_h1 : 1 ≤ wv) (hp : p < 20) : rightB (wv, p, p) n = (partI wv n == p) := by
  simp only [rightB, if_pos hp, plainB]
  rw [Bool.eq_iff_iff]
  simp; omega
theorem truths_more (F : Fr) (h : F.ok = true) {c : Nat} (hc : c < F.ws.length) (p : Nat) (hp : p < 20) (ra : Option Go.Addr) (rc : Nat) :
    (F.more ((c : Int), (p : Int), (p : Int)) ra rc).truths.length = cntP (F.ws[c]?.getD 0) F.truths p := by
  have hw := F.wave_in h hc
  unfold Fr.truths cntP lens
  have e : (F.more ((c : Int), (p : Int), (p : Int)) ra rc).gs = F.gs ++ [(F.ws[c]?.getD 0, (p : Int), (p : Int))] := by
    simp [Fr.gs, Fr.more, rgOf]
  rw [e, lensTo_more]
  congr 2
  funext x
  exact right_one (by omega) (by omega)

/-- After q parts: the most lengths of one, and those of all. -/
def worst (wv : Int) (ts : List Ln) (q : Nat) : Nat := maxN ((List.range q).map fun p => cntP wv ts (p : Nat))
def alls (wv : Int) (ts : List Ln) (q : Nat) : Nat := ((List.range q).map fun p => cntP wv ts (p : Nat)).sum
theorem worst_succ (wv : Int) (ts : List Ln) (q : Nat) : worst wv ts (q + 1) = max (worst wv ts q) (cntP wv ts (q : Nat)) := by
  simp [worst, maxN, List.range_succ]
theorem alls_succ (wv : Int) (ts : List Ln) (q : Nat) : alls wv ts (q + 1) = alls wv ts q + cntP wv ts (q : Nat) := by
  simp [alls, List.range_succ]
theorem alls_count (wv : Int) (ts : List Ln) (q : Nat) : alls wv ts q = (ts.filter fun x => decide (partI wv (x.val : Nat) < q ∧ 0 ≤ partI wv (x.val : Nat))).length := by
  induction q with
  | zero =>
    have : (ts.filter fun x => decide (partI wv (x.val : Nat) < (0 : Nat) ∧ 0 ≤ partI wv (x.val : Nat))) = [] := by
      rw [List.filter_eq_nil_iff]; intro x _; simp
    rw [this]; rfl
  | succ q ih =>
    rw [alls_succ, ih]
    unfold cntP
    clear ih
    induction ts with
    | nil => rfl
    | cons x ts iht =>
      simp only [List.filter_cons]
      obtain ⟨e, he⟩ : ∃ e, partI wv ((x.val : Nat) : Int) = e := ⟨_, rfl⟩
      rw [he]
      by_cases h1 : e = (q : Nat)
      · subst h1
        rw [if_neg (show ¬ decide (((q : Nat) : Int) < ((q : Nat) : Int) ∧ (0 : Int) ≤ ((q : Nat) : Int)) = true from by simp), if_pos (show decide (((q : Nat) : Int) < ((q + 1 : Nat) : Int) ∧ (0 : Int) ≤ ((q : Nat) : Int)) = true from decide_eq_true (by omega)), if_pos (beq_self_eq_true _), List.length_cons, List.length_cons]
        omega
      · rw [if_neg (show ¬ (e == ((q : Nat) : Int)) = true from by simpa using h1)]
        by_cases h3 : e < (q : Nat) ∧ 0 ≤ e
        · rw [if_pos (show decide (e < ((q : Nat) : Int) ∧ 0 ≤ e) = true from decide_eq_true h3), if_pos (show decide (e < ((q + 1 : Nat) : Int) ∧ 0 ≤ e) = true from decide_eq_true (by omega)), List.length_cons, List.length_cons]
          omega
        · rw [if_neg (show ¬ decide (e < ((q : Nat) : Int) ∧ 0 ≤ e) = true from fun h => h3 (of_decide_eq_true h)), if_neg (show ¬ decide (e < ((q + 1 : Nat) : Int) ∧ 0 ≤ e) = true from fun h => by have := of_decide_eq_true h; omega)]
          exact iht
theorem alls_all {wv : Int} (h : 1 ≤ wv) (ts : List Ln) : alls wv ts 20 = ts.length := by
  rw [alls_count]
  rw [List.filter_eq_self.2]
  intro x _
  have := partI_bd (n := ((x.val : Nat) : Int)) h
  simp; omega
theorem alls_le {wv : Int} (_h : 1 ≤ wv) (ts : List Ln) (q : Nat) : alls wv ts q ≤ ts.length := by
  rw [alls_count]; exact List.length_filter_le _ _
theorem worst_le (wv : Int) (ts : List Ln) (q : Nat) : worst wv ts q ≤ ts.length := by
  rw [worst, maxN_le]
  intro x hx
  obtain ⟨p, _, rfl⟩ := List.mem_map.1 hx
  exact cntP_le _ _ _
theorem worst_all (wv : Int) (ts : List Ln) : worst wv ts 20 = mostP wv ts := rfl

theorem askTo_facts (ws : List Int) (ts : List Ln) : ∀ k, 0 < k → (askTo ws ts k).1 < k ∧ (askTo ws ts k).2 = mostP (ws[(askTo ws ts k).1]?.getD 0) ts ∧
    ∀ c, c < k → (askTo ws ts k).2 < mostP (ws[c]?.getD 0) ts ∨ ((askTo ws ts k).2 = mostP (ws[c]?.getD 0) ts ∧ (askTo ws ts k).1 ≤ c) := by
  intro k
  induction k with
  | zero => intro h; omega
  | succ k ih =>
    intro _
    by_cases h0 : k = 0
    · subst h0
      simp only [askTo, true_or, if_true]
      refine ⟨by omega, trivial, fun c hc => ?_⟩
      obtain rfl : c = 0 := by omega
      exact .inr ⟨rfl, Nat.le_refl _⟩
    · obtain ⟨i1, i2, i3⟩ := ih (by omega)
      by_cases hlt : mostP (ws[k]?.getD 0) ts < (askTo ws ts k).2
      · have e : askTo ws ts (k + 1) = (k, mostP (ws[k]?.getD 0) ts) := by simp [askTo, hlt]
        rw [e]
        refine ⟨by simp, rfl, fun c hc => ?_⟩
        by_cases hck : c = k
        · subst hck; exact .inr ⟨rfl, Nat.le_refl _⟩
        · left
          rcases i3 c (by omega) with h | ⟨h, _⟩
          · dsimp only; omega
          · dsimp only; omega
      · have e : askTo ws ts (k + 1) = askTo ws ts k := by simp [askTo, h0, hlt]
        rw [e]
        refine ⟨by omega, i2, fun c hc => ?_⟩
        by_cases hck : c = k
        · subst hck; omega
        · exact i3 c (by omega)
end Go.Proofs.Ytoidnbpbeblokaa

namespace Go.Proofs.Ytoidnbpbeblokaa
open Go.RowKit Go.Shelf

theorem with_count (F : Fr) (hok : F.ok = true) (h5 : F.rs.length ≤ 5) {c : Nat} (hc : c < F.ws.length) (p : Nat) (hp : p < 20) (ra : Option Addr) (rc : Nat) (w : World) (hI : (F.more ((c : Int), (p : Int), (p : Int)) ra rc).In w) :
    Calls Try.prog 23 #[(F.more ((c : Int), (p : Int), (p : Int)) ra rc).v] w (Ret (.tuple #[.int .i64 (cntP (F.ws[c]?.getD 0) F.truths p : Nat), .int .i64 0]) w) := by
  have h := Count_any (F.more ((c : Int), (p : Int), (p : Int)) ra rc) w hI
  have hr : vRead F.ws.length ((c : Int), (p : Int), (p : Int)) = true := by simp [vRead, vPart]; omega
  rw [show countR (F.more ((c : Int), (p : Int), (p : Int)) ra rc) = (((cntP (F.ws[c]?.getD 0) F.truths p : Nat) : Int), 0) by
    rw [countR, if_pos (more_ok F hok h5 _ hr ra rc), truths_more F hok hc p hp ra rc]] at h
  exact h

set_option maxRecDepth 100000 in
set_option maxHeartbeats 3200000 in
theorem most_any (F : Fr) (hok : F.ok = true) (h5 : F.rs.length ≤ 5) (b : Nat) {c : Nat} (hc : c < F.ws.length) (w : World) (hI : F.In w) (hB : F.Box w b) :
    Calls Try.prog 35 #[.int .i64 c, .pointer (some ⟨b, 0, none⟩)] w (Ret (.tuple #[.int .i64 (mostP (F.ws[c]?.getD 0) F.truths : Nat), .int .i64 (F.truths.length : Nat)]) w) := by
  have hw := F.wave_in hok hc
  obtain ⟨x, hx⟩ : ∃ x, F.ws[c]?.getD 0 = x := ⟨_, rfl⟩
  rw [hx] at hw ⊢
  obtain ⟨ts, hts⟩ : ∃ ts, F.truths = ts := ⟨_, rfl⟩
  have HA := Lib.hid (fun q => alls_le (wv := x) (by omega) ts q)
  have HW := Lib.hid (fun q => worst_le x ts q)
  have HC := Lib.hid (fun p => cntP_le x ts p)
  have HN := Lib.hid (fun (p : Nat) (hp : p < 20) w1 (k : Keeps w w1) => with_any F ((c : Int), (p : Int), (p : Int)) w1 (hI.keep k) (by omega))
  have HQ := Lib.hid (fun (p : Nat) (hp : p < 20) ra rc w1 (h : (F.more ((c : Int), (p : Int), (p : Int)) ra rc).In w1) => with_count F hok h5 hc p hp ra rc w1 h)
  have RD := Lib.hid (fun (p : Nat) => read_any c p p)
  have htl : ts.length ≤ 401 := hts ▸ F.truths_len hok
  rw [hx, hts] at HQ
  rw [show mostP x F.truths = worst x ts 20 by rw [hts]; rfl, show F.truths.length = alls x ts 20 by rw [hts]; exact (alls_all (by omega) ts).symm]
  clear hok h5 hx hts hw
  obtain ⟨wa, wc, ws, lo, hi, ra, rc, rs⟩ := F
  obtain ⟨g0, g1, g2, g3⟩ := hB
  dsimp only [Fr.v, Fr.more] at *
  simp only [List.length_append, List.length_singleton] at HN HQ
  clear hI
  go_enter Try.func35, Try.ntmps35
  go_wp2_with fail
  go_loopw [3, 4, 8] (fun a s i wr => ∃ k : Nat, k ≤ 20 ∧ i = .int .i64 k ∧ a = .int .i64 (worst x ts k : Nat) ∧ s = .int .i64 (alls x ts k : Nat) ∧ Keeps w wr) (fun _ _ i _ => 20 - (intOf i).toNat)
  case atStart => exact ⟨0, Nat.zero_le _, rfl, rfl, rfl, Keeps.refl _⟩
  case round =>
    obtain ⟨k, hk, rfl, rfl, rfl, hkp⟩ := hrel
    by_cases hlt : k < 20
    · have G0 := hkp.cell g0
      have G1 := hkp.cell g1
      have G2 := hkp.cell g2
      have G3 := hkp.cell g3
      have HS := Lib.hid (fun (w' : World) (kk : Keeps wr w') => show w'.cell? ⟨b, 0, none⟩ = some (.slice wa ws.length wc) ∧ w'.cell? ⟨b, 1, none⟩ = some (.int .i64 lo) ∧ w'.cell? ⟨b, 2, none⟩ = some (.int .i64 hi) ∧ w'.cell? ⟨b, 3, none⟩ = some (.slice ra rs.length rc) ∧ Keeps w w' from ⟨kk.cell G0, kk.cell G1, kk.cell G2, kk.cell G3, hkp.trans kk⟩)
      have hw1 := HW.out (k + 1)
      have ha1 := HA.out (k + 1)
      rw [worst_succ] at hw1
      rw [alls_succ] at ha1
      have HR := Lib.hid (RD.out k)
      have HN' := Lib.hid (HN.out k hlt)
      have HQ' := Lib.hid (HQ.out k hlt)
      obtain ⟨n, hn⟩ : ∃ n : Nat, cntP x ts (k : Nat) = n := ⟨_, rfl⟩
      obtain ⟨u, hu⟩ : ∃ u : Nat, worst x ts k = u := ⟨_, rfl⟩
      obtain ⟨v, hv⟩ : ∃ v : Nat, alls x ts k = v := ⟨_, rfl⟩
      have HE := Lib.hid (show worst x ts (k + 1) = max u n ∧ alls x ts (k + 1) = v + n from ⟨by rw [worst_succ, hu, hn], by rw [alls_succ, hv, hn]⟩)
      rw [hn] at HQ' hw1 ha1
      rw [hu] at hw1 ⊢
      rw [hv] at ha1 ⊢
      clear RD HN HQ HA HW HC hn hu hv G0 G1 G2 G3 g0 g1 g2 g3
      go_wp2_with fail
      go_region_held3 (fun w' => w'.cell? ⟨b, 0, none⟩ = some (.slice wa ws.length wc) ∧ w'.cell? ⟨b, 1, none⟩ = some (.int .i64 lo) ∧ w'.cell? ⟨b, 2, none⟩ = some (.int .i64 hi) ∧ w'.cell? ⟨b, 3, none⟩ = some (.slice ra rs.length rc) ∧ Keeps w w')
        (first | exact HS.out _ (Keeps.refl _).drew | exact HS.out _ (Keeps.refl _) | exact HS.out _ k4 | exact HS.out _ k4.drew | exact HS.out _ k5 | exact HS.out _ k5.drew | exact HS.out _ k6 | exact HS.out _ k6.drew)
        (first
          | (go_at_call 24; refine (HR.out _).mono ?_; rintro e w4 ⟨rfl, k4⟩; replace k4 : Keeps wr w4 := by first | exact k4 | exact k4.undrew)
          | (go_at_call 32; refine (HN'.out _ (by first | exact hkp.trans k4 | exact (hkp.trans k4).drew)).mono ?_; rintro e w5 ⟨ra2, rc2, rfl, hI2, k5⟩; replace k5 : Keeps wr w5 := by first | exact k4.trans k5 | exact k4.trans k5.undrew)
          | (go_at_call 23; refine (HQ'.out _ _ _ (by first | exact hI2 | exact hI2.keep (Keeps.refl _).drew)).mono ?_; rintro e w6 ⟨rfl, k6⟩; replace k6 : Keeps wr w6 := by first | exact k5.trans k6 | exact k5.trans k6.undrew))
      all_goals
        have kw := hkp.trans k6
        clear HS HR HN' HQ' hkp k4 k5 k6 hI2
        go_wp2
        go_roundw
        case rel => exact ⟨k + 1, by omega, by go_num, by rw [HE.out.1]; go_num, by rw [HE.out.2]; go_num, kw⟩
        case measure => simp [intOf]; omega
    · obtain rfl : k = 20 := by omega
      go_wp2
      go_ret2
      exact ⟨rfl, hkp⟩
end Go.Proofs.Ytoidnbpbeblokaa
