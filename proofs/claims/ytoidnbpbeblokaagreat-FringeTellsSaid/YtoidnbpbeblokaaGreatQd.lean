/-
  The document's own answers: told, Near.
-/
import Derived.Test.YtoidnbpbeblokaaGreatQc
namespace Go.Proofs.YtoidnbpbeblokaaGreat
open Go.RowKit Go.Shelf

/-- What told answers where all else is right, or not. -/
def toldE (F : Fr) (v : Bool) : Int := if v then lenE F else chkE F false
def toldV (F : Fr) (v : Bool) : List Int := if v then toldL F else []
theorem refTold_at (F : Fr) (v : Bool) (w : World) (hI : F.In w) : Calls Tryz.prog 43 #[F.v, .bool v] w fun e w' => ∃ a cap, e = .returned (.tuple #[.slice a (toldV F v).length cap, .int .i64 (toldE F v)]) ∧ Ints w' a (toldV F v) ∧ Keeps w w' := by
  cases v with
  | true => exact refTold_any F w hI
  | false => exact (refTold_no F w hI).mono fun e w' h => ⟨none, 0, h.1, fun h => absurd rfl h, h.2⟩
theorem toldE_0 {F : Fr} {v : Bool} (h : toldE F v = 0) : v = true ∧ F.ok = true ∧ F.truths ≠ [] := by
  unfold toldE chkE at h
  cases v
  · cases hok : F.ok <;> rw [hok] at h <;> simp at h
  · rw [if_pos rfl] at h
    refine ⟨rfl, ?_, fun ht => ?_⟩
    · cases hok : F.ok
      · rw [lenE_1 hok] at h; exact absurd h (by decide)
      · rfl
    · cases hok : F.ok
      · rw [lenE_1 hok] at h; exact absurd h (by decide)
      · rw [lenE_10 hok ht] at h; exact absurd h (by decide)
theorem toldE_col (F : Fr) (c : Int) : toldE F (decide (0 ≤ c ∧ c < F.ws.length)) = colE F c := by
  unfold toldE chkE lenE colE
  by_cases hc : c < 0 ∨ F.ws.length ≤ c
  · rw [decide_eq_false (by omega : ¬ (0 ≤ c ∧ c < (F.ws.length : Int)))]
    cases F.ok <;> simp [hc]
  · rw [decide_eq_true (by omega : 0 ≤ c ∧ c < (F.ws.length : Int))]
    cases F.ok <;> simp [hc]
theorem toldE_near (F : Fr) (n : Int) (h : toldE F (decide (0 ≤ n ∧ n ≤ 2000)) ≠ 0) : nearR F n = (0, toldE F (decide (0 ≤ n ∧ n ≤ 2000))) := by
  unfold toldE chkE lenE at *
  unfold nearR
  by_cases hc : n < 0 ∨ 2000 < n
  · rw [decide_eq_false (by omega : ¬ (0 ≤ n ∧ n ≤ 2000))]
    cases F.ok <;> simp [hc]
  · rw [decide_eq_true (by omega : 0 ≤ n ∧ n ≤ 2000)] at h ⊢
    cases hok : F.ok
    · simp
    · by_cases ht : F.truths = []
      · simp [hc, ht]
      · simp [hok, ht] at h
set_option maxRecDepth 100000 in
set_option maxHeartbeats 3200000 in
theorem refNear_err (F : Fr) (n : Int) (v : Bool) (hv : decide (0 ≤ n ∧ n ≤ 2000) = v) (w : World) (hI : F.In w) (h0 : toldE F v ≠ 0) : Calls Tryz.prog 14 #[F.v, .int .i64 n] w (Ret (.tuple #[.int .i64 0, .int .i64 (toldE F v)]) w) := by
  have LN := Lib.hid (fun w1 => refLength_is n v hv w1)
  have TO := Lib.hid (fun w1 (k : Keeps w w1) => refTold_at F v w1 (hI.keep k))
  have kB := (Keeps.refl w).alloc (.cells #[.slice F.wa F.ws.length F.wc, .int .i64 F.lo, .int .i64 F.hi, .slice F.ra F.rs.length F.rc] 27)
  have hB := Fr.Box.new F w
  have hE : (toldE F v != 0) = true := by simp [h0]
  obtain ⟨E, hEq⟩ : ∃ E, toldE F v = E := ⟨_, rfl⟩
  obtain ⟨L, hLq⟩ : ∃ L, toldV F v = L := ⟨_, rfl⟩
  rw [hEq] at TO hE ⊢
  rw [hLq] at TO
  obtain ⟨wa, wc, ws, lo, hi, ra, rc, rs⟩ := F
  obtain ⟨g0, g1, g2, g3⟩ := hB
  dsimp only [Fr.v] at *
  clear hI hEq hLq h0 hv
  go_enter Tryz.func14, Tryz.ntmps14
  go_wp2_with fail
  obtain ⟨W, hW⟩ : ∃ W, w.alloc (.cells #[.slice wa ws.length wc, .int .i64 lo, .int .i64 hi, .slice ra rs.length rc] 27) = W := ⟨_, rfl⟩
  have HS := Lib.hid (fun (w' : World) (kk : Keeps W w') => show w'.cell? ⟨w.heap.size, 0, none⟩ = some (.slice wa ws.length wc) ∧ w'.cell? ⟨w.heap.size, 1, none⟩ = some (.int .i64 lo) ∧ w'.cell? ⟨w.heap.size, 2, none⟩ = some (.int .i64 hi) ∧ w'.cell? ⟨w.heap.size, 3, none⟩ = some (.slice ra rs.length rc) ∧ Keeps W w' from
    ⟨kk.cell (by subst hW; exact g0), kk.cell (by subst hW; exact g1), kk.cell (by subst hW; exact g2), kk.cell (by subst hW; exact g3), kk⟩)
  rw [hW] at kB ⊢
  have kz := Keeps.refl W
  clear hW g0 g1 g2 g3
  go_region_held3 (fun w' => w'.cell? ⟨w.heap.size, 0, none⟩ = some (.slice wa ws.length wc) ∧ w'.cell? ⟨w.heap.size, 1, none⟩ = some (.int .i64 lo) ∧ w'.cell? ⟨w.heap.size, 2, none⟩ = some (.int .i64 hi) ∧ w'.cell? ⟨w.heap.size, 3, none⟩ = some (.slice ra rs.length rc) ∧ Keeps W w')
    (first | exact HS.out _ (Keeps.refl _).drew | exact HS.out _ (Keeps.refl _) | exact HS.out _ kz | exact HS.out _ kz.drew)
    (first
      | (go_at_call 35; refine (LN.out _).mono ?_; rintro e w4 ⟨rfl, rfl⟩)
      | (go_at_call 43; refine (TO.out _ (by first | exact kB.trans kz | exact (kB.trans kz).drew)).mono ?_; rintro e w4 ⟨a, cap, rfl, hL4, k4⟩; replace kz : Keeps W w4 := by first | exact kz.trans k4 | exact kz.trans k4.undrew
         have HL4 := Lib.hid hL4
         clear k4 hL4))
  all_goals
    have kf := kB.trans kz
    clear HS LN TO
    go_wp2
    refine bodyPost_ret (v := .tuple #[.int .i64 0, .int .i64 E]) (by simp [results, Tryz.results14, go_sem]) rfl ⟨rfl, by first | exact kf | exact kf.drew⟩
set_option maxRecDepth 100000 in
set_option maxHeartbeats 6400000 in
theorem refNear_ok (F : Fr) (n : Int) (h1 : 0 ≤ n) (h2 : n ≤ 2000) (w : World) (hI : F.In w) (hok : F.ok = true) (ht : F.truths ≠ []) : Calls Tryz.prog 14 #[F.v, .int .i64 n] w (Ret (.tuple #[.int .i64 (near n F.truths), .int .i64 0]) w) := by
  have LN := Lib.hid (fun w1 => refLength_is n true (by simp; omega) w1)
  have TO := Lib.hid (fun w1 (k : Keeps w w1) => refTold_any F w1 (hI.keep k))
  rw [show toldL F = intsOf F.truths by simp [toldL, lenE_0 hok ht], lenE_0 hok ht] at TO
  have NE := Lib.hid (nrTo_near F n ht)
  have hlen : (intsOf F.truths).length ≤ 401 := by rw [intsOf_len]; exact F.truths_len hok
  have hpos : 0 < (intsOf F.truths).length := by rw [intsOf_len]; exact List.length_pos_iff.2 ht
  have LB := Lib.hid (fun i (h : i < (intsOf F.truths).length) => intsOf_bd h)
  have NM := Lib.hid (fun k hk => nrTo_mem n _ (ints_sorted F) hpos k hk)
  obtain ⟨L, hLq⟩ : ∃ L, intsOf F.truths = L := ⟨_, rfl⟩
  rw [hLq] at TO NE hlen hpos LB NM
  obtain ⟨R, hR⟩ : ∃ R, near n F.truths = R := ⟨_, rfl⟩
  rw [hR] at NE ⊢
  have N0 := Lib.hid (nrTo_zero n L)
  have NS := Lib.hid (fun k (hk : k < L.length) => nrTo_succ (wish := n) hk)
  have AP := Lib.hid (fun x (h3 : 0 ≤ x) (h4 : x ≤ 2000) w1 => apart_any x n w1 h3 h4 h1 h2)
  have kB := (Keeps.refl w).alloc (.cells #[.slice F.wa F.ws.length F.wc, .int .i64 F.lo, .int .i64 F.hi, .slice F.ra F.rs.length F.rc] 27)
  have hB := Fr.Box.new F w
  obtain ⟨wa, wc, ws, lo, hi, ra, rc, rs⟩ := F
  obtain ⟨g0, g1, g2, g3⟩ := hB
  dsimp only [Fr.v] at *
  clear hI hok ht hLq hR
  go_enter Tryz.func14, Tryz.ntmps14
  go_wp2_with fail
  obtain ⟨W, hW⟩ : ∃ W, w.alloc (.cells #[.slice wa ws.length wc, .int .i64 lo, .int .i64 hi, .slice ra rs.length rc] 27) = W := ⟨_, rfl⟩
  have HS := Lib.hid (fun (w' : World) (kk : Keeps W w') => show w'.cell? ⟨w.heap.size, 0, none⟩ = some (.slice wa ws.length wc) ∧ w'.cell? ⟨w.heap.size, 1, none⟩ = some (.int .i64 lo) ∧ w'.cell? ⟨w.heap.size, 2, none⟩ = some (.int .i64 hi) ∧ w'.cell? ⟨w.heap.size, 3, none⟩ = some (.slice ra rs.length rc) ∧ Keeps W w' from
    ⟨kk.cell (by subst hW; exact g0), kk.cell (by subst hW; exact g1), kk.cell (by subst hW; exact g2), kk.cell (by subst hW; exact g3), kk⟩)
  rw [hW] at kB ⊢
  have kz := Keeps.refl W
  clear hW g0 g1 g2 g3
  go_region_held3 (fun w' => w'.cell? ⟨w.heap.size, 0, none⟩ = some (.slice wa ws.length wc) ∧ w'.cell? ⟨w.heap.size, 1, none⟩ = some (.int .i64 lo) ∧ w'.cell? ⟨w.heap.size, 2, none⟩ = some (.int .i64 hi) ∧ w'.cell? ⟨w.heap.size, 3, none⟩ = some (.slice ra rs.length rc) ∧ Keeps W w')
    (first | exact HS.out _ (Keeps.refl _).drew | exact HS.out _ (Keeps.refl _) | exact HS.out _ kz | exact HS.out _ kz.drew)
    (first
      | (go_at_call 35; refine (LN.out _).mono ?_; rintro e w4 ⟨rfl, rfl⟩)
      | (go_at_call 43; refine (TO.out _ (by first | exact kB.trans kz | exact (kB.trans kz).drew)).mono ?_; rintro e w4 ⟨a, cap, rfl, hL4, k4⟩; replace kz : Keeps W w4 := by first | exact kz.trans k4 | exact kz.trans k4.undrew
         have HL4 := Lib.hid hL4
         clear k4 hL4))
  all_goals
    clear HS LN TO
    have hI0 := HL4.out
    obtain ⟨bl, ol, rfl, hcs0⟩ := hI0 (by intro e; rw [e] at hpos; simp at hpos)
    obtain ⟨x0, hx0⟩ : ∃ x0, L[0]?.getD 0 = x0 := ⟨_, rfl⟩
    have hc0 := ints_take hcs0 hpos hx0
    rw [Nat.add_zero] at hc0
    have hlb := lt_of_cell hc0
    have HX0 := Lib.hid hx0
    clear hcs0 hI0 hx0
    go_wp2_with fail
    go_loopw [8, 9] (fun b i wr => ∃ k : Nat, k ≤ L.length ∧ i = .int .i64 k ∧ b = .int .i64 (nrTo n L k) ∧ Ints wr (some ⟨bl, ol, none⟩) L ∧ Keeps W wr) (fun _ i _ => L.length - (intOf i).toNat)
    case atStart => exact ⟨0, Nat.zero_le _, rfl, by rw [N0.out, HX0.out], by first | exact HL4.out | exact HL4.out.keep (Keeps.refl _).drew, by first | exact kz | exact kz.drew⟩
    case round =>
      obtain ⟨k, hk, rfl, rfl, hIn, hkp⟩ := hrel
      by_cases hlt : k < L.length
      · obtain ⟨bl', ol', he, hcs⟩ := hIn (by intro e; rw [e] at hpos; simp at hpos)
        cases he
        have hb := LB.out k hlt
        have hns := NS.out k hlt
        obtain ⟨j, hj, hjn⟩ := NM.out k hk
        have hb2 := LB.out j hj
        rw [← hjn] at hb2
        obtain ⟨x, hx⟩ : ∃ x, L[k]?.getD 0 = x := ⟨_, rfl⟩
        rw [hx] at hb hns
        have hcc := ints_take hcs hlt hx
        have hlb2 := lt_of_cell hcc
        obtain ⟨b, hbq⟩ : ∃ b, nrTo n L k = b := ⟨_, rfl⟩
        rw [hbq] at hns hb2 ⊢
        have A1 := Lib.hid (fun w1 => AP.out x hb.1 hb.2 w1)
        have A2 := Lib.hid (fun w1 => AP.out b hb2.1 hb2.2 w1)
        rw [nrStep] at hns
        obtain ⟨dx, hdx⟩ : ∃ dx, dist x n = dx := ⟨_, rfl⟩
        obtain ⟨db, hdb⟩ : ∃ db, dist b n = db := ⟨_, rfl⟩
        rw [hdx] at A1 hns
        rw [hdb] at A2 hns
        have HIN := Lib.hid hIn
        clear hcs hx hjn hbq hdx hdb hIn AP NM LB NS
        by_cases hd : dx < db
        · have hd1 : decide (dx < db) = true := decide_eq_true hd
          rw [if_pos hd] at hns
          have HNS := Lib.hid hns
          clear hns hd
          go_wp2_with fail
          refine (A1.out _).mono ?_
          rintro e w5 ⟨rfl, rfl⟩
          go_wp2_with fail
          refine (A2.out _).mono ?_
          rintro e w6 ⟨rfl, rfl⟩
          go_wp2_with fail
          go_roundw
          case rel => exact ⟨k + 1, by omega, by go_num, by rw [HNS.out], HIN.out, hkp⟩
          case measure => simp [intOf]; omega
        · have hd1 : decide (dx < db) = false := decide_eq_false hd
          rw [if_neg hd] at hns
          have HNS := Lib.hid hns
          clear hns hd
          go_wp2_with fail
          refine (A1.out _).mono ?_
          rintro e w5 ⟨rfl, rfl⟩
          go_wp2_with fail
          refine (A2.out _).mono ?_
          rintro e w6 ⟨rfl, rfl⟩
          go_wp2_with fail
          go_roundw
          case rel => exact ⟨k + 1, by omega, by go_num, by rw [HNS.out], HIN.out, hkp⟩
          case measure => simp [intOf]; omega
      · obtain rfl : k = L.length := by omega
        rw [NE.out]
        clear hIn
        go_wp2_with fail
        refine bodyPost_ret (v := .tuple #[.int .i64 R, .int .i64 0]) (by simp [results, Tryz.results14, go_sem]) rfl ⟨rfl, kB.trans hkp⟩
theorem refNear_any (F : Fr) (n : Int) (w : World) (hI : F.In w) : Calls Tryz.prog 14 #[F.v, .int .i64 n] w (Ret (.tuple #[.int .i64 (nearR F n).1, .int .i64 (nearR F n).2]) w) := by
  by_cases h : toldE F (decide (0 ≤ n ∧ n ≤ 2000)) = 0
  · obtain ⟨hv, hok, ht⟩ := toldE_0 h
    have hn := of_decide_eq_true hv
    rw [show nearR F n = (near n F.truths, 0) by unfold nearR; rw [if_neg (by simp [hok]), if_neg (by omega), if_neg ht]]
    exact refNear_ok F n hn.1 hn.2 w hI hok ht
  · rw [toldE_near F n h]
    exact refNear_err F n _ rfl w hI h
end Go.Proofs.YtoidnbpbeblokaaGreat
