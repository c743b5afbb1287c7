/-
  The document's own answers: Length, apart, check, told, Part, Count.
-/
import Derived.Test.YtoidnbpbeblokaaGreatQa
import Derived.Deep.DeepCutAuto
namespace Go.Proofs.YtoidnbpbeblokaaGreat
open Go.RowKit Go.Shelf

theorem refLength_is (n : Int) (v : Bool) (hv : decide (0 ≤ n ∧ n ≤ 2000) = v) (w : World) : Calls Tryz.prog 35 #[.int .i64 n] w fun e w' => e = .returned (.bool v) ∧ w = w' := by
  have H : Calls Tryz.prog 82 #[.int .i64 n, .int .i64 0, .int .i64 2000] w fun e w' => e = .returned (.bool v) ∧ w = w' := by
    by_cases h : 0 ≤ n ∧ n ≤ 2000
    · rw [← hv, decide_eq_true h]; exact in_yes n 0 2000 w h.1 h.2
    · rw [← hv, decide_eq_false h]; exact in_no n 0 2000 w h
  have HH := Lib.hid H
  clear H hv
  go_enter Tryz.func35, Tryz.ntmps35
  go_wp2_with fail
  refine HH.out.mono ?_
  rintro e w1 ⟨rfl, rfl⟩
  go_wp2_with fail
  go_ret
  exact ⟨rfl, rfl⟩
theorem refColour_is (F : Fr) (c : Int) (v : Bool) (hv : decide (0 ≤ c ∧ c < F.ws.length) = v) (hl : F.ws.length ≤ maxLen) (w : World) : Calls Tryz.prog 36 #[F.v, .int .i64 c] w (RetB v w) := by
  by_cases h : 0 ≤ c ∧ c < F.ws.length
  · rw [← hv, decide_eq_true h]; exact refColour_yes F c w hl h.1 h.2
  · rw [← hv, decide_eq_false h]; exact refColour_no F c w hl (by omega)
theorem apart_any (a b : Int) (w : World) (h1 : 0 ≤ a) (h2 : a ≤ 2000) (h3 : 0 ≤ b) (h4 : b ≤ 2000) : Calls Tryz.prog 49 #[.int .i64 a, .int .i64 b] w fun e w' => e = .returned (.int .i64 (dist a b)) ∧ w = w' := by
  have hd := Lib.hid (dist_max a b)
  go_enter Tryz.func49, Tryz.ntmps49
  go_wp2_with fail
  go_ret
  exact ⟨by rw [← hd.out]; rfl, rfl⟩
/-- What the document's check answers. -/
def chkE (F : Fr) (v : Bool) : Int := if F.ok then (if v then 0 else 2) else 1
theorem refCheck_at (F : Fr) (v : Bool) (w : World) (hI : F.In w) : Calls Tryz.prog 34 #[F.v, .bool v] w (RetI (chkE F v) w) := by
  have RF := Lib.hid (fun w1 (k : Keeps w w1) => refFringe_any F w1 (hI.keep k))
  unfold chkE
  obtain ⟨ok, hok⟩ : ∃ ok, F.ok = ok := ⟨_, rfl⟩
  rw [hok] at RF ⊢
  clear hok
  obtain ⟨wa, wc, ws, lo, hi, ra, rc, rs⟩ := F
  dsimp only [Fr.v] at *
  clear hI
  have k := (Keeps.refl w).alloc (.cells #[.slice wa ws.length wc, .int .i64 lo, .int .i64 hi, .slice ra rs.length rc] 27)
  cases ok <;> cases v
  all_goals
    go_enter Tryz.func34, Tryz.ntmps34
    go_wp2_with fail
    refine (RF.out _ k).mono ?_
    rintro e w2 ⟨rfl, k2⟩
    go_wp2_with fail
    go_ret
    exact ⟨rfl, k.trans k2⟩
theorem refTold_no (F : Fr) (w : World) (hI : F.In w) : Calls Tryz.prog 43 #[F.v, .bool false] w (Ret (.tuple #[.slice none 0 0, .int .i64 (chkE F false)]) w) := by
  have CH := Lib.hid (fun w1 (k : Keeps w w1) => refCheck_at F false w1 (hI.keep k))
  have hE : (chkE F false != 0) = true := by unfold chkE; cases F.ok <;> rfl
  have kB := (Keeps.refl w).alloc (.cells #[.slice F.wa F.ws.length F.wc, .int .i64 F.lo, .int .i64 F.hi, .slice F.ra F.rs.length F.rc] 27)
  obtain ⟨E, hEq⟩ : ∃ E, chkE F false = E := ⟨_, rfl⟩
  rw [hEq] at CH hE ⊢
  obtain ⟨wa, wc, ws, lo, hi, ra, rc, rs⟩ := F
  dsimp only [Fr.v] at *
  clear hI hEq
  go_enter Tryz.func43, Tryz.ntmps43
  go_wp2_with fail
  refine (CH.out _ kB).mono ?_
  rintro e w1 ⟨rfl, k1⟩
  clear CH
  go_wp2_with fail
  refine bodyPost_ret (v := .tuple #[.slice none 0 0, .int .i64 E]) (by simp [results, Tryz.results43, go_sem]) rfl ⟨rfl, kB.trans k1⟩
theorem refCount_any (F : Fr) (w : World) (hI : F.In w) : Calls Tryz.prog 11 #[F.v] w (Ret (.tuple #[.int .i64 (countR F).1, .int .i64 (countR F).2]) w) := by
  have CH := Lib.hid (fun w1 (k : Keeps w w1) => refCheck_at F true w1 (hI.keep k))
  have TA := Lib.hid (fun (hok : F.ok = true) w1 (k : Keeps w w1) => refTruthsAll_any F w1 (hI.keep k) hok)
  have kB := (Keeps.refl w).alloc (.cells #[.slice F.wa F.ws.length F.wc, .int .i64 F.lo, .int .i64 F.hi, .slice F.ra F.rs.length F.rc] 27)
  have hB := Fr.Box.new F w
  cases hok : F.ok with
  | false =>
    rw [show chkE F true = 1 by simp [chkE, hok]] at CH
    rw [show countR F = (0, 1) by simp [countR, hok]]
    obtain ⟨wa, wc, ws, lo, hi, ra, rc, rs⟩ := F
    obtain ⟨g0, g1, g2, g3⟩ := hB
    dsimp only [Fr.v] at *
    clear hI hok TA
    go_enter Tryz.func11, Tryz.ntmps11
    go_wp2_with fail
    refine (CH.out _ kB).mono ?_
    rintro e w1 ⟨rfl, k1⟩
    clear CH
    go_wp2_with fail
    go_ret2
    exact ⟨rfl, kB.trans k1⟩
  | true =>
    rw [show chkE F true = 0 by simp [chkE, hok]] at CH
    have TB := Lib.hid (TA.out hok)
    rw [show countR F = (((F.truths.length : Nat) : Int), 0) by simp [countR, hok], ← intsOf_len]
    obtain ⟨L, hL⟩ : ∃ L, intsOf F.truths = L := ⟨_, rfl⟩
    rw [hL] at TB ⊢
    obtain ⟨wa, wc, ws, lo, hi, ra, rc, rs⟩ := F
    obtain ⟨g0, g1, g2, g3⟩ := hB
    dsimp only [Fr.v] at *
    clear hI hok TA hL
    go_enter Tryz.func11, Tryz.ntmps11
    go_wp2_with fail
    refine (CH.out _ kB).mono ?_
    rintro e w1 ⟨rfl, k1⟩
    have q0 := k1.cell g0
    have q1 := k1.cell g1
    have q2 := k1.cell g2
    have q3 := k1.cell g3
    have ql := lt_of_cell q0
    clear CH g0 g1 g2 g3
    go_wp2_with fail
    refine (TB.out _ (kB.trans k1)).mono ?_
    rintro e w2 ⟨a, cap, rfl, h2, k2⟩
    clear TB h2 q0 q1 q2 q3 ql
    go_wp2_with fail
    go_ret2
    exact ⟨rfl, (kB.trans k1).trans k2⟩
set_option maxHeartbeats 1600000 in
/-- Part of what is no length, no colour, or not valid. -/
theorem refPart_err (F : Fr) (n c : Int) (lv cv : Bool) (hlv : decide (0 ≤ n ∧ n ≤ 2000) = lv) (hcv : decide (0 ≤ c ∧ c < F.ws.length) = cv) (w : World) (hI : F.In w) (E : Int) (hE : chkE F (lv && cv) = E) (hE0 : (E != 0) = true) :
    Calls Tryz.prog 7 #[F.v, .int .i64 n, .int .i64 c] w (Ret (.tuple #[.int .i64 0, .int .i64 0, .int .i64 E]) w) := by
  have LN := Lib.hid (fun w1 => refLength_is n lv hlv w1)
  have CO := Lib.hid (fun w1 => refColour_is F c cv hcv hI.wl w1)
  have CH := Lib.hid (fun v (hv : (lv && cv) = v) w1 (k : Keeps w w1) => show Calls Tryz.prog 34 #[F.v, .bool v] w1 (RetI E w1) by rw [← hE, ← hv]; exact refCheck_at F (lv && cv) w1 (hI.keep k))
  have kB := (Keeps.refl w).alloc (.cells #[.slice F.wa F.ws.length F.wc, .int .i64 F.lo, .int .i64 F.hi, .slice F.ra F.rs.length F.rc] 27)
  have hB := Fr.Box.new F w
  obtain ⟨wa, wc, ws, lo, hi, ra, rc, rs⟩ := F
  obtain ⟨g0, g1, g2, g3⟩ := hB
  dsimp only [Fr.v] at *
  clear hI hlv hcv hE
  cases lv with
  | false =>
    have CK := Lib.hid (fun w1 k => CH.out false rfl w1 k)
    clear CH
    go_enter Tryz.func7, Tryz.ntmps7
    go_wp2_with fail
    obtain ⟨W, hW⟩ : ∃ W, w.alloc (.cells #[.slice wa ws.length wc, .int .i64 lo, .int .i64 hi, .slice ra rs.length rc] 27) = W := ⟨_, rfl⟩
    have HS := Lib.hid (fun (w' : World) (kk : Keeps W w') => show w'.cell? ⟨w.heap.size, 0, none⟩ = some (.slice wa ws.length wc) ∧ w'.cell? ⟨w.heap.size, 1, none⟩ = some (.int .i64 lo) ∧ w'.cell? ⟨w.heap.size, 2, none⟩ = some (.int .i64 hi) ∧ w'.cell? ⟨w.heap.size, 3, none⟩ = some (.slice ra rs.length rc) ∧ Keeps W w' from
      ⟨kk.cell (by subst hW; exact g0), kk.cell (by subst hW; exact g1), kk.cell (by subst hW; exact g2), kk.cell (by subst hW; exact g3), kk⟩)
    rw [hW] at kB ⊢
    have kz := Keeps.refl W
    clear hW g0 g1 g2 g3
    obtain ⟨c0, c1, c2, c3, _⟩ := HS.out _ kz
    have cl := lt_of_cell c0
    first | (go_region_with (first
      | (go_at_call 35; refine (LN.out _).mono ?_; rintro e w4 ⟨rfl, rfl⟩)
      | (go_at_call 34; refine (CK.out _ (by first | exact kB.trans kz | exact (kB.trans kz).drew)).mono ?_; rintro e w4 ⟨rfl, k4⟩; replace kz : Keeps W w4 := by first | exact kz.trans k4 | exact kz.trans k4.undrew
         clear k4))) | fail
    all_goals
      have kf := kB.trans kz
      clear HS LN CO CK
      go_wp2
      refine bodyPost_ret (v := .tuple #[.int .i64 0, .int .i64 0, .int .i64 E]) (by simp [results, Tryz.results7, go_sem]) rfl ⟨rfl, by first | exact kf | exact kf.drew⟩
  | true =>
    have CK := Lib.hid (fun w1 k => CH.out cv (Bool.true_and cv) w1 k)
    clear CH
    go_enter Tryz.func7, Tryz.ntmps7
    go_wp2_with fail
    obtain ⟨W, hW⟩ : ∃ W, w.alloc (.cells #[.slice wa ws.length wc, .int .i64 lo, .int .i64 hi, .slice ra rs.length rc] 27) = W := ⟨_, rfl⟩
    have HS := Lib.hid (fun (w' : World) (kk : Keeps W w') => show w'.cell? ⟨w.heap.size, 0, none⟩ = some (.slice wa ws.length wc) ∧ w'.cell? ⟨w.heap.size, 1, none⟩ = some (.int .i64 lo) ∧ w'.cell? ⟨w.heap.size, 2, none⟩ = some (.int .i64 hi) ∧ w'.cell? ⟨w.heap.size, 3, none⟩ = some (.slice ra rs.length rc) ∧ Keeps W w' from
      ⟨kk.cell (by subst hW; exact g0), kk.cell (by subst hW; exact g1), kk.cell (by subst hW; exact g2), kk.cell (by subst hW; exact g3), kk⟩)
    rw [hW] at kB ⊢
    have kz := Keeps.refl W
    clear hW g0 g1 g2 g3
    go_region_held3 (fun w' => w'.cell? ⟨w.heap.size, 0, none⟩ = some (.slice wa ws.length wc) ∧ w'.cell? ⟨w.heap.size, 1, none⟩ = some (.int .i64 lo) ∧ w'.cell? ⟨w.heap.size, 2, none⟩ = some (.int .i64 hi) ∧ w'.cell? ⟨w.heap.size, 3, none⟩ = some (.slice ra rs.length rc) ∧ Keeps W w')
      (first | exact HS.out _ (Keeps.refl _).drew | exact HS.out _ (Keeps.refl _) | exact HS.out _ kz | exact HS.out _ kz.drew)
      (first
        | (go_at_call 35; refine (LN.out _).mono ?_; rintro e w4 ⟨rfl, rfl⟩)
        | (go_at_call 36; refine (CO.out _).mono ?_; rintro e w4 ⟨rfl, k4⟩; replace kz : Keeps W w4 := by first | exact kz.trans k4 | exact kz.trans k4.undrew
           clear k4)
        | (go_at_call 34; refine (CK.out _ (by first | exact kB.trans kz | exact (kB.trans kz).drew)).mono ?_; rintro e w4 ⟨rfl, k4⟩; replace kz : Keeps W w4 := by first | exact kz.trans k4 | exact kz.trans k4.undrew
           clear k4))
    all_goals
      have kf := kB.trans kz
      clear HS LN CO CK
      go_wp2
      refine bodyPost_ret (v := .tuple #[.int .i64 0, .int .i64 0, .int .i64 E]) (by simp [results, Tryz.results7, go_sem]) rfl ⟨rfl, by first | exact kf | exact kf.drew⟩
end Go.Proofs.YtoidnbpbeblokaaGreat
