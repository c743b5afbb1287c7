/-
  The document's own answers: Truths, told, left.
-/
import Derived.Test.YtoidnbpbeblokaaGreatPb
namespace Go.Proofs.YtoidnbpbeblokaaGreat
open Go.RowKit Go.Shelf

theorem selR_full {rs : List Rd} (h : rs.length ≤ 6) : selR rs (2 ^ rs.length - 1) rs.length = rs := by
  unfold selR
  rw [List.filter_eq_self.2 (fun i hi => bits_full rs.length (by omega) i (by have := List.mem_range.1 hi; omega) (List.mem_range.1 hi))]
  apply List.ext_getElem (by simp)
  intro i h1 h2
  simp at h1
  simp [List.getElem?_eq_getElem h1]
theorem selG_full (F : Fr) (hok : F.ok = true) : lens F.lo.toNat F.hi.toNat (F.selG (2 ^ F.rs.length - 1)) = F.truths := by
  rw [Fr.selG, selR_full (F.rl_in hok)]
  rfl
/-- A slice of ints is returned. -/
def RetL (L : List Int) (w : World) (e : Ending) (w' : World) : Prop := ∃ a cap, e = .returned (.slice a L.length cap) ∧ Ints w' a L ∧ Keeps w w'
set_option maxHeartbeats 1600000 in
theorem refTruthsAll_any (F : Fr) (w : World) (hI : F.In w) (hok : F.ok = true) : Calls Tryz.prog 46 #[F.v] w (RetL (intsOf F.truths) w) := by
  have h6 := F.rl_in hok
  have hp := pow_le F hok
  rw [F.gs_len] at hp
  have hp1 := Nat.pow_pos (a := 2) (n := F.rs.length) (by omega)
  have TR := Lib.hid (fun w1 (k : Keeps w w1) => refTruths_any F (2 ^ F.rs.length - 1) (by omega) w1 (hI.keep k) hok)
  rw [selG_full F hok] at TR
  have EV := Lib.hid (fun w1 => refEvery_any F h6 w1)
  obtain ⟨P, hP⟩ : ∃ P, 2 ^ F.rs.length - 1 = P := ⟨_, rfl⟩
  rw [hP] at TR EV
  obtain ⟨L, hL⟩ : ∃ L, intsOf F.truths = L := ⟨_, rfl⟩
  rw [hL] at TR ⊢
  obtain ⟨wa, wc, ws, lo, hi, ra, rc, rs⟩ := F
  dsimp only [Fr.v] at *
  clear hI hok hP hL hp hp1
  have kB := (Keeps.refl w).alloc (.cells #[.slice wa ws.length wc, .int .i64 lo, .int .i64 hi, .slice ra rs.length rc] 27)
  go_enter Tryz.func46, Tryz.ntmps46
  go_wp2_with fail
  obtain ⟨W, hW⟩ : ∃ W, w.alloc (.cells #[.slice wa ws.length wc, .int .i64 lo, .int .i64 hi, .slice ra rs.length rc] 27) = W := ⟨_, rfl⟩
  have HS := Lib.hid (fun (w' : World) (kk : Keeps W w') => show w'.cell? ⟨w.heap.size, 0, none⟩ = some (.slice wa ws.length wc) ∧ w'.cell? ⟨w.heap.size, 1, none⟩ = some (.int .i64 lo) ∧ w'.cell? ⟨w.heap.size, 2, none⟩ = some (.int .i64 hi) ∧ w'.cell? ⟨w.heap.size, 3, none⟩ = some (.slice ra rs.length rc) ∧ Keeps W w' from
    ⟨kk.cell (by subst hW; simp [go_sem]), kk.cell (by subst hW; simp [go_sem]), kk.cell (by subst hW; simp [go_sem]), kk.cell (by subst hW; simp [go_sem]), kk⟩)
  rw [hW] at kB ⊢
  clear hW
  go_region_held3 (fun w' => w'.cell? ⟨w.heap.size, 0, none⟩ = some (.slice wa ws.length wc) ∧ w'.cell? ⟨w.heap.size, 1, none⟩ = some (.int .i64 lo) ∧ w'.cell? ⟨w.heap.size, 2, none⟩ = some (.int .i64 hi) ∧ w'.cell? ⟨w.heap.size, 3, none⟩ = some (.slice ra rs.length rc) ∧ Keeps W w')
    (first | exact HS.out _ (Keeps.refl _).drew | exact HS.out _ (Keeps.refl _) | exact HS.out _ k4 | exact HS.out _ k4.drew | exact HS.out _ k5 | exact HS.out _ k5.drew)
    (first
      | (go_at_call 87; refine (EV.out _).mono ?_; rintro e w4 ⟨rfl, k4⟩; replace k4 : Keeps W w4 := by first | exact k4 | exact k4.undrew)
      | (go_at_call 86; refine (TR.out _ (by first | exact kB.trans k4 | exact (kB.trans k4).drew)).mono ?_; rintro e w5 ⟨a5, c5, rfl, h5, k5⟩; replace k5 : Keeps W w5 := by first | exact k4.trans k5 | exact k4.trans k5.undrew))
  all_goals
    have H5 := Lib.hid h5
    clear HS TR EV h5
    go_wp2
    go_ret
    exact ⟨a5, c5, rfl, by first | exact H5.out | exact H5.out.keep (Keeps.refl _).drew, by first | exact kB.trans k5 | exact (kB.trans k5).drew⟩
/-- What is told: the lengths of all truths, or why they are not. -/
def toldL (F : Fr) : List Int := if lenE F = 0 then intsOf F.truths else []
theorem lenE_1 {F : Fr} (h : F.ok = false) : lenE F = 1 := by simp [lenE, h]
theorem lenE_10 {F : Fr} (h : F.ok = true) (ht : F.truths = []) : lenE F = 10 := by simp [lenE, h, ht]
theorem lenE_0 {F : Fr} (h : F.ok = true) (ht : F.truths ≠ []) : lenE F = 0 := by simp [lenE, h, ht]
theorem refTold_any (F : Fr) (w : World) (hI : F.In w) : Calls Tryz.prog 43 #[F.v, .bool true] w fun e w' => ∃ a cap, e = .returned (.tuple #[.slice a (toldL F).length cap, .int .i64 (lenE F)]) ∧ Ints w' a (toldL F) ∧ Keeps w w' := by
  have CH := Lib.hid (fun w1 (k : Keeps w w1) => refCheck_any F w1 (hI.keep k))
  have TA := Lib.hid (fun (hok : F.ok = true) w1 (k : Keeps w w1) => refTruthsAll_any F w1 (hI.keep k) hok)
  have kB := (Keeps.refl w).alloc (.cells #[.slice F.wa F.ws.length F.wc, .int .i64 F.lo, .int .i64 F.hi, .slice F.ra F.rs.length F.rc] 27)
  have hB := Fr.Box.new F w
  cases hok : F.ok with
  | false =>
    rw [hok] at CH
    rw [show toldL F = [] by simp [toldL, lenE_1 hok], lenE_1 hok]
    obtain ⟨wa, wc, ws, lo, hi, ra, rc, rs⟩ := F
    obtain ⟨g0, g1, g2, g3⟩ := hB
    dsimp only [Fr.v] at *
    clear hI hok TA
    go_enter Tryz.func43, Tryz.ntmps43
    go_wp2_with fail
    refine (CH.out _ kB).mono ?_
    rintro e w1 ⟨rfl, k1⟩
    clear CH
    go_wp2_with fail
    go_ret2
    exact ⟨none, 0, rfl, fun h => absurd rfl h, kB.trans k1⟩
  | true =>
    rw [hok] at CH
    have TB := Lib.hid (TA.out hok)
    by_cases ht : F.truths = []
    · rw [show toldL F = [] by simp [toldL, lenE_10 hok ht], lenE_10 hok ht]
      rw [ht] at TB
      obtain ⟨wa, wc, ws, lo, hi, ra, rc, rs⟩ := F
      obtain ⟨g0, g1, g2, g3⟩ := hB
      dsimp only [Fr.v] at *
      clear hI hok TA ht
      go_enter Tryz.func43, Tryz.ntmps43
      go_wp2_with fail
      refine (CH.out _ kB).mono ?_
      rintro e w1 ⟨rfl, k1⟩
      have q0 := k1.cell g0
      have q1 := k1.cell g1
      have q2 := k1.cell g2
      have q3 := k1.cell g3
      have ql := lt_of_cell q0
      clear CH g0 g1 g2 g3
      go_wp2_with fail
      refine (TB.out _ (kB.trans k1)).mono ?_
      rintro e w2 ⟨a, cap, rfl, h2, k2⟩
      clear TB h2 q0 q1 q2 q3 ql
      go_wp2_with fail
      go_ret2
      exact ⟨none, 0, rfl, fun h => absurd rfl h, (kB.trans k1).trans k2⟩
    · rw [show toldL F = intsOf F.truths by simp [toldL, lenE_0 hok ht], lenE_0 hok ht]
      have hlp : 0 < (intsOf F.truths).length := by rw [intsOf, List.length_map]; exact List.length_pos_iff.2 ht
      obtain ⟨L, hL⟩ : ∃ L, intsOf F.truths = L := ⟨_, rfl⟩
      rw [hL] at TB hlp ⊢
      obtain ⟨wa, wc, ws, lo, hi, ra, rc, rs⟩ := F
      obtain ⟨g0, g1, g2, g3⟩ := hB
      dsimp only [Fr.v] at *
      have hl0 : ((L.length : Int) == 0) = false := by simp; intro e; rw [e] at hlp; simp at hlp
      clear hI hok TA ht hL
      go_enter Tryz.func43, Tryz.ntmps43
      go_wp2_with fail
      refine (CH.out _ kB).mono ?_
      rintro e w1 ⟨rfl, k1⟩
      have q0 := k1.cell g0
      have q1 := k1.cell g1
      have q2 := k1.cell g2
      have q3 := k1.cell g3
      have ql := lt_of_cell q0
      clear CH g0 g1 g2 g3
      go_wp2_with fail
      refine (TB.out _ (kB.trans k1)).mono ?_
      rintro e w2 ⟨a, cap, rfl, h2, k2⟩
      have H2 := Lib.hid h2
      clear TB h2 q0 q1 q2 q3 ql
      go_wp2_with fail
      go_ret2
      exact ⟨a, cap, rfl, H2.out, (kB.trans k1).trans k2⟩
end Go.Proofs.YtoidnbpbeblokaaGreat
