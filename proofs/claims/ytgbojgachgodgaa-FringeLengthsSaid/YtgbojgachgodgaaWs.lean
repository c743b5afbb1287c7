/-
  Lengths, whole.
-/
import Derived.Test.YtgbojgachgodgaaWr
namespace Go.Proofs.Ytgbojgachgodgaa
open Go.RowKit

/-- The value is a slice of these spans. -/
def SpansAt (w : World) (v : Value) (l : List Sp) : Prop :=
  ∃ a cap, v = .slice a l.length cap ∧ (l ≠ [] → ∃ b o, a = some ⟨b, o, none⟩ ∧ ∀ i, i < l.length → w.cell? ⟨b, o + i * 2, none⟩ = some (.int .i64 (l[i]?.getD (0, 0)).1) ∧ w.cell? ⟨b, o + i * 2 + 1, none⟩ = some (.int .i64 (l[i]?.getD (0, 0)).2))
theorem SpansAt.keep {w w' : World} {v : Value} {l : List Sp} (h : SpansAt w v l) (k : Keeps w w') : SpansAt w' v l := by
  obtain ⟨a, cap, hv, h⟩ := h
  refine ⟨a, cap, hv, fun hne => ?_⟩
  obtain ⟨b, o, ha, hc⟩ := h hne
  exact ⟨b, o, ha, fun i hi => ⟨k.cell (hc i hi).1, k.cell (hc i hi).2⟩⟩
theorem SpansAt.nil (w : World) : SpansAt w (.slice none 0 0) [] := ⟨none, 0, rfl, fun h => absurd rfl h⟩
theorem spCells_at (l : List Sp) : ∀ i, i < l.length → (spCells l)[i * 2]? = some (.int .i64 (l[i]?.getD (0, 0)).1) ∧ (spCells l)[i * 2 + 1]? = some (.int .i64 (l[i]?.getD (0, 0)).2) := by
  induction l with
  | nil => intro i hi; simp at hi
  | cons s l ih =>
    intro i hi
    have e : spCells (s :: l) = .int .i64 s.1 :: .int .i64 s.2 :: spCells l := rfl
    rw [e]
    cases i with
    | zero => exact ⟨rfl, rfl⟩
    | succ i =>
      have h := ih i (by simpa using hi)
      have e1 : (i + 1) * 2 = i * 2 + 1 + 1 := by omega
      rw [e1]
      exact ⟨by simpa using h.1, by simpa using h.2⟩
theorem SpansAt.of_owns {w : World} {base : Nat} {v : Value} {l : List Sp} (h : w.ownsRow base 24 2 v l.length (spCells l)) : SpansAt w v l := by
  rcases h.2 with ⟨rfl, h0⟩ | ⟨g, cap, cur, rfl, h2, h3, h4, h5, h6, h7⟩
  · obtain rfl : l = [] := List.length_eq_zero_iff.1 h0
    exact SpansAt.nil w
  · refine ⟨some ⟨g, 0, none⟩, cap, rfl, fun _ => ⟨g, 0, rfl, fun i hi => ?_⟩⟩
    have hc := spCells_at l i hi
    rw [Nat.zero_add]
    exact ⟨(h.cellAt (i * 2) (by omega)).trans hc.1, (h.cellAt (i * 2 + 1) (by omega)).trans hc.2⟩
theorem ownsRow_mono {w : World} {base base' size k : Nat} {e : TypeId} {v : Value} {xs : List Value} (h : w.ownsRow base e size v k xs) (hb : base' ≤ base) : w.ownsRow base' e size v k xs := by
  refine ⟨h.1, ?_⟩
  rcases h.2 with h | ⟨g, cap, cur, h1, h2, h3⟩
  · exact .inl h
  · exact .inr ⟨g, cap, cur, h1, Nat.le_trans hb h2, h3⟩

set_option maxHeartbeats 400000 in
theorem Lengths1_no1 (F : Fr) (b0 : Nat) (w : World) (hI : F.In w) (hB : F.Box w b0) (hok : F.ok = false) :
    Calls Try.prog 80 #[.pointer (some ⟨b0, 0, none⟩)] w (Pan 1 w) := by
  have H1 := Lib.hid (fun w1 (k : Keeps w w1) => needFringe_no F w1 (hI.keep k) hok)
  obtain ⟨g0, g1, g2, g3⟩ := hB
  obtain ⟨wa, wc, ws, lo, hi, ra, rc, rs⟩ := F
  dsimp only [Fr.v] at *
  clear hok hI
  go_enter Try.func80, Try.ntmps80
  go_wp2_with fail
  refine (H1.out _ (Keeps.refl _)).mono ?_
  rintro e w1 ⟨rfl, k1⟩
  exact ⟨rfl, rfl, k1⟩
set_option maxHeartbeats 400000 in
theorem Lengths1_no2 (F : Fr) (b0 : Nat) (w : World) (hI : F.In w) (hB : F.Box w b0) (hok : F.ok = true) (ht : F.truths = []) :
    Calls Try.prog 80 #[.pointer (some ⟨b0, 0, none⟩)] w (Pan 10 w) := by
  have H1 := Lib.hid (fun w1 (k : Keeps w w1) => needFringe_yes F w1 (hI.keep k) hok)
  have H3 := Lib.hid (fun w1 (k : Keeps w w1) => needTruth_no F w1 (hI.keep k) hok ht)
  obtain ⟨g0, g1, g2, g3⟩ := hB
  have hlb := lt_of_cell g0
  obtain ⟨wa, wc, ws, lo, hi, ra, rc, rs⟩ := F
  dsimp only [Fr.v] at *
  clear hok hI ht
  go_enter Try.func80, Try.ntmps80
  go_wp2_with fail
  refine (H1.out _ (Keeps.refl _)).mono ?_
  rintro e w1 ⟨rfl, k1⟩
  have hc1 := k1.cells
  go_wp2_with fail
  refine (H3.out _ k1).mono ?_
  rintro e w2 ⟨rfl, k2⟩
  exact ⟨rfl, rfl, k1.trans k2⟩
set_option maxHeartbeats 400000 in
theorem Lengths1_yes (F : Fr) (b0 : Nat) (w : World) (hI : F.In w) (hB : F.Box w b0) (hok : F.ok = true) (ht : F.truths ≠ []) :
    Calls Try.prog 80 #[.pointer (some ⟨b0, 0, none⟩)] w fun e w' => ∃ v, e = .returned v ∧ w'.ownsRow w.heap.size 24 2 v (spansOf F.truths).length (spCells (spansOf F.truths)) ∧ Keeps w w' := by
  have H1 := Lib.hid (fun w1 (k : Keeps w w1) => needFringe_yes F w1 (hI.keep k) hok)
  have H3 := Lib.hid (fun w1 (k : Keeps w w1) => needTruth_yes F w1 (hI.keep k) hok ht)
  have H4 := Lib.hid (fun w1 (k : Keeps w w1) => truths_at F w1 (hI.keep k) hok)
  have H5 := Lib.hid (fun b1 b2 a w1 hS x1 x2 x3 => spans_any F hok b1 b2 a w1 hS x1 x2 x3)
  obtain ⟨g0, g1, g2, g3⟩ := hB
  have hlb := lt_of_cell g0
  obtain ⟨ts, hts⟩ : ∃ ts, F.truths = ts := ⟨_, rfl⟩
  rw [hts] at H5 ⊢
  obtain ⟨wa, wc, ws, lo, hi, ra, rc, rs⟩ := F
  dsimp only [Fr.v] at *
  clear hok hI ht hts
  go_enter Try.func80, Try.ntmps80
  go_wp2_with fail
  refine (H1.out _ (Keeps.refl _)).mono ?_
  rintro e w1 ⟨rfl, k1⟩
  have hc1 := k1.cells
  go_wp2_with fail
  refine (H3.out _ k1).mono ?_
  rintro e w2 ⟨rfl, k2⟩
  replace k2 := k1.trans k2
  clear hc1
  have hc2 := k2.cells
  go_wp2_with fail
  refine (H4.out _ k2).mono ?_
  rintro e w4 ⟨c1, c2, a, rfl, k4, hS, x1, x2, x3, _, _, _⟩
  go_wp2_with fail
  refine (H5.out _ _ _ _ hS x1 x2 x3).mono ?_
  rintro e w5 ⟨v, rfl, ⟨hrow, _⟩, k6⟩
  have hrow' := ownsRow_mono hrow (k2.trans k4).size
  have HR := Lib.hid hrow'
  clear hrow hrow'
  go_wp2_with fail
  go_ret
  exact ⟨v, rfl, HR.out, (k2.trans k4).trans k6⟩

def lenE (F : Fr) : Int := if F.ok = false then 1 else if F.truths = [] then 10 else 0
def lenL (F : Fr) : List Sp := if F.ok = false then [] else if F.truths = [] then [] else spansOf F.truths
theorem Lengths_any (F : Fr) (w : World) (hI : F.In w) : Calls Try.prog 27 #[F.v] w (Ans (fun v k w' => k = lenE F ∧ SpansAt w' v (lenL F)) w) := by
  refine Lengths_by F _ w fun w1 b0 k hB => ?_
  have kk : Keeps w1 (w1.alloc (.cells #[.int .i64 0] 30)) := (Keeps.refl _).alloc _
  have hI2 := hI.keep (k.trans kk)
  have hB2 := hB.keep kk
  cases hok : F.ok with
  | false =>
    rw [show lenE F = 1 by simp [lenE, hok], show lenL F = [] by simp [lenL, hok]]
    refine (answer_pan_spans _ _ _ _ (fun w => enter_Lengths1 _ w) (Lengths1_no1 F b0 _ hI2 hB2 hok)).mono ?_
    rintro e w' ⟨rfl, hk⟩
    exact ⟨_, _, rfl, ⟨rfl, SpansAt.nil _⟩, hk⟩
  | true =>
    by_cases ht : F.truths = []
    · rw [show lenE F = 10 by simp [lenE, hok, ht], show lenL F = [] by simp [lenL, ht]]
      refine (answer_pan_spans _ _ _ _ (fun w => enter_Lengths1 _ w) (Lengths1_no2 F b0 _ hI2 hB2 hok ht)).mono ?_
      rintro e w' ⟨rfl, hk⟩
      exact ⟨_, _, rfl, ⟨rfl, SpansAt.nil _⟩, hk⟩
    · rw [show lenE F = 0 by simp [lenE, hok, ht], show lenL F = spansOf F.truths by simp [lenL, hok, ht]]
      refine (answer_ok_spans _ _ _ (fun v wa => wa.ownsRow (w1.heap.size + 1) 24 2 v (spansOf F.truths).length (spCells (spansOf F.truths))) (fun w => enter_Lengths1 _ w) (fun v wa u h => ownsRow_setCell_below h (Nat.lt_succ_self _) u) ?_).mono ?_
      · refine (Lengths1_yes F b0 _ hI2 hB2 hok ht).mono ?_
        rintro e w' ⟨v, rfl, hrow, hk⟩
        exact ⟨v, rfl, ownsRow_mono hrow (by simp), hk⟩
      · rintro e w' ⟨v, rfl, hrow, hk⟩
        exact ⟨_, _, rfl, ⟨rfl, SpansAt.of_owns hrow⟩, hk⟩
end Go.Proofs.Ytgbojgachgodgaa
