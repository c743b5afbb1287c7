/-
  possible: the fractions of the truths.
-/
import Derived.Test.YtoidnbpbeblokaaYb
import Derived.Test.YtoidnbpbeblokaaYc
import Derived.Test.YtoidnbpbeblokaaWr
import Derived.Deep.RegionHeld3
namespace Go.Proofs.Ytoidnbpbeblokaa
open Go.RowKit Go.Shelf

/-- The slice v holds fractions, in a block from base on. -/
def FrRow (w : World) (base : Nat) (v : Value) (l : List (Int × Int)) : Prop := w.ownsRow base 110 2 v l.length (spCells l) ∧ (v = .slice none 0 0 ↔ l = [])

set_option maxHeartbeats 400000 in
theorem possible_no1 (F : Fr) (c : Int) (w : World) (hI : F.In w) (hok : F.ok = false) : Calls Try.prog 76 #[F.v, .int .i64 c] w (Pan 1 w) := by
  have H1 := Lib.hid (fun w1 (k : Keeps w w1) => needFringe_no F w1 (hI.keep k) hok)
  obtain ⟨wa, wc, ws, lo, hi, ra, rc, rs⟩ := F
  dsimp only [Fr.v] at *
  clear hok hI
  go_enter Try.func76, Try.ntmps76
  go_wp2_with fail
  refine (H1.out _ ((Keeps.refl _).alloc _)).mono ?_
  rintro e w1 ⟨rfl, k1⟩
  exact ⟨rfl, rfl, ((Keeps.refl _).alloc _).trans k1⟩
set_option maxHeartbeats 400000 in
theorem possible_no2 (F : Fr) (c : Int) (w : World) (hI : F.In w) (hok : F.ok = true) (hcw : c < 0 ∨ F.ws.length ≤ c) : Calls Try.prog 76 #[F.v, .int .i64 c] w (Pan 2 w) := by
  have H1 := Lib.hid (fun w1 (k : Keeps w w1) => needFringe_yes F w1 (hI.keep k) hok)
  have H2 := Lib.hid (fun w1 => needColour_no F c w1 hcw)
  obtain ⟨wa, wc, ws, lo, hi, ra, rc, rs⟩ := F
  dsimp only [Fr.v] at *
  clear hok hI hcw
  go_enter Try.func76, Try.ntmps76
  go_wp2_with fail
  have k0 := (Keeps.refl w).alloc (.cells #[.slice wa ws.length wc, .int .i64 lo, .int .i64 hi, .slice ra rs.length rc] 27)
  refine (H1.out _ k0).mono ?_
  rintro e w1 ⟨rfl, k1⟩
  have hc1 := k1.cells
  go_wp2_with fail
  refine (H2.out _).mono ?_
  rintro e w2 ⟨rfl, k2⟩
  exact ⟨rfl, rfl, (k0.trans k1).trans k2⟩
set_option maxHeartbeats 400000 in
theorem possible_no3 (F : Fr) (c : Int) (w : World) (hI : F.In w) (hok : F.ok = true) (h1 : 0 ≤ c) (h2 : c < F.ws.length) (ht : F.truths = []) : Calls Try.prog 76 #[F.v, .int .i64 c] w (Pan 10 w) := by
  have H1 := Lib.hid (fun w1 (k : Keeps w w1) => needFringe_yes F w1 (hI.keep k) hok)
  have H2 := Lib.hid (fun w1 => needColour_yes F c w1 h1 h2)
  have H3 := Lib.hid (fun w1 (k : Keeps w w1) => needTruth_no F w1 (hI.keep k) hok ht)
  obtain ⟨wa, wc, ws, lo, hi, ra, rc, rs⟩ := F
  dsimp only [Fr.v] at *
  clear hok hI ht h1 h2
  go_enter Try.func76, Try.ntmps76
  go_wp2_with fail
  have k0 := (Keeps.refl w).alloc (.cells #[.slice wa ws.length wc, .int .i64 lo, .int .i64 hi, .slice ra rs.length rc] 27)
  refine (H1.out _ k0).mono ?_
  rintro e w1 ⟨rfl, k1⟩
  have hc1 := k1.cells
  go_wp2_with fail
  refine (H2.out _).mono ?_
  rintro e w2 ⟨rfl, k2⟩
  replace k2 := k1.trans k2
  clear hc1 k1
  have hc2 := k2.cells
  go_wp2_with fail
  refine (H3.out _ (k0.trans k2)).mono ?_
  rintro e w3 ⟨rfl, k3⟩
  exact ⟨rfl, rfl, (k0.trans k2).trans k3⟩

set_option maxHeartbeats 1600000 in
theorem possible_yes (F : Fr) (c : Nat) (x : Int) (w : World) (hI : F.In w) (hok : F.ok = true) (hcw : c < F.ws.length) (hx : F.ws[c]?.getD 0 = x) (ht : F.truths ≠ []) :
    Calls Try.prog 76 #[F.v, .int .i64 c] w fun e w' => ∃ v, e = .returned v ∧ FrRow w' w.heap.size v (frs x F.truths) ∧ Keeps w w' := by
  have H1 := Lib.hid (fun w1 (k : Keeps w w1) => needFringe_yes F w1 (hI.keep k) hok)
  have H2 := Lib.hid (fun w1 => needColour_yes F c w1 (by omega) (by omega))
  have H3 := Lib.hid (fun w1 (k : Keeps w w1) => needTruth_yes F w1 (hI.keep k) hok ht)
  have H4 := Lib.hid (fun w1 (k : Keeps w w1) => truths_at F w1 (hI.keep k) hok)
  have hx1 := F.wave_in hok hcw
  rw [hx] at hx1
  obtain ⟨hx1, hx2⟩ := hx1
  have H5 := Lib.hid (fun b1 b2 a w1 hS g1 g2 g3 => fractions_any F hok b1 b2 a x w1 hS g1 g2 g3 (by omega) (by omega))
  obtain ⟨fs, hfs⟩ : ∃ fs, frs x F.truths = fs := ⟨_, rfl⟩
  rw [hfs] at H5 ⊢
  obtain ⟨bw, o, hwa, hw⟩ := hI.ints (by intro e; rw [e] at hcw; simp at hcw)
  have hcell := hw c hcw
  rw [hx] at hcell
  have hlw := lt_of_cell hcell
  have hl := hI.wl
  unfold maxLen at hl
  obtain ⟨wa, wc, ws, lo, hi, ra, rc, rs⟩ := F
  dsimp only [Fr.v] at *
  subst hwa
  clear hok hI ht hfs hw hx
  have hmf : ∀ (fn : Fn) (first cap : Array Value) (w : World), (Instr.makeFunc fn first cap).run Try.prog w = .ok (.func fn first cap) w := fun _ _ _ _ => rfl
  go_enter Try.func76, Try.ntmps76
  go_wp2_with fail
  have k0 := (Keeps.refl w).alloc (.cells #[.slice (some ⟨bw, o, none⟩) ws.length wc, .int .i64 lo, .int .i64 hi, .slice ra rs.length rc] 27)
  have hbx := Fr.Box.new ⟨some ⟨bw, o, none⟩, wc, ws, lo, hi, ra, rc, rs⟩ w
  refine (H1.out _ k0).mono ?_
  rintro e w1 ⟨rfl, k1⟩
  have hc1 := k1.cells
  go_wp2_with fail
  refine (H2.out _).mono ?_
  rintro e w2 ⟨rfl, k2⟩
  replace k2 := k1.trans k2
  clear hc1 k1
  have hc2 := k2.cells
  go_wp2_with fail
  refine (H3.out _ (k0.trans k2)).mono ?_
  rintro e w3 ⟨rfl, k3⟩
  replace k3 := k2.trans k3
  clear hc2 k2
  have hc3 := k3.cells
  obtain ⟨g0, g1, g2, g3⟩ := hbx.keep k3
  have hcw3 := (k0.trans k3).cell hcell
  have k4 := k0.trans k3
  dsimp only at g0 g1 g2 g3
  clear hbx hc3 k3 k0 hcell
  go_wp2_with fail
  have HS := Lib.hid (fun (w' : World) (k : Keeps w3 w') => show w'.cell? ⟨w.heap.size, 0, none⟩ = some (.slice (some ⟨bw, o, none⟩) ws.length wc) ∧ w'.cell? ⟨w.heap.size, 1, none⟩ = some (.int .i64 lo) ∧ w'.cell? ⟨w.heap.size, 2, none⟩ = some (.int .i64 hi) ∧ w'.cell? ⟨w.heap.size, 3, none⟩ = some (.slice ra rs.length rc) ∧ w'.cell? ⟨bw, o + c, none⟩ = some (.int .i64 x) ∧ Keeps w w' from ⟨k.cell g0, k.cell g1, k.cell g2, k.cell g3, k.cell hcw3, k4.trans k⟩)
  go_region_held3 (fun w' => w'.cell? ⟨w.heap.size, 0, none⟩ = some (.slice (some ⟨bw, o, none⟩) ws.length wc) ∧ w'.cell? ⟨w.heap.size, 1, none⟩ = some (.int .i64 lo) ∧ w'.cell? ⟨w.heap.size, 2, none⟩ = some (.int .i64 hi) ∧ w'.cell? ⟨w.heap.size, 3, none⟩ = some (.slice ra rs.length rc) ∧ w'.cell? ⟨bw, o + c, none⟩ = some (.int .i64 x) ∧ Keeps w w')
    (first | exact HS.out _ (Keeps.refl _).drew | exact HS.out _ (Keeps.refl _) | exact HS.out _ k5 | exact HS.out _ k6)
    (first | (go_at_call 46; refine (H4.out _ k4.drew).mono ?_; rintro e w4 ⟨c1, c2, ar, rfl, k5, hS, x1, x2, x3, _, _, _⟩; have k5 := k5.undrew) | (go_at_call 107; refine (H5.out _ _ _ _ hS x1 x2 x3).mono ?_; rintro e w5 ⟨v, rfl, hrow, k6⟩; have k6 := k5.trans k6))
  all_goals
    go_wp2
    go_ret
    exact ⟨v, rfl, ⟨ownsRow_mono hrow.1 (k4.trans k5).size, hrow.2⟩, k4.trans k6⟩
end Go.Proofs.Ytoidnbpbeblokaa
