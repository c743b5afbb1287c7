/-
  Part: the whole fringes and the part of a length.
  Part, whole: every fringe, length and colour.
-/
import Derived.Test.YtoidnbpbeblokaaWb
import Derived.Test.YtoidnbpbeblokaaWc
import Derived.Deep.RegionWith
import Derived.StillTailTactics
import Derived.Deep.RegionHeld3
namespace Go.Proofs.Ytoidnbpbeblokaa
open Go.RowKit

set_option maxHeartbeats 400000 in
theorem split_any (wv n : Int) (w : World) (h1 : 1 ≤ wv) (h2 : wv ≤ 60) (h3 : 0 ≤ n) (h4 : n ≤ 2000) :
    Calls Try.prog 72 #[.int .i64 wv, .int .i64 n] w (Ret (.agg #[.int .i64 (n / wv), .int .i64 (20 * (n % wv) / wv)]) w) := by
  have hm0 : 0 ≤ n % wv := Int.emod_nonneg _ (by omega)
  have hm1 : n % wv < wv := Int.emod_lt_of_pos _ (by omega)
  have hz : ¬ wv = 0 := by omega
  go_enter Try.func72, Try.ntmps72
  go_wp2
  go_region
  go_wp2
  refine bodyPost_ret (v := .agg #[.int .i64 (n / wv), .int .i64 (20 * (n % wv) / wv)]) (by simp [results, Try.results72, go_sem]) rfl ⟨rfl, ?_⟩
  exact ((Keeps.refl _).alloc _).drew

/-- The fringe lies in block b. -/
structure Fr.Box (F : Fr) (w : World) (b : Nat) : Prop where
  c0 : w.cell? ⟨b, 0, none⟩ = some (.slice F.wa F.ws.length F.wc)
  c1 : w.cell? ⟨b, 1, none⟩ = some (.int .i64 F.lo)
  c2 : w.cell? ⟨b, 2, none⟩ = some (.int .i64 F.hi)
  c3 : w.cell? ⟨b, 3, none⟩ = some (.slice F.ra F.rs.length F.rc)
theorem Fr.Box.keep {F : Fr} {w w' : World} {b : Nat} (h : F.Box w b) (k : Keeps w w') : F.Box w' b :=
  have hb := lt_of_cell h.c0
  ⟨(k.cells.1 b 0 hb).trans h.c0, (k.cells.1 b 1 hb).trans h.c1, (k.cells.1 b 2 hb).trans h.c2, (k.cells.1 b 3 hb).trans h.c3⟩
theorem Fr.Box.new (F : Fr) (w : World) : F.Box (w.alloc (.cells #[.slice F.wa F.ws.length F.wc, .int .i64 F.lo, .int .i64 F.hi, .slice F.ra F.rs.length F.rc] 27)) w.heap.size :=
  ⟨by simp [go_sem], by simp [go_sem], by simp [go_sem], by simp [go_sem]⟩

theorem Fr.wave_in (F : Fr) (h : F.ok = true) {c : Nat} (hc : c < F.ws.length) : 2 ≤ F.ws[c]?.getD 0 ∧ F.ws[c]?.getD 0 ≤ 60 := by
  simp only [Fr.ok, vFringe, vWaves, Bool.and_eq_true, List.all_eq_true, vWave, decide_eq_true_eq] at h
  have := h.1.1.2 F.ws[c] (List.getElem_mem hc)
  simpa [List.getElem?_eq_getElem hc] using this

set_option maxHeartbeats 1000000 in
theorem Part1_yes (F : Fr) (b1 b2 b3 : Nat) (c n : Nat) (x : Int) (w : World) (hI : F.In w) (hB : F.Box w b1) (hn : w.cell? ⟨b2, 0, none⟩ = some (.int .i64 n)) (hc : w.cell? ⟨b3, 0, none⟩ = some (.int .i64 c))
    (hok : F.ok = true) (hcw : c < F.ws.length) (hx : F.ws[c]?.getD 0 = x) (hn1 : n ≤ 2000) :
    Calls Try.prog 70 #[.pointer (some ⟨b1, 0, none⟩), .pointer (some ⟨b3, 0, none⟩), .pointer (some ⟨b2, 0, none⟩)] w
      (Ret (.agg #[.int .i64 ((n : Int) / x), .int .i64 (20 * ((n : Int) % x) / x)]) w) := by
  have H1 := Lib.hid (fun w1 (k : Keeps w w1) => needFringe_yes F w1 (hI.keep k) hok)
  have H2 := Lib.hid (fun w1 => needColour_yes F c w1 (by omega) (by omega))
  have H3 := Lib.hid (fun w1 => needLength_yes n w1 (by omega) (by omega))
  have hx1 := F.wave_in hok hcw
  rw [hx] at hx1
  obtain ⟨hx1, hx2⟩ := hx1
  have H4 := Lib.hid (fun w1 => split_any x n w1 (by omega) (by omega) (by omega) (by omega))
  obtain ⟨g0, g1, g2, g3⟩ := hB
  obtain ⟨bw, o, hwa, hw⟩ := hI.ints (by intro e; rw [e] at hcw; simp at hcw)
  have hcell := hw c hcw
  rw [hx] at hcell
  have hlb := lt_of_cell g0
  have hln := lt_of_cell hn
  have hlc := lt_of_cell hc
  have hlw := lt_of_cell hcell
  obtain ⟨wa, wc, ws, lo, hi, ra, rc, rs⟩ := F
  dsimp only [Fr.v] at *
  subst hwa
  have hl := hI.wl
  unfold maxLen at hl
  dsimp only at hl
  clear hw hx hok hI
  go_enter Try.func70, Try.ntmps70
  go_wp2_with fail
  refine (H1.out _ ((Keeps.refl _).alloc _)).mono ?_
  rintro e w1 ⟨rfl, k1⟩
  have hc1 := k1.cells
  go_wp2_with fail
  refine (H2.out _).mono ?_
  rintro e w2 ⟨rfl, k2⟩
  replace k2 := k1.trans k2
  clear hc1 k1
  have hc2 := k2.cells
  go_wp2_with fail
  refine (H3.out _).mono ?_
  rintro e w3 ⟨rfl, k3⟩
  replace k3 := k2.trans k3
  clear hc2 k2
  have hc3 := k3.cells
  go_wp2_with fail
  have k0 : Keeps w w3 := ((Keeps.refl w).alloc _).trans k3
  have HS := Lib.hid (fun (w' : World) (k : Keeps w w') => show w'.cell? ⟨b1, 0, none⟩ = some (.slice (some ⟨bw, o, none⟩) ws.length wc) ∧ w'.cell? ⟨b3, 0, none⟩ = some (.int .i64 c) ∧ w'.cell? ⟨bw, o + c, none⟩ = some (.int .i64 x) ∧ w'.cell? ⟨b2, 0, none⟩ = some (.int .i64 n) ∧ Keeps w w' from ⟨k.cell g0, k.cell hc, k.cell hcell, k.cell hn, k⟩)
  go_region_held3 (fun w' => w'.cell? ⟨b1, 0, none⟩ = some (.slice (some ⟨bw, o, none⟩) ws.length wc) ∧ w'.cell? ⟨b3, 0, none⟩ = some (.int .i64 c) ∧ w'.cell? ⟨bw, o + c, none⟩ = some (.int .i64 x) ∧ w'.cell? ⟨b2, 0, none⟩ = some (.int .i64 n) ∧ Keeps w w')
    (first | exact HS.out _ k0.drew | exact HS.out _ k0 | exact HS.out _ k5 | exact HS.out _ ((k5.setCell _ (Nat.le_refl _)).setCell _ (Nat.le_refl _)))
    (first | (go_at_call 72; refine (H4.out _).mono ?_; rintro e w4 ⟨rfl, k4⟩; have hc4 := (k3.trans k4.undrew).cells; have k5 := k0.trans k4.undrew))
  go_wp2
  refine bodyPost_ret (v := .agg #[.int .i64 ((n : Int) / x), .int .i64 (20 * ((n : Int) % x) / x)]) ?_ rfl ⟨rfl, (k5.setCell _ (Nat.le_refl _)).setCell _ (Nat.le_refl _)⟩
  have q0 : (w4.cell? ⟨w.heap.size, 0, none⟩).isSome = true := by rw [hc4.1 _ _ (by simp)]; simp [go_sem]
  have q1 : (w4.cell? ⟨w.heap.size, 1, none⟩).isSome = true := by rw [hc4.1 _ _ (by simp)]; simp [go_sem]
  have r0 := (cell_set_other (w := w4.setCell ⟨w.heap.size, 0, none⟩ (.int .i64 ((n : Int) / x))) (b := w.heap.size) (o := 1) (b' := w.heap.size) (o' := 0) (v := .int .i64 (20 * ((n : Int) % x) / x)) (by omega)).trans (cell_set_same q0)
  have r1 := cell_set_same (w := w4.setCell ⟨w.heap.size, 0, none⟩ (.int .i64 ((n : Int) / x))) (p := ⟨w.heap.size, 1, none⟩) (v := .int .i64 (20 * ((n : Int) % x) / x)) (by rw [cell_set_other (by omega)]; exact q1)
  simp [results, Try.results70, go_sem, r0, r1]
end Go.Proofs.Ytoidnbpbeblokaa

namespace Go.Proofs.Ytoidnbpbeblokaa
open Go.RowKit

set_option maxHeartbeats 400000 in
theorem Part1_no1 (F : Fr) (b1 b2 b3 : Nat) (w : World) (hI : F.In w) (hB : F.Box w b1) (hok : F.ok = false) :
    Calls Try.prog 70 #[.pointer (some ⟨b1, 0, none⟩), .pointer (some ⟨b3, 0, none⟩), .pointer (some ⟨b2, 0, none⟩)] w (Pan 1 w) := by
  have H1 := Lib.hid (fun w1 (k : Keeps w w1) => needFringe_no F w1 (hI.keep k) hok)
  obtain ⟨g0, g1, g2, g3⟩ := hB
  have hlb := lt_of_cell g0
  obtain ⟨wa, wc, ws, lo, hi, ra, rc, rs⟩ := F
  dsimp only [Fr.v] at *
  clear hok hI
  go_enter Try.func70, Try.ntmps70
  go_wp2_with fail
  refine (H1.out _ ((Keeps.refl _).alloc _)).mono ?_
  rintro e w1 ⟨rfl, k1⟩
  exact ⟨rfl, rfl, ((Keeps.refl _).alloc _).trans k1⟩
set_option maxHeartbeats 400000 in
theorem Part1_no2 (F : Fr) (b1 b2 b3 : Nat) (c : Int) (w : World) (hI : F.In w) (hB : F.Box w b1) (hc : w.cell? ⟨b3, 0, none⟩ = some (.int .i64 c)) (hok : F.ok = true) (hcw : c < 0 ∨ F.ws.length ≤ c) :
    Calls Try.prog 70 #[.pointer (some ⟨b1, 0, none⟩), .pointer (some ⟨b3, 0, none⟩), .pointer (some ⟨b2, 0, none⟩)] w (Pan 2 w) := by
  have H1 := Lib.hid (fun w1 (k : Keeps w w1) => needFringe_yes F w1 (hI.keep k) hok)
  have H2 := Lib.hid (fun w1 => needColour_no F c w1 hcw)
  obtain ⟨g0, g1, g2, g3⟩ := hB
  have hlb := lt_of_cell g0
  have hlc := lt_of_cell hc
  obtain ⟨wa, wc, ws, lo, hi, ra, rc, rs⟩ := F
  dsimp only [Fr.v] at *
  clear hok hI hcw
  go_enter Try.func70, Try.ntmps70
  go_wp2_with fail
  refine (H1.out _ ((Keeps.refl _).alloc _)).mono ?_
  rintro e w1 ⟨rfl, k1⟩
  have hc1 := k1.cells
  go_wp2_with fail
  refine (H2.out _).mono ?_
  rintro e w2 ⟨rfl, k2⟩
  exact ⟨rfl, rfl, ((Keeps.refl _).alloc _).trans (k1.trans k2)⟩
set_option maxHeartbeats 400000 in
theorem Part1_no3 (F : Fr) (b1 b2 b3 : Nat) (c n : Int) (w : World) (hI : F.In w) (hB : F.Box w b1) (hc : w.cell? ⟨b3, 0, none⟩ = some (.int .i64 c)) (hn : w.cell? ⟨b2, 0, none⟩ = some (.int .i64 n)) (hok : F.ok = true) (hcw : 0 ≤ c) (hcw2 : c < F.ws.length) (hnn : n < 0 ∨ 2000 < n) :
    Calls Try.prog 70 #[.pointer (some ⟨b1, 0, none⟩), .pointer (some ⟨b3, 0, none⟩), .pointer (some ⟨b2, 0, none⟩)] w (Pan 2 w) := by
  have H1 := Lib.hid (fun w1 (k : Keeps w w1) => needFringe_yes F w1 (hI.keep k) hok)
  have H2 := Lib.hid (fun w1 => needColour_yes F c w1 hcw hcw2)
  have H3 := Lib.hid (fun w1 => needLength_no n w1 hnn)
  obtain ⟨g0, g1, g2, g3⟩ := hB
  have hlb := lt_of_cell g0
  have hlc := lt_of_cell hc
  have hln := lt_of_cell hn
  obtain ⟨wa, wc, ws, lo, hi, ra, rc, rs⟩ := F
  dsimp only [Fr.v] at *
  clear hok hI hcw hcw2 hnn
  go_enter Try.func70, Try.ntmps70
  go_wp2_with fail
  refine (H1.out _ ((Keeps.refl _).alloc _)).mono ?_
  rintro e w1 ⟨rfl, k1⟩
  have hc1 := k1.cells
  go_wp2_with fail
  refine (H2.out _).mono ?_
  rintro e w2 ⟨rfl, k2⟩
  replace k2 := k1.trans k2
  clear hc1 k1
  have hc2 := k2.cells
  go_wp2_with fail
  refine (H3.out _).mono ?_
  rintro e w3 ⟨rfl, k3⟩
  exact ⟨rfl, rfl, ((Keeps.refl _).alloc _).trans (k2.trans k3)⟩

theorem enter_Part1 (caps : Array Value) (w : World) : (callFunc 70 caps).run Try.prog w = .ok (.enter 70 caps) w := by kernel_rfl

set_option maxHeartbeats 400000 in
/-- Part: by whatever its inner function comes to. -/
theorem Part_by (F : Fr) (n c : Int) (x y k : Int) (w : World) 
    (H : ∀ (w1 : World) (b1 b2 b3 : Nat), Keeps w w1 → F.Box w1 b1 → w1.cell? ⟨b3, 0, none⟩ = some (.int .i64 c) → w1.cell? ⟨b2, 0, none⟩ = some (.int .i64 n) →
      Calls Try.prog 69 #[.func (.func 70) #[] #[.pointer (some ⟨b1, 0, none⟩), .pointer (some ⟨b3, 0, none⟩), .pointer (some ⟨b2, 0, none⟩)]] w1 (Ret (.tuple #[.agg #[.int .i64 x, .int .i64 y], .int .i64 k]) w1)) :
    Calls Try.prog 22 #[F.v, .int .i64 n, .int .i64 c] w (Ret (.tuple #[.int .i64 x, .int .i64 y, .int .i64 k]) w) := by
  have hmf : ∀ (fn : Fn) (first cap : Array Value) (w : World), (Instr.makeFunc fn first cap).run Try.prog w = .ok (.func fn first cap) w := fun _ _ _ _ => rfl
  have hB := fun w => Fr.Box.new F w
  obtain ⟨wa, wc, ws, lo, hi, ra, rc, rs⟩ := F
  dsimp only [Fr.v] at *
  have HH := Lib.hid H
  have HB := Lib.hid hB
  clear H hB
  go_enter Try.func22, Try.ntmps22
  go_wp2_with fail
  refine (HH.out _ w.heap.size (w.heap.size + 1) (w.heap.size + 2) ?_ ?_ ?_ ?_).mono ?_
  · exact (((Keeps.refl _).alloc _).alloc _).alloc _
  · exact ((HB.out w).keep ((Keeps.refl _).alloc _)).keep ((Keeps.refl _).alloc _)
  · simp [go_sem]
  · simp [go_sem]
  rintro e w1 ⟨rfl, k1⟩
  replace k1 := ((((Keeps.refl _).alloc _).alloc _).alloc _).trans k1
  go_wp2_with fail
  go_quiet (fail)
  go_wp2
  go_ret3
  exact ⟨rfl, (k1.alloc _).drewN _⟩

/-- Part as the document has it: the whole fringes, the part, and the error. -/
def partR (F : Fr) (n c : Int) : Int × Int × Int :=
  if F.ok = false then (0, 0, 1)
  else if c < 0 ∨ F.ws.length ≤ c ∨ n < 0 ∨ 2000 < n then (0, 0, 2)
  else (n / F.ws[c.toNat]?.getD 0, 20 * (n % F.ws[c.toNat]?.getD 0) / F.ws[c.toNat]?.getD 0, 0)

theorem Part_any (F : Fr) (n c : Int) (w : World) (hI : F.In w) :
    Calls Try.prog 22 #[F.v, .int .i64 n, .int .i64 c] w (Ret (.tuple #[.int .i64 (partR F n c).1, .int .i64 (partR F n c).2.1, .int .i64 (partR F n c).2.2]) w) := by
  refine Part_by F n c _ _ _ w fun w1 b1 b2 b3 k hB hc hn => ?_
  unfold partR
  cases hok : F.ok with
  | false =>
    rw [if_pos rfl]
    exact answer_pan_fraction _ _ _ _ (fun w => enter_Part1 _ w) (Part1_no1 F b1 b2 b3 _ (hI.keep (((k.alloc _)).alloc _)) (hB.keep (((Keeps.refl _).alloc _).alloc _)) hok)
  | true =>
    rw [if_neg (by simp)]
    have kk : Keeps w1 ((w1.alloc (.cells #[.int .i64 0, .int .i64 0] 110)).alloc (.cells #[.int .i64 0] 30)) := ((Keeps.refl _).alloc _).alloc _
    by_cases h : c < 0 ∨ F.ws.length ≤ c
    · rw [if_pos (by omega)]
      exact answer_pan_fraction _ _ _ _ (fun w => enter_Part1 _ w) (Part1_no2 F b1 b2 b3 c _ (hI.keep (k.trans kk)) (hB.keep kk) (kk.cell hc) hok h)
    · by_cases h2 : n < 0 ∨ 2000 < n
      · rw [if_pos (by omega)]
        exact answer_pan_fraction _ _ _ _ (fun w => enter_Part1 _ w) (Part1_no3 F b1 b2 b3 c n _ (hI.keep (k.trans kk)) (hB.keep kk) (kk.cell hc) (kk.cell hn) hok (by omega) (by omega) h2)
      · rw [if_neg (by omega)]
        obtain ⟨m, rfl⟩ := Int.eq_ofNat_of_zero_le (a := c) (by omega)
        obtain ⟨j, rfl⟩ := Int.eq_ofNat_of_zero_le (a := n) (by omega)
        exact answer_ok_fraction _ _ _ _ _ (fun w => enter_Part1 _ w) (Part1_yes F b1 b2 b3 m j _ _ (hI.keep (k.trans kk)) (hB.keep kk) (kk.cell hn) (kk.cell hc) hok (by omega) (by simp) (by omega))
end Go.Proofs.Ytoidnbpbeblokaa
