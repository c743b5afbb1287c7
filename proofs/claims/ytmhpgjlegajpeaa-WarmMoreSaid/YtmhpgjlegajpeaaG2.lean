/-
  WARM, the laws' own small functions: inside, shows, exact.
  WARM: the numbers of WarmRoom.
-/
import Derived.Test.YtmhpgjlegajpeaaF1
import Derived.Test.YtmhpgjlegajpeaaD8
namespace Go.Proofs.Ytmhpgjlegajpeaa
open Go.RowKit

set_option maxHeartbeats 400000 in
theorem inside_any (n lo hi : Int) (w : World) : Calls Try.prog 33 #[.int .i64 n, .agg #[.int .i64 lo, .int .i64 hi]] w (RetB (decide (lo ≤ n ∧ n ≤ hi)) w) := by
  have k0 : Keeps w (w.alloc (.cells #[.int .i64 lo, .int .i64 hi] 23)) := (Keeps.refl _).alloc _
  go_enter Try.func33, Try.ntmps33
  go_wp2
  all_goals first | (go_ret; exact RetB.mk (by simp; try omega) k0) | trace_state
theorem tdiv10_cases (n : Int) : n.tdiv 10 = n / 10 ∨ (n.tdiv 10 = n / 10 + 1 ∧ n < 10 * n.tdiv 10) := by
  have h := tdiv10 n
  split at h <;> omega
set_option maxHeartbeats 1600000 in
theorem lawShows_any (m L c t : Int) (w : World) (m1 : 1 ≤ m) (m2 : m ≤ 100) (l1 : -1000 ≤ L) (l2 : L ≤ 1000) (c1 : 0 ≤ c) (c2 : c ≤ 20) (t1 : -101 ≤ t) (t2 : t ≤ 101) :
    Calls Try.prog 35 #[.int .i64 m, .int .i64 L, .int .i64 c, .int .i64 t] w (RetI (shI m L c t) w) := by
  obtain ⟨⟨p1, p2⟩, q1, q2⟩ := mct_bd m1 m2 c1 c2 t1 t2
  unfold shI
  obtain ⟨p, hp⟩ : ∃ p, m * c = p := ⟨_, rfl⟩
  obtain ⟨q, hq⟩ : ∃ q, p * t = q := ⟨_, rfl⟩
  rw [hp] at p1 p2 q1 q2 ⊢
  rw [hq] at q1 q2 ⊢
  have wp : IntKind.i64.wrap (m * c) = p := by rw [hp]; exact IntWalk.i64_in _ (by constructor <;> omega)
  have wq : IntKind.i64.wrap (p * t) = q := by rw [hq]; exact IntWalk.i64_in _ (by constructor <;> omega)
  have ws : IntKind.i64.wrap (L + q / 10) = L + q / 10 := IntWalk.i64_in _ (by constructor <;> omega)
  have TD := Lib.hid (tdiv10_cases q)
  have WS := Lib.hid ws
  obtain ⟨d, hd⟩ : ∃ d, q / 10 = d := ⟨_, rfl⟩
  have HD := Lib.hid hd
  rw [hd] at WS TD ⊢
  clear hp hq ws hd
  go_enter Try.func35, Try.ntmps35
  go_wp2_with fail
  go_loopw [10] (fun x wr => wr = w ∧ ∃ z : Int, x = .int .i64 z ∧ (z = d ∨ (z = d + 1 ∧ q < 10 * z))) (fun x _ => (intOf x - d).toNat)
  case atStart => exact ⟨rfl, _, rfl, TD.out⟩
  case round =>
    obtain ⟨rfl, z, rfl, hz⟩ := hrel
    have hdz := HD.out
    by_cases hzd : z = d
    · have hw10 : IntKind.i64.wrap (10 * z) = 10 * z := IntWalk.i64_in _ (by constructor <;> omega)
      have hlt : decide (q < 10 * z) = false := decide_eq_false (by omega)
      clear hz hdz
      have HZ := Lib.hid hzd
      clear hzd
      have ws : IntKind.i64.wrap (L + z) = L + z := by rw [HZ.out]; exact WS.out
      go_wp2
      go_ret
      exact RetI.mk (by rw [HZ.out]) (Keeps.refl _)
    · have hz2 := hz.resolve_left hzd
      have hw10 : IntKind.i64.wrap (10 * z) = 10 * z := IntWalk.i64_in _ (by constructor <;> omega)
      have hw1 : IntKind.i64.wrap (z - 1) = z - 1 := IntWalk.i64_in _ (by constructor <;> omega)
      have hlt : decide (q < 10 * z) = true := decide_eq_true (by omega)
      have HZ := Lib.hid hz2.1
      clear hz hdz hzd hz2
      go_wp2
      go_roundw
      case rel => exact ⟨trivial, _, rfl, .inl (by rw [HZ.out]; omega)⟩
      case measure => simp [intOf, HZ.out]; omega
theorem mid_set {X : World} {b : Nat} {u0 u1 u2 u3 u4 u5 v1 v2 v3 v4 : Value} (h0 : X.cell? ⟨b, 0, none⟩ = some u0) (h1 : X.cell? ⟨b, 1, none⟩ = some u1) (h2 : X.cell? ⟨b, 2, none⟩ = some u2) (h3 : X.cell? ⟨b, 3, none⟩ = some u3) (h4 : X.cell? ⟨b, 4, none⟩ = some u4) (h5 : X.cell? ⟨b, 5, none⟩ = some u5) :
    let Y := (((X.setCell ⟨b, 1, none⟩ v1).setCell ⟨b, 2, none⟩ v2).setCell ⟨b, 3, none⟩ v3).setCell ⟨b, 4, none⟩ v4
    Y.cell? ⟨b, 0, none⟩ = some u0 ∧ Y.cell? ⟨b, 1, none⟩ = some v1 ∧ Y.cell? ⟨b, 2, none⟩ = some v2 ∧ Y.cell? ⟨b, 3, none⟩ = some v3 ∧ Y.cell? ⟨b, 4, none⟩ = some v4 ∧ Y.cell? ⟨b, 5, none⟩ = some u5 ∧ (∀ b' o, b' ≠ b → Y.cell? ⟨b', o, none⟩ = X.cell? ⟨b', o, none⟩) ∧ Y.heap.size = X.heap.size := by
  refine ⟨?_, ?_, ?_, ?_, ?_, ?_, fun b' o hb => ?_, by simp [World.setCell]⟩
  · rw [cell_set_other (by omega), cell_set_other (by omega), cell_set_other (by omega), cell_set_other (by omega)]; exact h0
  · exact (cell_set_other (by omega)).trans ((cell_set_other (by omega)).trans ((cell_set_other (by omega)).trans (cell_set_same (by rw [h1]; rfl))))
  · exact (cell_set_other (by omega)).trans ((cell_set_other (by omega)).trans (cell_set_same (by rw [cell_set_other (by omega), h2]; rfl)))
  · exact (cell_set_other (by omega)).trans (cell_set_same (by rw [cell_set_other (by omega), cell_set_other (by omega), h3]; rfl))
  · exact cell_set_same (by rw [cell_set_other (by omega), cell_set_other (by omega), cell_set_other (by omega), h4]; rfl)
  · rw [cell_set_other (by omega), cell_set_other (by omega), cell_set_other (by omega), cell_set_other (by omega)]; exact h5
  · rw [cell_set_other (by omega), cell_set_other (by omega), cell_set_other (by omega), cell_set_other (by omega)]
set_option maxHeartbeats 1600000 in
theorem exact_any (B : Wm) (a b : Int) (w : World) : Calls Try.prog 37 #[B.v, .int .i64 a, .int .i64 b] w (Ret (Wm.v { B with llo := a, lhi := a, clo := b, chi := b }) w) := by
  have H := Lib.hid (fun a w1 => lawSpan_any a a w1)
  have BX := Wm.Box.new B w
  have k0 := (Keeps.refl w).alloc (.cells #[.int .i64 B.mark, .int .i64 B.llo, .int .i64 B.lhi, .int .i64 B.clo, .int .i64 B.chi, .slice B.ra B.rs.length B.rc] 26)
  obtain ⟨mark, llo, lhi, clo, chi, ra, rc, rs⟩ := B
  dsimp only [Wm.v] at *
  go_enter Try.func37, Try.ntmps37
  go_wp2_with fail
  obtain ⟨v, hv⟩ : ∃ v, ((w.alloc (.cells #[.int .i64 mark, .int .i64 llo, .int .i64 lhi, .int .i64 clo, .int .i64 chi, .slice ra rs.length rc] 26)).alloc (.cells #[.int .i64 0, .int .i64 0, .int .i64 0, .int .i64 0, .int .i64 0, .slice none 0 0] 26)).alloc (.cells #[.int .i64 mark, .int .i64 llo, .int .i64 lhi, .int .i64 clo, .int .i64 chi, .slice ra rs.length rc] 26) = v := ⟨_, rfl⟩
  obtain ⟨b1, hb1⟩ : ∃ x, w.heap.size + 1 = x := ⟨_, rfl⟩
  obtain ⟨b2, hb2⟩ : ∃ x, b1 + 1 = x := ⟨_, rfl⟩
  have kv : Keeps w v := by rw [← hv]; exact (((Keeps.refl w).alloc _).alloc _).alloc _
  have p0 : v.cell? ⟨b2, 0, none⟩ = some (.int .i64 mark) := by rw [← hv, ← hb2, ← hb1]; simp [go_sem]
  have f0 : v.frozen? ⟨b2, 0, none⟩ = false := by rw [← hv, ← hb2, ← hb1]; simp [go_sem]
  have r0 : v.cell? ⟨b1, 0, none⟩ = some (.int .i64 0) := by rw [← hv, ← hb1]; simp [go_sem]
  have g0 : v.frozen? ⟨b1, 0, none⟩ = false := by rw [← hv, ← hb1]; simp [go_sem]
  have p1 : v.cell? ⟨b2, 1, none⟩ = some (.int .i64 llo) := by rw [← hv, ← hb2, ← hb1]; simp [go_sem]
  have f1 : v.frozen? ⟨b2, 1, none⟩ = false := by rw [← hv, ← hb2, ← hb1]; simp [go_sem]
  have r1 : v.cell? ⟨b1, 1, none⟩ = some (.int .i64 0) := by rw [← hv, ← hb1]; simp [go_sem]
  have g1 : v.frozen? ⟨b1, 1, none⟩ = false := by rw [← hv, ← hb1]; simp [go_sem]
  have p2 : v.cell? ⟨b2, 2, none⟩ = some (.int .i64 lhi) := by rw [← hv, ← hb2, ← hb1]; simp [go_sem]
  have f2 : v.frozen? ⟨b2, 2, none⟩ = false := by rw [← hv, ← hb2, ← hb1]; simp [go_sem]
  have r2 : v.cell? ⟨b1, 2, none⟩ = some (.int .i64 0) := by rw [← hv, ← hb1]; simp [go_sem]
  have g2 : v.frozen? ⟨b1, 2, none⟩ = false := by rw [← hv, ← hb1]; simp [go_sem]
  have p3 : v.cell? ⟨b2, 3, none⟩ = some (.int .i64 clo) := by rw [← hv, ← hb2, ← hb1]; simp [go_sem]
  have f3 : v.frozen? ⟨b2, 3, none⟩ = false := by rw [← hv, ← hb2, ← hb1]; simp [go_sem]
  have r3 : v.cell? ⟨b1, 3, none⟩ = some (.int .i64 0) := by rw [← hv, ← hb1]; simp [go_sem]
  have g3 : v.frozen? ⟨b1, 3, none⟩ = false := by rw [← hv, ← hb1]; simp [go_sem]
  have p4 : v.cell? ⟨b2, 4, none⟩ = some (.int .i64 chi) := by rw [← hv, ← hb2, ← hb1]; simp [go_sem]
  have f4 : v.frozen? ⟨b2, 4, none⟩ = false := by rw [← hv, ← hb2, ← hb1]; simp [go_sem]
  have r4 : v.cell? ⟨b1, 4, none⟩ = some (.int .i64 0) := by rw [← hv, ← hb1]; simp [go_sem]
  have g4 : v.frozen? ⟨b1, 4, none⟩ = false := by rw [← hv, ← hb1]; simp [go_sem]
  have p5 : v.cell? ⟨b2, 5, none⟩ = some (.slice ra rs.length rc) := by rw [← hv, ← hb2, ← hb1]; simp [go_sem]
  have f5 : v.frozen? ⟨b2, 5, none⟩ = false := by rw [← hv, ← hb2, ← hb1]; simp [go_sem]
  have r5 : v.cell? ⟨b1, 5, none⟩ = some (.slice none 0 0) := by rw [← hv, ← hb1]; simp [go_sem]
  have g5 : v.frozen? ⟨b1, 5, none⟩ = false := by rw [← hv, ← hb1]; simp [go_sem]
  rw [hv, hb1, hb2]
  have hlt2 := lt_of_cell p0
  have hlt1 : b1 < v.heap.size := by omega
  have hne : b1 ≠ b2 := by omega
  have hwb : w.heap.size ≤ b1 := by omega
  have hwb2 : w.heap.size ≤ b2 := by omega
  clear hv hb1 BX k0
  refine (H.out _ _).mono ?_
  rintro e w1 ⟨rfl, k1⟩
  go_wp2_with fail
  refine (H.out _ _).mono ?_
  rintro e w2 ⟨rfl, k2⟩
  have k := k1.trans k2
  clear k1 k2 H
  replace p0 := k.cell p0
  replace f0 := (k.cells.2 _ 0 hlt2).trans f0
  replace r0 := k.cell r0
  replace g0 := (k.cells.2 _ 0 hlt1).trans g0
  replace p1 := k.cell p1
  replace f1 := (k.cells.2 _ 1 hlt2).trans f1
  replace r1 := k.cell r1
  replace g1 := (k.cells.2 _ 1 hlt1).trans g1
  replace p2 := k.cell p2
  replace f2 := (k.cells.2 _ 2 hlt2).trans f2
  replace r2 := k.cell r2
  replace g2 := (k.cells.2 _ 2 hlt1).trans g2
  replace p3 := k.cell p3
  replace f3 := (k.cells.2 _ 3 hlt2).trans f3
  replace r3 := k.cell r3
  replace g3 := (k.cells.2 _ 3 hlt1).trans g3
  replace p4 := k.cell p4
  replace f4 := (k.cells.2 _ 4 hlt2).trans f4
  replace r4 := k.cell r4
  replace g4 := (k.cells.2 _ 4 hlt1).trans g4
  replace p5 := k.cell p5
  replace f5 := (k.cells.2 _ 5 hlt2).trans f5
  replace r5 := k.cell r5
  replace g5 := (k.cells.2 _ 5 hlt1).trans g5
  obtain ⟨s0, s1, s2, s3, s4, s5, so, sz⟩ := mid_set (v1 := .int .i64 a) (v2 := .int .i64 a) (v3 := .int .i64 b) (v4 := .int .i64 b) p0 p1 p2 p3 p4 p5
  have kY := (((((kv.trans k)).setCell (p := ⟨b2, 1, none⟩) (.int .i64 a) hwb2).setCell (p := ⟨b2, 2, none⟩) (.int .i64 a) hwb2).setCell (p := ⟨b2, 3, none⟩) (.int .i64 b) hwb2).setCell (p := ⟨b2, 4, none⟩) (.int .i64 b) hwb2
  go_wp2_with fail
  obtain ⟨Y, hY⟩ : ∃ Y, ((((w2.setCell ⟨b2, 1, none⟩ (.int .i64 a)).setCell ⟨b2, 2, none⟩ (.int .i64 a)).setCell ⟨b2, 3, none⟩ (.int .i64 b)).setCell ⟨b2, 4, none⟩ (.int .i64 b)) = Y := ⟨_, rfl⟩
  rw [hY] at so kY ⊢
  have y0 := (so b1 0 hne).trans r0
  have y1 := (so b1 1 hne).trans r1
  have y2 := (so b1 2 hne).trans r2
  have y3 := (so b1 3 hne).trans r3
  have y4 := (so b1 4 hne).trans r4
  have y5 := (so b1 5 hne).trans r5
  obtain ⟨e0, e1, e2, e3, e4, e5, _, _⟩ := six_set (X := Y) (b := b1) (v0 := .int .i64 mark) (v1 := .int .i64 a) (v2 := .int .i64 a) (v3 := .int .i64 b) (v4 := .int .i64 b) (v5 := .slice ra rs.length rc) (by rw [y0]; rfl) (by rw [y1]; rfl) (by rw [y2]; rfl) (by rw [y3]; rfl) (by rw [y4]; rfl) (by rw [y5]; rfl)
  have kZ := ((((((kY.setCell (p := ⟨b1, 0, none⟩) (.int .i64 mark) hwb).setCell (p := ⟨b1, 1, none⟩) (.int .i64 a) hwb).setCell (p := ⟨b1, 2, none⟩) (.int .i64 a) hwb).setCell (p := ⟨b1, 3, none⟩) (.int .i64 b) hwb).setCell (p := ⟨b1, 4, none⟩) (.int .i64 b) hwb).setCell (p := ⟨b1, 5, none⟩) (.slice ra rs.length rc) hwb)
  refine bodyPost_ret (v := .agg #[.int .i64 mark, .int .i64 a, .int .i64 a, .int .i64 b, .int .i64 b, .slice ra rs.length rc]) ?_ rfl ⟨rfl, kZ⟩
  simp [results, Try.results37, go_sem, e0, e1, e2, e3, e4, e5]
end Go.Proofs.Ytmhpgjlegajpeaa

namespace Go.Proofs.Ytmhpgjlegajpeaa
open Go.RowKit

/-- A block of which length and coefficient are known. -/
def xB (B : Wm) (a b : Int) : Wm := { B with llo := a, lhi := a, clo := b, chi := b }
theorem xB_all (B : Wm) {a b : Int} (h : -1000 ≤ a ∧ a ≤ 1000 ∧ 0 ≤ b ∧ b ≤ 20) : (xB B a b).all = [⟨(a, b), h⟩] := by
  unfold Wm.all xB
  dsimp only
  rw [show (b + 1 - b).toNat = 1 by omega, show (a + 1 - a).toNat = 1 by omega]
  have h' : -1000 ≤ a + ((0 : Nat) : Int) ∧ a + ((0 : Nat) : Int) ≤ 1000 ∧ 0 ≤ b + ((0 : Nat) : Int) ∧ b + ((0 : Nat) : Int) ≤ 20 := by omega
  simp only [rowsTo, rowTo, List.range_succ, List.range_zero, List.nil_append, List.flatMap_cons, List.flatMap_nil, List.append_nil, List.filterMap_cons, List.filterMap_nil, mkP, dif_pos h']
  simp
theorem xB_ok {B : Wm} (hok : B.ok = true) {a b : Int} (ha : B.llo ≤ a ∧ a ≤ B.lhi) (hb : B.clo ≤ b ∧ b ≤ B.chi) : (xB B a b).ok = true := by
  have hL := Wm.ok_lim hok
  obtain ⟨m1, m2, l1, l2, l3, l4, c1, c2, c3, c4⟩ := hL
  simp only [Wm.ok, Bool.and_eq_true, decide_eq_true_eq, inS] at hok
  unfold Wm.ok xB inS
  dsimp only
  simp only [Bool.and_eq_true, decide_eq_true_eq]
  exact ⟨⟨⟨⟨m1, m2⟩, ⟨by omega, by omega, by omega⟩, by omega⟩, ⟨by omega, by omega, by omega⟩, by omega⟩, hok.2⟩
theorem pair_lim {B : Wm} (hok : B.ok = true) {a b : Int} (ha : B.llo ≤ a ∧ a ≤ B.lhi) (hb : B.clo ≤ b ∧ b ≤ B.chi) : -1000 ≤ a ∧ a ≤ 1000 ∧ 0 ≤ b ∧ b ≤ 20 := by
  obtain ⟨m1, m2, l1, l2, l3, l4, c1, c2, c3, c4⟩ := Wm.ok_lim hok
  omega
/-- Of a known pair there is one truth, if it is one. -/
theorem xB_count {B : Wm} (hok : B.ok = true) {a b : Int} (ha : B.llo ≤ a ∧ a ≤ B.lhi) (hb : B.clo ≤ b ∧ b ≤ B.chi) :
    (∃ p : Pr, p ∈ B.truths ∧ p.1 = (a, b) ∧ (xB B a b).countA = (1, 0)) ∨ ((∀ p ∈ B.truths, p.1 ≠ (a, b)) ∧ (xB B a b).countA = (0, 0)) := by
  have hl := pair_lim hok ha hb
  have ho := xB_ok hok ha hb
  have hc : (xB B a b).countA = (((([⟨(a, b), hl⟩] : List Pr).filter (okAll B.mark B.rs)).length : Int), 0) := by
    unfold Wm.countA
    rw [ho, if_pos rfl]
    unfold Wm.truths Wm.leftBy
    rw [xB_all B hl]
    rfl
  cases e : okAll B.mark B.rs ⟨(a, b), hl⟩ with
  | true =>
    refine .inl ⟨⟨(a, b), hl⟩, ?_, rfl, ?_⟩
    · unfold Wm.truths Wm.leftBy
      exact List.mem_filter.2 ⟨(Wm.mem_all (Wm.ok_lim hok)).2 ⟨ha, hb⟩, e⟩
    · rw [hc]; simp [e]
  | false =>
    refine .inr ⟨fun p hp hpe => ?_, ?_⟩
    · have h2 := (List.mem_filter.1 hp).2
      have : p = ⟨(a, b), hl⟩ := Subtype.ext hpe
      rw [this, e] at h2
      cases h2
    · rw [hc]; simp [e]
theorem widest_le (m off : Int) (ps : List Pr) : widest m off ps ≤ 100 := by
  unfold widest
  have := (List.takeWhile_sublist (fun i => roomB m off ps (i + 1)) (l := List.range 100)).length_le
  simpa using this
theorem takeWhile_at {p : Nat → Bool} {n i : Nat} (h : i < ((List.range n).takeWhile p).length) : p i = true := by
  have h1 := List.takeWhile_prefix (p := p) (l := List.range n)
  have h2 : ((List.range n).takeWhile p)[i]? = (List.range n)[i]? := by
    obtain ⟨t, ht⟩ := h1
    conv => rhs; rw [← ht]
    rw [List.getElem?_append_left h]
  have hn : i < n := by
    have := h1.length_le
    rw [List.length_range] at this
    omega
  rw [List.getElem?_range hn] at h2
  have hm := List.mem_of_getElem? h2
  exact (List.all_eq_true.1 (List.all_takeWhile (l := List.range n) (p := p))) i hm
theorem takeWhile_end {p : Nat → Bool} {n : Nat} (h : ((List.range n).takeWhile p).length < n) : p ((List.range n).takeWhile p).length = false := by
  cases e : p ((List.range n).takeWhile p).length with
  | false => rfl
  | true =>
    have hk : ((List.range n).takeWhile p).length + 1 ≤ n := h
    obtain ⟨k, hk'⟩ : ∃ k, ((List.range n).takeWhile p).length = k := ⟨_, rfl⟩
    have hall : ∀ i, i < k → p i = true := fun i hi => takeWhile_at (n := n) (by omega)
    rw [hk'] at e hk
    exfalso
    by_cases hs : k + 1 = n
    · have := takeWhile_len (p := p) (n := n) (k := k + 1) hk (fun i hi => by
        by_cases h2 : i = k
        · rw [h2]; exact e
        · exact hall i (by omega)) (.inl hs)
      omega
    · obtain ⟨d, hd⟩ := Nat.le.dest hk
      have h3 : k + 1 ≤ ((List.range n).takeWhile p).length := by
        rw [← hd, List.range_add, List.takeWhile_append_of_pos (by
          intro i hi
          rw [List.mem_range] at hi
          by_cases h2 : i = k
          · rw [h2]; exact e
          · exact hall i (by omega)), List.length_append, List.length_range]
        omega
      omega
theorem widest_stop {m off : Int} {ps : List Pr} (h : widest m off ps ≠ 100) : roomB m off ps (widest m off ps + 1) = false := by
  have := widest_le m off ps
  exact takeWhile_end (p := fun i => roomB m off ps (i + 1)) (n := 100) (by unfold widest at *; omega)
theorem widest_in {m off : Int} {ps : List Pr} {i : Nat} (h : i < widest m off ps) : roomB m off ps (i + 1) = true := takeWhile_at (p := fun i => roomB m off ps (i + 1)) (n := 100) h
theorem roomB_more {m off off' : Int} (h : off ≤ off') {ps : List Pr} {n : Nat} (hr : roomB m off ps n = true) : roomB m off' ps n = true := by
  unfold roomB at *
  rw [List.all_eq_true] at *
  intro p hp
  have := hr p hp
  unfold roomP at *
  simp only [decide_eq_true_eq] at *
  omega
theorem widest_more {m off off' : Int} (h : off ≤ off') (ps : List Pr) : widest m off ps ≤ widest m off' ps := by
  by_cases hw : widest m off' ps = 100
  · rw [hw]; exact widest_le _ _ _
  · have h1 := widest_stop hw
    by_cases hlt : widest m off' ps < widest m off ps
    · have h2 := roomB_more h (widest_in hlt)
      rw [h1] at h2
      cases h2
    · omega
theorem room_in {m off : Int} {ps : List Pr} {p : Pr} (hp : p ∈ ps) (m1 : 1 ≤ m) (h0 : 0 ≤ off) (s : Int) (hs : s = (widest m off ps : Int) ∨ s = -(widest m off ps : Int)) :
    -off ≤ shI m p.1.1 p.1.2 s - p.1.1 ∧ shI m p.1.1 p.1.2 s - p.1.1 ≤ off := by
  have hc := p.2.2.2.1
  have hmc : 0 ≤ m * p.1.2 := Int.mul_nonneg (by omega) hc
  obtain ⟨n, hn⟩ : ∃ n, widest m off ps = n := ⟨_, rfl⟩
  rw [hn] at hs
  have hup : 0 ≤ m * p.1.2 * (n : Int) := Int.mul_nonneg hmc (by omega)
  have hr : roomP m off n p = true := by
    cases n with
    | zero =>
      unfold roomP shI
      simp
      omega
    | succ n =>
      have := widest_in (m := m) (off := off) (ps := ps) (i := n) (by omega)
      exact (List.all_eq_true.1 this) p hp
  unfold roomP shI at hr
  simp only [decide_eq_true_eq] at hr
  have hneg : m * p.1.2 * (-(n : Int)) = -(m * p.1.2 * (n : Int)) := Int.mul_neg _ _
  rw [hneg] at hr
  unfold shI
  rcases hs with rfl | rfl
  · omega
  · rw [hneg]; omega
/-- All pairs before this one are within a room that is one tenth wider, or that is not so. -/
def Wid (B : Wm) (off : Int) (n : Nat) (a c : Int) (t : Bool) : Prop := t = true ∨ (n ≠ 100 ∧ ∀ p ∈ B.truths, (p.1.1 < a ∨ (p.1.1 = a ∧ p.1.2 < c)) → roomP B.mark off (n + 1) p = true)
def WidO (B : Wm) (off : Int) (n : Nat) (a : Int) (t : Bool) : Prop := t = true ∨ (n ≠ 100 ∧ ∀ p ∈ B.truths, p.1.1 < a → roomP B.mark off (n + 1) p = true)
theorem truth_in {B : Wm} (hok : B.ok = true) {p : Pr} (hp : p ∈ B.truths) : (B.llo ≤ p.1.1 ∧ p.1.1 ≤ B.lhi) ∧ B.clo ≤ p.1.2 ∧ p.1.2 ≤ B.chi := (Wm.mem_all (Wm.ok_lim hok)).1 (List.mem_filter.1 hp).1
theorem WidO.start {B : Wm} (hok : B.ok = true) (off : Int) (n : Nat) : WidO B off n B.llo (decide ((n : Int) = 100)) := by
  by_cases h : n = 100
  · exact .inl (by simp [h])
  · exact .inr ⟨h, fun p hp hl => by have := truth_in hok hp; omega⟩
theorem Wid.start {B : Wm} (hok : B.ok = true) {off : Int} {n : Nat} {a : Int} {t : Bool} (h : WidO B off n a t) : Wid B off n a B.clo t :=
  h.imp id fun h => ⟨h.1, fun p hp hl => h.2 p hp (by have := truth_in hok hp; omega)⟩
theorem Wid.stop {B : Wm} (hok : B.ok = true) {off : Int} {n : Nat} {a c : Int} {t : Bool} (h : Wid B off n a c t) (hc : B.chi < c) : WidO B off n (a + 1) t :=
  h.imp id fun h => ⟨h.1, fun p hp hl => h.2 p hp (by have := truth_in hok hp; omega)⟩
theorem Wid.skip {B : Wm} {off : Int} {n : Nat} {a c : Int} {t : Bool} (h : Wid B off n a c t) (hno : ∀ p ∈ B.truths, p.1 ≠ (a, c)) : Wid B off n a (c + 1) t :=
  h.imp id fun h => ⟨h.1, fun p hp hl => h.2 p hp (by
    by_cases e : p.1.1 = a ∧ p.1.2 = c
    · exact absurd (Prod.ext e.1 e.2) (hno p hp)
    · omega)⟩
theorem Wid.pair {B : Wm} {off : Int} {n : Nat} {a c : Int} {t : Bool} (h : Wid B off n a c t) (d1 d2 : Int) (h1 : d1 = shI B.mark a c (-((n : Int) + 1)) - a) (h2 : d2 = shI B.mark a c ((n : Int) + 1) - a) :
    Wid B off n a (c + 1) (t || decide (d1 < -off) || decide (off < d1) || decide (d2 < -off) || decide (off < d2)) := by
  cases t with
  | true => exact .inl (by simp)
  | false =>
    rcases h with h | ⟨hn, hall⟩
    · cases h
    · by_cases e : (decide (d1 < -off) || decide (off < d1) || decide (d2 < -off) || decide (off < d2)) = true
      · exact .inl (by simpa using e)
      · refine .inr ⟨hn, fun p hp hl => ?_⟩
        by_cases e2 : p.1.1 = a ∧ p.1.2 = c
        · simp only [Bool.or_eq_true, decide_eq_true_eq, not_or] at e
          unfold roomP
          simp only [decide_eq_true_eq]
          rw [e2.1, e2.2, show ((n + 1 : Nat) : Int) = (n : Int) + 1 by omega]
          omega
        · exact hall p hp (by omega)
theorem WidO.stop {B : Wm} (hok : B.ok = true) {off : Int} {a : Int} {t : Bool} (h : WidO B off (widest B.mark off B.truths) a t) (ha : B.lhi < a) : t = true := by
  rcases h with h | ⟨hn, hall⟩
  · exact h
  · have h1 := widest_stop hn
    have h2 : roomB B.mark off B.truths (widest B.mark off B.truths + 1) = true := List.all_eq_true.2 fun p hp => hall p hp (by have := truth_in hok hp; omega)
    rw [h1] at h2
    cases h2
end Go.Proofs.Ytmhpgjlegajpeaa
