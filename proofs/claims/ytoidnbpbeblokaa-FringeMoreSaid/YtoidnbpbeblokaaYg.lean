/-
  The laws' own small functions: span, read, sample.
-/
import Derived.Test.YtoidnbpbeblokaaYe
import Derived.Test.YtoidnbpbeblokaaWo
import Derived.Test.YtoidnbpbeblokaaWu
import Derived.Test.YtoidnbpbeblokaaXd
namespace Go.Proofs.Ytoidnbpbeblokaa
open Go.RowKit Go.Shelf

/-- Readings, as cells. -/
def rdCells (l : List Rd) : List Value := l.flatMap fun r => [.int .i64 r.1, .int .i64 r.2.1, .int .i64 r.2.2]
theorem rdCells_at (l : List Rd) : ∀ i, i < l.length → (rdCells l)[i * 3]? = some (.int .i64 (l[i]?.getD (0, 0, 0)).1) ∧ (rdCells l)[i * 3 + 1]? = some (.int .i64 (l[i]?.getD (0, 0, 0)).2.1) ∧ (rdCells l)[i * 3 + 2]? = some (.int .i64 (l[i]?.getD (0, 0, 0)).2.2) := by
  induction l with
  | nil => intro i hi; simp at hi
  | cons s l ih =>
    intro i hi
    have e : rdCells (s :: l) = .int .i64 s.1 :: .int .i64 s.2.1 :: .int .i64 s.2.2 :: rdCells l := rfl
    rw [e]
    cases i with
    | zero => exact ⟨rfl, rfl, rfl⟩
    | succ i =>
      have h := ih i (by simpa using hi)
      have e1 : (i + 1) * 3 = i * 3 + 1 + 1 + 1 := by omega
      rw [e1]
      exact ⟨by simpa using h.1, by simpa using h.2.1, by simpa using h.2.2⟩
theorem rdCells_append (l m : List Rd) : rdCells (l ++ m) = rdCells l ++ rdCells m := by simp [rdCells]
theorem Rds.of_owns {w : World} {base : Nat} {v : Value} {l : List Rd} (h : w.ownsRow base 41 3 v l.length (rdCells l)) : ∃ a cap, v = .slice a l.length cap ∧ Rds w a l ∧ ∀ b o, a = some ⟨b, o, none⟩ → base ≤ b := by
  rcases h.2 with ⟨rfl, h0⟩ | ⟨g, cap, cur, rfl, h2, h3, h4, h5, h6, h7⟩
  · obtain rfl : l = [] := List.length_eq_zero_iff.1 h0
    exact ⟨none, 0, rfl, fun h => absurd rfl h, fun _ _ e => by cases e⟩
  · refine ⟨some ⟨g, 0, none⟩, cap, rfl, fun _ => ⟨g, 0, rfl, fun i hi => ?_⟩, fun b o e => by cases e; exact h2⟩
    have hc := rdCells_at l i hi
    rw [Nat.zero_add]
    exact ⟨(h.cellAt (i * 3) (by omega)).trans hc.1, (h.cellAt (i * 3 + 1) (by omega)).trans hc.2.1, (h.cellAt (i * 3 + 2) (by omega)).trans hc.2.2⟩

theorem Rds.of_eq {w w' : World} {a : Option Addr} {rs : List Rd} (h : Rds w a rs) (hq : ∀ b o, a = some ⟨b, o, none⟩ → ∀ o', w'.cell? ⟨b, o', none⟩ = w.cell? ⟨b, o', none⟩) : Rds w' a rs := by
  intro hne
  obtain ⟨b, o, rfl, hc⟩ := h hne
  exact ⟨b, o, rfl, fun i hi => ⟨(hq b o rfl _).trans (hc i hi).1, (hq b o rfl _).trans (hc i hi).2.1, (hq b o rfl _).trans (hc i hi).2.2⟩⟩

theorem three_set {X : World} {b : Nat} {v0 v1 v2 : Value} (h0 : (X.cell? ⟨b, 0, none⟩).isSome = true) (h1 : (X.cell? ⟨b, 1, none⟩).isSome = true) (h2 : (X.cell? ⟨b, 2, none⟩).isSome = true) :
    let Y := ((X.setCell ⟨b, 0, none⟩ v0).setCell ⟨b, 1, none⟩ v1).setCell ⟨b, 2, none⟩ v2
    Y.cell? ⟨b, 0, none⟩ = some v0 ∧ Y.cell? ⟨b, 1, none⟩ = some v1 ∧ Y.cell? ⟨b, 2, none⟩ = some v2 ∧ (∀ b' o, b' ≠ b → Y.cell? ⟨b', o, none⟩ = X.cell? ⟨b', o, none⟩) := by
  refine ⟨?_, ?_, ?_, fun b' o hb => ?_⟩
  · exact (cell_set_other (by omega)).trans ((cell_set_other (by omega)).trans (cell_set_same h0))
  · exact (cell_set_other (by omega)).trans (cell_set_same (by rw [cell_set_other (by omega)]; exact h1))
  · exact cell_set_same (by rw [cell_set_other (by omega), cell_set_other (by omega)]; exact h2)
  · rw [cell_set_other (by omega), cell_set_other (by omega), cell_set_other (by omega)]
theorem four_set {X : World} {b : Nat} {v0 v1 v2 v3 : Value} (h0 : (X.cell? ⟨b, 0, none⟩).isSome = true) (h1 : (X.cell? ⟨b, 1, none⟩).isSome = true) (h2 : (X.cell? ⟨b, 2, none⟩).isSome = true) (h3 : (X.cell? ⟨b, 3, none⟩).isSome = true) :
    let Y := (((X.setCell ⟨b, 0, none⟩ v0).setCell ⟨b, 1, none⟩ v1).setCell ⟨b, 2, none⟩ v2).setCell ⟨b, 3, none⟩ v3
    Y.cell? ⟨b, 0, none⟩ = some v0 ∧ Y.cell? ⟨b, 1, none⟩ = some v1 ∧ Y.cell? ⟨b, 2, none⟩ = some v2 ∧ Y.cell? ⟨b, 3, none⟩ = some v3 ∧ (∀ b' o, b' ≠ b → Y.cell? ⟨b', o, none⟩ = X.cell? ⟨b', o, none⟩) := by
  obtain ⟨a0, a1, a2, a3⟩ := three_set (v0 := v0) (v1 := v1) (v2 := v2) h0 h1 h2
  refine ⟨(cell_set_other (by omega)).trans a0, (cell_set_other (by omega)).trans a1, (cell_set_other (by omega)).trans a2, ?_, fun b' o hb => ?_⟩
  · exact cell_set_same (by rw [cell_set_other (by omega), cell_set_other (by omega), cell_set_other (by omega)]; exact h3)
  · rw [cell_set_other (by omega)]; exact a3 b' o hb
theorem span_any (a b : Int) (w : World) : Calls Try.prog 39 #[.int .i64 a, .int .i64 b] w (Ret (.agg #[.int .i64 a, .int .i64 b]) w) := by
  go_enter Try.func39, Try.ntmps39
  go_wp2
  refine bodyPost_ret (v := .agg #[.int .i64 a, .int .i64 b]) (by simp [results, Try.results39, go_sem]) rfl ⟨rfl, ?_⟩
  exact (Keeps.refl _).alloc _
set_option maxHeartbeats 400000 in
theorem read_any (c a b : Int) (w : World) : Calls Try.prog 24 #[.int .i64 c, .int .i64 a, .int .i64 b] w (Ret (.agg #[.int .i64 c, .int .i64 a, .int .i64 b]) w) := by
  have H := Lib.hid (span_any a b)
  go_enter Try.func24, Try.ntmps24
  go_wp2_with fail
  refine (H.out _).mono ?_
  rintro e w1 ⟨rfl, k1⟩
  have hc1 := k1.cells
  have hz : w.heap.size < w1.heap.size := by have := k1.size; simp at this; omega
  have k2 := ((Keeps.refl w).alloc _).trans k1
  go_wp2_with fail
  have h0 : (w1.cell? ⟨w.heap.size, 0, none⟩).isSome = true := by rw [hc1.1 _ _ (by simp)]; simp [go_sem]
  have h1 : (w1.cell? ⟨w.heap.size, 1, none⟩).isSome = true := by rw [hc1.1 _ _ (by simp)]; simp [go_sem]
  have h2 : (w1.cell? ⟨w.heap.size, 2, none⟩).isSome = true := by rw [hc1.1 _ _ (by simp)]; simp [go_sem]
  obtain ⟨r0, r1, r2, _⟩ := three_set (v0 := .int .i64 c) (v1 := .int .i64 a) (v2 := .int .i64 b) h0 h1 h2
  refine bodyPost_ret (v := .agg #[.int .i64 c, .int .i64 a, .int .i64 b]) ?_ rfl ⟨rfl, ((k2.setCell _ (Nat.le_refl _)).setCell _ (Nat.le_refl _)).setCell _ (Nat.le_refl _)⟩
  simp [results, Try.results24, go_sem, r0, r1, r2]

theorem three_cells {W : World} {b : Nat} {u0 u1 u2 : Value} (h0 : W.cell? ⟨b, 0, none⟩ = some u0) (h1 : W.cell? ⟨b, 1, none⟩ = some u1) (h2 : W.cell? ⟨b, 2, none⟩ = some u2) : ∀ (j : Nat) (u : Value), [u0, u1, u2][j]? = some u → W.cell? ((⟨b, 0, none⟩ : Addr).add j) = some u := by
  intro j u hu
  match j, hu with
  | 0, hu => cases hu; exact h0
  | 1, hu => cases hu; exact h1
  | 2, hu => cases hu; exact h2
  | n + 3, hu => simp at hu
theorem four_facts {w w3 w4 : World} {o : Obj} {u0 u1 u2 u3 t0 t1 t2 : Value} (hz : w.heap.size + 1 < w3.heap.size) (hg : (w3.alloc o).grownBy w4 (some w3.heap.size)) (p0 : w3.cell? ⟨w.heap.size, 0, none⟩ = some u0) (p1 : w3.cell? ⟨w.heap.size, 1, none⟩ = some u1) (p2 : w3.cell? ⟨w.heap.size, 2, none⟩ = some u2) (p3 : w3.cell? ⟨w.heap.size, 3, none⟩ = some u3)
    (q0 : w3.cell? ⟨w.heap.size + 1, 0, none⟩ = some t0) (q1 : w3.cell? ⟨w.heap.size + 1, 1, none⟩ = some t1) (q2 : w3.cell? ⟨w.heap.size + 1, 2, none⟩ = some t2) (f : ∀ o, w3.frozen? ⟨w.heap.size, o, none⟩ = false) :
    w4.cell? ⟨w.heap.size, 0, none⟩ = some u0 ∧ w4.cell? ⟨w.heap.size, 1, none⟩ = some u1 ∧ w4.cell? ⟨w.heap.size, 2, none⟩ = some u2 ∧ w4.cell? ⟨w.heap.size, 3, none⟩ = some u3 ∧ w4.cell? ⟨w.heap.size + 1, 0, none⟩ = some t0 ∧ w4.cell? ⟨w.heap.size + 1, 1, none⟩ = some t1 ∧ w4.cell? ⟨w.heap.size + 1, 2, none⟩ = some t2 ∧ (∀ o, w4.frozen? ⟨w.heap.size, o, none⟩ = false) ∧ w.heap.size < w4.heap.size := by
  have ka := (Keeps.refl w3).alloc o
  have hc : ∀ b' o' u, b' < w3.heap.size → w3.cell? ⟨b', o', none⟩ = some u → w4.cell? ⟨b', o', none⟩ = some u := fun b' o' u hb h => hg.cell (ka.cell h) (by intro e; injection e with e; dsimp only at e; omega)
  refine ⟨hc _ _ _ (by omega) p0, hc _ _ _ (by omega) p1, hc _ _ _ (by omega) p2, hc _ _ _ (by omega) p3, hc _ _ _ hz q0, hc _ _ _ hz q1, hc _ _ _ hz q2, fun o' => ?_, by have := hg.size; simp at this; omega⟩
  rw [World.frozen?_of_block (hg.block w.heap.size (by simp; omega) (by intro e; injection e; omega)), ka.cells.2 _ _ (by omega)]
  exact f o'
theorem info_read : (Try.prog.info? 41).map (fun i => (i.zero, i.size, i.bytes)) = some (some (.agg #[.int .i64 0, .int .i64 0, .int .i64 0]), 3, 24) := by kernel_rfl
set_option maxHeartbeats 1600000 in
theorem sample_0 (w : World) : Calls Try.prog 21 #[.slice none 0 0] w fun e w' => ∃ wa ra rc, e = .returned (Fr.v ⟨wa, 3, [12, 20, 17], 100, 200, ra, rc, [(0, 10, 13), (1, 5, 8)]⟩) ∧ Fr.In ⟨wa, 3, [12, 20, 17], 100, 200, ra, rc, [(0, 10, 13), (1, 5, 8)]⟩ w' ∧ Keeps w w' := by
  have H1 := Lib.hid (fun w => span_any 100 200 w)
  have H2 := Lib.hid (fun w => read_any 0 10 13 w)
  have H3 := Lib.hid (fun w => read_any 1 5 8 w)
  go_enter Try.func21, Try.ntmps21
  go_wp2_with fail
  refine (H1.out _).mono ?_
  rintro e w1 ⟨rfl, k1⟩
  go_wp2_with fail
  refine (H2.out _).mono ?_
  rintro e w2 ⟨rfl, k2⟩
  go_wp2_with fail
  refine (H3.out _).mono ?_
  rintro e w3 ⟨rfl, k3⟩
  have k := (k1.trans k2).trans k3
  have kw := (((Keeps.refl w).alloc _).alloc _).trans k
  clear k1 k2 k3
  have hc := k.cells
  have hz : w.heap.size + 1 < w3.heap.size := by have := k.size; simp at this; omega
  have hz0 : w.heap.size < w3.heap.size := by omega
  have p0 : (w3.cell? ⟨w.heap.size, 0, none⟩) = some (.slice none 0 0) := k.cell (by simp [go_sem])
  have p1 : (w3.cell? ⟨w.heap.size, 1, none⟩) = some (.int .i64 0) := k.cell (by simp [go_sem])
  have p2 : (w3.cell? ⟨w.heap.size, 2, none⟩) = some (.int .i64 0) := k.cell (by simp [go_sem])
  have p3 : (w3.cell? ⟨w.heap.size, 3, none⟩) = some (.slice none 0 0) := k.cell (by simp [go_sem])
  have q0 : (w3.cell? ⟨w.heap.size + 1, 0, none⟩) = some (.int .i64 12) := k.cell (by simp [go_sem])
  have q1 : (w3.cell? ⟨w.heap.size + 1, 1, none⟩) = some (.int .i64 20) := k.cell (by simp [go_sem])
  have q2 : (w3.cell? ⟨w.heap.size + 1, 2, none⟩) = some (.int .i64 17) := k.cell (by simp [go_sem])
  have f0 : w3.frozen? ⟨w.heap.size, 0, none⟩ = false := by rw [hc.2 _ _ (by simp; omega)]; simp [go_sem]
  have f1 : w3.frozen? ⟨w.heap.size, 1, none⟩ = false := by rw [hc.2 _ _ (by simp; omega)]; simp [go_sem]
  have f2 : w3.frozen? ⟨w.heap.size, 2, none⟩ = false := by rw [hc.2 _ _ (by simp; omega)]; simp [go_sem]
  have f3 : w3.frozen? ⟨w.heap.size, 3, none⟩ = false := by rw [hc.2 _ _ (by simp; omega)]; simp [go_sem]
  clear hc H1 H2 H3
  go_wp2_with fail
  obtain ⟨r0, r1, r2, r3, ro⟩ := four_set (X := w3) (b := w.heap.size) (v0 := .slice (some ⟨w.heap.size + 1, 0, none⟩) 3 3) (v1 := .int .i64 100) (v2 := .int .i64 200) (v3 := .slice (some ⟨w3.heap.size, 0, none⟩) 2 2) (by rw [p0]; rfl) (by rw [p1]; rfl) (by rw [p2]; rfl) (by rw [p3]; rfl)
  have hYs : ((((w3.setCell ⟨w.heap.size, 0, none⟩ (.slice (some ⟨w.heap.size + 1, 0, none⟩) 3 3)).setCell ⟨w.heap.size, 1, none⟩ (.int .i64 100)).setCell ⟨w.heap.size, 2, none⟩ (.int .i64 200)).setCell ⟨w.heap.size, 3, none⟩ (.slice (some ⟨w3.heap.size, 0, none⟩) 2 2)).heap.size = w3.heap.size := by simp [World.setCell]
  have kY := (((kw.setCell (p := ⟨w.heap.size, 0, none⟩) (.slice (some ⟨w.heap.size + 1, 0, none⟩) 3 3) (Nat.le_refl _)).setCell (p := ⟨w.heap.size, 1, none⟩) (.int .i64 100) (Nat.le_refl _)).setCell (p := ⟨w.heap.size, 2, none⟩) (.int .i64 200) (Nat.le_refl _)).setCell (p := ⟨w.heap.size, 3, none⟩) (.slice (some ⟨w3.heap.size, 0, none⟩) 2 2) (Nat.le_refl _)
  have q0' := (ro (w.heap.size + 1) 0 (by omega)).trans q0
  have q1' := (ro (w.heap.size + 1) 1 (by omega)).trans q1
  have q2' := (ro (w.heap.size + 1) 2 (by omega)).trans q2
  obtain ⟨Y, hY⟩ : ∃ Y, (((w3.setCell ⟨w.heap.size, 0, none⟩ (.slice (some ⟨w.heap.size + 1, 0, none⟩) 3 3)).setCell ⟨w.heap.size, 1, none⟩ (.int .i64 100)).setCell ⟨w.heap.size, 2, none⟩ (.int .i64 200)).setCell ⟨w.heap.size, 3, none⟩ (.slice (some ⟨w3.heap.size, 0, none⟩) 2 2) = Y := ⟨_, rfl⟩
  rw [hY] at r0 r1 r2 r3 kY q0' q1' q2' hYs ⊢
  clear hY ro
  have kA := (Keeps.refl Y).alloc (.cells #[.int .i64 0, .int .i64 10, .int .i64 13, .int .i64 1, .int .i64 5, .int .i64 8] 41)
  have hrow := World.ownsRow_lit (base := 0) (e := 41) (size := 3) Y #[.int .i64 0, .int .i64 10, .int .i64 13, .int .i64 1, .int .i64 5, .int .i64 8] 2 (Nat.zero_le _) (by simp [maxLen]) rfl
  obtain ⟨a, cap, ha, hrd, _⟩ := Rds.of_owns (l := [(0, 10, 13), (1, 5, 8)]) hrow
  cases ha
  rw [hYs] at hrd
  have s0 := kA.cell r0
  have s1 := kA.cell r1
  have s2 := kA.cell r2
  have s3 := kA.cell r3
  refine bodyPost_ret (v := Fr.v ⟨some ⟨w.heap.size + 1, 0, none⟩, 3, [12, 20, 17], 100, 200, some ⟨w3.heap.size, 0, none⟩, 2, [(0, 10, 13), (1, 5, 8)]⟩) ?_ rfl ⟨_, _, _, rfl, ⟨fun _ => ⟨_, 0, rfl, fun i hi => ?_⟩, hrd, by simp [maxLen], by simp [maxLen]⟩, kY.alloc _⟩
  · simp [results, Try.results21, go_sem, s0, s1, s2, s3]
  · dsimp only at hi ⊢
    match i, hi with
    | 0, _ => exact kA.cell q0'
    | 1, _ => exact kA.cell q1'
    | 2, _ => exact kA.cell q2'
    | n + 3, h => exact absurd h (by simp)
set_option maxHeartbeats 1600000 in
theorem sample_1 (b : Nat) (c x y : Int) (w : World) (h0 : w.cell? ⟨b, 0, none⟩ = some (.int .i64 c)) (h1 : w.cell? ⟨b, 1, none⟩ = some (.int .i64 x)) (h2 : w.cell? ⟨b, 2, none⟩ = some (.int .i64 y)) : Calls Try.prog 21 #[.slice (some ⟨b, 0, none⟩) 1 1] w fun e w' => ∃ wa ra rc, e = .returned (Fr.v ⟨wa, 3, [12, 20, 17], 100, 200, ra, rc, [(0, 10, 13), (1, 5, 8), (c, x, y)]⟩) ∧ Fr.In ⟨wa, 3, [12, 20, 17], 100, 200, ra, rc, [(0, 10, 13), (1, 5, 8), (c, x, y)]⟩ w' ∧ Keeps w w' := by
  have H1 := Lib.hid (fun w => span_any 100 200 w)
  have H2 := Lib.hid (fun w => read_any 0 10 13 w)
  have H3 := Lib.hid (fun w => read_any 1 5 8 w)
  have hlb := lt_of_cell h0
  obtain ⟨i0, hi, hz0, hz1, hz2⟩ := info_parts info_read
  go_enter Try.func21, Try.ntmps21
  go_wp2_with fail
  refine (H1.out _).mono ?_
  rintro e w1 ⟨rfl, k1⟩
  go_wp2_with fail
  refine (H2.out _).mono ?_
  rintro e w2 ⟨rfl, k2⟩
  go_wp2_with fail
  refine (H3.out _).mono ?_
  rintro e w3 ⟨rfl, k3⟩
  have k := (k1.trans k2).trans k3
  have kw := (((Keeps.refl w).alloc _).alloc _).trans k
  clear k1 k2 k3
  have hc := k.cells
  have hz : w.heap.size + 1 < w3.heap.size := by have := k.size; simp at this; omega
  have hwz : w.heap.size < w3.heap.size := by omega
  have p0 : (w3.cell? ⟨w.heap.size, 0, none⟩) = some (.slice none 0 0) := k.cell (by simp [go_sem])
  have p1 : (w3.cell? ⟨w.heap.size, 1, none⟩) = some (.int .i64 0) := k.cell (by simp [go_sem])
  have p2 : (w3.cell? ⟨w.heap.size, 2, none⟩) = some (.int .i64 0) := k.cell (by simp [go_sem])
  have p3 : (w3.cell? ⟨w.heap.size, 3, none⟩) = some (.slice none 0 0) := k.cell (by simp [go_sem])
  have q0 : (w3.cell? ⟨w.heap.size + 1, 0, none⟩) = some (.int .i64 12) := k.cell (by simp [go_sem])
  have q1 : (w3.cell? ⟨w.heap.size + 1, 1, none⟩) = some (.int .i64 20) := k.cell (by simp [go_sem])
  have q2 : (w3.cell? ⟨w.heap.size + 1, 2, none⟩) = some (.int .i64 17) := k.cell (by simp [go_sem])
  have f0 : ∀ o, w3.frozen? ⟨w.heap.size, o, none⟩ = false := fun o => by rw [hc.2 _ _ (by simp; omega)]; simp [go_sem]
  have l0 := kw.cell h0
  have l1 := kw.cell h1
  have l2 := kw.cell h2
  have hlb3 := lt_of_cell l0
  have F0 := Lib.hid f0
  clear hc H1 H2 H3 f0 h0 h1 h2 hlb
  have hrow := World.ownsRow_lit (base := w3.heap.size) (e := 41) (size := 3) w3 #[.int .i64 0, .int .i64 10, .int .i64 13, .int .i64 1, .int .i64 5, .int .i64 8] 2 (Nat.le_refl _) (by simp [maxLen]) rfl
  have hcs := three_cells (W := w3.alloc (.cells #[.int .i64 0, .int .i64 10, .int .i64 13, .int .i64 1, .int .i64 5, .int .i64 8] 41)) (((Keeps.refl w3).alloc _).cell l0) (((Keeps.refl w3).alloc _).cell l1) (((Keeps.refl w3).alloc _).cell l2)
  have Hrow := Lib.hid hrow
  have Hcs := Lib.hid hcs
  clear hrow hcs
  go_wp2_with (at_builtin; refine wpList_append_own _ rfl _ _ 25 rfl w3.heap.size 41 i0 (.agg #[.int .i64 0, .int .i64 0, .int .i64 0]) 3 24 Try.underlying25 hi hz0 hz1 hz2 rfl (by decide) _ _ _ rfl Hrow.out ⟨b, 0, none⟩ 1 1 [.int .i64 c, .int .i64 x, .int .i64 y] rfl rfl Hcs.out (by simp [Value.oneCell']) (by simp [maxLen]) (by simp) (by simp) ?_; intro v' w4 hown' hgrow _; obtain ⟨g', cap', rfl⟩ := ownsRow_succ hown'; obtain ⟨p0', p1', p2', p3', q0', q1', q2', f', hz4⟩ := four_facts hz hgrow p0 p1 p2 p3 q0 q1 q2 F0.out)
  have hgrow' : (w3.alloc (.cells #[.int .i64 0, .int .i64 10, .int .i64 13, .int .i64 1, .int .i64 5, .int .i64 8] 41)).grownBy w4 (some w3.heap.size) := hgrow
  have k4 : Keeps w w4 := Below.grown (kw.alloc _) hgrow' (by simp; omega) (fun k e => by
    injection e with e
    omega)
  have hgb := ownsRow_base hown'
  obtain ⟨a, cap, ha, hrd, _⟩ := Rds.of_owns (l := [(0, 10, 13), (1, 5, 8), (c, x, y)]) hown'
  cases ha
  obtain ⟨r0, r1, r2, r3, ro⟩ := four_set (X := w4) (b := w.heap.size) (v0 := .slice (some ⟨w.heap.size + 1, 0, none⟩) 3 3) (v1 := .int .i64 100) (v2 := .int .i64 200) (v3 := .slice (some ⟨g', 0, none⟩) 3 cap') (by rw [p0']; rfl) (by rw [p1']; rfl) (by rw [p2']; rfl) (by rw [p3']; rfl)
  have kY := (((k4.setCell (p := ⟨w.heap.size, 0, none⟩) (.slice (some ⟨w.heap.size + 1, 0, none⟩) 3 3) (Nat.le_refl _)).setCell (p := ⟨w.heap.size, 1, none⟩) (.int .i64 100) (Nat.le_refl _)).setCell (p := ⟨w.heap.size, 2, none⟩) (.int .i64 200) (Nat.le_refl _)).setCell (p := ⟨w.heap.size, 3, none⟩) (.slice (some ⟨g', 0, none⟩) 3 cap') (Nat.le_refl _)
  have q0'' := (ro (w.heap.size + 1) 0 (by omega)).trans q0'
  have q1'' := (ro (w.heap.size + 1) 1 (by omega)).trans q1'
  have q2'' := (ro (w.heap.size + 1) 2 (by omega)).trans q2'
  have hrd' := hrd.of_eq (w' := (((w4.setCell ⟨w.heap.size, 0, none⟩ (.slice (some ⟨w.heap.size + 1, 0, none⟩) 3 3)).setCell ⟨w.heap.size, 1, none⟩ (.int .i64 100)).setCell ⟨w.heap.size, 2, none⟩ (.int .i64 200)).setCell ⟨w.heap.size, 3, none⟩ (.slice (some ⟨g', 0, none⟩) 3 cap')) (fun b o e o' => by cases e; exact ro g' o' (by omega))
  refine bodyPost_ret (v := Fr.v ⟨some ⟨w.heap.size + 1, 0, none⟩, 3, [12, 20, 17], 100, 200, some ⟨g', 0, none⟩, cap', [(0, 10, 13), (1, 5, 8), (c, x, y)]⟩) ?_ rfl ⟨_, _, _, rfl, ⟨fun _ => ⟨_, 0, rfl, fun i hi => ?_⟩, hrd', by simp [maxLen], by simp [maxLen]⟩, kY⟩
  · simp [results, Try.results21, go_sem, r0, r1, r2, r3]
  · dsimp only at hi ⊢
    match i, hi with
    | 0, _ => exact q0''
    | 1, _ => exact q1''
    | 2, _ => exact q2''
    | n + 3, h => exact absurd h (by simp)
end Go.Proofs.Ytoidnbpbeblokaa
