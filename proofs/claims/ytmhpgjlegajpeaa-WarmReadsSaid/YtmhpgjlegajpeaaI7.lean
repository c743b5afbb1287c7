/-
  The document's own package, of WARM: Length, Coeff.
-/
import Derived.Test.YtmhpgjlegajpeaaI6
namespace Go.Proofs.Ytmhpgjlegajpeaa
open Go.RowKit Go.Shelf
attribute [local go_sem] Oper.semAt_some

/-- What is known where pairs are told. -/
theorem told_facts (B : Wm) (bad : Int) (h : B.errA bad = 0) : B.toldL bad = B.truths ∧ B.truths ≠ [] ∧ B.truths.length ≤ 100 ∧ B.ok = true ∧ bad = 0 := by
  obtain ⟨h1, h2, h3⟩ := errA_ok h
  refine ⟨by rw [Wm.toldL, if_pos h], (fun e => by rw [e] at h3; cases h3), Nat.le_trans (List.length_filter_le _ _) (Wm.all_len (Wm.ok_lim h1)), h1, h2⟩
theorem take_map_succ {α β : Type} (f : α → β) (l : List α) (k : Nat) (h : k < l.length) : (l.map f).take (k + 1) = (l.map f).take k ++ [f (l[k]'h)] := by
  rw [take_one (by rw [List.length_map]; exact h), List.getElem_map]

set_option maxRecDepth 100000 in
set_option maxHeartbeats 3200000 in
theorem refLength_any (B : Wm) (w : World) (hI : B.In w) : Calls Try.prog 16 #[B.v] w (Ret (.tuple #[spV (B.lenA).1, .int .i64 (B.lenA).2]) w) := by
  obtain ⟨i0, hi0, hz0, hz1, hz2⟩ := info_parts info_i
  have TD := Lib.hid (fun w1 (k : Keeps w w1) => refTold_any B 0 true w1 (hI.keep k))
  rw [show badA 0 true = 0 by simp [badA]] at TD
  have hA : B.lenA = if B.errA 0 = 0 then ((loI (B.truths.map (fun p => p.1.1)), hiI (B.truths.map (fun p => p.1.1))), 0) else ((0, 0), B.errA 0) := say_err B 0 _ _
  have HTF := Lib.hid (told_facts B 0)
  have BX := Wm.Box.new B w
  rw [hA]
  obtain ⟨T, hT⟩ : ∃ T, B.truths = T := ⟨_, rfl⟩
  obtain ⟨E, hE⟩ : ∃ E, B.errA 0 = E := ⟨_, rfl⟩
  obtain ⟨L, hL⟩ : ∃ L, B.toldL 0 = L := ⟨_, rfl⟩
  rw [hT, hE, hL] at HTF
  rw [hE, hL] at TD
  rw [hT, hE]
  obtain ⟨mark, llo, lhi, clo, chi, ra, rc, rs⟩ := B
  dsimp only [Wm.v, spV] at *
  clear hI hA hT hE hL
  obtain ⟨W0, hW0⟩ : ∃ W, w.alloc (.cells #[.int .i64 mark, .int .i64 llo, .int .i64 lhi, .int .i64 clo, .int .i64 chi, .slice ra rs.length rc] 26) = W := ⟨_, rfl⟩
  rw [hW0] at BX
  have kB : Keeps w W0 := by rw [← hW0]; exact (Keeps.refl _).alloc _
  have hs0 : W0.heap.size = w.heap.size + 1 := by rw [← hW0]; simp
  obtain ⟨W, hW⟩ : ∃ W, W0.alloc (.cells #[.int .i64 0, .int .i64 0] 23) = W := ⟨_, rfl⟩
  have k0 : Keeps W0 W := by rw [← hW]; exact (Keeps.refl _).alloc _
  have hw1 : w.heap.size ≤ w.heap.size + 1 := Nat.le_succ _
  obtain ⟨b1, hb1⟩ : ∃ b, w.heap.size + 1 = b := ⟨_, rfl⟩
  have r0 : W.cell? ⟨b1, 0, none⟩ = some (.int .i64 0) := by rw [← hW, ← hb1, ← hs0]; simp [go_sem]
  have r1 : W.cell? ⟨b1, 1, none⟩ = some (.int .i64 0) := by rw [← hW, ← hb1, ← hs0]; simp [go_sem]
  have z0 : W.frozen? ⟨b1, 0, none⟩ = false := by rw [← hW, ← hb1, ← hs0]; simp [go_sem]
  have z1 : W.frozen? ⟨b1, 1, none⟩ = false := by rw [← hW, ← hb1, ← hs0]; simp [go_sem]
  obtain ⟨g0, g1, g2, g3, g4, g5⟩ := BX.keep k0
  dsimp only at g0 g1 g2 g3 g4 g5
  have kk := kB.trans k0
  have hl0 := lt_of_cell g0
  have hl1 := lt_of_cell r0
  by_cases hz : E = 0
  · obtain ⟨rfl, hne, hlen, hok, _⟩ := HTF.out hz
    rw [if_pos hz]
    subst hz
    obtain ⟨f, hf⟩ : ∃ f : Pr → Int, f = fun p => p.1.1 := ⟨_, rfl⟩
    rw [← hf]
    have HB := Lib.hid (show ∀ x ∈ L.map f, -30000 ≤ x ∧ x ≤ 30000 from fun x hx => by
      obtain ⟨p, _, rfl⟩ := List.mem_map.1 hx
      have := p.2
      rw [hf]
      dsimp only
      omega)
    have HNE := Lib.hid (show L.map f ≠ [] from fun e => hne (List.map_eq_nil_iff.1 e))
    have HTS := Lib.hid (fun k h => take_map_succ f L k h)
    have HYL := Lib.hid (show (L.map f).length = L.length from List.length_map _)
    have HGET := Lib.hid (fun w1 (a : Option Addr) (h : Prs w1 a L) => show ∃ b o, a = some ⟨b, o, none⟩ ∧ ∀ i (h : i < L.length), w1.cell? ⟨b, o + i * 2, none⟩ = some (.int .i64 (f (L[i]'h))) from by
      obtain ⟨b, o, e, hc⟩ := h hne
      exact ⟨b, o, e, fun i hi => by rw [hf]; exact (hc i hi).1⟩)
    obtain ⟨ys, hys⟩ : ∃ ys, L.map f = ys := ⟨_, rfl⟩
    rw [hys] at HB HNE HTS HYL ⊢
    clear hf hys HTF hne hok BX
    go_enter Try.func16, Try.ntmps16
    go_wp2_with fail
    refine (TD.out _ kk).mono ?_
    rintro e w1 ⟨⟨a, cap, rfl, hP⟩, k1⟩
    obtain ⟨b, o, rfl, hc⟩ := HGET.out w1 a hP
    have HC := Lib.hid hc
    clear hc hP HGET TD g0 g1 g2 g3 g4 g5 hl0
    go_wp2_with fail
    go_loopw [6, 7] (fun o i wr => ∃ k : Nat, k ≤ L.length ∧ i = .int .i64 k ∧ wr.ownsRow w1.heap.size 3 1 o k ((ys.take k).map (Value.int .i64)) ∧ Keeps w1 wr) (fun _ i _ => L.length - (intOf i).toNat)
    case atStart => exact ⟨0, Nat.zero_le _, rfl, World.ownsRow_nil _ _ _ _, Keeps.refl _⟩
    case round =>
      obtain ⟨k, hk, rfl, hown, kr⟩ := hrel
      have HO := Lib.hid hown
      have hszw := kr.size
      clear hown
      by_cases hlt : k < L.length
      · have c0 := kr.cell (HC.out k hlt)
        have HTK := Lib.hid (HTS.out k hlt)
        obtain ⟨y, hy⟩ : ∃ y, f (L[k]'hlt) = y := ⟨_, rfl⟩
        rw [hy] at c0 HTK
        have hlc := lt_of_cell c0
        clear hy
        go_wp2_with (at_builtin; refine wpList_append_own _ rfl _ _ 35 rfl w1.heap.size 3 i0 (.int .i64 0) 1 8 Try.underlying35 hi0 hz0 hz1 hz2 rfl (by decide) _ _ _ rfl (HO.out.alloc _) ⟨wr.heap.size, 0, none⟩ 1 1 [.int .i64 y] rfl rfl (by simp [go_sem]) (by simp [Value.oneCell']) (by unfold maxLen; omega) (by omega) (by simp; omega) ?_; intro v' w5 hown' hgrow _)
        have hk5 : Keeps w1 w5 := Below.grown (kr.alloc _) hgrow (by simp; omega) (fun j e => (HO.out.lt j e).1)
        clear hgrow c0
        have HO5 := Lib.hid hown'
        clear hown'
        go_wp2
        go_roundw
        case rel => exact ⟨k + 1, by omega, by go_num, by rw [HTK.out, List.map_append]; exact HO5.out, hk5⟩
        case measure => simp [intOf]; omega
      · obtain rfl : k = L.length := by omega
        have ho := HO.out
        rw [← HYL.out, List.take_length] at ho
        obtain ⟨ya, yc, rfl, hIL⟩ := ints_rowI ho
        have HU := Lib.hid (refHull_any ya yc ys wr hIL (by unfold maxLen; have := HYL.out; omega) HNE.out HB.out)
        have hyl := HYL.out
        rw [hyl] at HU ⊢
        have kw := k1.trans kr
        have hge : decide ((L.length : Int) < (L.length : Int)) = false := decide_eq_false (by omega)
        clear ho hIL HO
        go_wp2_with fail
        refine HU.out.mono ?_
        rintro e w2 ⟨rfl, k2⟩
        have kz := kw.trans k2
        have s0 := kz.cell r0
        have s1 := kz.cell r1
        have f0 := (kz.cells.2 _ _ (lt_of_cell r0)).trans z0
        have f1 := (kz.cells.2 _ _ (lt_of_cell r1)).trans z1
        have hls := lt_of_cell s0
        have h2 := (TwoI.set0 ⟨s0, s1, f0, f1⟩ (loI ys)).set1 (hiI ys)
        clear r0 r1 z0 z1
        go_wp2_with fail
        refine bodyPost_ret (v := .tuple #[.agg #[.int .i64 (loI ys), .int .i64 (hiI ys)], .int .i64 0]) ?_ rfl ⟨rfl, ((kk.trans kz).setCell (p := ⟨b1, 0, none⟩) _ (by dsimp only; omega)).setCell (p := ⟨b1, 1, none⟩) _ (by dsimp only; omega)⟩
        simp [results, Try.results16, go_sem, h2.c0, h2.c1]
  · rw [if_neg hz]
    have hzb : (E == 0) = false := by rw [beq_eq_false_iff_ne]; exact hz
    clear HTF BX
    go_enter Try.func16, Try.ntmps16
    go_wp2_with fail
    refine (TD.out _ kk).mono ?_
    rintro e w1 ⟨⟨a, cap, rfl, _⟩, k1⟩
    have s0 := k1.cell r0
    have s1 := k1.cell r1
    have f0 := (k1.cells.2 _ _ (lt_of_cell r0)).trans z0
    have f1 := (k1.cells.2 _ _ (lt_of_cell r1)).trans z1
    have hls := lt_of_cell s0
    have h2 := (TwoI.set0 ⟨s0, s1, f0, f1⟩ 0).set1 0
    clear r0 r1 z0 z1 TD
    go_wp2_with fail
    refine bodyPost_ret (v := .tuple #[.agg #[.int .i64 0, .int .i64 0], .int .i64 E]) ?_ rfl ⟨rfl, ((kk.trans k1).setCell (p := ⟨b1, 0, none⟩) _ (by dsimp only; omega)).setCell (p := ⟨b1, 1, none⟩) _ (by dsimp only; omega)⟩
    simp [results, Try.results16, go_sem, h2.c0, h2.c1]

set_option maxRecDepth 100000 in
set_option maxHeartbeats 3200000 in
theorem refCoeff_any (B : Wm) (w : World) (hI : B.In w) : Calls Try.prog 18 #[B.v] w (Ret (.tuple #[spV (B.coeffA).1, .int .i64 (B.coeffA).2]) w) := by
  obtain ⟨i0, hi0, hz0, hz1, hz2⟩ := info_parts info_i
  have TD := Lib.hid (fun w1 (k : Keeps w w1) => refTold_any B 0 true w1 (hI.keep k))
  rw [show badA 0 true = 0 by simp [badA]] at TD
  have hA : B.coeffA = if B.errA 0 = 0 then ((loI (B.truths.map (fun p => p.1.2)), hiI (B.truths.map (fun p => p.1.2))), 0) else ((0, 0), B.errA 0) := say_err B 0 _ _
  have HTF := Lib.hid (told_facts B 0)
  have BX := Wm.Box.new B w
  rw [hA]
  obtain ⟨T, hT⟩ : ∃ T, B.truths = T := ⟨_, rfl⟩
  obtain ⟨E, hE⟩ : ∃ E, B.errA 0 = E := ⟨_, rfl⟩
  obtain ⟨L, hL⟩ : ∃ L, B.toldL 0 = L := ⟨_, rfl⟩
  rw [hT, hE, hL] at HTF
  rw [hE, hL] at TD
  rw [hT, hE]
  obtain ⟨mark, llo, lhi, clo, chi, ra, rc, rs⟩ := B
  dsimp only [Wm.v, spV] at *
  clear hI hA hT hE hL
  obtain ⟨W0, hW0⟩ : ∃ W, w.alloc (.cells #[.int .i64 mark, .int .i64 llo, .int .i64 lhi, .int .i64 clo, .int .i64 chi, .slice ra rs.length rc] 26) = W := ⟨_, rfl⟩
  rw [hW0] at BX
  have kB : Keeps w W0 := by rw [← hW0]; exact (Keeps.refl _).alloc _
  have hs0 : W0.heap.size = w.heap.size + 1 := by rw [← hW0]; simp
  obtain ⟨W, hW⟩ : ∃ W, W0.alloc (.cells #[.int .i64 0, .int .i64 0] 23) = W := ⟨_, rfl⟩
  have k0 : Keeps W0 W := by rw [← hW]; exact (Keeps.refl _).alloc _
  have hw1 : w.heap.size ≤ w.heap.size + 1 := Nat.le_succ _
  obtain ⟨b1, hb1⟩ : ∃ b, w.heap.size + 1 = b := ⟨_, rfl⟩
  have r0 : W.cell? ⟨b1, 0, none⟩ = some (.int .i64 0) := by rw [← hW, ← hb1, ← hs0]; simp [go_sem]
  have r1 : W.cell? ⟨b1, 1, none⟩ = some (.int .i64 0) := by rw [← hW, ← hb1, ← hs0]; simp [go_sem]
  have z0 : W.frozen? ⟨b1, 0, none⟩ = false := by rw [← hW, ← hb1, ← hs0]; simp [go_sem]
  have z1 : W.frozen? ⟨b1, 1, none⟩ = false := by rw [← hW, ← hb1, ← hs0]; simp [go_sem]
  obtain ⟨g0, g1, g2, g3, g4, g5⟩ := BX.keep k0
  dsimp only at g0 g1 g2 g3 g4 g5
  have kk := kB.trans k0
  have hl0 := lt_of_cell g0
  have hl1 := lt_of_cell r0
  by_cases hz : E = 0
  · obtain ⟨rfl, hne, hlen, hok, _⟩ := HTF.out hz
    rw [if_pos hz]
    subst hz
    obtain ⟨f, hf⟩ : ∃ f : Pr → Int, f = fun p => p.1.2 := ⟨_, rfl⟩
    rw [← hf]
    have HB := Lib.hid (show ∀ x ∈ L.map f, -30000 ≤ x ∧ x ≤ 30000 from fun x hx => by
      obtain ⟨p, _, rfl⟩ := List.mem_map.1 hx
      have := p.2
      rw [hf]
      dsimp only
      omega)
    have HNE := Lib.hid (show L.map f ≠ [] from fun e => hne (List.map_eq_nil_iff.1 e))
    have HTS := Lib.hid (fun k h => take_map_succ f L k h)
    have HYL := Lib.hid (show (L.map f).length = L.length from List.length_map _)
    have HGET := Lib.hid (fun w1 (a : Option Addr) (h : Prs w1 a L) => show ∃ b o, a = some ⟨b, o, none⟩ ∧ ∀ i (h : i < L.length), w1.cell? ⟨b, o + i * 2 + 1, none⟩ = some (.int .i64 (f (L[i]'h))) from by
      obtain ⟨b, o, e, hc⟩ := h hne
      exact ⟨b, o, e, fun i hi => by rw [hf]; exact (hc i hi).2⟩)
    obtain ⟨ys, hys⟩ : ∃ ys, L.map f = ys := ⟨_, rfl⟩
    rw [hys] at HB HNE HTS HYL ⊢
    clear hf hys HTF hne hok BX
    go_enter Try.func18, Try.ntmps18
    go_wp2_with fail
    refine (TD.out _ kk).mono ?_
    rintro e w1 ⟨⟨a, cap, rfl, hP⟩, k1⟩
    obtain ⟨b, o, rfl, hc⟩ := HGET.out w1 a hP
    have HC := Lib.hid hc
    clear hc hP HGET TD g0 g1 g2 g3 g4 g5 hl0
    go_wp2_with fail
    go_loopw [6, 7] (fun o i wr => ∃ k : Nat, k ≤ L.length ∧ i = .int .i64 k ∧ wr.ownsRow w1.heap.size 3 1 o k ((ys.take k).map (Value.int .i64)) ∧ Keeps w1 wr) (fun _ i _ => L.length - (intOf i).toNat)
    case atStart => exact ⟨0, Nat.zero_le _, rfl, World.ownsRow_nil _ _ _ _, Keeps.refl _⟩
    case round =>
      obtain ⟨k, hk, rfl, hown, kr⟩ := hrel
      have HO := Lib.hid hown
      have hszw := kr.size
      clear hown
      by_cases hlt : k < L.length
      · have c0 := kr.cell (HC.out k hlt)
        have HTK := Lib.hid (HTS.out k hlt)
        obtain ⟨y, hy⟩ : ∃ y, f (L[k]'hlt) = y := ⟨_, rfl⟩
        rw [hy] at c0 HTK
        have hlc := lt_of_cell c0
        clear hy
        go_wp2_with (at_builtin; refine wpList_append_own _ rfl _ _ 35 rfl w1.heap.size 3 i0 (.int .i64 0) 1 8 Try.underlying35 hi0 hz0 hz1 hz2 rfl (by decide) _ _ _ rfl (HO.out.alloc _) ⟨wr.heap.size, 0, none⟩ 1 1 [.int .i64 y] rfl rfl (by simp [go_sem]) (by simp [Value.oneCell']) (by unfold maxLen; omega) (by omega) (by simp; omega) ?_; intro v' w5 hown' hgrow _)
        have hk5 : Keeps w1 w5 := Below.grown (kr.alloc _) hgrow (by simp; omega) (fun j e => (HO.out.lt j e).1)
        clear hgrow c0
        have HO5 := Lib.hid hown'
        clear hown'
        go_wp2
        go_roundw
        case rel => exact ⟨k + 1, by omega, by go_num, by rw [HTK.out, List.map_append]; exact HO5.out, hk5⟩
        case measure => simp [intOf]; omega
      · obtain rfl : k = L.length := by omega
        have ho := HO.out
        rw [← HYL.out, List.take_length] at ho
        obtain ⟨ya, yc, rfl, hIL⟩ := ints_rowI ho
        have HU := Lib.hid (refHull_any ya yc ys wr hIL (by unfold maxLen; have := HYL.out; omega) HNE.out HB.out)
        have hyl := HYL.out
        rw [hyl] at HU ⊢
        have kw := k1.trans kr
        have hge : decide ((L.length : Int) < (L.length : Int)) = false := decide_eq_false (by omega)
        clear ho hIL HO
        go_wp2_with fail
        refine HU.out.mono ?_
        rintro e w2 ⟨rfl, k2⟩
        have kz := kw.trans k2
        have s0 := kz.cell r0
        have s1 := kz.cell r1
        have f0 := (kz.cells.2 _ _ (lt_of_cell r0)).trans z0
        have f1 := (kz.cells.2 _ _ (lt_of_cell r1)).trans z1
        have hls := lt_of_cell s0
        have h2 := (TwoI.set0 ⟨s0, s1, f0, f1⟩ (loI ys)).set1 (hiI ys)
        clear r0 r1 z0 z1
        go_wp2_with fail
        refine bodyPost_ret (v := .tuple #[.agg #[.int .i64 (loI ys), .int .i64 (hiI ys)], .int .i64 0]) ?_ rfl ⟨rfl, ((kk.trans kz).setCell (p := ⟨b1, 0, none⟩) _ (by dsimp only; omega)).setCell (p := ⟨b1, 1, none⟩) _ (by dsimp only; omega)⟩
        simp [results, Try.results18, go_sem, h2.c0, h2.c1]
  · rw [if_neg hz]
    have hzb : (E == 0) = false := by rw [beq_eq_false_iff_ne]; exact hz
    clear HTF BX
    go_enter Try.func18, Try.ntmps18
    go_wp2_with fail
    refine (TD.out _ kk).mono ?_
    rintro e w1 ⟨⟨a, cap, rfl, _⟩, k1⟩
    have s0 := k1.cell r0
    have s1 := k1.cell r1
    have f0 := (k1.cells.2 _ _ (lt_of_cell r0)).trans z0
    have f1 := (k1.cells.2 _ _ (lt_of_cell r1)).trans z1
    have hls := lt_of_cell s0
    have h2 := (TwoI.set0 ⟨s0, s1, f0, f1⟩ 0).set1 0
    clear r0 r1 z0 z1 TD
    go_wp2_with fail
    refine bodyPost_ret (v := .tuple #[.agg #[.int .i64 0, .int .i64 0], .int .i64 E]) ?_ rfl ⟨rfl, ((kk.trans k1).setCell (p := ⟨b1, 0, none⟩) _ (by dsimp only; omega)).setCell (p := ⟨b1, 1, none⟩) _ (by dsimp only; omega)⟩
    simp [results, Try.results18, go_sem, h2.c0, h2.c1]
end Go.Proofs.Ytmhpgjlegajpeaa
