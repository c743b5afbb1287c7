/-
  law.with: a fringe with a reading more.
-/
import Derived.Test.YtoidnbpbeblokaaYg
import Derived.Deep.RegionLaw
import Derived.Deep.RegionHeld3
import Derived.Laws.OwnMore
namespace Go.Proofs.Ytoidnbpbeblokaa
open Go.RowKit Go.Shelf

theorem grownBy_refl (w : World) (row : Option Nat) : w.grownBy w row := ⟨rfl, rfl, rfl, Nat.le_refl _, fun _ _ _ => rfl⟩
theorem rdCells_one (l : List Rd) : ∀ u ∈ rdCells l, u.oneCell' = true := by
  intro u hu
  obtain ⟨r, _, h⟩ := List.mem_flatMap.1 hu
  simp at h
  rcases h with rfl | rfl | rfl <;> rfl
theorem rdCells_length (l : List Rd) : (rdCells l).length = l.length * 3 := by
  induction l with
  | nil => rfl
  | cons s l ih =>
    have e : rdCells (s :: l) = .int .i64 s.1 :: .int .i64 s.2.1 :: .int .i64 s.2.2 :: rdCells l := rfl
    rw [e]; simp [ih]; omega
theorem rdCells_news {w : World} {b o : Nat} {rs : List Rd} (hc : ∀ i, i < rs.length → w.cell? ⟨b, o + i * 3, none⟩ = some (.int .i64 (rs[i]?.getD (0, 0, 0)).1) ∧
    w.cell? ⟨b, o + i * 3 + 1, none⟩ = some (.int .i64 (rs[i]?.getD (0, 0, 0)).2.1) ∧ w.cell? ⟨b, o + i * 3 + 2, none⟩ = some (.int .i64 (rs[i]?.getD (0, 0, 0)).2.2)) :
    ∀ j u, (rdCells rs)[j]? = some u → w.cell? ((⟨b, o, none⟩ : Addr).add j) = some u := by
  intro j u hu
  have hadd : (⟨b, o, none⟩ : Addr).add j = ⟨b, o + j, none⟩ := by unfold Addr.add; split <;> simp_all
  rw [hadd]
  have hj : j < (rdCells rs).length := (List.getElem?_eq_some_iff.1 hu).1
  rw [rdCells_length] at hj
  have hi : j / 3 < rs.length := by omega
  obtain ⟨h0, h1, h2⟩ := rdCells_at rs (j / 3) hi
  obtain ⟨c0, c1, c2⟩ := hc (j / 3) hi
  have hm : j % 3 < 3 := Nat.mod_lt _ (by omega)
  rcases Nat.lt_or_ge (j % 3) 1 with h | h
  · have e : j / 3 * 3 = j := by omega
    rw [e] at h0 c0
    rw [c0, ← h0, hu]
  · rcases Nat.lt_or_ge (j % 3) 2 with h' | h'
    · have e : j / 3 * 3 + 1 = j := by omega
      rw [Nat.add_assoc] at c1
      rw [e] at h1 c1
      rw [c1, ← h1, hu]
    · have e : j / 3 * 3 + 2 = j := by omega
      rw [Nat.add_assoc] at c2
      rw [e] at h2 c2
      rw [c2, ← h2, hu]

/-- The row v is grown to v', which holds xs. -/
def Grew (base : Nat) (v : Value) (n : Nat) (xs : List Value) (w : World) (v' : Value) (w' : World) : Prop := w'.ownsRow base 41 3 v' n xs ∧ w.grownBy w' v.ownBlock
theorem Grew.keeps {W w w' : World} {v v' : Value} {n n' : Nat} {xs xs' : List Value} (h : Grew W.heap.size v n' xs' w v' w') (ho : w.ownsRow W.heap.size 41 3 v n xs) (k : Keeps W w) : Keeps W w' :=
  Below.grown k h.2 k.size (fun b e => (ho.lt b e).1)
theorem Grew.row {base : Nat} {v v' : Value} {w w' : World} {rs : List Rd} {r : Rd} (h : Grew base v (0 + rs.length + [r].length) ([] ++ rdCells rs ++ rdCells [r]) w v' w') :
    ∃ a cap, v' = .slice a (rs ++ [r]).length cap ∧ Rds w' a (rs ++ [r]) ∧ ∀ b o, a = some ⟨b, o, none⟩ → base ≤ b := by
  refine Rds.of_owns (l := rs ++ [r]) ?_
  have h1 := h.1
  rw [List.nil_append, ← rdCells_append, Nat.zero_add, ← List.length_append] at h1
  exact h1
theorem lit_rds (X : World) (c p q : Int) : Rds (X.alloc (.cells #[.int .i64 c, .int .i64 p, .int .i64 q] 41)) (some ⟨X.heap.size, 0, none⟩) [(c, p, q)] := by
  intro _
  refine ⟨_, _, rfl, fun i hi => ?_⟩
  obtain rfl : i = 0 := by simpa using hi
  exact ⟨by simp [go_sem], by simp [go_sem], by simp [go_sem]⟩
theorem Grew.lit {w w' : World} {base b : Nat} {v v' : Value} {n : Nat} {xs : List Value} {l : List Rd} (g : Grew base v n xs w v' w') (h : Rds w (some ⟨b, 0, none⟩) l) (hne : some b ≠ v.ownBlock) (hb : b < w.heap.size) : Rds w' (some ⟨b, 0, none⟩) l :=
  h.of_eq (fun b' o e o' => by cases e; exact World.cell?_of_block (g.2.block b hb hne))
/-- Readings appended to a row of the call's own, whatever they lie in. -/
theorem append_reads (w : World) (base : Nat) (ty : TypeId) (v : Value) (n : Nat) (xs : List Value) (hown : w.ownsRow base 41 3 v n xs) (ra : Option Addr) (rc : Nat) (rs : List Rd) (hr : Rds w ra rs) (hn : n + rs.length ≤ 100) (hbase : base ≤ w.heap.size) :
    ∃ v' w', (Builtin.append_ #[25, 25] ty #[v, .slice ra rs.length rc]).run Try.prog w = .ok v' w' ∧ Grew base v (n + rs.length) (xs ++ rdCells rs) w v' w' := by
  obtain ⟨i0, hi, hz0, hz1, hz2⟩ := info_parts info_read
  have own := fun (a : Addr) (hnews : ∀ j u, (rdCells rs)[j]? = some u → w.cell? (a.add j) = some u) => run_append_own (P := Try.prog) w base 25 ty 41 i0 (.agg #[.int .i64 0, .int .i64 0, .int .i64 0]) 3 24 Try.underlying25 hi hz0 hz1 hz2 rfl (by decide) v n xs hown a rs.length rc (rdCells rs) (rdCells_length rs) hnews (rdCells_one rs) (by unfold maxLen; omega) (by omega) hbase
  by_cases hne : rs = []
  · subst hne
    cases ra with
    | some a =>
      obtain ⟨v', w', h1, h2, h3, _⟩ := own a (fun j u hu => by simp [rdCells] at hu)
      exact ⟨v', w', h1, ⟨h2, h3⟩⟩
    | none =>
      refine ⟨v, w, ?_, ⟨by simpa [rdCells] using hown, grownBy_refl w _⟩⟩
      rcases hown.2 with ⟨rfl, rfl⟩ | ⟨g, cap, cur, rfl, _, _, hnc, _⟩
      · simp [Builtin.append_, run_underlying Try.underlying25, sizeOf, typeInfo, hi, Builtin.lenOf, Builtin.firstCells]
      · simp [Builtin.append_, run_underlying Try.underlying25, sizeOf, typeInfo, hi, Builtin.lenOf, Builtin.firstCells, hnc, storeCells]
  · obtain ⟨b, o, rfl, hc⟩ := hr hne
    obtain ⟨v', w', h1, h2, h3, _⟩ := own ⟨b, o, none⟩ (rdCells_news hc)
    exact ⟨v', w', h1, ⟨h2, h3⟩⟩

/-- An append at a step of a region that draws its order, by its run. -/
theorem step_append_run {P : Program} {w : World} {ops : Array Oper} {o : Oper} {a : Act} {K : Act → World → Prop} {Q : Exit → Act → World → Prop} {E : Prop} (hgd : o.guard = none) (s x : Operand) (t : TypeId)
    (ho : o.op = .call { callee := .builtin .append, args := #[s, x], argTypes := #[t, t] }) (v u : Value) (hs : a.eval s = v) (hx : a.eval x = u) (R : Value → World → Prop)
    (hr : ∃ v' w', (Builtin.append_ #[t, t] o.type #[v, u]).run P w = .ok v' w' ∧ R v' w')
    (h : ∀ v' w', R v' w' → K (a.put o.dst v') w') : if Region.wanted o (yielded ops a.tmps) = true then Oper.wp P o a w K Q else E := by
  have hw : Region.wanted o (yielded ops a.tmps) = true := by simp [Region.wanted, hgd]
  rw [if_pos hw]
  obtain ⟨v', w', hr, hR⟩ := hr
  unfold Oper.wp execOp
  simp only [ho, resolve, invoke, builtin, Sem.run_bind, Sem.run_pure, Result.andThen_ok, List.map_toArray, List.map_cons, List.map_nil, hs, hx, hr]
  exact h v' w' hR

set_option maxRecDepth 100000 in
set_option maxHeartbeats 1600000 in
theorem with_fresh (F : Fr) (r : Rd) (w : World) (hI : F.In w) (hlen : F.rs.length ≤ 6) : Calls Try.prog 32 #[F.v, .agg #[.int .i64 r.1, .int .i64 r.2.1, .int .i64 r.2.2]] w fun e w' => ∃ ra rc, e = .returned (Fr.v ⟨F.wa, F.wc, F.ws, F.lo, F.hi, ra, rc, F.rs ++ [r]⟩) ∧ Fr.In ⟨F.wa, F.wc, F.ws, F.lo, F.hi, ra, rc, F.rs ++ [r]⟩ w' ∧ (∀ b o, ra = some ⟨b, o, none⟩ → w.heap.size ≤ b) ∧ Keeps w w' := by
  obtain ⟨wa, wc, ws, lo, hi, ra, rc, rs⟩ := F
  obtain ⟨c, p, q⟩ := r
  obtain ⟨hi1, hi2, hl1, hl2⟩ := hI
  dsimp only [Fr.v] at *
  go_enter Try.func32, Try.ntmps32
  go_wp2_with fail
  have hB := Fr.Box.new ⟨wa, wc, ws, lo, hi, ra, rc, rs⟩ w
  obtain ⟨g0, g1, g2, g3⟩ := hB
  dsimp only at g0 g1 g2 g3
  obtain ⟨W, hW⟩ : ∃ W, ((w.alloc (.cells #[.slice wa ws.length wc, .int .i64 lo, .int .i64 hi, .slice ra rs.length rc] 27)).alloc (.cells #[.int .i64 c, .int .i64 p, .int .i64 q] 41)).alloc (.cells #[.slice none 0 0, .int .i64 0, .int .i64 0, .slice none 0 0] 27) = W := ⟨_, rfl⟩
  have hkW : Keeps w W := hW ▸ (((Keeps.refl w).alloc _).alloc _).alloc _
  rw [hW]
  have HS := Lib.hid (fun (w' : World) (kk : Keeps W w') => show w'.cell? ⟨w.heap.size + 1, 0, none⟩ = some (.int .i64 c) ∧ w'.cell? ⟨w.heap.size + 1, 1, none⟩ = some (.int .i64 p) ∧ w'.cell? ⟨w.heap.size + 1, 2, none⟩ = some (.int .i64 q) from ⟨kk.cell (by subst hW; simp [go_sem]), kk.cell (by subst hW; simp [go_sem]), kk.cell (by subst hW; simp [go_sem])⟩)
  have HT := Lib.hid (fun (X : World) (v : Value) (kk : Keeps W X) => show (fun w' : World => w'.cell? ⟨w.heap.size + 1, 0, none⟩ = some (.int .i64 c) ∧ w'.cell? ⟨w.heap.size + 1, 1, none⟩ = some (.int .i64 p) ∧ w'.cell? ⟨w.heap.size + 1, 2, none⟩ = some (.int .i64 q)) (X.setCell ⟨w.heap.size, 3, none⟩ v) from ⟨(cell_set_other (by omega)).trans (HS.out X kk).1, (cell_set_other (by omega)).trans (HS.out X kk).2.1, (cell_set_other (by omega)).trans (HS.out X kk).2.2⟩)
  have AR := Lib.hid (fun w1 v (kk : Keeps W w1) (ho : w1.ownsRow W.heap.size 41 3 v 0 []) => append_reads w1 W.heap.size 25 v 0 [] ho ra rc rs (hi2.keep (hkW.trans kk)) (by omega) kk.size)
  have AQ := Lib.hid (fun w1 v b (kk : Keeps W w1) (ho : w1.ownsRow W.heap.size 41 3 v (0 + rs.length) ([] ++ rdCells rs)) (hr : Rds w1 (some ⟨b, 0, none⟩) [(c, p, q)]) => append_reads w1 W.heap.size 25 v (0 + rs.length) ([] ++ rdCells rs) ho (some ⟨b, 0, none⟩) 1 [(c, p, q)] hr (by simp; omega) kk.size)
  have OW := Lib.hid (World.ownsRow_made (base := W.heap.size) (e := 41) (size := 3) W #[] 0 (Nat.le_refl _) (Nat.zero_le _) rfl)
  have W3 : W.cell? ⟨w.heap.size, 3, none⟩ = some (.slice ra rs.length rc) := by subst hW; simp [go_sem]
  have F3 : W.frozen? ⟨w.heap.size, 3, none⟩ = false := by subst hW; simp [go_sem]
  have hWl : w.heap.size < W.heap.size := lt_of_cell W3
  have W0 : W.cell? ⟨w.heap.size, 0, none⟩ = some (.slice wa ws.length wc) := by subst hW; simp [go_sem]
  have W1 : W.cell? ⟨w.heap.size, 1, none⟩ = some (.int .i64 lo) := by subst hW; simp [go_sem]
  have W2 : W.cell? ⟨w.heap.size, 2, none⟩ = some (.int .i64 hi) := by subst hW; simp [go_sem]
  have U0 : W.cell? ⟨w.heap.size + 1 + 1, 0, none⟩ = some (.slice none 0 0) := by subst hW; simp [go_sem]
  have U1 : W.cell? ⟨w.heap.size + 1 + 1, 1, none⟩ = some (.int .i64 0) := by subst hW; simp [go_sem]
  have U2 : W.cell? ⟨w.heap.size + 1 + 1, 2, none⟩ = some (.int .i64 0) := by subst hW; simp [go_sem]
  have U3 : W.cell? ⟨w.heap.size + 1 + 1, 3, none⟩ = some (.slice none 0 0) := by subst hW; simp [go_sem]
  have FU : ∀ o, W.frozen? ⟨w.heap.size + 1 + 1, o, none⟩ = false := fun o => by subst hW; simp [go_sem]
  have hWl2 : w.heap.size + 1 + 1 < W.heap.size := lt_of_cell U0
  have OB := Lib.hid (show ((W.alloc (.cells #[] 41)).drew.alloc (.cells #[.int .i64 c, .int .i64 p, .int .i64 q] 41)).ownsRow W.heap.size 41 3 (.slice (some ⟨W.heap.size, 0, none⟩) 0 0) 0 [] from World.ownsRow.alloc (w := (W.alloc (.cells #[] 41)).drew) OW.out _)
  have OC := Lib.hid (show ((W.alloc (.cells #[.int .i64 c, .int .i64 p, .int .i64 q] 41)).alloc (.cells #[] 41)).ownsRow W.heap.size 41 3 (.slice (some ⟨W.heap.size + 1, 0, none⟩) 0 0) 0 [] from by
    have h := World.ownsRow_made (base := W.heap.size) (e := 41) (size := 3) (W.alloc (.cells #[.int .i64 c, .int .i64 p, .int .i64 q] 41)) #[] 0 (by simp) (Nat.zero_le _) rfl
    simpa using h)
  have LB := Lib.hid (show Rds ((W.alloc (.cells #[] 41)).drew.alloc (.cells #[.int .i64 c, .int .i64 p, .int .i64 q] 41)) (some ⟨W.heap.size + 1, 0, none⟩) [(c, p, q)] from by
    have h := lit_rds (W.alloc (.cells #[] 41)).drew c p q
    simpa using h)
  have LC := Lib.hid (show Rds ((W.alloc (.cells #[.int .i64 c, .int .i64 p, .int .i64 q] 41)).alloc (.cells #[] 41)) (some ⟨W.heap.size, 0, none⟩) [(c, p, q)] from (lit_rds W c p q).keep ((Keeps.refl _).alloc _))
  have D0 : W.cell? ⟨w.heap.size + 1, 0, none⟩ = some (.int .i64 c) := (HS.out W (Keeps.refl W)).1
  have D1 : W.cell? ⟨w.heap.size + 1, 1, none⟩ = some (.int .i64 p) := (HS.out W (Keeps.refl W)).2.1
  have D2 : W.cell? ⟨w.heap.size + 1, 2, none⟩ = some (.int .i64 q) := (HS.out W (Keeps.refl W)).2.2
  have DL : w.heap.size + 1 < W.heap.size := lt_of_cell D0
  go_region_law (first
      | (refine step_append_run (by rfl) (.tmp 5) (.tmp 7) 25 (by rfl) (.slice (some ⟨W.heap.size, 0, none⟩) 0 0) (.slice ra rs.length rc) (by simp [Act.eval]) (by simp [Act.eval]) _ (AR.out _ _ (by repeat' first | exact Keeps.refl W | apply Keeps.alloc | apply Keeps.drew) (by exact OW.out)) ?_; intro v1 w1 hgr; have k1 := hgr.keeps (by exact OW.out) (by repeat' first | exact Keeps.refl W | apply Keeps.alloc | apply Keeps.drew); have d0 := k1.cell D0; have d1 := k1.cell D1; have d2 := k1.cell D2; have dl := lt_of_cell d0)
      | (refine step_append_run (by rfl) (.tmp 5) (.tmp 7) 25 (by rfl) (.slice (some ⟨W.heap.size, 0, none⟩) 0 0) (.slice ra rs.length rc) (by simp [Act.eval]) (by simp [Act.eval]) _ (AR.out _ _ (by repeat' first | exact Keeps.refl W | apply Keeps.alloc | apply Keeps.drew) (by exact OB.out)) ?_; intro v1 w1 hgr; have k1 := hgr.keeps (by exact OB.out) (by repeat' first | exact Keeps.refl W | apply Keeps.alloc | apply Keeps.drew); have d0 := k1.cell D0; have d1 := k1.cell D1; have d2 := k1.cell D2; have dl := lt_of_cell d0; have hr1 : Rds w1 (some ⟨W.heap.size + 1, 0, none⟩) [(c, p, q)] := hgr.lit (by exact LB.out) (by simp [Value.ownBlock]) (by simp))
      | (refine step_append_run (by rfl) (.tmp 5) (.tmp 7) 25 (by rfl) (.slice (some ⟨W.heap.size + 1, 0, none⟩) 0 0) (.slice ra rs.length rc) (by simp [Act.eval]) (by simp [Act.eval]) _ (AR.out _ _ (by repeat' first | exact Keeps.refl W | apply Keeps.alloc | apply Keeps.drew) (by exact OC.out)) ?_; intro v1 w1 hgr; have k1 := hgr.keeps (by exact OC.out) (by repeat' first | exact Keeps.refl W | apply Keeps.alloc | apply Keeps.drew); have d0 := k1.cell D0; have d1 := k1.cell D1; have d2 := k1.cell D2; have dl := lt_of_cell d0; have hr1 : Rds w1 (some ⟨W.heap.size, 0, none⟩) [(c, p, q)] := hgr.lit (by exact LC.out) (by simp [Value.ownBlock]) (by simp; omega))
      | (refine step_append_run (by rfl) (.tmp 8) (.tmp 10) 25 (by rfl) v1 (.slice (some ⟨w1.heap.size, 0, none⟩) 1 1) (by simp [Act.eval]) (by simp [Act.eval]) _ (AQ.out _ _ _ (by repeat' first | exact Keeps.refl W | exact k1 | apply Keeps.alloc | apply Keeps.drew) (by exact hgr.1.alloc _) (by exact lit_rds w1 c p q)) ?_; intro v2 w2 hgr2; have k2 := hgr2.keeps (by exact hgr.1.alloc _) (by repeat' first | exact Keeps.refl W | exact k1 | apply Keeps.alloc | apply Keeps.drew); have hc2 := k2.cell W3; have hf2 := (k2.cells.2 _ 3 hWl).trans F3; have hl2' := lt_of_cell hc2; obtain ⟨ra2, rc2, rfl, hrd2, hfr2⟩ := hgr2.row)
      | (refine step_append_run (by rfl) (.tmp 8) (.tmp 10) 25 (by rfl) v1 (.slice (some ⟨W.heap.size + 1, 0, none⟩) 1 1) (by simp [Act.eval]) (by simp [Act.eval]) _ (AQ.out _ _ _ (by repeat' first | exact Keeps.refl W | exact k1 | apply Keeps.alloc | apply Keeps.drew) (by exact hgr.1) (by exact hr1)) ?_; intro v2 w2 hgr2; have k2 := hgr2.keeps (by exact hgr.1) (by repeat' first | exact Keeps.refl W | exact k1 | apply Keeps.alloc | apply Keeps.drew); have hc2 := k2.cell W3; have hf2 := (k2.cells.2 _ 3 hWl).trans F3; have hl2' := lt_of_cell hc2; obtain ⟨ra2, rc2, rfl, hrd2, hfr2⟩ := hgr2.row)
      | (refine step_append_run (by rfl) (.tmp 8) (.tmp 10) 25 (by rfl) v1 (.slice (some ⟨W.heap.size, 0, none⟩) 1 1) (by simp [Act.eval]) (by simp [Act.eval]) _ (AQ.out _ _ _ (by repeat' first | exact Keeps.refl W | exact k1 | apply Keeps.alloc | apply Keeps.drew) (by exact hgr.1) (by exact hr1)) ?_; intro v2 w2 hgr2; have k2 := hgr2.keeps (by exact hgr.1) (by repeat' first | exact Keeps.refl W | exact k1 | apply Keeps.alloc | apply Keeps.drew); have hc2 := k2.cell W3; have hf2 := (k2.cells.2 _ 3 hWl).trans F3; have hl2' := lt_of_cell hc2; obtain ⟨ra2, rc2, rfl, hrd2, hfr2⟩ := hgr2.row)
      | fail)
  all_goals
    clear AR AQ OW OB OC LB LC HS HT hgr hgr2
    have kY := (hkW.trans k2).setCell (p := ⟨w.heap.size, 3, none⟩) (.slice ra2 (rs.length + 1) rc2) (Nat.le_refl _)
    have y0 := (cell_set_other (w := w2) (b := w.heap.size) (o := 3) (v := .slice ra2 (rs.length + 1) rc2) (b' := w.heap.size) (o' := 0) (by omega)).trans (k2.cell W0)
    have y1 := (cell_set_other (w := w2) (b := w.heap.size) (o := 3) (v := .slice ra2 (rs.length + 1) rc2) (b' := w.heap.size) (o' := 1) (by omega)).trans (k2.cell W1)
    have y2 := (cell_set_other (w := w2) (b := w.heap.size) (o := 3) (v := .slice ra2 (rs.length + 1) rc2) (b' := w.heap.size) (o' := 2) (by omega)).trans (k2.cell W2)
    have y3 := cell_set_same (w := w2) (p := ⟨w.heap.size, 3, none⟩) (v := .slice ra2 (rs.length + 1) rc2) (by rw [hc2]; rfl)
    have yo : ∀ b o', b ≠ w.heap.size → (w2.setCell ⟨w.heap.size, 3, none⟩ (.slice ra2 (rs.length + 1) rc2)).cell? ⟨b, o', none⟩ = w2.cell? ⟨b, o', none⟩ := fun b o' hb => cell_set_other (by omega)
    have x0 := (yo (w.heap.size + 1 + 1) 0 (by omega)).trans (k2.cell U0)
    have x1 := (yo (w.heap.size + 1 + 1) 1 (by omega)).trans (k2.cell U1)
    have x2 := (yo (w.heap.size + 1 + 1) 2 (by omega)).trans (k2.cell U2)
    have x3 := (yo (w.heap.size + 1 + 1) 3 (by omega)).trans (k2.cell U3)
    have fx : ∀ o, (w2.setCell ⟨w.heap.size, 3, none⟩ (.slice ra2 (rs.length + 1) rc2)).frozen? ⟨w.heap.size + 1 + 1, o, none⟩ = false := fun o => by
      rw [World.frozen?_setCell]; exact (k2.cells.2 _ o hWl2).trans (FU o)
    have fx0 := fx 0
    have fx1 := fx 1
    have fx2 := fx 2
    have fx3 := fx 3
    have hrY : Rds (w2.setCell ⟨w.heap.size, 3, none⟩ (.slice ra2 (rs.length + 1) rc2)) ra2 (rs ++ [(c, p, q)]) := hrd2.of_eq fun b o e o' => yo b o' (by have := hfr2 b o e; omega)
    obtain ⟨Y, hY⟩ : ∃ Y, w2.setCell ⟨w.heap.size, 3, none⟩ (.slice ra2 (rs.length + 1) rc2) = Y := ⟨_, rfl⟩
    rw [hY] at kY y0 y1 y2 y3 x0 x1 x2 x3 fx0 fx1 fx2 fx3 hrY ⊢
    have hly := lt_of_cell x0
    clear hY yo fx W0 W1 W2 W3 F3 U0 U1 U2 U3 FU hc2 hf2 hrd2 k1 k2 hl2' hWl g0 g1 g2 g3 hW
    go_wp2
    obtain ⟨r0, r1, r2, r3, ro⟩ := four_set (X := Y) (b := w.heap.size + 1 + 1) (v0 := .slice wa ws.length wc) (v1 := .int .i64 lo) (v2 := .int .i64 hi) (v3 := .slice ra2 (rs.length + 1) rc2) (by rw [x0]; rfl) (by rw [x1]; rfl) (by rw [x2]; rfl) (by rw [x3]; rfl)
    have kZ := (((kY.setCell (p := ⟨w.heap.size + 1 + 1, 0, none⟩) (.slice wa ws.length wc) (by simp; omega)).setCell (p := ⟨w.heap.size + 1 + 1, 1, none⟩) (.int .i64 lo) (by simp; omega)).setCell (p := ⟨w.heap.size + 1 + 1, 2, none⟩) (.int .i64 hi) (by simp; omega)).setCell (p := ⟨w.heap.size + 1 + 1, 3, none⟩) (.slice ra2 (rs.length + 1) rc2) (by simp; omega)
    have hrZ := hrY.of_eq (w' := (((Y.setCell ⟨w.heap.size + 1 + 1, 0, none⟩ (.slice wa ws.length wc)).setCell ⟨w.heap.size + 1 + 1, 1, none⟩ (.int .i64 lo)).setCell ⟨w.heap.size + 1 + 1, 2, none⟩ (.int .i64 hi)).setCell ⟨w.heap.size + 1 + 1, 3, none⟩ (.slice ra2 (rs.length + 1) rc2)) (fun b o e o' => ro b o' (by have := hfr2 b o e; omega))
    have hlen' : (rs ++ [(c, p, q)]).length = rs.length + 1 := by simp
    refine bodyPost_ret (v := Fr.v ⟨wa, wc, ws, lo, hi, ra2, rc2, rs ++ [(c, p, q)]⟩) ?_ rfl ⟨ra2, rc2, rfl, ⟨hi1.keep kZ, hrZ, hl1, by show (rs ++ [(c, p, q)]).length ≤ maxLen; unfold maxLen; omega⟩, fun b o e => Nat.le_trans hkW.size (hfr2 b o e), kZ⟩
    simp [results, Try.results32, go_sem, r0, r1, r2, r3]
theorem with_any (F : Fr) (r : Rd) (w : World) (hI : F.In w) (hlen : F.rs.length ≤ 6) : Calls Try.prog 32 #[F.v, .agg #[.int .i64 r.1, .int .i64 r.2.1, .int .i64 r.2.2]] w fun e w' => ∃ ra rc, e = .returned (Fr.v ⟨F.wa, F.wc, F.ws, F.lo, F.hi, ra, rc, F.rs ++ [r]⟩) ∧ Fr.In ⟨F.wa, F.wc, F.ws, F.lo, F.hi, ra, rc, F.rs ++ [r]⟩ w' ∧ Keeps w w' :=
  (with_fresh F r w hI hlen).mono fun _ _ ⟨ra, rc, h1, h2, _, h4⟩ => ⟨ra, rc, h1, h2, h4⟩
end Go.Proofs.Ytoidnbpbeblokaa
