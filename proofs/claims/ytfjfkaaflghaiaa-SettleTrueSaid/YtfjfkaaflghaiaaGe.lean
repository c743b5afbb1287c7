/-
  SETTLE: all ends that can be, one after the other.
  SETTLE: has a block settled in a minute?
  SETTLE: numbers one after the other; the first of which something is so; from which minute on blocks have settled.
  SETTLE: from which minute on blocks have settled; the minutes in which a block has.
  SETTLE: plates; the minutes in which a block has settled; a touch more; a block that nobody touches.
-/
import Derived.Test.YtfjfkaaflghaiaaGd
namespace Go.Proofs.Ytfjfkaaflghaiaa
open Go.RowKit Go.Proofs.Try
attribute [local irreducible] Run wpK

def rgL (n : Nat) (G : Nat → List Value) : List (List Value) := (List.range n).map G
theorem rgL_next (n : Nat) (G : Nat → List Value) : rgL (n + 1) G = rgL n G ++ [G n] := by unfold rgL; rw [List.range_succ, List.map_append]; rfl
theorem rgL_len (n : Nat) (G : Nat → List Value) : (rgL n G).length = n := by unfold rgL; rw [List.length_map, List.length_range]
theorem rgL_pre {i n : Nat} (G : Nat → List Value) (h : i < n) : rgL i G ++ [G i] <+: rgL n G := by
  rw [← rgL_next]
  obtain ⟨d, rfl⟩ := Nat.exists_eq_add_of_le (show i + 1 ≤ n from h)
  have h2 : List.range (i + 1 + d) = List.range (i + 1) ++ (List.range d).map (i + 1 + ·) := List.range_add
  unfold rgL
  rw [h2, List.map_append]
  exact List.prefix_append _ _
theorem rgL_at {n : Nat} {G : Nat → List Value} {pre : List (List Value)} {x : List Value} (h : pre ++ [x] <+: rgL n G) : pre.length < n ∧ pre = rgL pre.length G ∧ x = G pre.length := by
  have hl := h.length_le
  rw [rgL_len, List.length_append] at hl
  have hl : pre.length < n := hl
  have h2 := rgL_pre G hl
  have h3 : (pre ++ [x]).length = (rgL pre.length G ++ [G pre.length]).length := by simp [rgL_len]
  have h4 := List.prefix_of_prefix_length_le h h2 (Nat.le_of_eq h3)
  have h5 := List.IsPrefix.eq_of_length h4 h3
  have h6 := List.append_inj h5 (by rw [rgL_len])
  exact ⟨hl, h6.1, by have := h6.2; simpa using this⟩

/-- These blocks are so, and nobody else writes to them. -/
def OwnD (own : List (Nat × Obj)) (D : Nat → Prop) (w : World) : Prop := ∀ p ∈ own, w.heap[p.1]? = some p.2 ∧ ¬ D p.1
theorem OwnD.kept {own : List (Nat × Obj)} {D D' : Nat → Prop} {w w' : World} (h : OwnD own D w) (k : Kept D w w') (hD : ∀ b, b < w.heap.size → D' b → D b) : OwnD own D' w' := fun p hp =>
  have h1 := h p hp
  have hl := (Array.getElem?_eq_some_iff.1 h1.1).1
  ⟨(k.block p.1 hl h1.2).trans h1.1, fun hd => h1.2 (hD _ hl hd)⟩
theorem GivesW.own {P : Program} {gf : FuncId} {caps : Array Value} {own : List (Nat × Obj)} {W : Nat → Prop} {Wi Wo : World → Prop} {Pin : (Nat → Prop) → World → Prop} {Pre Fin : List (List Value) → Prop} (hW : ∀ p ∈ own, ¬ W p.1) (h : GivesW P gf caps [] W Wi Wo (fun D w => OwnD own (fun x => D x ∨ W x) w ∧ Pin D w) Pre Fin) : GivesW P gf caps own W Wi Wo Pin Pre Fin :=
  fun l J Jx E0 w hE0 hWD hWi hst hJw hown hdis hin hy => h l J Jx E0 w hE0 hWD hWi hst hJw (fun p hp => by cases hp) (fun p hp => by cases hp) ⟨fun p hp => ⟨hown p hp, fun hd => hd.elim (hdis p hp) (hW p hp)⟩, hin⟩ hy

def enG (s : Sn) (bk : Bk) (b m i : Nat) : List Value := [.agg #[.int .i64 (s.en b (slN bk i) m).1, .int .i64 (s.en b (slN bk i) m).2]]
set_option maxRecDepth 100000 in
theorem possible_give (p : Sb) (bm b m q1 q2 q3 : Nat) (L0 : List Mo) (hF : p.n.Fine) (hb : b < p.bs.length) (hm : m ≤ 200) : GivesW Try.prog 93 #[.pointer (some ⟨q1, 0, none⟩), .pointer (some ⟨q2, 0, none⟩), .pointer (some ⟨q3, 0, none⟩)] [] (inNames [(bm, memO kvM (vvM p.n) L0)]) (Hp [(bm, memO kvM (vvM p.n) L0)]) (fun w => ∃ L, Hp [(bm, memO kvM (vvM p.n) L)] w) (fun D w => OwnD [(q1, .cells #[.slice p.ba p.bs.length p.bc, .int .i64 p.near, .int .i64 p.last, .slice p.ta p.ts.length p.tc, .map (some bm)] 73 (0, 0)), (q2, .cells #[.int .i64 (b : Int)] 3 (0, 0)), (q3, .cells #[.int .i64 (m : Int)] 3 (0, 0))] (fun x => D x ∨ inNames [(bm, memO kvM (vvM p.n) L0)] x) w ∧ p.InD (fun x => D x ∨ inNames [(bm, memO kvM (vvM p.n) L0)] x) w) (fun l => l <+: rgL (slW (elB p.bs b)) (enG p.n (elB p.bs b) b m)) (fun l => l = rgL (slW (elB p.bs b)) (enG p.n (elB p.bs b) b m)) := by
  intro l J Jx E0 w hE0 hWD hWi hst hJw hown hdis hin hy
  have hq1 := (hin.1 (q1, _) (List.mem_of_getElem? (i := 0) rfl)).1
  have hq2 := (hin.1 (q2, _) (List.mem_of_getElem? (i := 1) rfl)).1
  have hq3 := (hin.1 (q3, _) (List.mem_of_getElem? (i := 2) rfl)).1
  have hn1 := (hin.1 (q1, _) (List.mem_of_getElem? (i := 0) rfl)).2
  have hn2 := (hin.1 (q2, _) (List.mem_of_getElem? (i := 1) rfl)).2
  have hn3 := (hin.1 (q3, _) (List.mem_of_getElem? (i := 2) rfl)).2
  have hmap := hWi (bm, _) (List.mem_singleton.2 rfl)
  dsimp only at hq1 hq2 hq3 hmap
  have hne : p.bs ≠ [] := by intro h; rw [h] at hb; cases hb
  obtain ⟨bq, oq, hbq, hcq⟩ := hin.2.bk.1 hne
  have hcq := hcq b hb
  have hbD := hin.2.bk.2 hne bq oq hbq
  have hbs : 2 ≤ (elB p.bs b).2.2.1 ∧ (elB p.bs b).2.2.1 ≤ (elB p.bs b).2.2.2.1 ∧ (elB p.bs b).2.2.2.1 ≤ 8 := (hF.bkF hb).s
  have hsw : ((slW (elB p.bs b) : Nat) : Int) = (elB p.bs b).2.2.2.1 - (elB p.bs b).2.2.1 + 1 := slW_is (hF.bkF hb)
  refine calls_runEW (fn := f93) (c := (f93.body).getD .skip) [.func (.yield l) #[] #[], .pointer (some ⟨q1, 0, none⟩), .pointer (some ⟨q2, 0, none⟩), .pointer (some ⟨q3, 0, none⟩)] func93 (by kernel_rfl) E0 (inNames [(bm, memO kvM (vvM p.n) L0)]) hE0 hJw [(bm, memO kvM (vvM p.n) L0)] (fun q hq => by rw [List.mem_singleton] at hq; subst hq; exact ⟨hmap, ⟨List.mem_singleton.2 rfl, hWD bm (List.mem_singleton.2 rfl)⟩, rfl⟩) (List.pairwise_singleton _ _) 31 (by kernel_rfl) (by simp) ?_
  refine run_auto [] 4 [] [] [0, 1, 2, 3, 8] [0] (st' := ⟨[(0, .func (.yield l) #[] #[]), (1, pA q1), (2, pA q2), (3, pA q3), (8, pA q1)], [(bm, memO kvM (vvM p.n) L0)]⟩) (acc := []) (by kernel_rfl) (by kernel_rfl) trivial ?_
  refine run_v (Instr.loadAt 30 (pA q1) >>= fun v => pure (Next.value v)) (some 9) (.slice p.ba p.bs.length p.bc) (by kernel_rfl) (fun w1 k1 h1 => load_in (base := 0) (off := 0) k1 hn1 [.slice p.ba p.bs.length p.bc, iV p.near, iV p.last, .slice p.ta p.ts.length p.tc, .map (some bm)] (fun i u hi => by rw [Nat.zero_add]; exact cells_of_heap hq1 i u hi) (by kernel_rfl)) ?_
  refine run_v (Instr.loadAt 3 (pA q2) >>= fun v => pure (Next.value v)) (some 10) (iV (b : Int)) (by kernel_rfl) (fun w1 k1 h1 => load_in (base := 0) (off := 0) k1 hn2 [iV (b : Int)] (fun i u hi => by rw [Nat.zero_add]; exact cells_of_heap hq2 i u hi) (by kernel_rfl)) ?_
  refine run_v (Instr.indexAt 30 (.slice p.ba p.bs.length p.bc) (iV (b : Int)) >>= fun v => pure (Next.value v)) (some 11) (.pointer (some ⟨bq, oq + b * 6, none⟩)) (by kernel_rfl) (fun w1 k1 h1 => (by rw [hbq]; exact idx_off (e := 54) (n := 6) (by kernel_rfl) (by kernel_rfl) bq oq p.bs.length p.bc .i64 b hb (oq + b * 6) (by omega) w1)) ?_
  refine run_auto [] 1 [] [] [0, 1, 2, 3, 12] [0] (st' := ⟨[(0, .func (.yield l) #[] #[]), (1, pA q1), (2, pA q2), (3, pA q3), (12, .pointer (some ⟨bq, oq + b * 6 + 2, none⟩))], [(bm, memO kvM (vvM p.n) L0)]⟩) (acc := []) (by kernel_rfl) (by kernel_rfl) trivial ?_
  refine run_v (Instr.loadAt 23 (.pointer (some ⟨bq, oq + b * 6 + 2, none⟩)) >>= fun v => pure (Next.value v)) (some 13) (.agg #[iV (elB p.bs b).2.2.1, iV (elB p.bs b).2.2.2.1]) (by kernel_rfl) (fun w1 k1 h1 => load_in (off := 2) k1 hbD [iV (elB p.bs b).1, iV (elB p.bs b).2.1, iV (elB p.bs b).2.2.1, iV (elB p.bs b).2.2.2.1, iV (elB p.bs b).2.2.2.2.1, iV (elB p.bs b).2.2.2.2.2] (c6 hcq.1 hcq.2.1 hcq.2.2.1 hcq.2.2.2.1 hcq.2.2.2.2.1 hcq.2.2.2.2.2) (by kernel_rfl)) ?_
  refine run_new (aO #[iV 0, iV 0] 23) (fun b1 => pA b1) (some 5) (fun _ => by kernel_rfl) (fun b1 hb1 => ?_)
  refine run_auto [] 9 [] [0, 0] [0, 1, 2, 3, 5, 6] [0, 1] (st' := ⟨[(0, .func (.yield l) #[] #[]), (1, pA q1), (2, pA q2), (3, pA q3), (5, pA b1), (6, iV (elB p.bs b).2.2.1)], [(b1, aO #[iV (elB p.bs b).2.2.1, iV (elB p.bs b).2.2.2.1] 23), (bm, memO kvM (vvM p.n) L0)]⟩) (acc := [(pA b1, pA b1), (pA b1, pA b1)]) (by kernel_rfl) (by kernel_rfl) ⟨rfl, rfl, trivial⟩ ?_
  refine run_auto [] 0 [] [] [0, 1, 2, 3, 5, 6] [0, 1] (st' := ⟨[(0, .func (.yield l) #[] #[]), (1, pA q1), (2, pA q2), (3, pA q3), (5, pA b1), (6, iV (elB p.bs b).2.2.1)], [(b1, aO #[iV (elB p.bs b).2.2.1, iV (elB p.bs b).2.2.2.1] 23), (bm, memO kvM (vvM p.n) L0)]⟩) (acc := []) (by kernel_rfl) (by kernel_rfl) trivial ?_
  refine run_loopE (σ := Nat × Ext × List Mo) (S := fun (x : Nat × Ext × List Mo) => ⟨[(0, .func (.yield l) #[] #[]), (1, pA q1), (2, pA q2), (3, pA q3), (5, pA b1), (6, iV ((elB p.bs b).2.2.1 + (x.1 : Int)))], [(b1, aO #[iV (elB p.bs b).2.2.1, iV (elB p.bs b).2.2.2.1] 23), (bm, memO kvM (vvM p.n) x.2.2)]⟩) (fun (x : Nat × Ext × List Mo) => x.2.1) (fun (x : Nat × Ext × List Mo) => x.1 ≤ slW (elB p.bs b) ∧ J (rgL x.1 (enG p.n (elB p.bs b) b m)) x.2.1 ∧ x.2.1.n0 = E0.n0 ∧ (∀ b, b < w.heap.size → x.2.1.D b → E0.D b)) (fun (x : Nat × Ext × List Mo) => slW (elB p.bs b) - x.1) ((0, E0, L0)) (by kernel_rfl) (⟨Nat.zero_le _, hst, rfl, (fun _ _ h => h)⟩) (by simp) rfl (fun x hI0 J0 hJ0 => ?_)
  obtain ⟨i, Ea, L⟩ := x
  obtain ⟨hl0, hJa, hna, hsa⟩ := hI0
  dsimp only at hl0 hJa hna hsa hJ0
  cases hd1 : (decide (((elB p.bs b).2.2.1 + (i : Int)) ≤ (elB p.bs b).2.2.2.1)) with
  | false =>
    have hp1 := of_decide_eq_false hd1
    refine run_auto [(19, .bool false)] 10 [false] [0] [] [1] (st' := ⟨[], [(bm, memO kvM (vvM p.n) L)]⟩) (acc := [(.bool false, .bool false), (.bool (decide (((elB p.bs b).2.2.1 + (i : Int)) ≤ (elB p.bs b).2.2.2.1)), .bool false), (pA b1, pA b1)]) (by kernel_rfl) (by kernel_rfl) ⟨rfl, (bo hd1), rfl, trivial⟩ ?_
    refine run_endE (fn := f93) rfl (Nat.le_refl _) (by kernel_rfl) [] [] (e := []) (by kernel_rfl) trivial (fun w1 k1 h1 hE1 => ?_)
    exact ⟨rfl, ⟨L, fun q hq => by rw [List.mem_singleton] at hq; subst hq; exact h1 (bm, _) (List.mem_of_getElem? (i := 0) rfl)⟩, Ea, hna, hE1, .inl ⟨_, rfl, by have h := hJa; rw [show i = slW (elB p.bs b) by omega] at h; exact h⟩⟩
  | true =>
    have hp1 := of_decide_eq_true hd1
    have hiw : i < slW (elB p.bs b) := by omega
    refine run_auto [(19, .bool true)] 15 [true] [0] [0, 1, 2, 3, 5, 6, 22] [0, 1] (st' := ⟨[(0, .func (.yield l) #[] #[]), (1, pA q1), (2, pA q2), (3, pA q3), (5, pA b1), (6, iV ((elB p.bs b).2.2.1 + (i : Int))), (22, .func (.yield l) #[] #[])], [(b1, aO #[iV (elB p.bs b).2.2.1, iV (elB p.bs b).2.2.2.1] 23), (bm, memO kvM (vvM p.n) L)]⟩) (acc := [(.bool true, .bool true), (.bool (decide (((elB p.bs b).2.2.1 + (i : Int)) ≤ (elB p.bs b).2.2.2.1)), .bool true), (pA b1, pA b1)]) (by kernel_rfl) (by kernel_rfl) ⟨rfl, (bo hd1), rfl, trivial⟩ ?_
    refine run_v (Instr.loadAt 73 (pA q1) >>= fun v => pure (Next.value v)) (some 23) (.agg #[.slice p.ba p.bs.length p.bc, iV p.near, iV p.last, .slice p.ta p.ts.length p.tc, .map (some bm)]) (by kernel_rfl) (fun w1 k1 h1 => load_in (base := 0) (off := 0) k1 hn1 [.slice p.ba p.bs.length p.bc, iV p.near, iV p.last, .slice p.ta p.ts.length p.tc, .map (some bm)] (fun i u hi => by rw [Nat.zero_add]; exact cells_of_heap hq1 i u hi) (by kernel_rfl)) ?_
    refine run_v (Instr.loadAt 3 (pA q2) >>= fun v => pure (Next.value v)) (some 24) (iV (b : Int)) (by kernel_rfl) (fun w1 k1 h1 => load_in (base := 0) (off := 0) k1 hn2 [iV (b : Int)] (fun i u hi => by rw [Nat.zero_add]; exact cells_of_heap hq2 i u hi) (by kernel_rfl)) ?_
    refine run_auto [] 1 [] [] [0, 1, 2, 3, 5, 6, 22, 23, 24, 25] [0, 1] (st' := ⟨[(0, .func (.yield l) #[] #[]), (1, pA q1), (2, pA q2), (3, pA q3), (5, pA b1), (6, iV ((elB p.bs b).2.2.1 + (i : Int))), (22, .func (.yield l) #[] #[]), (23, .agg #[.slice p.ba p.bs.length p.bc, iV p.near, iV p.last, .slice p.ta p.ts.length p.tc, .map (some bm)]), (24, iV (b : Int)), (25, iV ((elB p.bs b).2.2.1 + (i : Int)))], [(b1, aO #[iV (elB p.bs b).2.2.1, iV (elB p.bs b).2.2.2.1] 23), (bm, memO kvM (vvM p.n) L)]⟩) (acc := []) (by kernel_rfl) (by kernel_rfl) trivial ?_
    refine run_v (Instr.loadAt 3 (pA q3) >>= fun v => pure (Next.value v)) (some 26) (iV (m : Int)) (by kernel_rfl) (fun w1 k1 h1 => load_in (base := 0) (off := 0) k1 hn3 [iV (m : Int)] (fun i u hi => by rw [Nat.zero_add]; exact cells_of_heap hq3 i u hi) (by kernel_rfl)) ?_
    refine run_auto [] 1 [] [] [0, 1, 2, 3, 5, 6, 22, 23, 27] [0, 1] (st' := ⟨[(0, .func (.yield l) #[] #[]), (1, pA q1), (2, pA q2), (3, pA q3), (5, pA b1), (6, iV ((elB p.bs b).2.2.1 + (i : Int))), (22, .func (.yield l) #[] #[]), (23, .agg #[.slice p.ba p.bs.length p.bc, iV p.near, iV p.last, .slice p.ta p.ts.length p.tc, .map (some bm)]), (27, .agg #[iV (b : Int), iV ((elB p.bs b).2.2.1 + (i : Int)), iV (m : Int)])], [(b1, aO #[iV (elB p.bs b).2.2.1, iV (elB p.bs b).2.2.2.1] 23), (bm, memO kvM (vvM p.n) L)]⟩) (acc := []) (by kernel_rfl) (by kernel_rfl) trivial ?_
    refine run_wr 94 #[.agg #[.slice p.ba p.bs.length p.bc, iV p.near, iV p.last, .slice p.ta p.ts.length p.tc, .map (some bm)], .agg #[iV (b : Int), iV ((elB p.bs b).2.2.1 + (i : Int)), iV (m : Int)]] (some 28) (.agg #[iV ((p.n.en b (slN (elB p.bs b) i) m).1), iV ((p.n.en b (slN (elB p.bs b) i) m).2)]) 1 bm (memO kvM (vvM p.n) L) (memO kvM (vvM p.n) (insM L b (slN (elB p.bs b) i) m)) (by kernel_rfl) (by kernel_rfl) (by kernel_rfl) (fun w1 k1 h1 => ends_any p bm b (slN (elB p.bs b) i) hF hb (show 1 ≤ (elB p.bs b).2.2.1 + (i : Int) by omega) (show (elB p.bs b).2.2.1 + (i : Int) ≤ 8 by omega) m hm w1 L (h1 (bm, memO kvM (vvM p.n) L) (List.mem_of_getElem? (i := 1) (by kernel_rfl))) ((hin.2.at k1).map (h1 (bm, memO kvM (vvM p.n) L) (List.mem_of_getElem? (i := 1) (by kernel_rfl))))) ?_
    have hpre := rgL_pre (enG p.n (elB p.bs b) b m) (i := i) (n := slW (elB p.bs b)) (by omega)
    refine run_yield l #[.agg #[iV ((p.n.en b (slN (elB p.bs b) i) m).1), iV ((p.n.en b (slN (elB p.bs b) i) m).2)]] (some 29) (by kernel_rfl) (fun b hb h => .inl (hsa b hb h)) (Yt (J (rgL i (enG p.n (elB p.bs b) b m) ++ [enG p.n (elB p.bs b) b m i])) Jx) (fun w1 hJ1 k1 => Ygives.out (Ygives.of (E := Ea) (hy _ (enG p.n (elB p.bs b) b m i) Ea w1 hpre hJa hna hJ1) hna)) (fun E3 t hok hn3 hs3 => ?_)
    have hs4 : ∀ b, b < w.heap.size → E3.D b → E0.D b := fun b hb h => (hs3 b h).elim (hsa b hb) (fun h => absurd hb (Nat.not_lt.2 h))
    cases hd2 : t with
    | false =>
      rw [hd2] at hok
      dsimp only [Yt] at hok
      refine run_auto [(30, .bool true)] 3 [true] [] [0, 1, 2, 3, 5, 6] [0, 1] (st' := ⟨[(0, .func (.yield l) #[] #[]), (1, pA q1), (2, pA q2), (3, pA q3), (5, pA b1), (6, iV ((elB p.bs b).2.2.1 + (i : Int)))], [(b1, aO #[iV (elB p.bs b).2.2.1, iV (elB p.bs b).2.2.2.1] 23), (bm, memO kvM (vvM p.n) (insM L b (slN (elB p.bs b) i) m))]⟩) (acc := [(.bool true, .bool true), (.bool true, .bool true)]) (by kernel_rfl) (by kernel_rfl) ⟨rfl, rfl, trivial⟩ ?_
      refine run_endE (fn := f93) rfl (Nat.le_refl _) (by kernel_rfl) [] [] (e := []) (by kernel_rfl) trivial (fun w1 k1 h1 hE1 => ?_)
      exact ⟨rfl, ⟨(insM L b (slN (elB p.bs b) i) m), fun q hq => by rw [List.mem_singleton] at hq; subst hq; exact h1 (bm, _) (List.mem_of_getElem? (i := 1) rfl)⟩, E3, (hn3.trans hna), hE1, .inr hok⟩
    | true =>
      rw [hd2] at hok
      dsimp only [Yt] at hok
      refine run_auto [(30, .bool false), (21, iV ((elB p.bs b).2.2.1 + ((i + 1 : Nat) : Int)))] 10 [false] [] [0, 1, 2, 3, 5, 6] [0, 1] (st' := ⟨[(0, .func (.yield l) #[] #[]), (1, pA q1), (2, pA q2), (3, pA q3), (5, pA b1), (6, iV ((elB p.bs b).2.2.1 + ((i + 1 : Nat) : Int)))], [(b1, aO #[iV (elB p.bs b).2.2.1, iV (elB p.bs b).2.2.2.1] 23), (bm, memO kvM (vvM p.n) (insM L b (slN (elB p.bs b) i) m))]⟩) (acc := [(iV (IntKind.i64.wrap (((elB p.bs b).2.2.1 + (i : Int)) + 1)), iV ((elB p.bs b).2.2.1 + ((i + 1 : Nat) : Int))), (.bool false, .bool false), (.bool false, .bool false)]) (by kernel_rfl) (by kernel_rfl) ⟨((wr (by omega) (by omega)).trans (io (by omega))), rfl, rfl, trivial⟩ ?_
      exact run_round (by kernel_rfl) (hJ0 ((i + 1, E3, (insM L b (slN (elB p.bs b) i) m))) (⟨by dsimp only; omega, by have h := hok; rw [rgL_next]; exact h, (hn3.trans hna), hs4⟩) (by dsimp only; omega))

theorem pick_pairs {l l' : List (Nat × Obj)} (h : l.Pairwise fun p q => p.1 ≠ q.1) (js : List Nat) (he : js.map (fun j => l[j]?) = l'.map some) (hd : js.Pairwise (· ≠ ·)) : l'.Pairwise fun p q => p.1 ≠ q.1 := by
  have h1 := pairwise_pick h hd
  have h2 : js.filterMap (fun j => l[j]?) = l' := by
    have : js.filterMap (fun j => l[j]?) = (js.map (fun j => l[j]?)).filterMap id := by rw [List.filterMap_map]; rfl
    rw [this, he, List.filterMap_map]
    simp
  rwa [h2] at h1
set_option maxRecDepth 100000 in
theorem possible_any (p : Sb) (bm b m : Nat) (w : World)  : Calls Try.prog 82 #[.agg #[.slice p.ba p.bs.length p.bc, .int .i64 p.near, .int .i64 p.last, .slice p.ta p.ts.length p.tc, .map (some bm)], .int .i64 (b : Int), .int .i64 (m : Int)] w (NwL (α := Nat × Nat × Nat) (fun x => .func (.func 93) #[] #[.pointer (some ⟨(x.1), 0, none⟩), .pointer (some ⟨(x.2.1), 0, none⟩), .pointer (some ⟨(x.2.2), 0, none⟩)]) (fun x => [((x.1), .cells #[.slice p.ba p.bs.length p.bc, .int .i64 p.near, .int .i64 p.last, .slice p.ta p.ts.length p.tc, .map (some bm)] 73 (0, 0)), ((x.2.1), .cells #[.int .i64 (b : Int)] 3 (0, 0)), ((x.2.2), .cells #[.int .i64 (m : Int)] 3 (0, 0))]) (fun _ => True) w) := by
  refine calls_run (fn := f82) (c := (f82.body).getD .skip) [.agg #[.slice p.ba p.bs.length p.bc, .int .i64 p.near, .int .i64 p.last, .slice p.ta p.ts.length p.tc, .map (some bm)], .int .i64 (b : Int), .int .i64 (m : Int)] func82 (by kernel_rfl) (fun _ => False) [] (fun _ h => by cases h) (List.Pairwise.nil) 8 (by kernel_rfl) (by simp) ?_
  refine run_auto [] 2 [] [] [0, 1, 2] [] (st' := ⟨[(0, .agg #[.slice p.ba p.bs.length p.bc, iV p.near, iV p.last, .slice p.ta p.ts.length p.tc, .map (some bm)]), (1, iV (b : Int)), (2, iV (m : Int))], []⟩) (acc := []) (by kernel_rfl) (by kernel_rfl) trivial ?_
  refine run_new (aO #[.slice p.ba p.bs.length p.bc, iV p.near, iV p.last, .slice p.ta p.ts.length p.tc, .map (some bm)] 73) (fun b1 => pA b1) (some 3) (fun _ => by kernel_rfl) (fun b1 hb1 => ?_)
  refine run_new (aO #[iV (b : Int)] 3) (fun b2 => pA b2) (some 4) (fun _ => by kernel_rfl) (fun b2 hb2 => ?_)
  refine run_new (aO #[iV (m : Int)] 3) (fun b3 => pA b3) (some 5) (fun _ => by kernel_rfl) (fun b3 hb3 => ?_)
  refine run_auto [] 7 [] [] [6] [0, 1, 2] (st' := ⟨[(6, .func (.func 93) #[] #[pA b1, pA b2, pA b3])], [(b3, aO #[iV (m : Int)] 3), (b2, aO #[iV (b : Int)] 3), (b1, aO #[.slice p.ba p.bs.length p.bc, iV p.near, iV p.last, .slice p.ta p.ts.length p.tc, .map (some bm)] 73)]⟩) (acc := []) (by kernel_rfl) (by kernel_rfl) trivial ?_
  refine run_endP (fn := f82) rfl (Nat.le_refl _) (by kernel_rfl) [] [.func (.func 93) #[] #[pA b1, pA b2, pA b3]] (e := []) (by kernel_rfl) trivial (fun w1 k1 h1 hne1 => ?_)
  refine ⟨(b1, b2, b3), trivial, rfl, k1.keeps (fun _ h => h), fun q hq => ?_, ?_⟩
  · simp only [List.mem_cons, List.not_mem_nil, or_false] at hq
    rcases hq with rfl | rfl | rfl
    · exact ⟨h1 (b1, _) (List.mem_of_getElem? (i := 2) rfl), hb1⟩
    · exact ⟨h1 (b2, _) (List.mem_of_getElem? (i := 1) rfl), hb2⟩
    · exact ⟨h1 (b3, _) (List.mem_of_getElem? (i := 0) rfl), hb3⟩
  · exact pick_pairs hne1 [2, 1, 0] rfl (by decide)

set_option maxRecDepth 100000 in
theorem outerOf_any (p : Sb) (bm b m q1 q2 q3 : Nat) (L : List Mo) (w : World) (hmap : w.heap[bm]? = some (memO kvM (vvM p.n) L)) (hin : p.InD (fun x => x = bm) w) (hF : p.n.Fine) (hb : b < p.bs.length) (hm : m ≤ 200) (hOwn : OwnD [(q1, .cells #[.slice p.ba p.bs.length p.bc, .int .i64 p.near, .int .i64 p.last, .slice p.ta p.ts.length p.tc, .map (some bm)] 73 (0, 0)), (q2, .cells #[.int .i64 (b : Int)] 3 (0, 0)), (q3, .cells #[.int .i64 (m : Int)] 3 (0, 0))] (fun x => x = bm) w) : Calls Try.prog 81 #[.func (.func 93) #[] #[.pointer (some ⟨q1, 0, none⟩), .pointer (some ⟨q2, 0, none⟩), .pointer (some ⟨q3, 0, none⟩)]] w (NwW (α := List Mo) (fun _ => .agg #[.int .i64 (p.n.out b m).1, .int .i64 (p.n.out b m).2]) (fun _ => []) bm (fun L => memO kvM (vvM p.n) L) (fun _ => True) w) := by
  refine calls_run (fn := f81) (c := (f81.body).getD .skip) [.func (.func 93) #[] #[.pointer (some ⟨q1, 0, none⟩), .pointer (some ⟨q2, 0, none⟩), .pointer (some ⟨q3, 0, none⟩)]] func81 (by kernel_rfl) (fun x => x = bm) [(bm, memO kvM (vvM p.n) L)] (fun q hq => by rcases List.mem_singleton.1 hq with rfl; exact ⟨hmap, rfl, rfl⟩) (List.pairwise_singleton _ _) 20 (by kernel_rfl) (by simp) ?_
  refine run_auto [] 2 [] [] [0] [0] (st' := ⟨[(0, .func (.func 93) #[] #[pA q1, pA q2, pA q3])], [(bm, memO kvM (vvM p.n) L)]⟩) (acc := []) (by kernel_rfl) (by kernel_rfl) trivial ?_
  refine run_new (aO #[iV 0, iV 0] 70) (fun b1 => pA b1) (some 2) (fun _ => by kernel_rfl) (fun b1 hb1 => ?_)
  refine run_auto [] 4 [] [] [0, 2, 5] [0, 1] (st' := ⟨[(0, .func (.func 93) #[] #[pA q1, pA q2, pA q3]), (2, pA b1), (5, .agg #[iV 9223372036854775807, iV (-9223372036854775808)])], [(b1, aO #[iV 0, iV 0] 70), (bm, memO kvM (vvM p.n) L)]⟩) (acc := []) (by kernel_rfl) (by kernel_rfl) trivial ?_
  refine run_new (aO #[iV 0, iV 0] 70) (fun b2 => pA b2) (some 3) (fun _ => by kernel_rfl) (fun b2 hb2 => ?_)
  refine run_auto [] 8 [] [0] [2, 3, 6] [0, 1, 2] (st' := ⟨[(2, pA b1), (3, pA b2), (6, .func (.func 93) #[] #[pA q1, pA q2, pA q3])], [(b2, aO #[iV 9223372036854775807, iV (-9223372036854775808)] 70), (b1, aO #[iV 0, iV 0] 70), (bm, memO kvM (vvM p.n) L)]⟩) (acc := [(pA b2, pA b2)]) (by kernel_rfl) (by kernel_rfl) ⟨rfl, trivial⟩ ?_
  refine run_auto [] 0 [] [] [2, 3, 6] [2, 0, 1] (st' := ⟨[(2, pA b1), (3, pA b2), (6, .func (.func 93) #[] #[pA q1, pA q2, pA q3])], [(bm, memO kvM (vvM p.n) L), (b2, aO #[iV 9223372036854775807, iV (-9223372036854775808)] 70), (b1, aO #[iV 0, iV 0] 70)]⟩) (acc := []) (by kernel_rfl) (by kernel_rfl) trivial ?_
  refine run_rangeW (σ := Nat) (τ := Unit) (υ := List Mo) [(bm, memO kvM (vvM p.n) L)] (fun xw => [(bm, memO kvM (vvM p.n) xw)]) (fun xw => rfl) (fun xw p hp => by simp only [List.mem_cons, List.not_mem_nil, or_false] at hp; rcases hp with rfl <;> rfl) 93 #[pA q1, pA q2, pA q3] [7] [] [(b2, aO #[iV 9223372036854775807, iV (-9223372036854775808)] 70), (b1, aO #[iV 0, iV 0] 70)] (fun D w => OwnD [(q1, aO #[.slice p.ba p.bs.length p.bc, iV p.near, iV p.last, .slice p.ta p.ts.length p.tc, .map (some bm)] 73), (q2, aO #[iV (b : Int)] 3), (q3, aO #[iV (m : Int)] 3)] (fun x => D x ∨ inNames [(bm, memO kvM (vvM p.n) L)] x) w ∧ p.InD (fun x => D x ∨ inNames [(bm, memO kvM (vvM p.n) L)] x) w) (fun l => l <+: rgL (slW (elB p.bs b)) (enG p.n (elB p.bs b) b m)) (fun l => l = rgL (slW (elB p.bs b)) (enG p.n (elB p.bs b) b m)) (by kernel_rfl) rfl rfl (fun l => by kernel_rfl) rfl (by kernel_rfl) (fun pre x hx => by rw [(rgL_at hx).2.2]; rfl) (possible_give p bm b m q1 q2 q3 L hF hb hm) (fun D w1 k1 hD => ⟨hOwn.kept k1 (fun b hb h => h.elim (hD b hb) (fun h => List.mem_singleton.1 h)), hin.kept k1 (fun b hb h => h.elim (hD b hb) (fun h => List.mem_singleton.1 h))⟩)
    (fun s => [(b2, aO #[iV (p.n.lows b m s), iV (p.n.highs b m s)] 70), (b1, aO #[iV 0, iV 0] 70)]) (fun s => Ext.none) (fun pre s => s = (pre).length) (fun y => [(b2, aO #[iV (p.n.lows b m 0), iV (p.n.highs b m 0)] 70), (b1, aO #[iV 0, iV 0] 70)]) (fun y => Ext.none) (fun c y => False) (0) (rfl) rfl rfl (fun _ _ _ => ⟨rfl, fun _ _ h => h.elim⟩) (fun _ _ h => h.elim)
    (fun pre x s hpre hI l0 ms ro ob w0 Jb Jn Je hkk hll hbeg hnext hexit => ?_) (fun xw ys s hys hI => ?_) (fun xw c y hI => ?_)
  · skip
    have hpre : pre ++ [x] <+: rgL (slW (elB p.bs b)) (enG p.n (elB p.bs b) b m) := hpre
    have hx := rgL_at hpre
    rw [← hI] at hx
    obtain rfl := hx.2.2
    refine run_auto [] 1 [] [] [2, 3, 7] [0, 1] (st' := ⟨[(2, pA b1), (3, pA b2), (7, .agg #[iV ((p.n.en b (slN (elB p.bs b) s) m).1), iV ((p.n.en b (slN (elB p.bs b) s) m).2)])], [(b2, aO #[iV (p.n.lows b m s), iV (p.n.highs b m s)] 70), (b1, aO #[iV 0, iV 0] 70)]⟩) (acc := []) (by kernel_rfl) (by kernel_rfl) trivial ?_
    refine run_new (aO #[iV 0, iV 0] 70) (fun b3 => pA b3) (some 4) (fun _ => by kernel_rfl) (fun b3 hb3 => ?_)
    refine run_auto [] 2 [] [0] [2, 3, 4] [0, 1, 2] (st' := ⟨[(2, pA b1), (3, pA b2), (4, pA b3)], [(b3, aO #[iV ((p.n.en b (slN (elB p.bs b) s) m).1), iV ((p.n.en b (slN (elB p.bs b) s) m).2)] 70), (b2, aO #[iV (p.n.lows b m s), iV (p.n.highs b m s)] 70), (b1, aO #[iV 0, iV 0] 70)]⟩) (acc := [(pA b3, pA b3)]) (by kernel_rfl) (by kernel_rfl) ⟨rfl, trivial⟩ ?_
    refine run_round rfl (hbeg _ ?_)
    refine run_auto [(12, iV (min (p.n.lows b m s) ((p.n.en b (slN (elB p.bs b) s) m).1))), (17, iV (max (p.n.highs b m s) ((p.n.en b (slN (elB p.bs b) s) m).2)))] 16 [] [1, 0, 1, 0, 1] [] [1, 2] (st' := ⟨[], [(b2, aO #[iV (min (p.n.lows b m s) ((p.n.en b (slN (elB p.bs b) s) m).1)), iV (max (p.n.highs b m s) ((p.n.en b (slN (elB p.bs b) s) m).2))] 70), (b1, aO #[iV 0, iV 0] 70)]⟩) (acc := [(pA b2, pA b2), (iV (if ((p.n.en b (slN (elB p.bs b) s) m).2) > (p.n.highs b m s) then ((p.n.en b (slN (elB p.bs b) s) m).2) else (p.n.highs b m s)), iV (max (p.n.highs b m s) ((p.n.en b (slN (elB p.bs b) s) m).2))), (pA b3, pA b3), (pA b2, pA b2), (iV (if ((p.n.en b (slN (elB p.bs b) s) m).1) < (p.n.lows b m s) then ((p.n.en b (slN (elB p.bs b) s) m).1) else (p.n.lows b m s)), iV (min (p.n.lows b m s) ((p.n.en b (slN (elB p.bs b) s) m).1))), (pA b3, pA b3), (pA b2, pA b2)]) (by kernel_rfl) (by kernel_rfl) ⟨rfl, (mx _ _ _), rfl, rfl, (mn _ _ _), rfl, rfl, trivial⟩ ?_
    exact run_nil rfl (fun a_ w1 g_ => hnext (s + 1) _ (by rw [List.length_append, ← hI]; rfl) (fun b h => h.elim) a_ w1 g_)
  · skip
    obtain rfl : ys = rgL (slW (elB p.bs b)) (enG p.n (elB p.bs b) b m) := hys
    have hs : s = slW (elB p.bs b) := by rw [hI, rgL_len]
    subst hs
    refine run_auto [] 6 [] [1, 2] [2] [0, 2] (st' := ⟨[(2, pA b1)], [(bm, memO kvM (vvM p.n) xw), (b1, aO #[iV (p.n.lows b m (slW (elB p.bs b))), iV (p.n.highs b m (slW (elB p.bs b)))] 70)]⟩) (acc := [(pA b1, pA b1), (pA b2, pA b2)]) (by kernel_rfl) (by kernel_rfl) ⟨rfl, rfl, trivial⟩ ?_
    refine run_end (fn := f81) rfl (Nat.le_refl _) (by kernel_rfl) [1] [.agg #[iV (p.n.lows b m (slW (elB p.bs b))), iV (p.n.highs b m (slW (elB p.bs b)))]] (e := [(pA b1, pA b1)]) (by kernel_rfl) ⟨rfl, trivial⟩ (fun w1 k1 h1 => ?_)
    exact ⟨xw, trivial, rfl, k1, h1 (bm, _) (List.mem_of_getElem? (i := 0) rfl), (fun q hq => by cases hq), List.Pairwise.nil⟩
  · skip
    exact hI.elim


theorem ne_map {w : World} {b bm : Nat} {o o' : Obj} (h : w.heap[b]? = some o) (hm : w.heap[bm]? = some o') (hd : (match o, o' with | .cells .., .map .. => true | _, _ => false) = true) : ¬ b = bm := by
  intro e
  subst e
  rw [h] at hm
  injection hm with hm
  subst hm
  cases o <;> simp at hd
theorem own3 {w : World} {bm q1 q2 q3 : Nat} {o1 o2 o3 : Obj} (h1 : w.heap[q1]? = some o1) (h2 : w.heap[q2]? = some o2) (h3 : w.heap[q3]? = some o3) (n1 : ¬ q1 = bm) (n2 : ¬ q2 = bm) (n3 : ¬ q3 = bm) : OwnD [(q1, o1), (q2, o2), (q3, o3)] (fun x => x = bm) w := by
  intro p hp
  simp only [List.mem_cons, List.not_mem_nil, or_false] at hp
  rcases hp with rfl | rfl | rfl
  · exact ⟨h1, n1⟩
  · exact ⟨h2, n2⟩
  · exact ⟨h3, n3⟩
set_option maxRecDepth 100000 in
theorem outermost_any (p : Sb) (bm b m : Nat) (L : List Mo) (w : World) (hmap : w.heap[bm]? = some (memO kvM (vvM p.n) L)) (hin : p.InD (fun x => x = bm) w) (hF : p.n.Fine) (hb : b < p.bs.length) (hm : m ≤ 200) : Calls Try.prog 36 #[.agg #[.slice p.ba p.bs.length p.bc, .int .i64 p.near, .int .i64 p.last, .slice p.ta p.ts.length p.tc, .map (some bm)], .int .i64 (b : Int), .int .i64 (m : Int)] w (NwW (α := List Mo) (fun _ => .agg #[.int .i64 (p.n.out b m).1, .int .i64 (p.n.out b m).2]) (fun _ => []) bm (fun L => memO kvM (vvM p.n) L) (fun _ => True) w) := by
  refine calls_run (fn := f36) (c := (f36.body).getD .skip) [.agg #[.slice p.ba p.bs.length p.bc, .int .i64 p.near, .int .i64 p.last, .slice p.ta p.ts.length p.tc, .map (some bm)], .int .i64 (b : Int), .int .i64 (m : Int)] func36 (by kernel_rfl) (fun x => x = bm) [(bm, memO kvM (vvM p.n) L)] (fun q hq => by rcases List.mem_singleton.1 hq with rfl; exact ⟨hmap, rfl, rfl⟩) (List.pairwise_singleton _ _) 12 (by kernel_rfl) (by simp) ?_
  refine run_auto [] 2 [] [] [0, 1, 2] [0] (st' := ⟨[(0, .agg #[.slice p.ba p.bs.length p.bc, iV p.near, iV p.last, .slice p.ta p.ts.length p.tc, .map (some bm)]), (1, iV (b : Int)), (2, iV (m : Int))], [(bm, memO kvM (vvM p.n) L)]⟩) (acc := []) (by kernel_rfl) (by kernel_rfl) trivial ?_
  refine run_new (aO #[.slice p.ba p.bs.length p.bc, iV p.near, iV p.last, .slice p.ta p.ts.length p.tc, .map (some bm)] 73) (fun b1 => pA b1) (some 3) (fun _ => by kernel_rfl) (fun b1 hb1 => ?_)
  refine run_new (aO #[iV 0, iV 0] 70) (fun b2 => pA b2) (some 6) (fun _ => by kernel_rfl) (fun b2 hb2 => ?_)
  refine run_auto [] 6 [] [1] [6, 7, 8, 9] [0, 2] (st' := ⟨[(6, pA b2), (7, .agg #[.slice p.ba p.bs.length p.bc, iV p.near, iV p.last, .slice p.ta p.ts.length p.tc, .map (some bm)]), (8, iV (b : Int)), (9, iV (m : Int))], [(b2, aO #[iV 0, iV 0] 70), (bm, memO kvM (vvM p.n) L)]⟩) (acc := [(pA b1, pA b1)]) (by kernel_rfl) (by kernel_rfl) ⟨rfl, trivial⟩ ?_
  refine run_nwl 82 #[.agg #[.slice p.ba p.bs.length p.bc, iV p.near, iV p.last, .slice p.ta p.ts.length p.tc, .map (some bm)], iV (b : Int), iV (m : Int)] (some 10) (α := Nat × Nat × Nat) (fun x => .func (.func 93) #[] #[.pointer (some ⟨(x.1), 0, none⟩), .pointer (some ⟨(x.2.1), 0, none⟩), .pointer (some ⟨(x.2.2), 0, none⟩)]) (fun x => [((x.1), aO #[.slice p.ba p.bs.length p.bc, iV p.near, iV p.last, .slice p.ta p.ts.length p.tc, .map (some bm)] 73), ((x.2.1), aO #[iV (b : Int)] 3), ((x.2.2), aO #[iV (m : Int)] 3)]) (fun x => True) (by kernel_rfl) (fun x p hp => by simp only [List.mem_cons, List.not_mem_nil, or_false] at hp; rcases hp with rfl | rfl | rfl <;> rfl) (fun w1 k1 h1 => possible_any p bm b m w1) (fun x hI3 hn3 => ?_)
  obtain ⟨q13, q23, q33⟩ := x
  dsimp only at hI3 hn3
  have hq13 := hn3 _ (List.mem_of_getElem? (i := 0) rfl)
  have hq23 := hn3 _ (List.mem_of_getElem? (i := 1) rfl)
  have hq33 := hn3 _ (List.mem_of_getElem? (i := 2) rfl)
  refine run_nww 81 #[.func (.func 93) #[] #[pA q13, pA q23, pA q33]] (some 11) (α := List Mo) (fun x => .agg #[iV (p.n.out b m).1, iV (p.n.out b m).2]) (fun x => []) 4 bm (memO kvM (vvM p.n) L) (fun x => memO kvM (vvM p.n) (x)) (fun x => True) (by kernel_rfl) (by kernel_rfl) (fun x => rfl) (fun x p hp => by cases hp) (fun w1 k1 h1 => outerOf_any p bm b m q13 q23 q33 L w1 (h1 (bm, memO kvM (vvM p.n) L) (List.mem_of_getElem? (i := 4) (by kernel_rfl))) ((hin.at k1).map (h1 (bm, memO kvM (vvM p.n) L) (List.mem_of_getElem? (i := 4) (by kernel_rfl)))) hF hb hm (own3 (h1 (q13, aO #[.slice p.ba p.bs.length p.bc, iV p.near, iV p.last, .slice p.ta p.ts.length p.tc, .map (some bm)] 73) (List.mem_of_getElem? (i := 0) (by kernel_rfl))) (h1 (q23, aO #[iV (b : Int)] 3) (List.mem_of_getElem? (i := 1) (by kernel_rfl))) (h1 (q33, aO #[iV (m : Int)] 3) (List.mem_of_getElem? (i := 2) (by kernel_rfl))) (ne_map (h1 (q13, aO #[.slice p.ba p.bs.length p.bc, iV p.near, iV p.last, .slice p.ta p.ts.length p.tc, .map (some bm)] 73) (List.mem_of_getElem? (i := 0) (by kernel_rfl))) (h1 (bm, memO kvM (vvM p.n) L) (List.mem_of_getElem? (i := 4) (by kernel_rfl))) rfl) (ne_map (h1 (q23, aO #[iV (b : Int)] 3) (List.mem_of_getElem? (i := 1) (by kernel_rfl))) (h1 (bm, memO kvM (vvM p.n) L) (List.mem_of_getElem? (i := 4) (by kernel_rfl))) rfl) (ne_map (h1 (q33, aO #[iV (m : Int)] 3) (List.mem_of_getElem? (i := 2) (by kernel_rfl))) (h1 (bm, memO kvM (vvM p.n) L) (List.mem_of_getElem? (i := 4) (by kernel_rfl))) rfl))) (fun x hI4 hn4 => ?_)
  obtain ⟨Lm4, he4⟩ : ∃ y, y = x := ⟨x, rfl⟩
  subst he4
  refine run_auto [] 2 [] [3] [6] [3, 4] (st' := ⟨[(6, pA b2)], [(b2, aO #[iV (p.n.out b m).1, iV (p.n.out b m).2] 70), (bm, memO kvM (vvM p.n) Lm4)]⟩) (acc := [(pA b2, pA b2)]) (by kernel_rfl) (by kernel_rfl) ⟨rfl, trivial⟩ ?_
  refine run_end (fn := f36) rfl (Nat.le_refl _) (by kernel_rfl) [0] [.agg #[iV (p.n.out b m).1, iV (p.n.out b m).2]] (e := [(pA b2, pA b2)]) (by kernel_rfl) ⟨rfl, trivial⟩ (fun w1 k1 h1 => ?_)
  exact ⟨Lm4, trivial, rfl, k1, h1 (bm, _) (List.mem_of_getElem? (i := 1) rfl), (fun q hq => by cases hq), List.Pairwise.nil⟩

end Go.Proofs.Ytfjfkaaflghaiaa

namespace Go.Proofs.Ytfjfkaaflghaiaa
open Go.RowKit Go.Proofs.Try
attribute [local irreducible] Run wpK


def jv (s : Sn) (b m : Nat) : Nat → Int
  | 0 => 1
  | _ + 1 => s.jd b m 0
def ask : Nat → Bool
  | 0 => false
  | _ + 1 => true
theorem judge_all {s : Sn} {b m : Nat} (h : ∀ i, i < slW (elB s.bs b) → s.jd b m i = s.jd b m 0) : s.judge b m = s.jd b m 0 := if_pos h
theorem judge_some {s : Sn} {b m i : Nat} (hi : i < slW (elB s.bs b)) (h : ¬ s.jd b m i = s.jd b m 0) : s.judge b m = 1 := if_neg fun hh => h (hh i hi)
set_option maxRecDepth 100000 in
set_option maxHeartbeats 2000000 in
theorem judge_any (p : Sb) (bm b m : Nat) (L : List Mo) (w : World) (hmap : w.heap[bm]? = some (memO kvM (vvM p.n) L)) (hin : p.InD (fun x => x = bm) w) (hF : p.n.Fine) (hb : b < p.bs.length) (hm : m ≤ 200) : Calls Try.prog 42 #[.agg #[.slice p.ba p.bs.length p.bc, .int .i64 p.near, .int .i64 p.last, .slice p.ta p.ts.length p.tc, .map (some bm)], .int .i64 (b : Int), .int .i64 (m : Int)] w (NwW (α := List Mo) (fun _ => .int .i64 (p.n.judge b m)) (fun _ => []) bm (fun L => memO kvM (vvM p.n) L) (fun _ => True) w) := by
  have hnr : 0 ≤ p.near ∧ p.near ≤ 20 := hF.nr
  have hbl : bm < w.heap.size := (Array.getElem?_eq_some_iff.1 hmap).1
  refine calls_run (fn := f42) (c := (f42.body).getD .skip) [.agg #[.slice p.ba p.bs.length p.bc, .int .i64 p.near, .int .i64 p.last, .slice p.ta p.ts.length p.tc, .map (some bm)], .int .i64 (b : Int), .int .i64 (m : Int)] func42 (by kernel_rfl) (fun x => x = bm) [(bm, memO kvM (vvM p.n) L)] (fun q hq => by rcases List.mem_singleton.1 hq with rfl; exact ⟨hmap, rfl, rfl⟩) (List.pairwise_singleton _ _) 29 (by kernel_rfl) (by simp) ?_
  refine run_auto [] 2 [] [] [0, 1, 2] [0] (st' := ⟨[(0, .agg #[.slice p.ba p.bs.length p.bc, iV p.near, iV p.last, .slice p.ta p.ts.length p.tc, .map (some bm)]), (1, iV (b : Int)), (2, iV (m : Int))], [(bm, memO kvM (vvM p.n) L)]⟩) (acc := []) (by kernel_rfl) (by kernel_rfl) trivial ?_
  refine run_new (aO #[.slice p.ba p.bs.length p.bc, iV p.near, iV p.last, .slice p.ta p.ts.length p.tc, .map (some bm)] 73) (fun b1 => pA b1) (some 3) (fun _ => by kernel_rfl) (fun b1 hb1 => ?_)
  refine run_new (aO #[iV 0] 3) (fun b2 => pA b2) (some 6) (fun _ => by kernel_rfl) (fun b2 hb2 => ?_)
  refine run_auto [] 3 [] [] [1, 2, 3, 6] [0, 1, 2] (st' := ⟨[(1, iV (b : Int)), (2, iV (m : Int)), (3, pA b1), (6, pA b2)], [(b2, aO #[iV 0] 3), (b1, aO #[.slice p.ba p.bs.length p.bc, iV p.near, iV p.last, .slice p.ta p.ts.length p.tc, .map (some bm)] 73), (bm, memO kvM (vvM p.n) L)]⟩) (acc := []) (by kernel_rfl) (by kernel_rfl) trivial ?_
  refine run_new (aO #[iV 0] 3) (fun b3 => pA b3) (some 7) (fun _ => by kernel_rfl) (fun b3 hb3 => ?_)
  refine run_new (aO #[.bool false] 4) (fun b4 => pA b4) (some 8) (fun _ => by kernel_rfl) (fun b4 hb4 => ?_)
  refine run_auto [] 9 [] [1, 0, 3] [3, 6, 7, 8, 11, 12, 13] [0, 1, 2, 3, 4] (st' := ⟨[(3, pA b1), (6, pA b2), (7, pA b3), (8, pA b4), (11, .agg #[.slice p.ba p.bs.length p.bc, iV p.near, iV p.last, .slice p.ta p.ts.length p.tc, .map (some bm)]), (12, iV (b : Int)), (13, iV (m : Int))], [(b4, aO #[.bool false] 4), (b3, aO #[iV 1] 3), (b2, aO #[iV 0] 3), (b1, aO #[.slice p.ba p.bs.length p.bc, iV p.near, iV p.last, .slice p.ta p.ts.length p.tc, .map (some bm)] 73), (bm, memO kvM (vvM p.n) L)]⟩) (acc := [(pA b1, pA b1), (pA b4, pA b4), (pA b3, pA b3)]) (by kernel_rfl) (by kernel_rfl) ⟨rfl, rfl, rfl, trivial⟩ ?_
  refine run_nwl 82 #[.agg #[.slice p.ba p.bs.length p.bc, iV p.near, iV p.last, .slice p.ta p.ts.length p.tc, .map (some bm)], iV (b : Int), iV (m : Int)] (some 14) (α := Nat × Nat × Nat) (fun x => .func (.func 93) #[] #[.pointer (some ⟨(x.1), 0, none⟩), .pointer (some ⟨(x.2.1), 0, none⟩), .pointer (some ⟨(x.2.2), 0, none⟩)]) (fun x => [((x.1), aO #[.slice p.ba p.bs.length p.bc, iV p.near, iV p.last, .slice p.ta p.ts.length p.tc, .map (some bm)] 73), ((x.2.1), aO #[iV (b : Int)] 3), ((x.2.2), aO #[iV (m : Int)] 3)]) (fun x => True) (by kernel_rfl) (fun x p hp => by simp only [List.mem_cons, List.not_mem_nil, or_false] at hp; rcases hp with rfl | rfl | rfl <;> rfl) (fun w1 k1 h1 => possible_any p bm b m w1) (fun x hI5 hn5 => ?_)
  obtain ⟨q15, q25, q35⟩ := x
  dsimp only at hI5 hn5
  have hq15 := hn5 _ (List.mem_of_getElem? (i := 0) rfl)
  have hq25 := hn5 _ (List.mem_of_getElem? (i := 1) rfl)
  have hq35 := hn5 _ (List.mem_of_getElem? (i := 2) rfl)
  refine run_auto [] 2 [] [] [3, 6, 7, 8, 14] [0, 1, 2, 3, 4, 5, 6, 7] (st' := ⟨[(3, pA b1), (6, pA b2), (7, pA b3), (8, pA b4), (14, .func (.func 93) #[] #[pA q15, pA q25, pA q35])], [(q15, aO #[.slice p.ba p.bs.length p.bc, iV p.near, iV p.last, .slice p.ta p.ts.length p.tc, .map (some bm)] 73), (q25, aO #[iV (b : Int)] 3), (q35, aO #[iV (m : Int)] 3), (b4, aO #[.bool false] 4), (b3, aO #[iV 1] 3), (b2, aO #[iV 0] 3), (b1, aO #[.slice p.ba p.bs.length p.bc, iV p.near, iV p.last, .slice p.ta p.ts.length p.tc, .map (some bm)] 73), (bm, memO kvM (vvM p.n) L)]⟩) (acc := []) (by kernel_rfl) (by kernel_rfl) trivial ?_
  refine run_auto [] 0 [] [] [3, 6, 7, 8, 14] [7, 0, 1, 2, 3, 4, 5, 6] (st' := ⟨[(3, pA b1), (6, pA b2), (7, pA b3), (8, pA b4), (14, .func (.func 93) #[] #[pA q15, pA q25, pA q35])], [(bm, memO kvM (vvM p.n) L), (q15, aO #[.slice p.ba p.bs.length p.bc, iV p.near, iV p.last, .slice p.ta p.ts.length p.tc, .map (some bm)] 73), (q25, aO #[iV (b : Int)] 3), (q35, aO #[iV (m : Int)] 3), (b4, aO #[.bool false] 4), (b3, aO #[iV 1] 3), (b2, aO #[iV 0] 3), (b1, aO #[.slice p.ba p.bs.length p.bc, iV p.near, iV p.last, .slice p.ta p.ts.length p.tc, .map (some bm)] 73)]⟩) (acc := []) (by kernel_rfl) (by kernel_rfl) trivial ?_
  refine run_rangeW (σ := Nat) (τ := Nat) (υ := List Mo) [(bm, memO kvM (vvM p.n) L)] (fun xw => [(bm, memO kvM (vvM p.n) xw)]) (fun xw => rfl) (fun xw p hp => by simp only [List.mem_cons, List.not_mem_nil, or_false] at hp; rcases hp with rfl <;> rfl) 93 #[pA q15, pA q25, pA q35] [15] [(q15, aO #[.slice p.ba p.bs.length p.bc, iV p.near, iV p.last, .slice p.ta p.ts.length p.tc, .map (some bm)] 73), (q25, aO #[iV (b : Int)] 3), (q35, aO #[iV (m : Int)] 3)] [(b4, aO #[.bool false] 4), (b3, aO #[iV 1] 3), (b2, aO #[iV 0] 3), (b1, aO #[.slice p.ba p.bs.length p.bc, iV p.near, iV p.last, .slice p.ta p.ts.length p.tc, .map (some bm)] 73)] (fun D w => p.InD (fun x => D x ∨ inNames [(bm, memO kvM (vvM p.n) L)] x) w) (fun l => l <+: rgL (slW (elB p.bs b)) (enG p.n (elB p.bs b) b m)) (fun l => l = rgL (slW (elB p.bs b)) (enG p.n (elB p.bs b) b m)) (by kernel_rfl) rfl rfl (fun l => by kernel_rfl) rfl (by kernel_rfl) (fun pre x hx => by rw [(rgL_at hx).2.2]; rfl) (GivesW.own (fun q hq => by simp only [List.mem_cons, List.not_mem_nil, or_false] at hq; rcases hq with rfl | rfl | rfl <;> exact fun hw => absurd (List.mem_singleton.1 hw) (Nat.ne_of_gt (Nat.lt_of_lt_of_le hbl (by assumption)))) (possible_give p bm b m q15 q25 q35 L hF hb hm)) (fun D w1 k1 hD => hin.kept k1 (fun b hb h => h.elim (hD b hb) (fun h => List.mem_singleton.1 h)))
    (fun s => [(b4, aO #[.bool (ask s)] 4), (b3, aO #[iV (jv p.n b m s)] 3), (b2, aO #[iV 0] 3), (b1, aO #[.slice p.ba p.bs.length p.bc, iV p.near, iV p.last, .slice p.ta p.ts.length p.tc, .map (some bm)] 73)]) (fun s => Ext.none) (fun pre s => s = (pre).length ∧ ∀ i, i < s → p.n.jd b m i = p.n.jd b m 0) (fun y => [(b4, aO #[.bool (ask y)] 4), (b3, aO #[iV (jv p.n b m y)] 3), (b2, aO #[iV 1] 3), (b1, aO #[.slice p.ba p.bs.length p.bc, iV p.near, iV p.last, .slice p.ta p.ts.length p.tc, .map (some bm)] 73)]) (fun y => Ext.none) (fun c y => c = .ret ∧ y < slW (elB p.bs b) ∧ ¬ p.n.jd b m y = p.n.jd b m 0) (0) (⟨rfl, fun i hi => absurd hi (Nat.not_lt_zero _)⟩) rfl rfl (fun _ _ _ => ⟨rfl, fun _ _ h => h.elim⟩) (fun _ _ _ => rfl)
    (fun pre x s hpre hI l0 ms ro ob w0 Jb Jn Je hkk hll hbeg hnext hexit => ?_) (fun xw ys s hys hI => ?_) (fun xw c y hI => ?_)
  · skip
    have hpre : pre ++ [x] <+: rgL (slW (elB p.bs b)) (enG p.n (elB p.bs b) b m) := hpre
    have hx := rgL_at hpre
    rw [← hI.1] at hx
    obtain rfl := hx.2.2
    refine run_auto [] 1 [] [] [3, 6, 7, 8, 15] [0, 1, 2, 3] (st' := ⟨[(3, pA b1), (6, pA b2), (7, pA b3), (8, pA b4), (15, .agg #[iV ((p.n.en b (slN (elB p.bs b) s) m).1), iV ((p.n.en b (slN (elB p.bs b) s) m).2)])], [(b4, aO #[.bool (ask s)] 4), (b3, aO #[iV (jv p.n b m s)] 3), (b2, aO #[iV 0] 3), (b1, aO #[.slice p.ba p.bs.length p.bc, iV p.near, iV p.last, .slice p.ta p.ts.length p.tc, .map (some bm)] 73)]⟩) (acc := []) (by kernel_rfl) (by kernel_rfl) trivial ?_
    refine run_new (aO #[iV 0, iV 0] 70) (fun b6 => pA b6) (some 9) (fun _ => by kernel_rfl) (fun b6 hb6 => ?_)
    refine run_auto [] 2 [] [0] [3, 6, 7, 8, 9] [0, 1, 2, 3, 4] (st' := ⟨[(3, pA b1), (6, pA b2), (7, pA b3), (8, pA b4), (9, pA b6)], [(b6, aO #[iV ((p.n.en b (slN (elB p.bs b) s) m).1), iV ((p.n.en b (slN (elB p.bs b) s) m).2)] 70), (b4, aO #[.bool (ask s)] 4), (b3, aO #[iV (jv p.n b m s)] 3), (b2, aO #[iV 0] 3), (b1, aO #[.slice p.ba p.bs.length p.bc, iV p.near, iV p.last, .slice p.ta p.ts.length p.tc, .map (some bm)] 73)]⟩) (acc := [(pA b6, pA b6)]) (by kernel_rfl) (by kernel_rfl) ⟨rfl, trivial⟩ ?_
    refine run_round rfl (hbeg _ ?_)
    refine run_auto [] 7 [] [0, 4] [6, 7, 8, 16, 19] [1, 2, 3, 4] (st' := ⟨[(6, pA b2), (7, pA b3), (8, pA b4), (16, .agg #[iV ((p.n.en b (slN (elB p.bs b) s) m).1), iV ((p.n.en b (slN (elB p.bs b) s) m).2)]), (19, iV p.near)], [(b4, aO #[.bool (ask s)] 4), (b3, aO #[iV (jv p.n b m s)] 3), (b2, aO #[iV 0] 3), (b1, aO #[.slice p.ba p.bs.length p.bc, iV p.near, iV p.last, .slice p.ta p.ts.length p.tc, .map (some bm)] 73)]⟩) (acc := [(pA b1, pA b1), (pA b6, pA b6)]) (by kernel_rfl) (by kernel_rfl) ⟨rfl, rfl, trivial⟩ ?_
    refine run_ret1 86 #[.agg #[iV ((p.n.en b (slN (elB p.bs b) s) m).1), iV ((p.n.en b (slN (elB p.bs b) s) m).2)], iV p.near] (some 20) (iV (jdE p.near (p.n.en b (slN (elB p.bs b) s) m))) (by kernel_rfl) (fun w1 k1 h1 => ejudge_any ((p.n.en b (slN (elB p.bs b) s) m).1) ((p.n.en b (slN (elB p.bs b) s) m).2) p.near (by omega) (by omega) w1) ?_
    cases hd1 : (id (ask s)) with
    | false =>
      have hs0 : s = 0 := by cases s with | zero => rfl | succ s => exact absurd hd1 (by simp [ask])
      refine run_auto [(22, .bool false)] 20 [false] [0, 1, 0] [] [0, 1, 2, 3] (st' := ⟨[], [(b4, aO #[.bool true] 4), (b3, aO #[iV (jdE p.near (p.n.en b (slN (elB p.bs b) s) m))] 3), (b2, aO #[iV 0] 3), (b1, aO #[.slice p.ba p.bs.length p.bc, iV p.near, iV p.last, .slice p.ta p.ts.length p.tc, .map (some bm)] 73)]⟩) (acc := [(pA b4, pA b4), (pA b3, pA b3), (.bool false, .bool false), (.bool (ask s), .bool false), (pA b4, pA b4)]) (by kernel_rfl) (by kernel_rfl) ⟨rfl, rfl, rfl, (bo hd1), rfl, trivial⟩ ?_
      have e1 : jdE p.near (p.n.en b (slN (elB p.bs b) s) m) = p.n.jd b m 0 := (by subst hs0; rfl)
      rw [e1]
      exact run_nil rfl (fun a_ w1 g_ => hnext (s + 1) _ ⟨by rw [List.length_append, ← hI.1]; rfl, fun i hi => (Nat.lt_succ_iff_lt_or_eq.1 hi).elim (hI.2 i) (fun h => h ▸ e1)⟩ (fun b h => h.elim) a_ w1 g_)
    | true =>
      have hjs : jv p.n b m s = p.n.jd b m 0 := by cases s with | zero => exact absurd hd1 (by simp [ask]) | succ s => rfl
      cases hd2 : ((jdE p.near (p.n.en b (slN (elB p.bs b) s) m)) != (jv p.n b m s)) with
      | false =>
        have hp2 : (jdE p.near (p.n.en b (slN (elB p.bs b) s) m)) = (jv p.n b m s) := by simpa using hd2
        refine run_auto [(22, .bool true), (25, .bool false)] 20 [false] [0, 1, 1, 0] [] [0, 1, 2, 3] (st' := ⟨[], [(b4, aO #[.bool true] 4), (b3, aO #[iV (jdE p.near (p.n.en b (slN (elB p.bs b) s) m))] 3), (b2, aO #[iV 0] 3), (b1, aO #[.slice p.ba p.bs.length p.bc, iV p.near, iV p.last, .slice p.ta p.ts.length p.tc, .map (some bm)] 73)]⟩) (acc := [(pA b4, pA b4), (pA b3, pA b3), (.bool false, .bool false), (.bool ((jdE p.near (p.n.en b (slN (elB p.bs b) s) m)) != (jv p.n b m s)), .bool false), (pA b3, pA b3), (.bool (ask s), .bool true), (pA b4, pA b4)]) (by kernel_rfl) (by kernel_rfl) ⟨rfl, rfl, rfl, (bo hd2), rfl, (bo hd1), rfl, trivial⟩ ?_
        have e1 : jdE p.near (p.n.en b (slN (elB p.bs b) s) m) = p.n.jd b m 0 := (hp2.trans hjs)
        rw [e1]
        exact run_nil rfl (fun a_ w1 g_ => hnext (s + 1) _ ⟨by rw [List.length_append, ← hI.1]; rfl, fun i hi => (Nat.lt_succ_iff_lt_or_eq.1 hi).elim (hI.2 i) (fun h => h ▸ e1)⟩ (fun b h => h.elim) a_ w1 g_)
      | true =>
        have hp2 : ¬ (jdE p.near (p.n.en b (slN (elB p.bs b) s) m)) = (jv p.n b m s) := by simpa using hd2
        refine run_auto [(22, .bool true), (25, .bool true)] 17 [true] [0, 1, 2] [] [0, 1, 2, 3] (st' := ⟨[], [(b4, aO #[.bool (ask s)] 4), (b3, aO #[iV (jv p.n b m s)] 3), (b2, aO #[iV 1] 3), (b1, aO #[.slice p.ba p.bs.length p.bc, iV p.near, iV p.last, .slice p.ta p.ts.length p.tc, .map (some bm)] 73)]⟩) (acc := [(pA b2, pA b2), (.bool true, .bool true), (.bool ((jdE p.near (p.n.en b (slN (elB p.bs b) s) m)) != (jv p.n b m s)), .bool true), (pA b3, pA b3), (.bool (ask s), .bool true), (pA b4, pA b4)]) (by kernel_rfl) (by kernel_rfl) ⟨rfl, rfl, (bo hd2), rfl, (bo hd1), rfl, trivial⟩ ?_
        exact run_retQ rfl (fun a_ w1 g_ => hexit .ret s _ ⟨rfl, hx.1, (fun h => hp2 (h.trans hjs.symm))⟩ (.inl rfl) (fun b h => h.elim) a_ w1 g_)
  · skip
    obtain rfl : ys = rgL (slW (elB p.bs b)) (enG p.n (elB p.bs b) b m) := hys
    have hs : s = slW (elB p.bs b) := by rw [hI.1, rgL_len]
    have hI2 := hI.2
    clear hI
    subst hs
    have hjv : jv p.n b m (slW (elB p.bs b)) = p.n.judge b m := by
      rw [judge_all hI2]
      obtain ⟨z, hz⟩ : ∃ z, slW (elB p.bs b) = z + 1 := ⟨slW (elB p.bs b) - 1, by have := (slW_bd (show BkF (elB p.bs b) from hF.bkF hb)).1; omega⟩
      rw [hz]
      rfl
    refine run_auto [] 6 [] [2, 3] [6] [0, 3] (st' := ⟨[(6, pA b2)], [(bm, memO kvM (vvM p.n) xw), (b2, aO #[iV (jv p.n b m (slW (elB p.bs b)))] 3)]⟩) (acc := [(pA b2, pA b2), (pA b3, pA b3)]) (by kernel_rfl) (by kernel_rfl) ⟨rfl, rfl, trivial⟩ ?_
    refine run_end (fn := f42) rfl (Nat.le_refl _) (by kernel_rfl) [1] [iV (jv p.n b m (slW (elB p.bs b)))] (e := [(pA b2, pA b2)]) (by kernel_rfl) ⟨rfl, trivial⟩ (fun w1 k1 h1 => ?_)
    skip
    exact ⟨xw, trivial, by rw [← hjv]; rfl, k1, h1 (bm, _) (List.mem_of_getElem? (i := 0) rfl), (fun q hq => by cases hq), List.Pairwise.nil⟩
  · skip
    obtain ⟨rfl, hy1, hy2⟩ := hI
    have hjd := judge_some hy1 hy2
    refine run_end (fn := f42) rfl (Nat.le_refl _) (by kernel_rfl) [3] [iV 1] (e := [(pA b2, pA b2)]) (by kernel_rfl) ⟨rfl, trivial⟩ (fun w1 k1 h1 => ?_)
    skip
    exact ⟨xw, trivial, by rw [hjd]; rfl, k1, h1 (bm, _) (List.mem_of_getElem? (i := 0) rfl), (fun q hq => by cases hq), List.Pairwise.nil⟩

set_option maxRecDepth 100000 in
theorem settled_any (p : Sb) (bm b m : Nat) (L : List Mo) (w : World) (hmap : w.heap[bm]? = some (memO kvM (vvM p.n) L)) (hin : p.InD (fun x => x = bm) w) (hF : p.n.Fine) (hb : b < p.bs.length) (hm : m ≤ 200) : Calls Try.prog 55 #[.agg #[.slice p.ba p.bs.length p.bc, .int .i64 p.near, .int .i64 p.last, .slice p.ta p.ts.length p.tc, .map (some bm)], .int .i64 (b : Int), .int .i64 (m : Int)] w (NwW (α := List Mo) (fun _ => .bool (p.n.set b m)) (fun _ => []) bm (fun L => memO kvM (vvM p.n) L) (fun _ => True) w) := by
  refine calls_run (fn := f55) (c := (f55.body).getD .skip) [.agg #[.slice p.ba p.bs.length p.bc, .int .i64 p.near, .int .i64 p.last, .slice p.ta p.ts.length p.tc, .map (some bm)], .int .i64 (b : Int), .int .i64 (m : Int)] func55 (by kernel_rfl) (fun x => x = bm) [(bm, memO kvM (vvM p.n) L)] (fun q hq => by rcases List.mem_singleton.1 hq with rfl; exact ⟨hmap, rfl, rfl⟩) (List.pairwise_singleton _ _) 12 (by kernel_rfl) (by simp) ?_
  refine run_auto [] 2 [] [] [0, 1, 2] [0] (st' := ⟨[(0, .agg #[.slice p.ba p.bs.length p.bc, iV p.near, iV p.last, .slice p.ta p.ts.length p.tc, .map (some bm)]), (1, iV (b : Int)), (2, iV (m : Int))], [(bm, memO kvM (vvM p.n) L)]⟩) (acc := []) (by kernel_rfl) (by kernel_rfl) trivial ?_
  refine run_new (aO #[.slice p.ba p.bs.length p.bc, iV p.near, iV p.last, .slice p.ta p.ts.length p.tc, .map (some bm)] 73) (fun b1 => pA b1) (some 3) (fun _ => by kernel_rfl) (fun b1 hb1 => ?_)
  refine run_auto [] 7 [] [0] [6, 7, 8, 9] [1] (st' := ⟨[(6, .bool false), (7, .agg #[.slice p.ba p.bs.length p.bc, iV p.near, iV p.last, .slice p.ta p.ts.length p.tc, .map (some bm)]), (8, iV (b : Int)), (9, iV (m : Int))], [(bm, memO kvM (vvM p.n) L)]⟩) (acc := [(pA b1, pA b1)]) (by kernel_rfl) (by kernel_rfl) ⟨rfl, trivial⟩ ?_
  refine run_nww 42 #[.agg #[.slice p.ba p.bs.length p.bc, iV p.near, iV p.last, .slice p.ta p.ts.length p.tc, .map (some bm)], iV (b : Int), iV (m : Int)] (some 10) (α := List Mo) (fun x => iV (p.n.judge b m)) (fun x => []) 0 bm (memO kvM (vvM p.n) L) (fun x => memO kvM (vvM p.n) (x)) (fun x => True) (by kernel_rfl) (by kernel_rfl) (fun x => rfl) (fun x p hp => by cases hp) (fun w1 k1 h1 => judge_any p bm b m L w1 (h1 (bm, memO kvM (vvM p.n) L) (List.mem_of_getElem? (i := 0) (by kernel_rfl))) ((hin.at k1).map (h1 (bm, memO kvM (vvM p.n) L) (List.mem_of_getElem? (i := 0) (by kernel_rfl)))) hF hb hm) (fun x hI2 hn2 => ?_)
  obtain ⟨Lm2, he2⟩ : ∃ y, y = x := ⟨x, rfl⟩
  subst he2
  refine run_auto [] 3 [] [] [6] [0] (st' := ⟨[(6, .bool ((p.n.judge b m) == 2))], [(bm, memO kvM (vvM p.n) Lm2)]⟩) (acc := []) (by kernel_rfl) (by kernel_rfl) trivial ?_
  refine run_end (fn := f55) rfl (Nat.le_refl _) (by kernel_rfl) [] [.bool ((p.n.judge b m) == 2)] (e := []) (by kernel_rfl) trivial (fun w1 k1 h1 => ?_)
  exact ⟨Lm2, trivial, (by unfold Sn.set; rfl), k1, h1 (bm, _) (List.mem_of_getElem? (i := 0) rfl), (fun q hq => by cases hq), List.Pairwise.nil⟩

end Go.Proofs.Ytfjfkaaflghaiaa

namespace Go.Proofs.Ytfjfkaaflghaiaa
open Go.RowKit Go.Proofs.Try
attribute [local irreducible] Run wpK


def firstL {α : Type} (p : α → Bool) : List α → Option α
  | [] => none
  | a :: l => bif p a then some a else firstL p l
theorem firstL_none {α : Type} {p : α → Bool} : ∀ {l : List α}, firstL p l = none ↔ ∀ x ∈ l, p x = false
  | [] => by simp [firstL]
  | a :: l => by
    unfold firstL
    cases h : p a with
    | true => simp [h]
    | false => simp [h, firstL_none (l := l)]
theorem firstL_append {α : Type} (p : α → Bool) : ∀ (l l' : List α), (∀ x ∈ l, p x = false) → firstL p (l ++ l') = firstL p l'
  | [], _, _ => rfl
  | a :: l, l', h => by
    show (bif p a then some a else firstL p (l ++ l')) = _
    rw [h a List.mem_cons_self]
    exact firstL_append p l l' fun x hx => h x (List.mem_cons_of_mem _ hx)
def frN (pr : Nat → Bool) (n : Nat) : Option Nat := firstL pr (List.range n)
def fnV (num : Nat → Int) (o : Option Nat) : Int := match o with
  | some i => num i
  | none => 0
theorem frN_none {pr : Nat → Bool} {n : Nat} (h : ∀ i, i < n → pr i = false) : frN pr n = none := firstL_none.2 fun i hi => h i (List.mem_range.1 hi)
theorem frN_some {pr : Nat → Bool} {n y : Nat} (hy : y < n) (hp : pr y = true) (h : ∀ i, i < y → pr i = false) : frN pr n = some y := by
  unfold frN
  obtain ⟨d, rfl⟩ := Nat.exists_eq_add_of_le (show y + 1 ≤ n from hy)
  rw [show List.range (y + 1 + d) = List.range (y + 1) ++ (List.range d).map (y + 1 + ·) from List.range_add, List.range_succ, List.append_assoc, firstL_append _ _ _ fun i hi => h i (List.mem_range.1 hi)]
  show (bif pr y then some y else _) = _
  rw [hp]
  rfl
theorem frN_is {pr : Nat → Bool} {n : Nat} : (frN pr n = none ∧ ∀ i, i < n → pr i = false) ∨ ∃ y, frN pr n = some y ∧ y < n ∧ pr y = true ∧ ∀ i, i < y → pr i = false := by
  by_cases h : ∃ i, i < n ∧ pr i = true
  · right
    obtain ⟨i, hi, hp⟩ := h
    have key : ∀ i, i < n → pr i = true → ∃ y, y ≤ i ∧ pr y = true ∧ ∀ j, j < y → pr j = false := by
      intro i
      induction i using Nat.strongRecOn with
      | _ i ih =>
        intro hi hp
        by_cases h2 : ∃ j, j < i ∧ pr j = true
        · obtain ⟨j, hj, hpj⟩ := h2
          obtain ⟨y, h3, h4⟩ := ih j hj (by omega) hpj
          exact ⟨y, by omega, h4⟩
        · exact ⟨i, Nat.le_refl _, hp, fun j hj => by
            cases hb : pr j with
            | false => rfl
            | true => exact absurd ⟨j, hj, hb⟩ h2⟩
    obtain ⟨y, h1, h2, h3⟩ := key i hi hp
    exact ⟨y, frN_some (by omega) h2 h3, by omega, h2, h3⟩
  · left
    have h2 : ∀ i, i < n → pr i = false := fun i hi => by
      cases hb : pr i with
      | false => rfl
      | true => exact absurd ⟨i, hi, hb⟩ h
    exact ⟨frN_none h2, h2⟩
def dnG (N i : Nat) : List Value := [.int .i64 ((N - i : Nat) : Int)]
def upG (i : Nat) : List Value := [.int .i64 (i : Int)]
def dnN (N i : Nat) : Int := ((N - i : Nat) : Int)
def upN (i : Nat) : Int := (i : Int)

/-- What is found, or a panic. -/
def Fnd (b : Bool) (z : Int) (w : World) (e : Ending) (w' : World) : Prop := bif b then RetI z w e w' else Pan 4 w e w'
theorem GivesO.ok {own : List (Nat × Obj)} {D : Nat → Prop} {w : World} (h : OwnD own D w) : OwnD own D w := h
theorem Gives.own {P : Program} {gf : FuncId} {caps : Array Value} {own : List (Nat × Obj)} {Pin : (Nat → Prop) → World → Prop} {Pre Fin : List (List Value) → Prop} (h : Gives P gf caps [] (fun D w => OwnD own D w ∧ Pin D w) Pre Fin) : Gives P gf caps own Pin Pre Fin :=
  fun l J Jx E0 w hE0 hst hJw hown hdis hin hy => h l J Jx E0 w hE0 hst hJw (fun p hp => by cases hp) (fun p hp => by cases hp) ⟨fun p hp => ⟨hown p hp, hdis p hp⟩, hin⟩ hy
set_option maxRecDepth 100000 in
theorem downFrom_any (N : Int) (w : World)  : Calls Try.prog 57 #[.int .i64 N] w (Nw (α := Unit) (fun _ b => .func (.func 89) #[] #[.pointer (some ⟨b, 0, none⟩)]) (fun _ => .cells #[.int .i64 N] 3 (0, 0)) (fun _ => True) w) := by
  refine calls_run (fn := f57) (c := (f57.body).getD .skip) [.int .i64 N] func57 (by kernel_rfl) (fun _ => False) [] (fun _ h => by cases h) (List.Pairwise.nil) 4 (by kernel_rfl) (by simp) ?_
  refine run_auto [] 2 [] [] [0] [] (st' := ⟨[(0, iV N)], []⟩) (acc := []) (by kernel_rfl) (by kernel_rfl) trivial ?_
  refine run_new (aO #[iV N] 3) (fun b1 => pA b1) (some 1) (fun _ => by kernel_rfl) (fun b1 hb1 => ?_)
  refine run_auto [] 7 [] [] [2] [0] (st' := ⟨[(2, .func (.func 89) #[] #[pA b1])], [(b1, aO #[iV N] 3)]⟩) (acc := []) (by kernel_rfl) (by kernel_rfl) trivial ?_
  refine run_end (fn := f57) rfl (Nat.le_refl _) (by kernel_rfl) [] [.func (.func 89) #[] #[pA b1]] (e := []) (by kernel_rfl) trivial (fun w1 k1 h1 => ?_)
  exact ⟨(), b1, trivial, hb1, rfl, k1.keeps (fun _ h => h), h1 (b1, _) (List.mem_of_getElem? (i := 0) rfl)⟩

set_option maxRecDepth 100000 in
theorem upTo_any (N : Int) (w : World)  : Calls Try.prog 53 #[.int .i64 N] w (Nw (α := Unit) (fun _ b => .func (.func 88) #[] #[.pointer (some ⟨b, 0, none⟩)]) (fun _ => .cells #[.int .i64 N] 3 (0, 0)) (fun _ => True) w) := by
  refine calls_run (fn := f53) (c := (f53.body).getD .skip) [.int .i64 N] func53 (by kernel_rfl) (fun _ => False) [] (fun _ h => by cases h) (List.Pairwise.nil) 4 (by kernel_rfl) (by simp) ?_
  refine run_auto [] 2 [] [] [0] [] (st' := ⟨[(0, iV N)], []⟩) (acc := []) (by kernel_rfl) (by kernel_rfl) trivial ?_
  refine run_new (aO #[iV N] 3) (fun b1 => pA b1) (some 1) (fun _ => by kernel_rfl) (fun b1 hb1 => ?_)
  refine run_auto [] 7 [] [] [2] [0] (st' := ⟨[(2, .func (.func 88) #[] #[pA b1])], [(b1, aO #[iV N] 3)]⟩) (acc := []) (by kernel_rfl) (by kernel_rfl) trivial ?_
  refine run_end (fn := f53) rfl (Nat.le_refl _) (by kernel_rfl) [] [.func (.func 88) #[] #[pA b1]] (e := []) (by kernel_rfl) trivial (fun w1 k1 h1 => ?_)
  exact ⟨(), b1, trivial, hb1, rfl, k1.keeps (fun _ h => h), h1 (b1, _) (List.mem_of_getElem? (i := 0) rfl)⟩

set_option maxRecDepth 100000 in
theorem downFrom_give (N b : Nat) (hN : N ≤ 100000) : Gives Try.prog 89 #[.pointer (some ⟨b, 0, none⟩)] [] (OwnD [(b, .cells #[.int .i64 (N : Int)] 3 (0, 0))]) (fun l => l <+: rgL (N + 1) (dnG N)) (fun l => l = rgL (N + 1) (dnG N)) := by
  intro l J Jx E0 w hE0 hst hJw hown hdis hin hy
  have hb := (hin _ (List.mem_singleton.2 rfl)).1
  have hnd := (hin _ (List.mem_singleton.2 rfl)).2
  refine calls_runE (fn := f89) (c := (f89.body).getD .skip) [.func (.yield l) #[] #[], .pointer (some ⟨b, 0, none⟩)] func89 (by kernel_rfl) E0 hE0 hJw 13 (by kernel_rfl) (by simp) ?_
  refine run_auto [] 2 [] [] [0, 1] [] (st' := ⟨[(0, .func (.yield l) #[] #[]), (1, pA b)], []⟩) (acc := []) (by kernel_rfl) (by kernel_rfl) trivial ?_
  refine run_v (Instr.loadAt 3 (pA b) >>= fun v => pure (Next.value v)) (some 4) (iV (N : Int)) (by kernel_rfl) (fun w1 k1 h1 => load_in (base := 0) (off := 0) k1 hnd [iV (N : Int)] (fun i u hi => by rw [Nat.zero_add]; exact cells_of_heap hb i u hi) (by kernel_rfl)) ?_
  refine run_auto [] 3 [] [] [0, 3] [] (st' := ⟨[(0, .func (.yield l) #[] #[]), (3, iV (N : Int))], []⟩) (acc := []) (by kernel_rfl) (by kernel_rfl) trivial ?_
  refine run_auto [] 0 [] [] [0, 3] [] (st' := ⟨[(0, .func (.yield l) #[] #[]), (3, iV (N : Int))], []⟩) (acc := []) (by kernel_rfl) (by kernel_rfl) trivial ?_
  refine run_loopE (σ := Nat × Ext) (S := fun (x : Nat × Ext) => ⟨[(0, .func (.yield l) #[] #[]), (3, iV ((N : Int) - (x.1 : Int)))], []⟩) (fun (x : Nat × Ext) => x.2) (fun (x : Nat × Ext) => x.1 ≤ (N + 1) ∧ J (rgL x.1 (dnG N)) x.2 ∧ x.2.n0 = E0.n0 ∧ (∀ b, b < w.heap.size → x.2.D b → E0.D b)) (fun (x : Nat × Ext) => (N + 1) - x.1) ((0, E0)) (by kernel_rfl) (⟨Nat.zero_le _, hst, rfl, (fun _ _ h => h)⟩) (by simp) rfl (fun x hI0 J0 hJ0 => ?_)
  obtain ⟨i, Ea⟩ := x
  obtain ⟨hl0, hJa, hna, hsa⟩ := hI0
  dsimp only at hl0 hJa hna hsa hJ0
  cases hd1 : (decide (0 ≤ ((N : Int) - (i : Int)))) with
  | false =>
    have hp1 := of_decide_eq_false hd1
    refine run_auto [(6, .bool false)] 8 [false] [] [] [] (st' := ⟨[], []⟩) (acc := [(.bool false, .bool false), (.bool (decide (0 ≤ ((N : Int) - (i : Int)))), .bool false)]) (by kernel_rfl) (by kernel_rfl) ⟨rfl, (bo hd1), trivial⟩ ?_
    refine run_endE (fn := f89) rfl (Nat.le_refl _) (by kernel_rfl) [] [] (e := []) (by kernel_rfl) trivial (fun w1 k1 h1 hE1 => ?_)
    exact ⟨rfl, Ea, hna, hE1, .inl ⟨_, rfl, by have h := hJa; rw [show i = (N + 1) by omega] at h; exact h⟩⟩
  | true =>
    have hp1 := of_decide_eq_true hd1
    obtain ⟨m, hm⟩ : ∃ m : Nat, N = m + i := ⟨N - i, by omega⟩
    rw [show (N : Int) - (i : Int) = (m : Int) from by omega]
    have hrev : dnG N i = [iV (m : Int)] := by unfold dnG; rw [show N - i = m from by omega]
    have hm0 : decide (0 ≤ (m : Int)) = true := decide_eq_true (by omega)
    refine run_auto [(6, .bool true)] 14 [true] [] [0, 3, 9, 10] [] (st' := ⟨[(0, .func (.yield l) #[] #[]), (3, iV (m : Int)), (9, .func (.yield l) #[] #[]), (10, iV (m : Int))], []⟩) (acc := [(.bool true, .bool true), (.bool (decide (0 ≤ (m : Int))), .bool true)]) (by kernel_rfl) (by kernel_rfl) ⟨rfl, (bo hm0), trivial⟩ ?_
    have hpre := rgL_pre (dnG N) (i := i) (n := (N + 1)) (by omega)
    rw [hrev] at hpre
    refine run_yield l #[iV (m : Int)] (some 11) (by kernel_rfl) hsa (Yt (J (rgL i (dnG N) ++ [[iV (m : Int)]])) Jx) (fun w1 hJ1 k1 => Ygives.out (Ygives.of (E := Ea) (hy _ [iV (m : Int)] Ea w1 hpre hJa hna hJ1) hna)) (fun E3 t hok hn3 hs3 => ?_)
    have hs4 : ∀ b, b < w.heap.size → E3.D b → E0.D b := fun b hb h => (hs3 b h).elim (hsa b hb) (fun h => absurd hb (Nat.not_lt.2 h))
    cases hd2 : t with
    | false =>
      rw [hd2] at hok
      dsimp only [Yt] at hok
      refine run_auto [(12, .bool true)] 3 [true] [] [0, 3] [] (st' := ⟨[(0, .func (.yield l) #[] #[]), (3, iV (m : Int))], []⟩) (acc := [(.bool true, .bool true), (.bool true, .bool true)]) (by kernel_rfl) (by kernel_rfl) ⟨rfl, rfl, trivial⟩ ?_
      refine run_endE (fn := f89) rfl (Nat.le_refl _) (by kernel_rfl) [] [] (e := []) (by kernel_rfl) trivial (fun w1 k1 h1 hE1 => ?_)
      exact ⟨rfl, E3, (hn3.trans hna), hE1, .inr hok⟩
    | true =>
      rw [hd2] at hok
      dsimp only [Yt] at hok
      refine run_auto [(12, .bool false), (8, iV ((m : Int) - 1))] 10 [false] [] [0, 3] [] (st' := ⟨[(0, .func (.yield l) #[] #[]), (3, iV ((m : Int) - 1))], []⟩) (acc := [(iV (IntKind.i64.wrap ((m : Int) - 1)), iV ((m : Int) - 1)), (.bool false, .bool false), (.bool false, .bool false)]) (by kernel_rfl) (by kernel_rfl) ⟨(wr (by omega) (by omega)), rfl, rfl, trivial⟩ ?_
      rw [show (m : Int) - 1 = (N : Int) - ((i + 1 : Nat) : Int) from by omega]
      exact run_round (by kernel_rfl) (hJ0 ((i + 1, E3)) (⟨by dsimp only; omega, by have h := hok; rw [← hrev] at h; rw [rgL_next]; exact h, (hn3.trans hna), hs4⟩) (by dsimp only; omega))
set_option maxRecDepth 100000 in
theorem upTo_give (N b : Nat) (hN : N ≤ 100000) : Gives Try.prog 88 #[.pointer (some ⟨b, 0, none⟩)] [] (OwnD [(b, .cells #[.int .i64 (N : Int)] 3 (0, 0))]) (fun l => l <+: rgL (N + 1) (upG)) (fun l => l = rgL (N + 1) (upG)) := by
  intro l J Jx E0 w hE0 hst hJw hown hdis hin hy
  have hb := (hin _ (List.mem_singleton.2 rfl)).1
  have hnd := (hin _ (List.mem_singleton.2 rfl)).2
  refine calls_runE (fn := f88) (c := (f88.body).getD .skip) [.func (.yield l) #[] #[], .pointer (some ⟨b, 0, none⟩)] func88 (by kernel_rfl) E0 hE0 hJw 14 (by kernel_rfl) (by simp) ?_
  refine run_auto [] 2 [] [] [0, 1] [] (st' := ⟨[(0, .func (.yield l) #[] #[]), (1, pA b)], []⟩) (acc := []) (by kernel_rfl) (by kernel_rfl) trivial ?_
  refine run_v (Instr.loadAt 3 (pA b) >>= fun v => pure (Next.value v)) (some 4) (iV (N : Int)) (by kernel_rfl) (fun w1 k1 h1 => load_in (base := 0) (off := 0) k1 hnd [iV (N : Int)] (fun i u hi => by rw [Nat.zero_add]; exact cells_of_heap hb i u hi) (by kernel_rfl)) ?_
  refine run_auto [(5, iV ((N + 1 : Nat) : Int))] 4 [] [] [0, 5, 6] [] (st' := ⟨[(0, .func (.yield l) #[] #[]), (5, iV ((N + 1 : Nat) : Int)), (6, iV 0)], []⟩) (acc := [(iV (IntKind.i64.wrap ((N : Int) + 1)), iV ((N + 1 : Nat) : Int))]) (by kernel_rfl) (by kernel_rfl) ⟨(wr (by omega) (by omega)), trivial⟩ ?_
  refine run_auto [] 0 [] [] [0, 5, 6] [] (st' := ⟨[(0, .func (.yield l) #[] #[]), (5, iV ((N + 1 : Nat) : Int)), (6, iV 0)], []⟩) (acc := []) (by kernel_rfl) (by kernel_rfl) trivial ?_
  refine run_loopE (σ := Nat × Ext) (S := fun (x : Nat × Ext) => ⟨[(0, .func (.yield l) #[] #[]), (5, iV ((N + 1 : Nat) : Int)), (6, iV (x.1 : Int))], []⟩) (fun (x : Nat × Ext) => x.2) (fun (x : Nat × Ext) => x.1 ≤ (N + 1) ∧ J (rgL x.1 (upG)) x.2 ∧ x.2.n0 = E0.n0 ∧ (∀ b, b < w.heap.size → x.2.D b → E0.D b)) (fun (x : Nat × Ext) => (N + 1) - x.1) ((0, E0)) (by kernel_rfl) (⟨Nat.zero_le _, hst, rfl, (fun _ _ h => h)⟩) (by simp) rfl (fun x hI0 J0 hJ0 => ?_)
  obtain ⟨i, Ea⟩ := x
  obtain ⟨hl0, hJa, hna, hsa⟩ := hI0
  dsimp only at hl0 hJa hna hsa hJ0
  cases hd1 : (decide ((i : Int) < ((N + 1 : Nat) : Int))) with
  | false =>
    have hp1 := of_decide_eq_false hd1
    refine run_auto [(7, .bool false)] 7 [false] [] [] [] (st' := ⟨[], []⟩) (acc := [(.bool false, .bool false), (.bool (decide ((i : Int) < ((N + 1 : Nat) : Int))), .bool false)]) (by kernel_rfl) (by kernel_rfl) ⟨rfl, (bo hd1), trivial⟩ ?_
    refine run_endE (fn := f88) rfl (Nat.le_refl _) (by kernel_rfl) [] [] (e := []) (by kernel_rfl) trivial (fun w1 k1 h1 hE1 => ?_)
    exact ⟨rfl, Ea, hna, hE1, .inl ⟨_, rfl, by have h := hJa; rw [show i = (N + 1) by omega] at h; exact h⟩⟩
  | true =>
    have hp1 := of_decide_eq_true hd1
    refine run_auto [(7, .bool true)] 18 [true] [] [0, 5, 6, 9, 10] [] (st' := ⟨[(0, .func (.yield l) #[] #[]), (5, iV ((N + 1 : Nat) : Int)), (6, iV (i : Int)), (9, .func (.yield l) #[] #[]), (10, iV (i : Int))], []⟩) (acc := [(.bool true, .bool true), (.bool (decide ((i : Int) < ((N + 1 : Nat) : Int))), .bool true)]) (by kernel_rfl) (by kernel_rfl) ⟨rfl, (bo hd1), trivial⟩ ?_
    have hpre := rgL_pre (upG) (i := i) (n := (N + 1)) (by omega)
    refine run_yield l #[iV (i : Int)] (some 11) (by kernel_rfl) hsa (Yt (J (rgL i (upG) ++ [(upG i)])) Jx) (fun w1 hJ1 k1 => Ygives.out (Ygives.of (E := Ea) (hy _ (upG i) Ea w1 hpre hJa hna hJ1) hna)) (fun E3 t hok hn3 hs3 => ?_)
    have hs4 : ∀ b, b < w.heap.size → E3.D b → E0.D b := fun b hb h => (hs3 b h).elim (hsa b hb) (fun h => absurd hb (Nat.not_lt.2 h))
    cases hd2 : t with
    | false =>
      rw [hd2] at hok
      dsimp only [Yt] at hok
      refine run_auto [(12, .bool true)] 3 [true] [] [0, 5, 6] [] (st' := ⟨[(0, .func (.yield l) #[] #[]), (5, iV ((N + 1 : Nat) : Int)), (6, iV (i : Int))], []⟩) (acc := [(.bool true, .bool true), (.bool true, .bool true)]) (by kernel_rfl) (by kernel_rfl) ⟨rfl, rfl, trivial⟩ ?_
      refine run_endE (fn := f88) rfl (Nat.le_refl _) (by kernel_rfl) [] [] (e := []) (by kernel_rfl) trivial (fun w1 k1 h1 hE1 => ?_)
      exact ⟨rfl, E3, (hn3.trans hna), hE1, .inr hok⟩
    | true =>
      rw [hd2] at hok
      dsimp only [Yt] at hok
      refine run_auto [(12, .bool false), (13, iV ((i + 1 : Nat) : Int))] 9 [false] [] [0, 5, 6] [] (st' := ⟨[(0, .func (.yield l) #[] #[]), (5, iV ((N + 1 : Nat) : Int)), (6, iV ((i + 1 : Nat) : Int))], []⟩) (acc := [(iV (IntKind.i64.wrap ((i : Int) + 1)), iV ((i + 1 : Nat) : Int)), (.bool false, .bool false), (.bool false, .bool false)]) (by kernel_rfl) (by kernel_rfl) ⟨(wr (by omega) (by omega)), rfl, rfl, trivial⟩ ?_
      exact run_round (by kernel_rfl) (hJ0 ((i + 1, E3)) (⟨by dsimp only; omega, by have h := hok; rw [rgL_next]; exact h, (hn3.trans hna), hs4⟩) (by dsimp only; omega))
set_option maxRecDepth 100000 in
theorem firstWait_any (N bi : Nat) (pr : Nat → Bool) (p : Sb) (bm c1 : Nat) (L : List Mo) (w : World) (hN : N ≤ 100000) (hbi : w.heap[bi]? = some (.cells #[.int .i64 (N : Int)] 3 (0, 0))) (hso : ∀ i, i < (N + 1) → ∀ (L1 : List Mo) (w1 : World), Kept (fun x => x = bm) w w1 → w1.heap[bm]? = some (memO kvM (vvM p.n) L1) → Calls Try.prog 54 #[.int .i64 (upN i), .pointer (some ⟨c1, 0, none⟩)] w1 (NwW (α := List Mo) (fun _ => .bool (pr i)) (fun _ => []) bm (fun L => memO kvM (vvM p.n) L) (fun _ => True) w1)) (hmap : w.heap[bm]? = some (memO kvM (vvM p.n) L)) (hbi0 : ¬ bi = bm) : Calls Try.prog 52 #[.agg #[.func (.func 88) #[] #[.pointer (some ⟨bi, 0, none⟩)], .func (.func 54) #[] #[.pointer (some ⟨c1, 0, none⟩)]]] w (Drp bm (.tuple #[.int .i64 (fnV (upN) (frN pr (N + 1))), .bool (frN pr (N + 1)).isSome]) w) := by
  have hbo : OwnD [(bi, .cells #[.int .i64 (N : Int)] 3 (0, 0))] (fun x => x = bm) w := fun q hq => by rw [List.mem_singleton] at hq; subst hq; exact ⟨hbi, hbi0⟩
  refine calls_run (fn := f52) (c := (f52.body).getD .skip) [.agg #[.func (.func 88) #[] #[.pointer (some ⟨bi, 0, none⟩)], .func (.func 54) #[] #[.pointer (some ⟨c1, 0, none⟩)]]] func52 (by kernel_rfl) (fun x => x = bm) [(bm, memO kvM (vvM p.n) L)] (fun q hq => by rcases List.mem_singleton.1 hq with rfl; exact ⟨hmap, rfl, rfl⟩) (List.pairwise_singleton _ _) 13 (by kernel_rfl) (by simp) ?_
  refine run_auto [] 2 [] [] [0] [0] (st' := ⟨[(0, .agg #[.func (.func 88) #[] #[pA bi], .func (.func 54) #[] #[pA c1]])], [(bm, memO kvM (vvM p.n) L)]⟩) (acc := []) (by kernel_rfl) (by kernel_rfl) trivial ?_
  refine run_new (aO #[.func (.func 88) #[] #[pA bi], .func (.func 54) #[] #[pA c1]] 96) (fun b1 => pA b1) (some 1) (fun _ => by kernel_rfl) (fun b1 hb1 => ?_)
  refine run_new (aO #[iV 0] 3) (fun b2 => pA b2) (some 2) (fun _ => by kernel_rfl) (fun b2 hb2 => ?_)
  refine run_new (aO #[.bool false] 4) (fun b3 => pA b3) (some 3) (fun _ => by kernel_rfl) (fun b3 hb3 => ?_)
  refine run_auto [] 8 [] [2] [1, 2, 3, 6] [0, 1, 2, 3] (st' := ⟨[(1, pA b1), (2, pA b2), (3, pA b3), (6, .func (.func 88) #[] #[pA bi])], [(b3, aO #[.bool false] 4), (b2, aO #[iV 0] 3), (b1, aO #[.func (.func 88) #[] #[pA bi], .func (.func 54) #[] #[pA c1]] 96), (bm, memO kvM (vvM p.n) L)]⟩) (acc := [(pA b1, pA b1)]) (by kernel_rfl) (by kernel_rfl) ⟨rfl, trivial⟩ ?_
  refine run_auto [] 0 [] [] [1, 2, 3, 6] [0, 1, 2, 3] (st' := ⟨[(1, pA b1), (2, pA b2), (3, pA b3), (6, .func (.func 88) #[] #[pA bi])], [(b3, aO #[.bool false] 4), (b2, aO #[iV 0] 3), (b1, aO #[.func (.func 88) #[] #[pA bi], .func (.func 54) #[] #[pA c1]] 96), (bm, memO kvM (vvM p.n) L)]⟩) (acc := []) (by kernel_rfl) (by kernel_rfl) trivial ?_
  refine run_range (σ := Nat × List Mo) (τ := Nat × List Mo) 88 #[pA bi] [7] [] [(b3, aO #[.bool false] 4), (b2, aO #[iV 0] 3), (b1, aO #[.func (.func 88) #[] #[pA bi], .func (.func 54) #[] #[pA c1]] 96), (bm, memO kvM (vvM p.n) L)] (OwnD [(bi, aO #[iV (N : Int)] 3)]) (fun l => l <+: rgL (N + 1) (upG)) (fun l => l = rgL (N + 1) (upG)) (by kernel_rfl) rfl rfl (fun l => by kernel_rfl) rfl (by kernel_rfl) (fun pre x hx => by rw [(rgL_at hx).2.2]; rfl) (upTo_give N bi hN) (fun D w1 k1 hD => hbo.kept k1 hD)
    (fun s => [(b3, aO #[.bool false] 4), (b2, aO #[iV 0] 3), (b1, aO #[.func (.func 88) #[] #[pA bi], .func (.func 54) #[] #[pA c1]] 96), (bm, memO kvM (vvM p.n) s.2)]) (fun s => Ext.none) (fun pre s => s.1 = (pre).length ∧ ∀ i, i < s.1 → pr i = false) (fun y => [(b3, aO #[.bool true] 4), (b2, aO #[iV (upN y.1)] 3), (b1, aO #[.func (.func 88) #[] #[pA bi], .func (.func 54) #[] #[pA c1]] 96), (bm, memO kvM (vvM p.n) y.2)]) (fun y => Ext.none) (fun c y => c = .ret ∧ y.1 < (N + 1) ∧ pr y.1 = true ∧ ∀ i, i < y.1 → pr i = false) ((0, L)) (⟨rfl, fun i hi => absurd hi (Nat.not_lt_zero _)⟩) rfl rfl (fun _ _ _ => ⟨rfl, fun _ _ h => h.elim⟩) (fun _ _ _ => rfl)
    (fun pre x s hpre hI l0 ms ro ob w0 Jb Jn Je hkk hll hbeg hnext hexit => ?_) (fun ys s hys hI => ?_) (fun c y hI => ?_)
  · skip
    have hpre : pre ++ [x] <+: rgL (N + 1) (upG) := hpre
    obtain ⟨s, Ls⟩ := s
    dsimp only at hI
    have hx := rgL_at hpre
    rw [← hI.1] at hx
    obtain rfl := hx.2.2
    refine run_auto [] 3 [] [] [1, 2, 3, 4] [0, 1, 2, 3] (st' := ⟨[(1, pA b1), (2, pA b2), (3, pA b3), (4, iV (upN s))], [(b3, aO #[.bool false] 4), (b2, aO #[iV 0] 3), (b1, aO #[.func (.func 88) #[] #[pA bi], .func (.func 54) #[] #[pA c1]] 96), (bm, memO kvM (vvM p.n) Ls)]⟩) (acc := []) (by kernel_rfl) (by kernel_rfl) trivial ?_
    refine run_round rfl (hbeg _ ?_)
    refine run_auto [] 6 [] [2] [2, 3, 4, 9, 10] [0, 1, 2, 3] (st' := ⟨[(2, pA b2), (3, pA b3), (4, iV (upN s)), (9, .func (.func 54) #[] #[pA c1]), (10, iV (upN s))], [(b3, aO #[.bool false] 4), (b2, aO #[iV 0] 3), (b1, aO #[.func (.func 88) #[] #[pA bi], .func (.func 54) #[] #[pA c1]] 96), (bm, memO kvM (vvM p.n) Ls)]⟩) (acc := [(pA b1, pA b1)]) (by kernel_rfl) (by kernel_rfl) ⟨rfl, trivial⟩ ?_
    refine run_nww 54 #[iV (upN s), pA c1] (some 11) (α := List Mo) (fun x => .bool (pr s)) (fun x => []) 3 bm (memO kvM (vvM p.n) Ls) (fun x => memO kvM (vvM p.n) (x)) (fun x => True) (by kernel_rfl) (by kernel_rfl) (fun x => rfl) (fun x p hp => by cases hp) (fun w1 k1 h1 => hso s hx.1 Ls w1 (hkk _ k1) (h1 (bm, memO kvM (vvM p.n) Ls) (List.mem_of_getElem? (i := 3) (by kernel_rfl)))) (fun x hI4 hn4 => ?_)
    obtain ⟨Lm4, he4⟩ : ∃ y, y = x := ⟨x, rfl⟩
    subst he4
    cases hd1 : (pr s) with
    | false =>
      refine run_auto [] 4 [false] [] [] [0, 1, 2, 3] (st' := ⟨[], [(b3, aO #[.bool false] 4), (b2, aO #[iV 0] 3), (b1, aO #[.func (.func 88) #[] #[pA bi], .func (.func 54) #[] #[pA c1]] 96), (bm, memO kvM (vvM p.n) Lm4)]⟩) (acc := [(.bool false, .bool false)]) (by kernel_rfl) (by kernel_rfl) ⟨rfl, trivial⟩ ?_
      exact run_nil rfl (fun a_ w1 g_ => hnext (s + 1, Lm4) _ ⟨by rw [List.length_append, ← hI.1]; rfl, fun i hi => (Nat.lt_succ_iff_lt_or_eq.1 hi).elim (hI.2 i) (fun h => h ▸ hd1)⟩ (fun b h => h.elim) a_ w1 g_)
    | true =>
      refine run_auto [] 8 [true] [1, 0] [] [0, 1, 2, 3] (st' := ⟨[], [(b3, aO #[.bool true] 4), (b2, aO #[iV (upN s)] 3), (b1, aO #[.func (.func 88) #[] #[pA bi], .func (.func 54) #[] #[pA c1]] 96), (bm, memO kvM (vvM p.n) Lm4)]⟩) (acc := [(pA b3, pA b3), (pA b2, pA b2), (.bool true, .bool true)]) (by kernel_rfl) (by kernel_rfl) ⟨rfl, rfl, rfl, trivial⟩ ?_
      exact run_retQ rfl (fun a_ w1 g_ => hexit .ret (s, Lm4) _ ⟨rfl, hx.1, hd1, hI.2⟩ (.inl rfl) (fun b h => h.elim) a_ w1 g_)
  · skip
    obtain rfl : ys = rgL (N + 1) (upG) := hys
    obtain ⟨s, Ls⟩ := s
    dsimp only at hI
    have hnone : frN pr (N + 1) = none := frN_none fun i hi => hI.2 i (by rw [hI.1, rgL_len]; exact hi)
    refine run_auto [] 6 [] [1, 0] [2, 3] [0, 1, 3] (st' := ⟨[(2, pA b2), (3, pA b3)], [(b3, aO #[.bool false] 4), (b2, aO #[iV 0] 3), (bm, memO kvM (vvM p.n) Ls)]⟩) (acc := [(pA b3, pA b3), (pA b2, pA b2)]) (by kernel_rfl) (by kernel_rfl) ⟨rfl, rfl, trivial⟩ ?_
    refine run_end (fn := f52) rfl (Nat.le_refl _) (by kernel_rfl) [1, 0] [iV 0, .bool false] (e := [(pA b2, pA b2), (pA b3, pA b3)]) (by kernel_rfl) ⟨rfl, rfl, trivial⟩ (fun w1 k1 h1 => ?_)
    exact ⟨by rw [hnone]; rfl, k1⟩
  · skip
    obtain ⟨y, Ly⟩ := y
    dsimp only at hI
    obtain ⟨rfl, hy1, hy2, hy3⟩ := hI
    have hsome : frN pr (N + 1) = some y := frN_some hy1 hy2 hy3
    refine run_end (fn := f52) rfl (Nat.le_refl _) (by kernel_rfl) [1, 0] [iV (upN y), .bool true] (e := [(pA b2, pA b2), (pA b3, pA b3)]) (by kernel_rfl) ⟨rfl, rfl, trivial⟩ (fun w1 k1 h1 => ?_)
    exact ⟨by rw [hsome]; rfl, k1⟩

set_option maxRecDepth 100000 in
theorem firstLatest_any (N bi : Nat) (pr : Nat → Bool) (c1 c2 c3 c4 : Nat) (w : World) (hN : N ≤ 100000) (hbi : w.heap[bi]? = some (.cells #[.int .i64 (N : Int)] 3 (0, 0))) (hso : ∀ i, i < (N + 1) → ∀ w1, Keeps w w1 → Calls Try.prog 58 #[.int .i64 (dnN N i), .pointer (some ⟨c1, 0, none⟩), .pointer (some ⟨c2, 0, none⟩), .pointer (some ⟨c3, 0, none⟩), .pointer (some ⟨c4, 0, none⟩)] w1 (RetB (pr i) w1)) : Calls Try.prog 52 #[.agg #[.func (.func 89) #[] #[.pointer (some ⟨bi, 0, none⟩)], .func (.func 58) #[] #[.pointer (some ⟨c1, 0, none⟩), .pointer (some ⟨c2, 0, none⟩), .pointer (some ⟨c3, 0, none⟩), .pointer (some ⟨c4, 0, none⟩)]]] w (Ret (.tuple #[.int .i64 (fnV (dnN N) (frN pr (N + 1))), .bool (frN pr (N + 1)).isSome]) w) := by
  have hbo : OwnD [(bi, .cells #[.int .i64 (N : Int)] 3 (0, 0))] (fun _ => False) w := fun q hq => by rw [List.mem_singleton] at hq; subst hq; exact ⟨hbi, fun h => h⟩
  refine calls_run (fn := f52) (c := (f52.body).getD .skip) [.agg #[.func (.func 89) #[] #[.pointer (some ⟨bi, 0, none⟩)], .func (.func 58) #[] #[.pointer (some ⟨c1, 0, none⟩), .pointer (some ⟨c2, 0, none⟩), .pointer (some ⟨c3, 0, none⟩), .pointer (some ⟨c4, 0, none⟩)]]] func52 (by kernel_rfl) (fun _ => False) [] (fun _ h => by cases h) (List.Pairwise.nil) 13 (by kernel_rfl) (by simp) ?_
  refine run_auto [] 2 [] [] [0] [] (st' := ⟨[(0, .agg #[.func (.func 89) #[] #[pA bi], .func (.func 58) #[] #[pA c1, pA c2, pA c3, pA c4]])], []⟩) (acc := []) (by kernel_rfl) (by kernel_rfl) trivial ?_
  refine run_new (aO #[.func (.func 89) #[] #[pA bi], .func (.func 58) #[] #[pA c1, pA c2, pA c3, pA c4]] 96) (fun b1 => pA b1) (some 1) (fun _ => by kernel_rfl) (fun b1 hb1 => ?_)
  refine run_new (aO #[iV 0] 3) (fun b2 => pA b2) (some 2) (fun _ => by kernel_rfl) (fun b2 hb2 => ?_)
  refine run_new (aO #[.bool false] 4) (fun b3 => pA b3) (some 3) (fun _ => by kernel_rfl) (fun b3 hb3 => ?_)
  refine run_auto [] 8 [] [2] [1, 2, 3, 6] [0, 1, 2] (st' := ⟨[(1, pA b1), (2, pA b2), (3, pA b3), (6, .func (.func 89) #[] #[pA bi])], [(b3, aO #[.bool false] 4), (b2, aO #[iV 0] 3), (b1, aO #[.func (.func 89) #[] #[pA bi], .func (.func 58) #[] #[pA c1, pA c2, pA c3, pA c4]] 96)]⟩) (acc := [(pA b1, pA b1)]) (by kernel_rfl) (by kernel_rfl) ⟨rfl, trivial⟩ ?_
  refine run_auto [] 0 [] [] [1, 2, 3, 6] [0, 1, 2] (st' := ⟨[(1, pA b1), (2, pA b2), (3, pA b3), (6, .func (.func 89) #[] #[pA bi])], [(b3, aO #[.bool false] 4), (b2, aO #[iV 0] 3), (b1, aO #[.func (.func 89) #[] #[pA bi], .func (.func 58) #[] #[pA c1, pA c2, pA c3, pA c4]] 96)]⟩) (acc := []) (by kernel_rfl) (by kernel_rfl) trivial ?_
  refine run_range (σ := Nat) (τ := Nat) 89 #[pA bi] [7] [] [(b3, aO #[.bool false] 4), (b2, aO #[iV 0] 3), (b1, aO #[.func (.func 89) #[] #[pA bi], .func (.func 58) #[] #[pA c1, pA c2, pA c3, pA c4]] 96)] (OwnD [(bi, aO #[iV (N : Int)] 3)]) (fun l => l <+: rgL (N + 1) (dnG N)) (fun l => l = rgL (N + 1) (dnG N)) (by kernel_rfl) rfl rfl (fun l => by kernel_rfl) rfl (by kernel_rfl) (fun pre x hx => by rw [(rgL_at hx).2.2]; rfl) (downFrom_give N bi hN) (fun D w1 k1 hD => hbo.kept k1 hD)
    (fun s => [(b3, aO #[.bool false] 4), (b2, aO #[iV 0] 3), (b1, aO #[.func (.func 89) #[] #[pA bi], .func (.func 58) #[] #[pA c1, pA c2, pA c3, pA c4]] 96)]) (fun s => Ext.none) (fun pre s => s = (pre).length ∧ ∀ i, i < s → pr i = false) (fun y => [(b3, aO #[.bool true] 4), (b2, aO #[iV (dnN N y)] 3), (b1, aO #[.func (.func 89) #[] #[pA bi], .func (.func 58) #[] #[pA c1, pA c2, pA c3, pA c4]] 96)]) (fun y => Ext.none) (fun c y => c = .ret ∧ y < (N + 1) ∧ pr y = true ∧ ∀ i, i < y → pr i = false) (0) (⟨rfl, fun i hi => absurd hi (Nat.not_lt_zero _)⟩) rfl rfl (fun _ _ _ => ⟨rfl, fun _ _ h => h.elim⟩) (fun _ _ _ => rfl)
    (fun pre x s hpre hI l0 ms ro ob w0 Jb Jn Je hkk hll hbeg hnext hexit => ?_) (fun ys s hys hI => ?_) (fun c y hI => ?_)
  · skip
    have hpre : pre ++ [x] <+: rgL (N + 1) (dnG N) := hpre
    have hx := rgL_at hpre
    rw [← hI.1] at hx
    obtain rfl := hx.2.2
    refine run_auto [] 3 [] [] [1, 2, 3, 4] [0, 1, 2] (st' := ⟨[(1, pA b1), (2, pA b2), (3, pA b3), (4, iV (dnN N s))], [(b3, aO #[.bool false] 4), (b2, aO #[iV 0] 3), (b1, aO #[.func (.func 89) #[] #[pA bi], .func (.func 58) #[] #[pA c1, pA c2, pA c3, pA c4]] 96)]⟩) (acc := []) (by kernel_rfl) (by kernel_rfl) trivial ?_
    refine run_round rfl (hbeg _ ?_)
    refine run_auto [] 6 [] [2] [2, 3, 4, 9, 10] [0, 1, 2] (st' := ⟨[(2, pA b2), (3, pA b3), (4, iV (dnN N s)), (9, .func (.func 58) #[] #[pA c1, pA c2, pA c3, pA c4]), (10, iV (dnN N s))], [(b3, aO #[.bool false] 4), (b2, aO #[iV 0] 3), (b1, aO #[.func (.func 89) #[] #[pA bi], .func (.func 58) #[] #[pA c1, pA c2, pA c3, pA c4]] 96)]⟩) (acc := [(pA b1, pA b1)]) (by kernel_rfl) (by kernel_rfl) ⟨rfl, trivial⟩ ?_
    cases hd1 : (pr s) with
    | false =>
      refine run_ret1 58 #[iV (dnN N s), pA c1, pA c2, pA c3, pA c4] (some 11) (.bool false) (by kernel_rfl) (fun w1 k1 h1 => (by have h := hso s hx.1 w1 ((hkk _ k1).keeps (fun _ h => h)); rw [hd1] at h; exact h)) ?_
      refine run_auto [] 4 [false] [] [] [0, 1, 2] (st' := ⟨[], [(b3, aO #[.bool false] 4), (b2, aO #[iV 0] 3), (b1, aO #[.func (.func 89) #[] #[pA bi], .func (.func 58) #[] #[pA c1, pA c2, pA c3, pA c4]] 96)]⟩) (acc := [(.bool false, .bool false)]) (by kernel_rfl) (by kernel_rfl) ⟨rfl, trivial⟩ ?_
      exact run_nil rfl (fun a_ w1 g_ => hnext (s + 1) _ ⟨by rw [List.length_append, ← hI.1]; rfl, fun i hi => (Nat.lt_succ_iff_lt_or_eq.1 hi).elim (hI.2 i) (fun h => h ▸ hd1)⟩ (fun b h => h.elim) a_ w1 g_)
    | true =>
      refine run_ret1 58 #[iV (dnN N s), pA c1, pA c2, pA c3, pA c4] (some 11) (.bool true) (by kernel_rfl) (fun w1 k1 h1 => (by have h := hso s hx.1 w1 ((hkk _ k1).keeps (fun _ h => h)); rw [hd1] at h; exact h)) ?_
      refine run_auto [] 8 [true] [1, 0] [] [0, 1, 2] (st' := ⟨[], [(b3, aO #[.bool true] 4), (b2, aO #[iV (dnN N s)] 3), (b1, aO #[.func (.func 89) #[] #[pA bi], .func (.func 58) #[] #[pA c1, pA c2, pA c3, pA c4]] 96)]⟩) (acc := [(pA b3, pA b3), (pA b2, pA b2), (.bool true, .bool true)]) (by kernel_rfl) (by kernel_rfl) ⟨rfl, rfl, rfl, trivial⟩ ?_
      exact run_retQ rfl (fun a_ w1 g_ => hexit .ret s _ ⟨rfl, hx.1, hd1, hI.2⟩ (.inl rfl) (fun b h => h.elim) a_ w1 g_)
  · skip
    obtain rfl : ys = rgL (N + 1) (dnG N) := hys
    have hnone : frN pr (N + 1) = none := frN_none fun i hi => hI.2 i (by rw [hI.1, rgL_len]; exact hi)
    refine run_auto [] 6 [] [1, 0] [2, 3] [0, 1] (st' := ⟨[(2, pA b2), (3, pA b3)], [(b3, aO #[.bool false] 4), (b2, aO #[iV 0] 3)]⟩) (acc := [(pA b3, pA b3), (pA b2, pA b2)]) (by kernel_rfl) (by kernel_rfl) ⟨rfl, rfl, trivial⟩ ?_
    refine run_end (fn := f52) rfl (Nat.le_refl _) (by kernel_rfl) [1, 0] [iV 0, .bool false] (e := [(pA b2, pA b2), (pA b3, pA b3)]) (by kernel_rfl) ⟨rfl, rfl, trivial⟩ (fun w1 k1 h1 => ?_)
    exact ⟨by rw [hnone]; rfl, k1.keeps (fun _ h => h)⟩
  · skip
    obtain ⟨rfl, hy1, hy2, hy3⟩ := hI
    have hsome : frN pr (N + 1) = some y := frN_some hy1 hy2 hy3
    refine run_end (fn := f52) rfl (Nat.le_refl _) (by kernel_rfl) [1, 0] [iV (dnN N y), .bool true] (e := [(pA b2, pA b2), (pA b3, pA b3)]) (by kernel_rfl) ⟨rfl, rfl, trivial⟩ (fun w1 k1 h1 => ?_)
    exact ⟨by rw [hsome]; rfl, k1.keeps (fun _ h => h)⟩

set_option maxRecDepth 100000 in
theorem needFound_any (z : Int) (b : Bool) (w : World)  : Calls Try.prog 44 #[.int .i64 z, .bool b] w (Fnd b z w) := by
  refine calls_run (fn := f44) (c := (f44.body).getD .skip) [.int .i64 z, .bool b] func44 (by kernel_rfl) (fun _ => False) [] (fun _ h => by cases h) (List.Pairwise.nil) 9 (by kernel_rfl) (by simp) ?_
  cases hd1 : b with
  | false =>
    refine run_auto [(6, .bool true)] 13 [true] [] [0, 4, 7] [] (st' := ⟨[(0, iV z), (4, iV 0), (7, .iface 27 (iV 4))], []⟩) (acc := [(.bool true, .bool true), (.bool true, .bool true)]) (by kernel_rfl) (by kernel_rfl) ⟨rfl, rfl, trivial⟩ ?_
    exact run_panic rfl (Nat.le_refl _) (Instr.panic (.iface 27 (iV 4)) >>= fun v => pure (Next.value v)) none (.iface 27 (iV 4)) (by kernel_rfl) (fun w => by kernel_rfl) (fun w1 k1 h1 => (by unfold Fnd; exact ⟨rfl, k1.keeps (fun _ h => h)⟩))
  | true =>
    refine run_auto [(6, .bool false)] 17 [false] [] [4] [] (st' := ⟨[(4, iV z)], []⟩) (acc := [(.bool false, .bool false), (.bool false, .bool false)]) (by kernel_rfl) (by kernel_rfl) ⟨rfl, rfl, trivial⟩ ?_
    refine run_end (fn := f44) rfl (Nat.le_refl _) (by kernel_rfl) [] [iV z] (e := []) (by kernel_rfl) trivial (fun w1 k1 h1 => ?_)
    unfold Fnd
    exact ⟨rfl, k1.keeps (fun _ h => h)⟩

end Go.Proofs.Ytfjfkaaflghaiaa

namespace Go.Proofs.Ytfjfkaaflghaiaa
open Go.RowKit Go.Proofs.Try
attribute [local irreducible] Run wpK


theorem Gives.own1 {P : Program} {gf : FuncId} {caps : Array Value} {own : List (Nat × Obj)} {Pre Fin : List (List Value) → Prop} (h : Gives P gf caps [] (OwnD own) Pre Fin) : Gives P gf caps own (fun _ _ => True) Pre Fin :=
  fun l J Jx E0 w hE0 hst hJw hown hdis _ hy => h l J Jx E0 w hE0 hst hJw (fun p hp => by cases hp) (fun p hp => by cases hp) (fun p hp => ⟨hown p hp, hdis p hp⟩) hy
def elN (L : List Nat) (i : Nat) : Nat := (L[i]?).getD 0
theorem elN_mem {L : List Nat} {i : Nat} (h : i < L.length) : elN L i ∈ L := by unfold elN; rw [List.getElem?_eq_getElem h]; exact List.getElem_mem h
theorem elN_at {L : List Nat} {i : Nat} (h : i < L.length) : elN L i = L[i] := by unfold elN; rw [List.getElem?_eq_getElem h]; rfl
/-- All of some blocks have settled. -/
def Sn.sets (s : Sn) (Ns : List Nat) (m : Nat) : Bool := Ns.all fun b => s.set b m
theorem sets_yes {s : Sn} {Ns : List Nat} {m : Nat} (h : ∀ i, i < Ns.length → s.set (elN Ns i) m = true) : s.sets Ns m = true := by
  unfold Sn.sets
  rw [List.all_eq_true]
  intro b hb
  obtain ⟨i, hi, rfl⟩ := List.getElem_of_mem hb
  rw [← elN_at hi]
  exact h i hi
theorem sets_no {s : Sn} {Ns : List Nat} {m i : Nat} (hi : i < Ns.length) (h : s.set (elN Ns i) m = false) : s.sets Ns m = false := by
  unfold Sn.sets
  rw [List.all_eq_false]
  exact ⟨elN Ns i, elN_mem hi, by rw [h]; simp⟩
def mnV (N : Nat) : Nat → Int
  | 0 => 0
  | s + 1 => ((N - s : Nat) : Int)
/-- The first minute from which on, to the last one, all of some blocks have settled. -/
def Sn.frm (s : Sn) (Ns : List Nat) (N : Nat) : Int × Bool := match frN (fun i => !s.sets Ns (N - i)) (N + 1) with
  | none => (mnV N (N + 1), true)
  | some y => (mnV N y, ask y)
theorem frm_done {s : Sn} {Ns : List Nat} {N : Nat} (h : ∀ i, i < N + 1 → s.sets Ns (N - i) = true) : s.frm Ns N = (mnV N (N + 1), true) := by
  unfold Sn.frm
  rw [frN_none fun i hi => by rw [h i hi]; rfl]
theorem frm_stop {s : Sn} {Ns : List Nat} {N y : Nat} (hy : y < N + 1) (hn : s.sets Ns (N - y) = false) (h : ∀ i, i < y → s.sets Ns (N - i) = true) : s.frm Ns N = (mnV N y, ask y) := by
  unfold Sn.frm
  rw [frN_some hy (by rw [hn]; rfl) fun i hi => by rw [h i hi]; rfl]
set_option maxRecDepth 100000 in
set_option maxHeartbeats 2000000 in
theorem settledFrom_any (p : Sb) (bm bn cap N : Nat) (Ns : List Nat) (L : List Mo) (w : World) (hmap : w.heap[bm]? = some (memO kvM (vvM p.n) L)) (hin : p.InD (fun x => x = bm) w) (hF : p.n.Fine) (hN : p.last = (N : Int)) (hNs : ∀ b ∈ Ns, b < p.bs.length) (hl4 : Ns.length ≤ 4) (hnb : ¬ bn = bm) (hrow : ∀ i, i < Ns.length → w.cell? ⟨bn, i, none⟩ = some (.int .i64 ((elN Ns i : Nat) : Int))) : Calls Try.prog 45 #[.agg #[.slice p.ba p.bs.length p.bc, .int .i64 p.near, .int .i64 p.last, .slice p.ta p.ts.length p.tc, .map (some bm)], .slice (some ⟨bn, 0, none⟩) Ns.length cap] w (Drp bm (.tuple #[.int .i64 (p.n.frm Ns N).1, .bool (p.n.frm Ns N).2]) w) := by
  have hl60 := hF.l.2
  have hlN : (N : Int) ≤ 60 := by rw [← hN]; exact hl60
  refine calls_run (fn := f45) (c := (f45.body).getD .skip) [.agg #[.slice p.ba p.bs.length p.bc, .int .i64 p.near, .int .i64 p.last, .slice p.ta p.ts.length p.tc, .map (some bm)], .slice (some ⟨bn, 0, none⟩) Ns.length cap] func45 (by kernel_rfl) (fun x => x = bm) [(bm, memO kvM (vvM p.n) L)] (fun q hq => by rcases List.mem_singleton.1 hq with rfl; exact ⟨hmap, rfl, rfl⟩) (List.pairwise_singleton _ _) 29 (by kernel_rfl) (by simp) ?_
  refine run_auto [] 2 [] [] [0, 1] [0] (st' := ⟨[(0, .agg #[.slice p.ba p.bs.length p.bc, iV p.near, iV p.last, .slice p.ta p.ts.length p.tc, .map (some bm)]), (1, sV bn Ns.length cap)], [(bm, memO kvM (vvM p.n) L)]⟩) (acc := []) (by kernel_rfl) (by kernel_rfl) trivial ?_
  refine run_new (aO #[.slice p.ba p.bs.length p.bc, iV p.near, iV p.last, .slice p.ta p.ts.length p.tc, .map (some bm)] 73) (fun b1 => pA b1) (some 2) (fun _ => by kernel_rfl) (fun b1 hb1 => ?_)
  refine run_new (aO #[sV bn Ns.length cap] 46) (fun b2 => pA b2) (some 3) (fun _ => by kernel_rfl) (fun b2 hb2 => ?_)
  refine run_new (aO #[iV 0] 3) (fun b3 => pA b3) (some 4) (fun _ => by kernel_rfl) (fun b3 hb3 => ?_)
  refine run_new (aO #[.bool false] 4) (fun b4 => pA b4) (some 5) (fun _ => by kernel_rfl) (fun b4 hb4 => ?_)
  refine run_auto [] 1 [] [] [2, 3, 4, 5] [0, 1, 2, 3, 4] (st' := ⟨[(2, pA b1), (3, pA b2), (4, pA b3), (5, pA b4)], [(b4, aO #[.bool false] 4), (b3, aO #[iV 0] 3), (b2, aO #[sV bn Ns.length cap] 46), (b1, aO #[.slice p.ba p.bs.length p.bc, iV p.near, iV p.last, .slice p.ta p.ts.length p.tc, .map (some bm)] 73), (bm, memO kvM (vvM p.n) L)]⟩) (acc := []) (by kernel_rfl) (by kernel_rfl) trivial ?_
  refine run_scope rfl (fun _ _ _ h => h) rfl ?_
  refine run_auto [] 8 [] [3] [2, 3, 4, 5, 11] [0, 1, 2, 3, 4] (st' := ⟨[(2, pA b1), (3, pA b2), (4, pA b3), (5, pA b4), (11, iV p.last)], [(b4, aO #[.bool false] 4), (b3, aO #[iV 0] 3), (b2, aO #[sV bn Ns.length cap] 46), (b1, aO #[.slice p.ba p.bs.length p.bc, iV p.near, iV p.last, .slice p.ta p.ts.length p.tc, .map (some bm)] 73), (bm, memO kvM (vvM p.n) L)]⟩) (acc := [(pA b1, pA b1)]) (by kernel_rfl) (by kernel_rfl) ⟨rfl, trivial⟩ ?_
  refine run_nw 57 #[iV p.last] (some 12) (α := Unit) (fun _u b5 => .func (.func 89) #[] #[pA b5]) (fun _u => aO #[iV p.last] 3) (fun _u => True) (by kernel_rfl) (fun _ => rfl) (fun w1 k1 h1 => downFrom_any p.last w1) (fun _u b5 hIb5 hb5 => ?_)
  refine run_auto [] 2 [] [] [2, 3, 4, 5, 12] [0, 1, 2, 3, 4, 5] (st' := ⟨[(2, pA b1), (3, pA b2), (4, pA b3), (5, pA b4), (12, .func (.func 89) #[] #[pA b5])], [(b5, aO #[iV p.last] 3), (b4, aO #[.bool false] 4), (b3, aO #[iV 0] 3), (b2, aO #[sV bn Ns.length cap] 46), (b1, aO #[.slice p.ba p.bs.length p.bc, iV p.near, iV p.last, .slice p.ta p.ts.length p.tc, .map (some bm)] 73), (bm, memO kvM (vvM p.n) L)]⟩) (acc := []) (by kernel_rfl) (by kernel_rfl) trivial ?_
  refine run_auto [] 0 [] [] [2, 3, 4, 5, 12] [0, 1, 2, 3, 4, 5] (st' := ⟨[(2, pA b1), (3, pA b2), (4, pA b3), (5, pA b4), (12, .func (.func 89) #[] #[pA b5])], [(b5, aO #[iV p.last] 3), (b4, aO #[.bool false] 4), (b3, aO #[iV 0] 3), (b2, aO #[sV bn Ns.length cap] 46), (b1, aO #[.slice p.ba p.bs.length p.bc, iV p.near, iV p.last, .slice p.ta p.ts.length p.tc, .map (some bm)] 73), (bm, memO kvM (vvM p.n) L)]⟩) (acc := []) (by kernel_rfl) (by kernel_rfl) trivial ?_
  refine run_range (σ := Nat × List Mo) (τ := Nat × List Mo) 89 #[pA b5] [13] [(b5, aO #[iV p.last] 3)] [(b4, aO #[.bool false] 4), (b3, aO #[iV 0] 3), (b2, aO #[sV bn Ns.length cap] 46), (b1, aO #[.slice p.ba p.bs.length p.bc, iV p.near, iV p.last, .slice p.ta p.ts.length p.tc, .map (some bm)] 73), (bm, memO kvM (vvM p.n) L)] (fun _ _ => True) (fun l => l <+: rgL (N + 1) (dnG N)) (fun l => l = rgL (N + 1) (dnG N)) (by kernel_rfl) rfl rfl (fun l => by kernel_rfl) rfl (by kernel_rfl) (fun pre x hx => by rw [(rgL_at hx).2.2]; rfl) (by rw [hN]; exact Gives.own1 (downFrom_give N b5 (by omega))) (fun _ _ _ _ => trivial)
    (fun s => [(b4, aO #[.bool (ask s.1)] 4), (b3, aO #[iV (mnV N s.1)] 3), (b2, aO #[sV bn Ns.length cap] 46), (b1, aO #[.slice p.ba p.bs.length p.bc, iV p.near, iV p.last, .slice p.ta p.ts.length p.tc, .map (some bm)] 73), (bm, memO kvM (vvM p.n) s.2)]) (fun s => Ext.none) (fun pre s => s.1 = (pre).length ∧ ∀ i, i < s.1 → p.n.sets Ns (N - i) = true) (fun y => [(b4, aO #[.bool (ask y.1)] 4), (b3, aO #[iV (mnV N y.1)] 3), (b2, aO #[sV bn Ns.length cap] 46), (b1, aO #[.slice p.ba p.bs.length p.bc, iV p.near, iV p.last, .slice p.ta p.ts.length p.tc, .map (some bm)] 73), (bm, memO kvM (vvM p.n) y.2)]) (fun y => Ext.none) (fun c y => c = .exit 0 ∧ y.1 < N + 1 ∧ p.n.sets Ns (N - y.1) = false ∧ ∀ i, i < y.1 → p.n.sets Ns (N - i) = true) ((0, L)) (⟨rfl, fun i hi => absurd hi (Nat.not_lt_zero _)⟩) rfl rfl (fun _ _ _ => ⟨rfl, fun _ _ h => h.elim⟩) (fun _ _ _ => rfl)
    (fun pre x s hpre hI l0 ms ro ob w0 Jb Jn Je hkk hll hbeg hnext hexit => ?_) (fun ys s hys hI => ?_) (fun c y hI => ?_)
  · skip
    have hpre : pre ++ [x] <+: rgL (N + 1) (dnG N) := hpre
    obtain ⟨s, Ls⟩ := s
    dsimp only at hI
    have hx := rgL_at hpre
    rw [← hI.1] at hx
    obtain rfl := hx.2.2
    have hsN := hx.1
    refine run_auto [] 3 [] [] [2, 3, 4, 5, 6] [0, 1, 2, 3, 4] (st' := ⟨[(2, pA b1), (3, pA b2), (4, pA b3), (5, pA b4), (6, iV ((N - s : Nat) : Int))], [(b4, aO #[.bool (ask s)] 4), (b3, aO #[iV (mnV N s)] 3), (b2, aO #[sV bn Ns.length cap] 46), (b1, aO #[.slice p.ba p.bs.length p.bc, iV p.near, iV p.last, .slice p.ta p.ts.length p.tc, .map (some bm)] 73), (bm, memO kvM (vvM p.n) Ls)]⟩) (acc := []) (by kernel_rfl) (by kernel_rfl) trivial ?_
    refine run_round rfl (hbeg _ ?_)
    refine run_auto [] 9 [] [2] [2, 4, 5, 6, 14, 15, 16] [0, 1, 2, 3, 4] (st' := ⟨[(2, pA b1), (4, pA b3), (5, pA b4), (6, iV ((N - s : Nat) : Int)), (14, sV bn Ns.length cap), (15, iV (Ns.length : Int)), (16, iV 0)], [(b4, aO #[.bool (ask s)] 4), (b3, aO #[iV (mnV N s)] 3), (b2, aO #[sV bn Ns.length cap] 46), (b1, aO #[.slice p.ba p.bs.length p.bc, iV p.near, iV p.last, .slice p.ta p.ts.length p.tc, .map (some bm)] 73), (bm, memO kvM (vvM p.n) Ls)]⟩) (acc := [(pA b2, pA b2)]) (by kernel_rfl) (by kernel_rfl) ⟨rfl, trivial⟩ ?_
    refine run_auto [] 0 [] [] [2, 4, 5, 6, 14, 15, 16] [0, 1, 2, 3, 4] (st' := ⟨[(2, pA b1), (4, pA b3), (5, pA b4), (6, iV ((N - s : Nat) : Int)), (14, sV bn Ns.length cap), (15, iV (Ns.length : Int)), (16, iV 0)], [(b4, aO #[.bool (ask s)] 4), (b3, aO #[iV (mnV N s)] 3), (b2, aO #[sV bn Ns.length cap] 46), (b1, aO #[.slice p.ba p.bs.length p.bc, iV p.near, iV p.last, .slice p.ta p.ts.length p.tc, .map (some bm)] 73), (bm, memO kvM (vvM p.n) Ls)]⟩) (acc := []) (by kernel_rfl) (by kernel_rfl) trivial ?_
    refine run_loop (S := fun (x : Nat × List Mo) => ⟨[(2, pA b1), (4, pA b3), (5, pA b4), (6, iV ((N - s : Nat) : Int)), (14, sV bn Ns.length cap), (15, iV (Ns.length : Int)), (16, iV (x.1 : Int))], [(b4, aO #[.bool (ask s)] 4), (b3, aO #[iV (mnV N s)] 3), (b2, aO #[sV bn Ns.length cap] 46), (b1, aO #[.slice p.ba p.bs.length p.bc, iV p.near, iV p.last, .slice p.ta p.ts.length p.tc, .map (some bm)] 73), (bm, memO kvM (vvM p.n) x.2)]⟩) (fun x => x.1 ≤ Ns.length ∧ ∀ i, i < x.1 → p.n.set (elN Ns i) (N - s) = true) (fun x => Ns.length - x.1) ((0, Ls)) (by kernel_rfl) (⟨Nat.zero_le _, fun i hi => absurd hi (Nat.not_lt_zero _)⟩) (by kernel_rfl) (fun x hI0 J0 hJ0 => ?_)
    obtain ⟨j, Lj⟩ := x
    obtain ⟨hjn, hJj⟩ := hI0
    dsimp only at hjn hJj
    cases hd1 : (decide ((j : Int) < (Ns.length : Int))) with
    | false =>
      have hp1 := of_decide_eq_false hd1
      refine run_auto [(17, .bool false)] 13 [false] [1, 0] [] [0, 1, 2, 3, 4] (st' := ⟨[], [(b4, aO #[.bool true] 4), (b3, aO #[iV ((N - s : Nat) : Int)] 3), (b2, aO #[sV bn Ns.length cap] 46), (b1, aO #[.slice p.ba p.bs.length p.bc, iV p.near, iV p.last, .slice p.ta p.ts.length p.tc, .map (some bm)] 73), (bm, memO kvM (vvM p.n) Lj)]⟩) (acc := [(pA b4, pA b4), (pA b3, pA b3), (.bool false, .bool false), (.bool (decide ((j : Int) < (Ns.length : Int))), .bool false)]) (by kernel_rfl) (by kernel_rfl) ⟨rfl, rfl, rfl, (bo hd1), trivial⟩ ?_
      exact run_nil rfl (fun a_ w1 g_ => hnext (s + 1, Lj) _ ⟨by rw [List.length_append, ← hI.1]; rfl, fun i hi => (Nat.lt_succ_iff_lt_or_eq.1 hi).elim (hI.2 i) (fun h => h ▸ sets_yes (fun i hi => hJj i (by omega)))⟩ (fun b h => h.elim) a_ w1 g_)
    | true =>
      have hp1 := of_decide_eq_true hd1
      have hjl : j < Ns.length := by omega
      have hcj := hrow j hjl
      have hbN := hNs _ (elN_mem hjl)
      refine run_auto [(17, .bool true)] 11 [true] [] [2, 4, 5, 6, 14, 15, 16] [0, 1, 2, 3, 4] (st' := ⟨[(2, pA b1), (4, pA b3), (5, pA b4), (6, iV ((N - s : Nat) : Int)), (14, sV bn Ns.length cap), (15, iV (Ns.length : Int)), (16, iV (j : Int))], [(b4, aO #[.bool (ask s)] 4), (b3, aO #[iV (mnV N s)] 3), (b2, aO #[sV bn Ns.length cap] 46), (b1, aO #[.slice p.ba p.bs.length p.bc, iV p.near, iV p.last, .slice p.ta p.ts.length p.tc, .map (some bm)] 73), (bm, memO kvM (vvM p.n) Lj)]⟩) (acc := [(.bool true, .bool true), (.bool (decide ((j : Int) < (Ns.length : Int))), .bool true)]) (by kernel_rfl) (by kernel_rfl) ⟨rfl, (bo hd1), trivial⟩ ?_
      refine run_v (Instr.indexAt 46 (sV bn Ns.length cap) (iV (j : Int)) >>= fun v => pure (Next.value v)) (some 18) (.pointer (some ⟨bn, j, none⟩)) (by kernel_rfl) (fun w1 k1 h1 => idx_off (e := 3) (n := 1) (by kernel_rfl) (by kernel_rfl) bn (0) Ns.length cap .i64 j (by omega) (j) (by omega) w1) ?_
      refine run_v (Instr.loadAt 3 (.pointer (some ⟨bn, j, none⟩)) >>= fun v => pure (Next.value v)) (some 19) (iV ((elN Ns j : Nat) : Int)) (by kernel_rfl) (fun w1 k1 h1 => load_in (off := 0) (hkk _ k1) hnb [iV ((elN Ns j : Nat) : Int)] (c1 hcj) (by kernel_rfl)) ?_
      refine run_auto [] 7 [] [3] [2, 4, 5, 6, 14, 15, 16, 20, 21, 22] [0, 1, 2, 3, 4] (st' := ⟨[(2, pA b1), (4, pA b3), (5, pA b4), (6, iV ((N - s : Nat) : Int)), (14, sV bn Ns.length cap), (15, iV (Ns.length : Int)), (16, iV (j : Int)), (20, .agg #[.slice p.ba p.bs.length p.bc, iV p.near, iV p.last, .slice p.ta p.ts.length p.tc, .map (some bm)]), (21, iV ((elN Ns j : Nat) : Int)), (22, iV ((N - s : Nat) : Int))], [(b4, aO #[.bool (ask s)] 4), (b3, aO #[iV (mnV N s)] 3), (b2, aO #[sV bn Ns.length cap] 46), (b1, aO #[.slice p.ba p.bs.length p.bc, iV p.near, iV p.last, .slice p.ta p.ts.length p.tc, .map (some bm)] 73), (bm, memO kvM (vvM p.n) Lj)]⟩) (acc := [(pA b1, pA b1)]) (by kernel_rfl) (by kernel_rfl) ⟨rfl, trivial⟩ ?_
      refine run_nww 55 #[.agg #[.slice p.ba p.bs.length p.bc, iV p.near, iV p.last, .slice p.ta p.ts.length p.tc, .map (some bm)], iV ((elN Ns j : Nat) : Int), iV ((N - s : Nat) : Int)] (some 23) (α := List Mo) (fun x => .bool (p.n.set (elN Ns j : Nat) (N - s : Nat))) (fun x => []) 4 bm (memO kvM (vvM p.n) Lj) (fun x => memO kvM (vvM p.n) (x)) (fun x => True) (by kernel_rfl) (by kernel_rfl) (fun x => rfl) (fun x p hp => by cases hp) (fun w1 k1 h1 => settled_any p bm (elN Ns j : Nat) (N - s : Nat) Lj w1 (h1 (bm, memO kvM (vvM p.n) Lj) (List.mem_of_getElem? (i := 4) (by kernel_rfl))) ((hin.at (hkk _ k1)).map (h1 (bm, memO kvM (vvM p.n) Lj) (List.mem_of_getElem? (i := 4) (by kernel_rfl)))) hF hbN (by omega)) (fun x hI6 hn6 => ?_)
      obtain ⟨Lm6, he6⟩ : ∃ y, y = x := ⟨x, rfl⟩
      subst he6
      cases hd2 : (p.n.set (elN Ns j : Nat) (N - s : Nat)) with
      | false =>
        refine run_auto [(24, .bool true)] 3 [true] [] [] [0, 1, 2, 3, 4] (st' := ⟨[], [(b4, aO #[.bool (ask s)] 4), (b3, aO #[iV (mnV N s)] 3), (b2, aO #[sV bn Ns.length cap] 46), (b1, aO #[.slice p.ba p.bs.length p.bc, iV p.near, iV p.last, .slice p.ta p.ts.length p.tc, .map (some bm)] 73), (bm, memO kvM (vvM p.n) Lm6)]⟩) (acc := [(.bool true, .bool true), (.bool true, .bool true)]) (by kernel_rfl) (by kernel_rfl) ⟨rfl, rfl, trivial⟩ ?_
        exact run_exitQ 0 (by kernel_rfl) (fun a_ w1 g_ => hexit (.exit 0) (s, Lm6) _ ⟨rfl, hx.1, sets_no hjl hd2, hI.2⟩ (.inr ⟨0, rfl⟩) (fun b h => h.elim) a_ w1 g_)
      | true =>
        refine run_auto [(24, .bool false), (25, iV ((j + 1 : Nat) : Int))] 9 [false] [] [2, 4, 5, 6, 14, 15, 16] [0, 1, 2, 3, 4] (st' := ⟨[(2, pA b1), (4, pA b3), (5, pA b4), (6, iV ((N - s : Nat) : Int)), (14, sV bn Ns.length cap), (15, iV (Ns.length : Int)), (16, iV ((j + 1 : Nat) : Int))], [(b4, aO #[.bool (ask s)] 4), (b3, aO #[iV (mnV N s)] 3), (b2, aO #[sV bn Ns.length cap] 46), (b1, aO #[.slice p.ba p.bs.length p.bc, iV p.near, iV p.last, .slice p.ta p.ts.length p.tc, .map (some bm)] 73), (bm, memO kvM (vvM p.n) Lm6)]⟩) (acc := [(iV (IntKind.i64.wrap ((j : Int) + 1)), iV ((j + 1 : Nat) : Int)), (.bool false, .bool false), (.bool false, .bool false)]) (by kernel_rfl) (by kernel_rfl) ⟨(wr (by omega) (by omega)), rfl, rfl, trivial⟩ ?_
        exact run_round (by kernel_rfl) (hJ0 ((j + 1, Lm6)) (⟨by dsimp only; omega, fun i hi => (Nat.lt_succ_iff_lt_or_eq.1 hi).elim (hJj i) (fun h => h ▸ hd2)⟩) (by dsimp only; omega))
  · skip
    obtain rfl : ys = rgL (N + 1) (dnG N) := hys
    obtain ⟨s, Ls⟩ := s
    dsimp only at hI
    have hs : s = N + 1 := by rw [hI.1, rgL_len]
    have hI2 := hI.2
    clear hI
    subst hs
    have hfin := frm_done hI2
    refine run_auto [] 2 [] [] [4, 5] [0, 1, 4] (st' := ⟨[(4, pA b3), (5, pA b4)], [(b4, aO #[.bool (ask (N + 1))] 4), (b3, aO #[iV (mnV N (N + 1))] 3), (bm, memO kvM (vvM p.n) Ls)]⟩) (acc := []) (by kernel_rfl) (by kernel_rfl) trivial ?_
    refine draw 4 [{ val := fun _ => iV (mnV N (N + 1)), slots := [4], reads := [1] },
          { val := fun _ => .bool (ask (N + 1)), slots := [5], reads := [0] },
          { upd := [(1, fun l => aO #[iV (mnV N (N + 1))] 3)], slots := [4, 27], reads := [1] },
          { upd := [(0, fun l => aO #[.bool (ask (N + 1))] 4)], slots := [5, 28], reads := [0] }] [[], [], [0], [0, 1, 2]] (by kernel_rfl) (by kernel_rfl) (by kernel_rfl) (by kernel_rfl) [4, 5] [0, 1, 2] (by kernel_rfl)
          ⟨⟨⟨⟨trivial,
          tri_quiet (fun β => []) [0] [0] (fun β => [(pA b3, pA b3)]) (by kernel_rfl) (fun β extra => by kernel_rfl) (by kernel_rfl) (fun β => ⟨rfl, trivial⟩)⟩,
          tri_quiet (fun β => []) [0] [0] (fun β => [(pA b4, pA b4)]) (by kernel_rfl) (fun β extra => by kernel_rfl) (by kernel_rfl) (fun β => ⟨rfl, trivial⟩)⟩,
          tri_quiet (fun β => []) [0] [0] (fun β => [(pA b3, pA b3)]) (by kernel_rfl) (fun β extra => by kernel_rfl) (by kernel_rfl) (fun β => ⟨rfl, trivial⟩)⟩,
          tri_quiet (fun β => []) [0] [0] (fun β => [(pA b4, pA b4)]) (by kernel_rfl) (fun β extra => by kernel_rfl) (by kernel_rfl) (fun β => ⟨rfl, trivial⟩)⟩
          (fun β => ⟨[(4, pA b3), (5, pA b4)], [(b4, aO #[.bool (ask (N + 1))] 4), (b3, aO #[iV (mnV N (N + 1))] 3), (bm, memO kvM (vvM p.n) Ls)]⟩) (fun β => by kernel_rfl) (fun β6 => ?_)
    refine run_end (fn := f45) rfl (Nat.le_refl _) (by kernel_rfl) [1, 0] [iV (mnV N (N + 1)), .bool (ask (N + 1))] (e := [(pA b3, pA b3), (pA b4, pA b4)]) (by kernel_rfl) ⟨rfl, rfl, trivial⟩ (fun w1 k1 h1 => ?_)
    exact ⟨by rw [hfin]; rfl, k1⟩
  · skip
    obtain ⟨y, Ly⟩ := y
    dsimp only at hI
    obtain ⟨rfl, hy1, hy2, hy3⟩ := hI
    have hfin := frm_stop hy1 hy2 hy3
    refine run_auto [] 2 [] [] [4, 5] [0, 1, 4] (st' := ⟨[(4, pA b3), (5, pA b4)], [(b4, aO #[.bool (ask y)] 4), (b3, aO #[iV (mnV N y)] 3), (bm, memO kvM (vvM p.n) Ly)]⟩) (acc := []) (by kernel_rfl) (by kernel_rfl) trivial ?_
    refine draw 4 [{ val := fun _ => iV (mnV N y), slots := [4], reads := [1] },
          { val := fun _ => .bool (ask y), slots := [5], reads := [0] },
          { upd := [(1, fun l => aO #[iV (mnV N y)] 3)], slots := [4, 27], reads := [1] },
          { upd := [(0, fun l => aO #[.bool (ask y)] 4)], slots := [5, 28], reads := [0] }] [[], [], [0], [0, 1, 2]] (by kernel_rfl) (by kernel_rfl) (by kernel_rfl) (by kernel_rfl) [4, 5] [0, 1, 2] (by kernel_rfl)
          ⟨⟨⟨⟨trivial,
          tri_quiet (fun β => []) [0] [0] (fun β => [(pA b3, pA b3)]) (by kernel_rfl) (fun β extra => by kernel_rfl) (by kernel_rfl) (fun β => ⟨rfl, trivial⟩)⟩,
          tri_quiet (fun β => []) [0] [0] (fun β => [(pA b4, pA b4)]) (by kernel_rfl) (fun β extra => by kernel_rfl) (by kernel_rfl) (fun β => ⟨rfl, trivial⟩)⟩,
          tri_quiet (fun β => []) [0] [0] (fun β => [(pA b3, pA b3)]) (by kernel_rfl) (fun β extra => by kernel_rfl) (by kernel_rfl) (fun β => ⟨rfl, trivial⟩)⟩,
          tri_quiet (fun β => []) [0] [0] (fun β => [(pA b4, pA b4)]) (by kernel_rfl) (fun β extra => by kernel_rfl) (by kernel_rfl) (fun β => ⟨rfl, trivial⟩)⟩
          (fun β => ⟨[(4, pA b3), (5, pA b4)], [(b4, aO #[.bool (ask y)] 4), (b3, aO #[iV (mnV N y)] 3), (bm, memO kvM (vvM p.n) Ly)]⟩) (fun β => by kernel_rfl) (fun β6 => ?_)
    refine run_end (fn := f45) rfl (Nat.le_refl _) (by kernel_rfl) [1, 0] [iV (mnV N y), .bool (ask y)] (e := [(pA b3, pA b3), (pA b4, pA b4)]) (by kernel_rfl) ⟨rfl, rfl, trivial⟩ (fun w1 k1 h1 => ?_)
    exact ⟨by rw [hfin]; rfl, k1⟩

end Go.Proofs.Ytfjfkaaflghaiaa

namespace Go.Proofs.Ytfjfkaaflghaiaa
open Go.RowKit Go.Proofs.Try
attribute [local irreducible] Run wpK


def elS (L : List Sp) (i : Nat) : Sp := L[i]?.getD (0, 0)

def spR (x : Sp) : List Value := [.int .i64 x.1, .int .i64 x.2]
theorem spR_len (x : Sp) : (spR x).length = 2 := rfl
theorem spR_one (x : Sp) : ∀ u ∈ spR x, u.oneCell' = true := by
  intro u hu
  simp only [spR, List.mem_cons, List.not_mem_nil, or_false] at hu
  rcases hu with rfl | rfl <;> rfl
theorem spR_at {L : List Sp} {i : Nat} (h : i < L.length) : spR L[i] = spR (elS L i) := by unfold elS; rw [List.getElem?_eq_getElem h]; rfl
def Sps (w : World) (a : Option Addr) (L : List Sp) : Prop :=
  L ≠ [] → ∃ b o, a = some ⟨b, o, none⟩ ∧ ∀ i, i < L.length → w.cell? ⟨b, o + i * 2, none⟩ = some (.int .i64 (elS L i).1) ∧ w.cell? ⟨b, o + i * 2 + 1, none⟩ = some (.int .i64 (elS L i).2)
theorem Sps.keep {w w' : World} {a : Option Addr} {L : List Sp} (h : Sps w a L) (k : Keeps w w') : Sps w' a L := by
  intro hx
  obtain ⟨b, o, e, hc⟩ := h hx
  exact ⟨b, o, e, fun i hi => ⟨k.cell (hc i hi).1, k.cell (hc i hi).2⟩⟩
theorem Sps.flat {w : World} {a : Option Addr} {L : List Sp} (h : Sps w a L) : L ≠ [] → ∃ b o, a = some ⟨b, o, none⟩ ∧ ∀ j u, (L.flatMap spR)[j]? = some u → w.cell? ((⟨b, o, none⟩ : Addr).add j) = some u := by
  intro hx
  obtain ⟨b, o, e, hc⟩ := h hx
  refine ⟨b, o, e, flat_cells spR_len fun i x hi k u hk => ?_⟩
  have hl := (List.getElem?_eq_some_iff.1 hi).1
  have h5 := hc i hl
  have e2 : elS L i = x := by unfold elS; rw [hi]; rfl
  rw [e2] at h5
  exact c2 h5.1 h5.2 k u hk
theorem Sps.of_flat {w : World} {b : Nat} {L : List Sp} {sp : List Value} {t : TypeId} {fr : Nat × Nat} (h : w.heap[b]? = some (.cells (L.flatMap spR ++ sp).toArray t fr)) : Sps w (some ⟨b, 0, none⟩) L := by
  intro _
  refine ⟨b, 0, rfl, fun i hi => ?_⟩
  have key : ∀ k u, (spR (elS L i))[k]? = some u → w.cell? ⟨b, 0 + i * 2 + k, none⟩ = some u := by
    intro k u hk
    refine cells_of_heap h _ _ ?_
    have hk5 : k < 2 := (List.getElem?_eq_some_iff.1 hk).1
    have e1 : L.flatMap spR ++ sp = (L.take i).flatMap spR ++ ((L.drop i).flatMap spR ++ sp) := by rw [← List.append_assoc, ← List.flatMap_append, List.take_append_drop]
    have hl : ((L.take i).flatMap spR).length = i * 2 := by rw [flat_len spR_len, List.length_take, Nat.min_eq_left (Nat.le_of_lt hi)]
    rw [e1, List.getElem?_append_right (by omega), hl, show 0 + i * 2 + k - i * 2 = k by omega, List.drop_eq_getElem_cons hi, List.flatMap_cons, List.append_assoc, List.getElem?_append_left (by show k < 2; exact hk5)]
    rw [spR_at hi]
    exact hk
  exact ⟨key 0 _ rfl, key 1 _ rfl⟩

theorem elS_is {L : List Sp} {i : Nat} (h : i < L.length) : elS L i = L[i] := by unfold elS; rw [List.getElem?_eq_getElem h]; rfl
/-- The minutes in which something is so, as few spans as can be. -/
def rsP (P : Nat → Bool) : Nat → List Sp
  | 0 => []
  | m + 1 => bif P m then (if 0 < (rsP P m).length ∧ (elS (rsP P m) ((rsP P m).length - 1)).2 = (m : Int) - 1 then (rsP P m).set ((rsP P m).length - 1) ((elS (rsP P m) ((rsP P m).length - 1)).1, (m : Int)) else rsP P m ++ [((m : Int), (m : Int))]) else rsP P m
def Sn.rs (s : Sn) (b n : Nat) : List Sp := rsP (fun m => s.set b m) n
theorem rs_no {s : Sn} {b m : Nat} (h : s.set b m = false) : s.rs b (m + 1) = s.rs b m := by
  show (bif s.set b m then _ else _) = _
  rw [h]
  rfl
theorem rs_set {s : Sn} {b m t : Nat} (h : s.set b m = true) (hl : (s.rs b m).length = t + 1) (he : (elS (s.rs b m) t).2 = (m : Int) - 1) : s.rs b (m + 1) = (s.rs b m).set t ((elS (s.rs b m) t).1, (m : Int)) := by
  show (bif s.set b m then (if 0 < (s.rs b m).length ∧ (elS (s.rs b m) ((s.rs b m).length - 1)).2 = (m : Int) - 1 then (s.rs b m).set ((s.rs b m).length - 1) ((elS (s.rs b m) ((s.rs b m).length - 1)).1, (m : Int)) else s.rs b m ++ [((m : Int), (m : Int))]) else s.rs b m) = _
  rw [h, hl, cond_true, Nat.add_sub_cancel, if_pos ⟨Nat.succ_pos _, he⟩]
theorem rs_app {s : Sn} {b m t : Nat} (h : s.set b m = true) (hl : (s.rs b m).length = t + 1) (he : ¬ (elS (s.rs b m) t).2 = (m : Int) - 1) : s.rs b (m + 1) = s.rs b m ++ [((m : Int), (m : Int))] := by
  show (bif s.set b m then (if 0 < (s.rs b m).length ∧ (elS (s.rs b m) ((s.rs b m).length - 1)).2 = (m : Int) - 1 then (s.rs b m).set ((s.rs b m).length - 1) ((elS (s.rs b m) ((s.rs b m).length - 1)).1, (m : Int)) else s.rs b m ++ [((m : Int), (m : Int))]) else s.rs b m) = _
  rw [h, hl, cond_true, Nat.add_sub_cancel, if_neg fun hh => he hh.2]
theorem rs_one {s : Sn} {b m : Nat} (h : s.set b m = true) (hl : (s.rs b m).length = 0) : s.rs b (m + 1) = [((m : Int), (m : Int))] := by
  show (bif s.set b m then (if 0 < (s.rs b m).length ∧ (elS (s.rs b m) ((s.rs b m).length - 1)).2 = (m : Int) - 1 then (s.rs b m).set ((s.rs b m).length - 1) ((elS (s.rs b m) ((s.rs b m).length - 1)).1, (m : Int)) else s.rs b m ++ [((m : Int), (m : Int))]) else s.rs b m) = _
  rw [h, cond_true, if_neg (by omega), List.eq_nil_of_length_eq_zero hl]
  rfl
theorem rs_len (s : Sn) (b : Nat) : ∀ m, (s.rs b m).length ≤ m
  | 0 => Nat.le_refl _
  | m + 1 => by
    have h := rs_len s b m
    cases hb : s.set b m with
    | false => rw [rs_no hb]; omega
    | true =>
      cases hl : (s.rs b m).length with
      | zero => rw [rs_one hb hl]; simp
      | succ t =>
        by_cases he : (elS (s.rs b m) t).2 = (m : Int) - 1
        · rw [rs_set hb hl he, List.length_set]; omega
        · rw [rs_app hb hl he, List.length_append, List.length_singleton]; omega
set_option maxRecDepth 100000 in
theorem plateOf_any (p : Sb) (w : World)  : Calls Try.prog 35 #[.agg #[.slice p.ba p.bs.length p.bc, .int .i64 p.near, .int .i64 p.last, .slice p.ta p.ts.length p.tc]] w (Nw (α := Unit) (fun _ b => .agg #[.slice p.ba p.bs.length p.bc, .int .i64 p.near, .int .i64 p.last, .slice p.ta p.ts.length p.tc, .map (some b)]) (fun _ => memO kvM (vvM p.n) []) (fun _ => True) w) := by
  refine calls_run (fn := f35) (c := (f35.body).getD .skip) [.agg #[.slice p.ba p.bs.length p.bc, .int .i64 p.near, .int .i64 p.last, .slice p.ta p.ts.length p.tc]] func35 (by kernel_rfl) (fun _ => False) [] (fun _ h => by cases h) (List.Pairwise.nil) 6 (by kernel_rfl) (by simp) ?_
  refine run_auto [] 2 [] [] [0] [] (st' := ⟨[(0, .agg #[.slice p.ba p.bs.length p.bc, iV p.near, iV p.last, .slice p.ta p.ts.length p.tc])], []⟩) (acc := []) (by kernel_rfl) (by kernel_rfl) trivial ?_
  refine run_new (aO #[.slice p.ba p.bs.length p.bc, iV p.near, iV p.last, .slice p.ta p.ts.length p.tc] 33) (fun b1 => pA b1) (some 1) (fun _ => by kernel_rfl) (fun b1 hb1 => ?_)
  refine run_new (aO #[.slice none 0 0, iV 0, iV 0, .slice none 0 0, .map none] 73) (fun b2 => pA b2) (some 2) (fun _ => by kernel_rfl) (fun b2 hb2 => ?_)
  refine run_auto [] 4 [] [1] [2, 3] [0] (st' := ⟨[(2, pA b2), (3, .agg #[.slice p.ba p.bs.length p.bc, iV p.near, iV p.last, .slice p.ta p.ts.length p.tc])], [(b2, aO #[.slice none 0 0, iV 0, iV 0, .slice none 0 0, .map none] 73)]⟩) (acc := [(pA b1, pA b1)]) (by kernel_rfl) (by kernel_rfl) ⟨rfl, trivial⟩ ?_
  refine run_new (.map #[] 0) (fun b3 => .map (some b3)) (some 4) (fun _ => by kernel_rfl) (fun b3 hb3 => ?_)
  refine run_auto [] 3 [] [1] [2] [0, 1] (st' := ⟨[(2, pA b2)], [(b3, .map #[] 0), (b2, aO #[.slice p.ba p.bs.length p.bc, iV p.near, iV p.last, .slice p.ta p.ts.length p.tc, .map (some b3)] 73)]⟩) (acc := [(pA b2, pA b2)]) (by kernel_rfl) (by kernel_rfl) ⟨rfl, trivial⟩ ?_
  refine run_end (fn := f35) rfl (Nat.le_refl _) (by kernel_rfl) [1] [.agg #[.slice p.ba p.bs.length p.bc, iV p.near, iV p.last, .slice p.ta p.ts.length p.tc, .map (some b3)]] (e := [(pA b2, pA b2)]) (by kernel_rfl) ⟨rfl, trivial⟩ (fun w1 k1 h1 => ?_)
  exact ⟨(), b3, trivial, hb3, rfl, k1.keeps (fun _ h => h), h1 (b3, _) (List.mem_of_getElem? (i := 0) rfl)⟩

set_option maxRecDepth 100000 in
theorem exactly_any (n : Int) (w : World)  : Calls Try.prog 59 #[.int .i64 n] w (Ret (.agg #[.int .i64 n, .int .i64 n]) w) := by
  refine calls_run (fn := f59) (c := (f59.body).getD .skip) [.int .i64 n] func59 (by kernel_rfl) (fun _ => False) [] (fun _ h => by cases h) (List.Pairwise.nil) 6 (by kernel_rfl) (by simp) ?_
  refine run_auto [] 2 [] [] [0] [] (st' := ⟨[(0, iV n)], []⟩) (acc := []) (by kernel_rfl) (by kernel_rfl) trivial ?_
  refine run_new (aO #[iV 0, iV 0] 23) (fun b1 => pA b1) (some 2) (fun _ => by kernel_rfl) (fun b1 hb1 => ?_)
  refine run_auto [] 8 [] [0] [2] [0] (st' := ⟨[(2, pA b1)], [(b1, aO #[iV n, iV n] 23)]⟩) (acc := [(pA b1, pA b1)]) (by kernel_rfl) (by kernel_rfl) ⟨rfl, trivial⟩ ?_
  refine run_end (fn := f59) rfl (Nat.le_refl _) (by kernel_rfl) [0] [.agg #[iV n, iV n]] (e := [(pA b1, pA b1)]) (by kernel_rfl) ⟨rfl, trivial⟩ (fun w1 k1 h1 => ?_)
  exact ⟨rfl, k1.keeps (fun _ h => h)⟩


theorem set_len {L : List Sp} {i : Nat} {x : Sp} {sp : List Value} {c : Nat} (h : (L.flatMap spR ++ sp).length = c) : ((L.set i x).flatMap spR ++ sp).length = c := by
  rw [List.length_append, flat_len spR_len] at h ⊢
  rw [List.length_set]
  exact h
/-- Spans: nil, or a new block. -/
def SpR (L : List Sp) (w : World) (e : Ending) (w' : World) : Prop :=
  (L.isEmpty = true ∧ Ret (.slice none 0 0) w e w') ∨ (L.isEmpty = false ∧ NwL (α := Nat × Nat × List Value) (fun a => .slice (some ⟨a.1, 0, none⟩) L.length a.2.1) (fun a => [(a.1, .cells (L.flatMap spR ++ a.2.2).toArray 23 (0, 0))]) (fun a => L.length ≤ a.2.1) w e w')
def SpD (bm : Nat) (L : List Sp) (w : World) (e : Ending) (w' : World) : Prop :=
  (L.isEmpty = true ∧ Drp bm (.slice none 0 0) w e w') ∨ (L.isEmpty = false ∧ DrpN (α := Nat × Nat × List Value) bm (fun a => .slice (some ⟨a.1, 0, none⟩) L.length a.2.1) (fun a => [(a.1, .cells (L.flatMap spR ++ a.2.2).toArray 23 (0, 0))]) (fun a => L.length ≤ a.2.1) w e w')
set_option maxRecDepth 100000 in
set_option maxHeartbeats 4000000 in
theorem rests_any (p : Sb) (bm b N : Nat) (L : List Mo) (w : World) (hmap : w.heap[bm]? = some (memO kvM (vvM p.n) L)) (hin : p.InD (fun x => x = bm) w) (hF : p.n.Fine) (hN : p.last = (N : Int)) (hbN : b < p.bs.length) : Calls Try.prog 48 #[.agg #[.slice p.ba p.bs.length p.bc, .int .i64 p.near, .int .i64 p.last, .slice p.ta p.ts.length p.tc, .map (some bm)], .int .i64 (b : Int)] w (SpD bm (p.n.rs b (N + 1)) w) := by
  have hl60 := hF.l.2
  have hlN : (N : Int) ≤ 60 := by rw [← hN]; exact hl60
  refine calls_run (fn := f48) (c := (f48.body).getD .skip) [.agg #[.slice p.ba p.bs.length p.bc, .int .i64 p.near, .int .i64 p.last, .slice p.ta p.ts.length p.tc, .map (some bm)], .int .i64 (b : Int)] func48 (by kernel_rfl) (fun x => x = bm) [(bm, memO kvM (vvM p.n) L)] (fun q hq => by rcases List.mem_singleton.1 hq with rfl; exact ⟨hmap, rfl, rfl⟩) (List.pairwise_singleton _ _) 46 (by kernel_rfl) (by simp) ?_
  refine run_auto [] 2 [] [] [0, 1] [0] (st' := ⟨[(0, .agg #[.slice p.ba p.bs.length p.bc, iV p.near, iV p.last, .slice p.ta p.ts.length p.tc, .map (some bm)]), (1, iV (b : Int))], [(bm, memO kvM (vvM p.n) L)]⟩) (acc := []) (by kernel_rfl) (by kernel_rfl) trivial ?_
  refine run_new (aO #[.slice p.ba p.bs.length p.bc, iV p.near, iV p.last, .slice p.ta p.ts.length p.tc, .map (some bm)] 73) (fun b1 => pA b1) (some 2) (fun _ => by kernel_rfl) (fun b1 hb1 => ?_)
  refine run_new (aO #[iV (b : Int)] 3) (fun b2 => pA b2) (some 3) (fun _ => by kernel_rfl) (fun b2 hb2 => ?_)
  refine run_auto [] 4 [] [] [2, 3, 4] [0, 1, 2] (st' := ⟨[(2, pA b1), (3, pA b2), (4, .slice none 0 0)], [(b2, aO #[iV (b : Int)] 3), (b1, aO #[.slice p.ba p.bs.length p.bc, iV p.near, iV p.last, .slice p.ta p.ts.length p.tc, .map (some bm)] 73), (bm, memO kvM (vvM p.n) L)]⟩) (acc := []) (by kernel_rfl) (by kernel_rfl) trivial ?_
  refine run_new (aO #[.slice none 0 0] 38) (fun b3 => pA b3) (some 5) (fun _ => by kernel_rfl) (fun b3 hb3 => ?_)
  refine run_auto [] 7 [] [2] [2, 3, 4, 5, 10] [0, 1, 2, 3] (st' := ⟨[(2, pA b1), (3, pA b2), (4, .slice none 0 0), (5, pA b3), (10, iV p.last)], [(b3, aO #[.slice none 0 0] 38), (b2, aO #[iV (b : Int)] 3), (b1, aO #[.slice p.ba p.bs.length p.bc, iV p.near, iV p.last, .slice p.ta p.ts.length p.tc, .map (some bm)] 73), (bm, memO kvM (vvM p.n) L)]⟩) (acc := [(pA b1, pA b1)]) (by kernel_rfl) (by kernel_rfl) ⟨rfl, trivial⟩ ?_
  refine run_nw 53 #[iV p.last] (some 11) (α := Unit) (fun _u b4 => .func (.func 88) #[] #[pA b4]) (fun _u => aO #[iV p.last] 3) (fun _u => True) (by kernel_rfl) (fun _ => rfl) (fun w1 k1 h1 => upTo_any p.last w1) (fun _u b4 hIb4 hb4 => ?_)
  refine run_auto [] 2 [] [] [2, 3, 4, 5, 11] [0, 1, 2, 3, 4] (st' := ⟨[(2, pA b1), (3, pA b2), (4, .slice none 0 0), (5, pA b3), (11, .func (.func 88) #[] #[pA b4])], [(b4, aO #[iV p.last] 3), (b3, aO #[.slice none 0 0] 38), (b2, aO #[iV (b : Int)] 3), (b1, aO #[.slice p.ba p.bs.length p.bc, iV p.near, iV p.last, .slice p.ta p.ts.length p.tc, .map (some bm)] 73), (bm, memO kvM (vvM p.n) L)]⟩) (acc := []) (by kernel_rfl) (by kernel_rfl) trivial ?_
  refine run_auto [] 0 [] [] [2, 3, 4, 5, 11] [0, 1, 2, 3, 4] (st' := ⟨[(2, pA b1), (3, pA b2), (4, .slice none 0 0), (5, pA b3), (11, .func (.func 88) #[] #[pA b4])], [(b4, aO #[iV p.last] 3), (b3, aO #[.slice none 0 0] 38), (b2, aO #[iV (b : Int)] 3), (b1, aO #[.slice p.ba p.bs.length p.bc, iV p.near, iV p.last, .slice p.ta p.ts.length p.tc, .map (some bm)] 73), (bm, memO kvM (vvM p.n) L)]⟩) (acc := []) (by kernel_rfl) (by kernel_rfl) trivial ?_
  refine run_range (σ := Nat × List Mo × Option (Nat × Nat × Nat × List Value)) (τ := Unit) 88 #[pA b4] [12] [(b4, aO #[iV p.last] 3)] [(b3, aO #[.slice none 0 0] 38), (b2, aO #[iV (b : Int)] 3), (b1, aO #[.slice p.ba p.bs.length p.bc, iV p.near, iV p.last, .slice p.ta p.ts.length p.tc, .map (some bm)] 73), (bm, memO kvM (vvM p.n) L)] (fun _ _ => True) (fun l => l <+: rgL (N + 1) upG) (fun l => l = rgL (N + 1) upG) (by kernel_rfl) rfl rfl (fun l => by kernel_rfl) rfl (by kernel_rfl) (fun pre x hx => by rw [(rgL_at hx).2.2]; rfl) (by rw [hN]; exact Gives.own1 (upTo_give N b4 (by omega))) (fun _ _ _ _ => trivial)
    (fun s => (match s with | (_, Ls, none) => [(b3, aO #[.slice none 0 0] 38), (b2, aO #[iV (b : Int)] 3), (b1, aO #[.slice p.ba p.bs.length p.bc, iV p.near, iV p.last, .slice p.ta p.ts.length p.tc, .map (some bm)] 73), (bm, memO kvM (vvM p.n) Ls)] | (s_, Ls, some (g, k, cap, sp)) => [(g, cO ((p.n.rs b s_).flatMap spR ++ sp) 23), (b3, aO #[sV g k cap] 38), (b2, aO #[iV (b : Int)] 3), (b1, aO #[.slice p.ba p.bs.length p.bc, iV p.near, iV p.last, .slice p.ta p.ts.length p.tc, .map (some bm)] 73), (bm, memO kvM (vvM p.n) Ls)])) (fun s => Ext.none) (fun pre s => s.1 = (pre).length ∧ match s.2.2 with | none => (p.n.rs b s.1).length = 0 | some (g, k, cap, sp) => (p.n.rs b s.1).length = k ∧ 1 ≤ k ∧ k ≤ cap ∧ cap ≤ maxLen ∧ ((p.n.rs b s.1).flatMap spR ++ sp).length = cap * 2) (fun y => [(b3, aO #[.slice none 0 0] 38), (b2, aO #[iV (b : Int)] 3), (b1, aO #[.slice p.ba p.bs.length p.bc, iV p.near, iV p.last, .slice p.ta p.ts.length p.tc, .map (some bm)] 73), (bm, memO kvM (vvM p.n) L)]) (fun y => Ext.none) (fun c y => False) ((0, L, none)) (⟨rfl, rfl⟩) rfl rfl (fun _ _ _ => ⟨rfl, fun _ _ h => h.elim⟩) (fun _ _ h => h.elim)
    (fun pre x s hpre hI l0 ms ro ob w0 Jb Jn Je hkk hll hbeg hnext hexit => ?_) (fun ys s hys hI => ?_) (fun c y hI => ?_)
  · skip
    have hpre : pre ++ [x] <+: rgL (N + 1) upG := hpre
    obtain ⟨s, Ls, _ | ⟨g, k, cap, sp⟩⟩ := s
    · skip
      dsimp only at hI ⊢
      have hx := rgL_at hpre
      rw [← hI.1] at hx
      obtain rfl := hx.2.2
      have hsN := hx.1
      have hk0 := hI.2
      have hrl := rs_len p.n b s
      refine run_auto [] 3 [] [] [2, 3, 4, 5, 6] [0, 1, 2, 3] (st' := ⟨[(2, pA b1), (3, pA b2), (4, .slice none 0 0), (5, pA b3), (6, iV (s : Int))], [(b3, aO #[.slice none 0 0] 38), (b2, aO #[iV (b : Int)] 3), (b1, aO #[.slice p.ba p.bs.length p.bc, iV p.near, iV p.last, .slice p.ta p.ts.length p.tc, .map (some bm)] 73), (bm, memO kvM (vvM p.n) Ls)]⟩) (acc := []) (by kernel_rfl) (by kernel_rfl) trivial ?_
      refine run_round rfl (hbeg _ ?_)
      refine run_auto [(15, iV (-1))] 14 [] [0, 2, 1] [4, 5, 6, 7, 22, 23, 24] [0, 1, 2, 3] (st' := ⟨[(4, .slice none 0 0), (5, pA b3), (6, iV (s : Int)), (7, iV (-1)), (22, .agg #[.slice p.ba p.bs.length p.bc, iV p.near, iV p.last, .slice p.ta p.ts.length p.tc, .map (some bm)]), (23, iV (b : Int)), (24, iV (s : Int))], [(b3, aO #[.slice none 0 0] 38), (b2, aO #[iV (b : Int)] 3), (b1, aO #[.slice p.ba p.bs.length p.bc, iV p.near, iV p.last, .slice p.ta p.ts.length p.tc, .map (some bm)] 73), (bm, memO kvM (vvM p.n) Ls)]⟩) (acc := [(pA b2, pA b2), (pA b1, pA b1), (iV (-1), iV (-1)), (pA b3, pA b3)]) (by kernel_rfl) (by kernel_rfl) ⟨rfl, rfl, rfl, rfl, trivial⟩ ?_
      refine run_nww 55 #[.agg #[.slice p.ba p.bs.length p.bc, iV p.near, iV p.last, .slice p.ta p.ts.length p.tc, .map (some bm)], iV (b : Int), iV (s : Int)] (some 25) (α := List Mo) (fun x => .bool (p.n.set b s)) (fun x => []) 3 bm (memO kvM (vvM p.n) Ls) (fun x => memO kvM (vvM p.n) (x)) (fun x => True) (by kernel_rfl) (by kernel_rfl) (fun x => rfl) (fun x p hp => by cases hp) (fun w1 k1 h1 => settled_any p bm b s Ls w1 (h1 (bm, memO kvM (vvM p.n) Ls) (List.mem_of_getElem? (i := 3) (by kernel_rfl))) ((hin.at (hkk _ k1)).map (h1 (bm, memO kvM (vvM p.n) Ls) (List.mem_of_getElem? (i := 3) (by kernel_rfl)))) hF hbN (by omega)) (fun x hI5 hn5 => ?_)
      obtain ⟨Lm5, he5⟩ : ∃ y, y = x := ⟨x, rfl⟩
      subst he5
      cases hd1 : (p.n.set b s) with
      | false =>
        refine run_auto [(26, .bool true)] 7 [true] [] [] [0, 1, 2, 3] (st' := ⟨[], [(b3, aO #[.slice none 0 0] 38), (b2, aO #[iV (b : Int)] 3), (b1, aO #[.slice p.ba p.bs.length p.bc, iV p.near, iV p.last, .slice p.ta p.ts.length p.tc, .map (some bm)] 73), (bm, memO kvM (vvM p.n) Lm5)]⟩) (acc := [(.bool true, .bool true), (.bool true, .bool true)]) (by kernel_rfl) (by kernel_rfl) ⟨rfl, rfl, trivial⟩ ?_
        have hst := rs_no hd1
        exact run_nil rfl (fun a_ w1 g_ => hnext (s + 1, Lm5, none) _ ⟨by rw [List.length_append, ← hI.1]; rfl, by dsimp only; rw [hst]; exact hk0⟩ (fun b h => h.elim) a_ w1 g_)
      | true =>
        refine run_auto [(26, .bool false), (29, .bool false)] 21 [false, false] [] [4, 5, 6] [0, 1, 2, 3] (st' := ⟨[(4, .slice none 0 0), (5, pA b3), (6, iV (s : Int))], [(b3, aO #[.slice none 0 0] 38), (b2, aO #[iV (b : Int)] 3), (b1, aO #[.slice p.ba p.bs.length p.bc, iV p.near, iV p.last, .slice p.ta p.ts.length p.tc, .map (some bm)] 73), (bm, memO kvM (vvM p.n) Lm5)]⟩) (acc := [(.bool false, .bool false), (.bool false, .bool false), (.bool false, .bool false), (.bool false, .bool false)]) (by kernel_rfl) (by kernel_rfl) ⟨rfl, rfl, rfl, rfl, trivial⟩ ?_
        refine drawW 6 [{ val := fun _ => .slice none 0 0, slots := [5], reads := [0] },
                  { val := fun _ => iV (s : Int), slots := [6] },
                  { val := fun _ => .agg #[iV (s : Int), iV (s : Int)], slots := [17] },
                  { names := [7], val := fun l => .slice (some ⟨(l.getD 0 0), 0, none⟩) 1 1, upd := [(7, fun l => aO #[iV (s : Int), iV (s : Int)] 23)], news := [7], slots := [18] },
                  { names := [8, 1000008], val := fun l => .slice (some ⟨(l.getD 0 0), 0, none⟩) 1 (capN 1 (l.getD 1 0)), upd := [(8, fun l => cO ((([((s : Int), (s : Int))] : List Sp)).flatMap spR ++ (spareN ((.agg #[iV 0, iV 0])) 1 (l.getD 1 0))) 23)], news := [8, 1000008], slots := [16, 19], reads := [7] },
                  { names := [8, 1000008], upd := [(0, fun l => aO #[.slice (some ⟨(l.getD 0 0), 0, none⟩) 1 (capN 1 (l.getD 1 0))] 38)], slots := [5, 20], reads := [0] }] [[], [], [1], [1, 2], [0, 1, 2, 3], [0, 1, 2, 3, 4]] (by kernel_rfl) (by kernel_rfl) (by kernel_rfl) (by kernel_rfl) [4] [0, 1, 2, 3, 8] (by kernel_rfl)
                  ⟨⟨⟨⟨⟨⟨trivial,
                  tri_quietW (fun β => []) [0] [0] (fun β => [(pA b3, pA b3)]) (by kernel_rfl) (fun β extra => by kernel_rfl) (by kernel_rfl) (fun β => ⟨rfl, trivial⟩)⟩,
                  tri_quietW (fun β => []) [] [] (fun β => []) (by kernel_rfl) (fun β extra => by kernel_rfl) (by kernel_rfl) (fun β => trivial)⟩,
                  tri_callVW (fun β => .agg #[iV (s : Int), iV (s : Int)]) (fun β => by kernel_rfl) 59 (fun β => #[iV (s : Int)]) (by kernel_rfl) (fun β extra => by kernel_rfl) (fun β => by kernel_rfl) (fun β w1 k1 h1 => exactly_any (s : Int) w1)⟩,
                  tri_newW 7 (fun β => aO #[iV (s : Int), iV (s : Int)] 23) (fun β b => sV b 1 1) [0] (by kernel_rfl) (fun β extra b => by kernel_rfl) (by kernel_rfl) (fun β b => by kernel_rfl) (fun β b => by kernel_rfl) (fun β b => by kernel_rfl)⟩,
                  tri_grow_noneW (t := 38) (ty := 38) (e := 23) (n := 2) (z := (.agg #[iV 0, iV 0])) (by kernel_rfl) (by kernel_rfl) (by kernel_rfl) rfl (by kernel_rfl) spR spR_len 8 1000008 rfl rfl (fun β => ⟨(β 7), 0, none⟩) 1 1 ([((s : Int), (s : Int))] : List Sp) (by first | rfl | omega | (simp; done) | (simp; omega)) (by omega) (by omega) (by kernel_rfl) (fun β extra => by kernel_rfl) (fun β b x => by kernel_rfl) (fun β b x => by kernel_rfl) (fun β b x => by kernel_rfl) (fun β w1 k1 h1 jq uq hu => by rw [add_none, Nat.zero_add]; exact cells_of_heap (h1 ((β 7), aO #[iV (s : Int), iV (s : Int)] 23) (List.mem_of_getElem? (i := 0) (by kernel_rfl))) jq uq hu)⟩,
                  tri_quietW (fun β => []) [0] [0] (fun β => [(pA b3, pA b3)]) (by kernel_rfl) (fun β extra => by kernel_rfl) (by kernel_rfl) (fun β => ⟨rfl, trivial⟩)⟩
                  (fun β => ⟨[(4, .slice none 0 0)], [(b3, aO #[.slice (some ⟨(β 8), 0, none⟩) 1 (capN 1 (β 1000008))] 38), (b2, aO #[iV (b : Int)] 3), (b1, aO #[.slice p.ba p.bs.length p.bc, iV p.near, iV p.last, .slice p.ta p.ts.length p.tc, .map (some bm)] 73), (bm, memO kvM (vvM p.n) Lm5), ((β 8), cO ((([((s : Int), (s : Int))] : List Sp)).flatMap spR ++ (spareN ((.agg #[iV 0, iV 0])) 1 (β 1000008))) 23)]⟩) (fun β => by kernel_rfl) (fun β6 => ?_)
        refine run_auto [] 2 [] [] [] [4, 0, 1, 2, 3] (st' := ⟨[], [((β6 8), cO ((([((s : Int), (s : Int))] : List Sp)).flatMap spR ++ (spareN ((.agg #[iV 0, iV 0])) 1 (β6 1000008))) 23), (b3, aO #[.slice (some ⟨(β6 8), 0, none⟩) 1 (capN 1 (β6 1000008))] 38), (b2, aO #[iV (b : Int)] 3), (b1, aO #[.slice p.ba p.bs.length p.bc, iV p.near, iV p.last, .slice p.ta p.ts.length p.tc, .map (some bm)] 73), (bm, memO kvM (vvM p.n) Lm5)]⟩) (acc := []) (by kernel_rfl) (by kernel_rfl) trivial ?_
        have hst := rs_one hd1 hk0
        exact run_nil rfl (fun a_ w1 g_ => hnext (s + 1, Lm5, some ((β6 8), 1, (capN 1 (β6 1000008)), (spareN ((.agg #[iV 0, iV 0])) 1 (β6 1000008)))) _ ⟨by rw [List.length_append, ← hI.1]; rfl, ⟨by dsimp only; rw [hst]; rfl, by omega, (by have := capN_ge (l := 1) (by simp only [maxLen]; omega) (β6 1000008); omega), (capN_le _ _), by dsimp only; rw [hst]; exact (grow_len (l := 1) spR_len (by first | rfl | omega | (simp; done) | (simp; omega)) (by simp only [maxLen]; omega) _ rfl _)⟩⟩ (fun b h => h.elim) a_ w1 (by dsimp only; rw [hst]; exact g_))
    · skip
      dsimp only at hI ⊢
      have hx := rgL_at hpre
      rw [← hI.1] at hx
      obtain rfl := hx.2.2
      have hsN := hx.1
      have hk0 := hI.2
      have hrl := rs_len p.n b s
      obtain ⟨hkl, hk1, hkc, hkm, hkn⟩ := hk0
      obtain ⟨t, rfl⟩ : ∃ t, k = t + 1 := ⟨k - 1, by omega⟩
      have ht0 : decide (0 ≤ (t : Int)) = true := decide_eq_true (by omega)
      have hml : (1000000 : Nat) ≤ maxLen := by simp only [maxLen]; omega
      refine run_auto [] 3 [] [] [2, 3, 4, 5, 6] [0, 1, 2, 3, 4] (st' := ⟨[(2, pA b1), (3, pA b2), (4, .slice none 0 0), (5, pA b3), (6, iV (s : Int))], [(g, cO ((p.n.rs b s).flatMap spR ++ sp) 23), (b3, aO #[sV g (t + 1) cap] 38), (b2, aO #[iV (b : Int)] 3), (b1, aO #[.slice p.ba p.bs.length p.bc, iV p.near, iV p.last, .slice p.ta p.ts.length p.tc, .map (some bm)] 73), (bm, memO kvM (vvM p.n) Ls)]⟩) (acc := []) (by kernel_rfl) (by kernel_rfl) trivial ?_
      refine run_round rfl (hbeg _ ?_)
      refine run_auto [(15, iV (t : Int))] 14 [] [1, 3, 2] [4, 5, 6, 7, 22, 23, 24] [0, 1, 2, 3, 4] (st' := ⟨[(4, .slice none 0 0), (5, pA b3), (6, iV (s : Int)), (7, iV (t : Int)), (22, .agg #[.slice p.ba p.bs.length p.bc, iV p.near, iV p.last, .slice p.ta p.ts.length p.tc, .map (some bm)]), (23, iV (b : Int)), (24, iV (s : Int))], [(g, cO ((p.n.rs b s).flatMap spR ++ sp) 23), (b3, aO #[sV g (t + 1) cap] 38), (b2, aO #[iV (b : Int)] 3), (b1, aO #[.slice p.ba p.bs.length p.bc, iV p.near, iV p.last, .slice p.ta p.ts.length p.tc, .map (some bm)] 73), (bm, memO kvM (vvM p.n) Ls)]⟩) (acc := [(pA b2, pA b2), (pA b1, pA b1), (iV (IntKind.i64.wrap ((t + 1 : Int) - 1)), iV (t : Int)), (pA b3, pA b3)]) (by kernel_rfl) (by kernel_rfl) ⟨rfl, rfl, ((wr (by omega) (by omega)).trans (io (by omega))), rfl, trivial⟩ ?_
      refine run_nww 55 #[.agg #[.slice p.ba p.bs.length p.bc, iV p.near, iV p.last, .slice p.ta p.ts.length p.tc, .map (some bm)], iV (b : Int), iV (s : Int)] (some 25) (α := List Mo) (fun x => .bool (p.n.set b s)) (fun x => []) 4 bm (memO kvM (vvM p.n) Ls) (fun x => memO kvM (vvM p.n) (x)) (fun x => True) (by kernel_rfl) (by kernel_rfl) (fun x => rfl) (fun x p hp => by cases hp) (fun w1 k1 h1 => settled_any p bm b s Ls w1 (h1 (bm, memO kvM (vvM p.n) Ls) (List.mem_of_getElem? (i := 4) (by kernel_rfl))) ((hin.at (hkk _ k1)).map (h1 (bm, memO kvM (vvM p.n) Ls) (List.mem_of_getElem? (i := 4) (by kernel_rfl)))) hF hbN (by omega)) (fun x hI5 hn5 => ?_)
      obtain ⟨Lm5, he5⟩ : ∃ y, y = x := ⟨x, rfl⟩
      subst he5
      cases hd1 : (p.n.set b s) with
      | false =>
        refine run_auto [(26, .bool true)] 7 [true] [] [] [0, 1, 2, 3, 4] (st' := ⟨[], [(g, cO ((p.n.rs b s).flatMap spR ++ sp) 23), (b3, aO #[sV g (t + 1) cap] 38), (b2, aO #[iV (b : Int)] 3), (b1, aO #[.slice p.ba p.bs.length p.bc, iV p.near, iV p.last, .slice p.ta p.ts.length p.tc, .map (some bm)] 73), (bm, memO kvM (vvM p.n) Lm5)]⟩) (acc := [(.bool true, .bool true), (.bool true, .bool true)]) (by kernel_rfl) (by kernel_rfl) ⟨rfl, rfl, trivial⟩ ?_
        have hst := rs_no hd1
        exact run_nil rfl (fun a_ w1 g_ => hnext (s + 1, Lm5, some (g, t + 1, cap, sp)) _ ⟨by rw [List.length_append, ← hI.1]; rfl, ⟨by dsimp only; rw [hst]; exact hkl, Nat.succ_pos _, hkc, hkm, by dsimp only; rw [hst]; exact hkn⟩⟩ (fun b h => h.elim) a_ w1 (by dsimp only; rw [hst]; exact g_))
      | true =>
        refine run_auto [(26, .bool false), (29, .bool true)] 11 [false] [1] [4, 5, 6, 7, 30, 31, 32] [0, 1, 2, 3, 4] (st' := ⟨[(4, .slice none 0 0), (5, pA b3), (6, iV (s : Int)), (7, iV (t : Int)), (30, .bool true), (31, sV g (t + 1) cap), (32, iV (t : Int))], [(g, cO ((p.n.rs b s).flatMap spR ++ sp) 23), (b3, aO #[sV g (t + 1) cap] 38), (b2, aO #[iV (b : Int)] 3), (b1, aO #[.slice p.ba p.bs.length p.bc, iV p.near, iV p.last, .slice p.ta p.ts.length p.tc, .map (some bm)] 73), (bm, memO kvM (vvM p.n) Lm5)]⟩) (acc := [(pA b3, pA b3), (.bool (decide (0 ≤ (t : Int))), .bool true), (.bool false, .bool false), (.bool false, .bool false)]) (by kernel_rfl) (by kernel_rfl) ⟨rfl, (bo ht0), rfl, rfl, trivial⟩ ?_
        refine run_v (Instr.indexAt 38 (sV g (t + 1) cap) (iV (t : Int)) >>= fun v => pure (Next.value v)) (some 33) (.pointer (some ⟨g, t * 2, none⟩)) (by kernel_rfl) (fun w1 k1 h1 => idx_off (e := 23) (n := 2) (by kernel_rfl) (by kernel_rfl) g (0) (t + 1) cap .i64 t (by omega) (t * 2) (by omega) w1) ?_
        refine run_auto [] 1 [] [] [4, 5, 6, 7, 30, 34] [0, 1, 2, 3, 4] (st' := ⟨[(4, .slice none 0 0), (5, pA b3), (6, iV (s : Int)), (7, iV (t : Int)), (30, .bool true), (34, .pointer (some ⟨g, t * 2 + 1, none⟩))], [(g, cO ((p.n.rs b s).flatMap spR ++ sp) 23), (b3, aO #[sV g (t + 1) cap] 38), (b2, aO #[iV (b : Int)] 3), (b1, aO #[.slice p.ba p.bs.length p.bc, iV p.near, iV p.last, .slice p.ta p.ts.length p.tc, .map (some bm)] 73), (bm, memO kvM (vvM p.n) Lm5)]⟩) (acc := []) (by kernel_rfl) (by kernel_rfl) trivial ?_
        refine run_v (Instr.loadAt 3 (.pointer (some ⟨g, t * 2 + 1, none⟩)) >>= fun v => pure (Next.value v)) (some 35) (iV ((elS (p.n.rs b s) t).2)) (by kernel_rfl) (fun w1 k1 h1 => load_own (e := 23) (fr := (0, 0)) (c := (p.n.rs b s).flatMap spR ++ sp) h1 (List.mem_of_getElem? (i := 0) (by kernel_rfl)) (flat_loadF (c := spR) (n := 2) spR_len (by kernel_rfl) (i := t) (k := 1) (by first | omega | (simp; omega)) (by rw [spR_at (by first | omega | (simp; omega))]; rfl) (by omega))) ?_
        cases hd2 : (((elS (p.n.rs b s) t).2) == ((s : Int) - 1)) with
        | false =>
          have hp2 : ¬ ((elS (p.n.rs b s) t).2) = ((s : Int) - 1) := by simpa using hd2
          refine run_auto [(37, iV ((s : Int) - 1)), (38, .bool false)] 7 [false] [] [4, 5, 6] [0, 1, 2, 3, 4] (st' := ⟨[(4, .slice none 0 0), (5, pA b3), (6, iV (s : Int))], [(g, cO ((p.n.rs b s).flatMap spR ++ sp) 23), (b3, aO #[sV g (t + 1) cap] 38), (b2, aO #[iV (b : Int)] 3), (b1, aO #[.slice p.ba p.bs.length p.bc, iV p.near, iV p.last, .slice p.ta p.ts.length p.tc, .map (some bm)] 73), (bm, memO kvM (vvM p.n) Lm5)]⟩) (acc := [(.bool false, .bool false), (.bool (((elS (p.n.rs b s) t).2) == ((s : Int) - 1)), .bool false), (iV (IntKind.i64.wrap ((s : Int) - 1)), iV ((s : Int) - 1))]) (by kernel_rfl) (by kernel_rfl) ⟨rfl, (bo hd2), (wr (by omega) (by omega)), trivial⟩ ?_
          cases hd3 : (decide (t + 1 + 1 ≤ cap)) with
          | false =>
            have hp3 := of_decide_eq_false hd3
            refine drawW 6 [{ val := fun _ => sV g (t + 1) cap, slots := [5], reads := [1] },
                          { val := fun _ => iV (s : Int), slots := [6] },
                          { val := fun _ => .agg #[iV (s : Int), iV (s : Int)], slots := [17] },
                          { names := [8], val := fun l => .slice (some ⟨(l.getD 0 0), 0, none⟩) 1 1, upd := [(8, fun l => aO #[iV (s : Int), iV (s : Int)] 23)], news := [8], slots := [18] },
                          { names := [9, 1000009], val := fun l => .slice (some ⟨(l.getD 0 0), 0, none⟩) (t + 1 + 1) (capN (t + 1 + 1) (l.getD 1 0)), upd := [(9, fun l => cO ((p.n.rs b s ++ ([((s : Int), (s : Int))] : List Sp)).flatMap spR ++ (spareN ((.agg #[iV 0, iV 0])) (t + 1 + 1) (l.getD 1 0))) 23)], news := [9, 1000009], slots := [16, 19], reads := [0, 8] },
                          { names := [9, 1000009], upd := [(1, fun l => aO #[.slice (some ⟨(l.getD 0 0), 0, none⟩) (t + 1 + 1) (capN (t + 1 + 1) (l.getD 1 0))] 38)], slots := [5, 20], reads := [1] }] [[], [], [1], [1, 2], [0, 1, 2, 3], [0, 1, 2, 3, 4]] (by kernel_rfl) (by kernel_rfl) (by kernel_rfl) (by kernel_rfl) [4] [1, 2, 3, 4, 9] (by kernel_rfl)
                          ⟨⟨⟨⟨⟨⟨trivial,
                          tri_quietW (fun β => []) [0] [0] (fun β => [(pA b3, pA b3)]) (by kernel_rfl) (fun β extra => by kernel_rfl) (by kernel_rfl) (fun β => ⟨rfl, trivial⟩)⟩,
                          tri_quietW (fun β => []) [] [] (fun β => []) (by kernel_rfl) (fun β extra => by kernel_rfl) (by kernel_rfl) (fun β => trivial)⟩,
                          tri_callVW (fun β => .agg #[iV (s : Int), iV (s : Int)]) (fun β => by kernel_rfl) 59 (fun β => #[iV (s : Int)]) (by kernel_rfl) (fun β extra => by kernel_rfl) (fun β => by kernel_rfl) (fun β w1 k1 h1 => exactly_any (s : Int) w1)⟩,
                          tri_newW 8 (fun β => aO #[iV (s : Int), iV (s : Int)] 23) (fun β b => sV b 1 1) [0] (by kernel_rfl) (fun β extra b => by kernel_rfl) (by kernel_rfl) (fun β b => by kernel_rfl) (fun β b => by kernel_rfl) (fun β b => by kernel_rfl)⟩,
                          tri_growW (t := 38) (ty := 38) (e := 23) (n := 2) (z := (.agg #[iV 0, iV 0])) (by kernel_rfl) (by kernel_rfl) (by kernel_rfl) rfl (by kernel_rfl) spR spR_len 9 1000009 rfl rfl (fun β => g) (fun β => ⟨(β 8), 0, none⟩) (t + 1) 1 cap 1 (p.n.rs b s) ([((s : Int), (s : Int))] : List Sp) sp (by first | rfl | omega | (simp; done) | (simp; omega)) (by first | rfl | omega | (simp; done) | (simp; omega)) (by omega) (by omega) (by kernel_rfl) (fun β extra => by kernel_rfl) (fun β => by kernel_rfl) (fun β b x => by kernel_rfl) (fun β b x => by kernel_rfl) (fun β b x => by kernel_rfl) (fun β w1 k1 h1 jq uq hu => by rw [add_none, Nat.zero_add]; exact cells_of_heap (h1 ((β 8), aO #[iV (s : Int), iV (s : Int)] 23) (List.mem_of_getElem? (i := 1) (by kernel_rfl))) jq uq hu)⟩,
                          tri_quietW (fun β => []) [0] [0] (fun β => [(pA b3, pA b3)]) (by kernel_rfl) (fun β extra => by kernel_rfl) (by kernel_rfl) (fun β => ⟨rfl, trivial⟩)⟩
                          (fun β => ⟨[(4, .slice none 0 0)], [(b3, aO #[.slice (some ⟨(β 9), 0, none⟩) (t + 1 + 1) (capN (t + 1 + 1) (β 1000009))] 38), (b2, aO #[iV (b : Int)] 3), (b1, aO #[.slice p.ba p.bs.length p.bc, iV p.near, iV p.last, .slice p.ta p.ts.length p.tc, .map (some bm)] 73), (bm, memO kvM (vvM p.n) Lm5), ((β 9), cO ((p.n.rs b s ++ ([((s : Int), (s : Int))] : List Sp)).flatMap spR ++ (spareN ((.agg #[iV 0, iV 0])) (t + 1 + 1) (β 1000009))) 23)]⟩) (fun β => by kernel_rfl) (fun β6 => ?_)
            refine run_auto [] 2 [] [] [] [4, 0, 1, 2, 3] (st' := ⟨[], [((β6 9), cO ((p.n.rs b s ++ ([((s : Int), (s : Int))] : List Sp)).flatMap spR ++ (spareN ((.agg #[iV 0, iV 0])) (t + 1 + 1) (β6 1000009))) 23), (b3, aO #[.slice (some ⟨(β6 9), 0, none⟩) (t + 1 + 1) (capN (t + 1 + 1) (β6 1000009))] 38), (b2, aO #[iV (b : Int)] 3), (b1, aO #[.slice p.ba p.bs.length p.bc, iV p.near, iV p.last, .slice p.ta p.ts.length p.tc, .map (some bm)] 73), (bm, memO kvM (vvM p.n) Lm5)]⟩) (acc := []) (by kernel_rfl) (by kernel_rfl) trivial ?_
            have hst := rs_app hd1 hkl hp2
            exact run_nil rfl (fun a_ w1 g_ => hnext (s + 1, Lm5, some ((β6 9), t + 1 + 1, (capN (t + 1 + 1) (β6 1000009)), (spareN ((.agg #[iV 0, iV 0])) (t + 1 + 1) (β6 1000009)))) _ ⟨by rw [List.length_append, ← hI.1]; rfl, ⟨by dsimp only; rw [hst]; rw [List.length_append, hkl]; rfl, by omega, (by have := capN_ge (l := t + 1 + 1) (by simp only [maxLen]; omega) (β6 1000009); omega), (capN_le _ _), by dsimp only; rw [hst]; exact (grow_len (l := t + 1 + 1) spR_len (by first | rfl | omega | (simp; done) | (simp; omega)) (by simp only [maxLen]; omega) _ rfl _)⟩⟩ (fun b h => h.elim) a_ w1 (by dsimp only; rw [hst]; exact g_))
          | true =>
            have hp3 := of_decide_eq_true hd3
            refine drawW 6 [{ val := fun _ => sV g (t + 1) cap, slots := [5], reads := [1] },
                          { val := fun _ => iV (s : Int), slots := [6] },
                          { val := fun _ => .agg #[iV (s : Int), iV (s : Int)], slots := [17] },
                          { names := [8], val := fun l => .slice (some ⟨(l.getD 0 0), 0, none⟩) 1 1, upd := [(8, fun l => aO #[iV (s : Int), iV (s : Int)] 23)], news := [8], slots := [18] },
                          { val := fun _ => sV g (t + 1 + 1) cap, upd := [(0, fun l => cO ((p.n.rs b s ++ ([((s : Int), (s : Int))] : List Sp)).flatMap spR ++ (sp.drop (1 * 2))) 23)], slots := [16, 19], reads := [0, 8] },
                          { upd := [(1, fun l => aO #[sV g (t + 1 + 1) cap] 38)], slots := [5, 20], reads := [1] }] [[], [], [1], [1, 2], [0, 1, 2, 3], [0, 1, 2, 3, 4]] (by kernel_rfl) (by kernel_rfl) (by kernel_rfl) (by kernel_rfl) [4] [0, 1, 2, 3, 4] (by kernel_rfl)
                          ⟨⟨⟨⟨⟨⟨trivial,
                          tri_quietW (fun β => []) [0] [0] (fun β => [(pA b3, pA b3)]) (by kernel_rfl) (fun β extra => by kernel_rfl) (by kernel_rfl) (fun β => ⟨rfl, trivial⟩)⟩,
                          tri_quietW (fun β => []) [] [] (fun β => []) (by kernel_rfl) (fun β extra => by kernel_rfl) (by kernel_rfl) (fun β => trivial)⟩,
                          tri_callVW (fun β => .agg #[iV (s : Int), iV (s : Int)]) (fun β => by kernel_rfl) 59 (fun β => #[iV (s : Int)]) (by kernel_rfl) (fun β extra => by kernel_rfl) (fun β => by kernel_rfl) (fun β w1 k1 h1 => exactly_any (s : Int) w1)⟩,
                          tri_newW 8 (fun β => aO #[iV (s : Int), iV (s : Int)] 23) (fun β b => sV b 1 1) [0] (by kernel_rfl) (fun β extra b => by kernel_rfl) (by kernel_rfl) (fun β b => by kernel_rfl) (fun β b => by kernel_rfl) (fun β b => by kernel_rfl)⟩,
                          tri_roomW (t := 38) (ty := 38) (e := 23) (n := 2) (z := (.agg #[iV 0, iV 0])) (by kernel_rfl) (by kernel_rfl) (by kernel_rfl) spR spR_len spR_one (fun β => g) (fun β => ⟨(β 8), 0, none⟩) (fun β => [((β 8), aO #[iV (s : Int), iV (s : Int)] 23)]) (t + 1) 1 cap 1 (p.n.rs b s) ([((s : Int), (s : Int))] : List Sp) sp (by first | rfl | omega | (simp; done) | (simp; omega)) (by first | rfl | omega | (simp; done) | (simp; omega)) hkn (by omega) (by kernel_rfl) (fun β extra => by kernel_rfl) (fun β => by kernel_rfl) (fun β => by kernel_rfl) (fun β => by kernel_rfl) (fun β w1 k1 h1 jq uq hu => by rw [add_none, Nat.zero_add]; exact cells_of_heap (h1 ((β 8), aO #[iV (s : Int), iV (s : Int)] 23) (List.mem_of_getElem? (i := 1) (by kernel_rfl))) jq uq hu)⟩,
                          tri_quietW (fun β => []) [0] [0] (fun β => [(pA b3, pA b3)]) (by kernel_rfl) (fun β extra => by kernel_rfl) (by kernel_rfl) (fun β => ⟨rfl, trivial⟩)⟩
                          (fun β => ⟨[(4, .slice none 0 0)], [(g, cO ((p.n.rs b s ++ ([((s : Int), (s : Int))] : List Sp)).flatMap spR ++ (sp.drop (1 * 2))) 23), (b3, aO #[sV g (t + 1 + 1) cap] 38), (b2, aO #[iV (b : Int)] 3), (b1, aO #[.slice p.ba p.bs.length p.bc, iV p.near, iV p.last, .slice p.ta p.ts.length p.tc, .map (some bm)] 73), (bm, memO kvM (vvM p.n) Lm5)]⟩) (fun β => by kernel_rfl) (fun β6 => ?_)
            refine run_auto [] 2 [] [] [] [0, 1, 2, 3, 4] (st' := ⟨[], [(g, cO ((p.n.rs b s ++ ([((s : Int), (s : Int))] : List Sp)).flatMap spR ++ (sp.drop (1 * 2))) 23), (b3, aO #[sV g (t + 1 + 1) cap] 38), (b2, aO #[iV (b : Int)] 3), (b1, aO #[.slice p.ba p.bs.length p.bc, iV p.near, iV p.last, .slice p.ta p.ts.length p.tc, .map (some bm)] 73), (bm, memO kvM (vvM p.n) Lm5)]⟩) (acc := []) (by kernel_rfl) (by kernel_rfl) trivial ?_
            have hst := rs_app hd1 hkl hp2
            exact run_nil rfl (fun a_ w1 g_ => hnext (s + 1, Lm5, some (g, t + 1 + 1, cap, (sp.drop (1 * 2)))) _ ⟨by rw [List.length_append, ← hI.1]; rfl, ⟨by dsimp only; rw [hst]; rw [List.length_append, hkl]; rfl, by omega, (by omega), hkm, by dsimp only; rw [hst]; exact (room_len (len := t + 1) (m := 1) spR_len (by first | rfl | omega | (simp; done) | (simp; omega)) (by first | rfl | omega | (simp; done) | (simp; omega)) hkn (by omega))⟩⟩ (fun b h => h.elim) a_ w1 (by dsimp only; rw [hst]; exact g_))
        | true =>
          have hp2 : ((elS (p.n.rs b s) t).2) = ((s : Int) - 1) := by simpa using hd2
          refine run_auto [(37, iV ((s : Int) - 1)), (38, .bool true)] 11 [true] [1] [4, 40, 41, 42] [0, 1, 2, 3, 4] (st' := ⟨[(4, .slice none 0 0), (40, sV g (t + 1) cap), (41, iV (t : Int)), (42, iV (s : Int))], [(g, cO ((p.n.rs b s).flatMap spR ++ sp) 23), (b3, aO #[sV g (t + 1) cap] 38), (b2, aO #[iV (b : Int)] 3), (b1, aO #[.slice p.ba p.bs.length p.bc, iV p.near, iV p.last, .slice p.ta p.ts.length p.tc, .map (some bm)] 73), (bm, memO kvM (vvM p.n) Lm5)]⟩) (acc := [(pA b3, pA b3), (.bool true, .bool true), (.bool (((elS (p.n.rs b s) t).2) == ((s : Int) - 1)), .bool true), (iV (IntKind.i64.wrap ((s : Int) - 1)), iV ((s : Int) - 1))]) (by kernel_rfl) (by kernel_rfl) ⟨rfl, rfl, (bo hd2), (wr (by omega) (by omega)), trivial⟩ ?_
          refine run_v (Instr.indexAt 38 (sV g (t + 1) cap) (iV (t : Int)) >>= fun v => pure (Next.value v)) (some 43) (.pointer (some ⟨g, t * 2, none⟩)) (by kernel_rfl) (fun w1 k1 h1 => idx_off (e := 23) (n := 2) (by kernel_rfl) (by kernel_rfl) g (0) (t + 1) cap .i64 t (by omega) (t * 2) (by omega) w1) ?_
          refine run_auto [] 1 [] [] [4, 42, 44] [0, 1, 2, 3, 4] (st' := ⟨[(4, .slice none 0 0), (42, iV (s : Int)), (44, .pointer (some ⟨g, t * 2 + 1, none⟩))], [(g, cO ((p.n.rs b s).flatMap spR ++ sp) 23), (b3, aO #[sV g (t + 1) cap] 38), (b2, aO #[iV (b : Int)] 3), (b1, aO #[.slice p.ba p.bs.length p.bc, iV p.near, iV p.last, .slice p.ta p.ts.length p.tc, .map (some bm)] 73), (bm, memO kvM (vvM p.n) Lm5)]⟩) (acc := []) (by kernel_rfl) (by kernel_rfl) trivial ?_
          refine run_store 0 g (t * 2 + 1) 3 (iV (s : Int)) ((p.n.rs b s).flatMap spR ++ sp) ((((p.n.rs b s).set t ((elS (p.n.rs b s) t).1, (s : Int)))).flatMap spR ++ sp) 23 (by kernel_rfl) (by kernel_rfl) (flat_storeF (c := spR) (n := 2) spR_len (by kernel_rfl) (v := iV (s : Int)) rfl rfl (L := p.n.rs b s) (sp := sp) (i := t) (k := 1) (x := ((elS (p.n.rs b s) t).1, (s : Int))) (by omega) (by omega) (by rw [elS_is (by omega)]; rfl) (by omega)) ?_
          refine run_auto [] 3 [] [] [] [0, 1, 2, 3, 4] (st' := ⟨[], [(g, cO ((((p.n.rs b s).set t ((elS (p.n.rs b s) t).1, (s : Int)))).flatMap spR ++ sp) 23), (b3, aO #[sV g (t + 1) cap] 38), (b2, aO #[iV (b : Int)] 3), (b1, aO #[.slice p.ba p.bs.length p.bc, iV p.near, iV p.last, .slice p.ta p.ts.length p.tc, .map (some bm)] 73), (bm, memO kvM (vvM p.n) Lm5)]⟩) (acc := []) (by kernel_rfl) (by kernel_rfl) trivial ?_
          have hst := rs_set hd1 hkl hp2
          exact run_nil rfl (fun a_ w1 g_ => hnext (s + 1, Lm5, some (g, t + 1, cap, sp)) _ ⟨by rw [List.length_append, ← hI.1]; rfl, ⟨by dsimp only; rw [hst, List.length_set]; exact hkl, Nat.succ_pos _, hkc, hkm, by dsimp only; rw [hst]; exact set_len hkn⟩⟩ (fun b h => h.elim) a_ w1 (by dsimp only; rw [hst]; exact g_))
  · skip
    obtain rfl : ys = rgL (N + 1) upG := hys
    obtain ⟨s, Ls, _ | ⟨g, k, cap, sp⟩⟩ := s
    · skip
      dsimp only at hI ⊢
      have hs : s = N + 1 := by rw [hI.1, rgL_len]
      have hI2 := hI.2
      clear hI
      subst hs
      refine run_auto [] 6 [] [0] [4] [3] (st' := ⟨[(4, .slice none 0 0)], [(bm, memO kvM (vvM p.n) Ls)]⟩) (acc := [(pA b3, pA b3)]) (by kernel_rfl) (by kernel_rfl) ⟨rfl, trivial⟩ ?_
      refine run_end (fn := f48) rfl (Nat.le_refl _) (by kernel_rfl) [] [.slice none 0 0] (e := []) (by kernel_rfl) trivial (fun w1 k1 h1 => ?_)
      exact .inl ⟨by rw [List.eq_nil_of_length_eq_zero hI2]; rfl, rfl, k1⟩
    · skip
      dsimp only at hI ⊢
      have hs : s = N + 1 := by rw [hI.1, rgL_len]
      have hI2 := hI.2
      clear hI
      subst hs
      obtain ⟨hkl, hk1, hkc, hkm, hkn⟩ := hI2
      refine run_auto [] 6 [] [1] [4] [0, 4] (st' := ⟨[(4, sV g k cap)], [(g, cO ((p.n.rs b (N + 1)).flatMap spR ++ sp) 23), (bm, memO kvM (vvM p.n) Ls)]⟩) (acc := [(pA b3, pA b3)]) (by kernel_rfl) (by kernel_rfl) ⟨rfl, trivial⟩ ?_
      refine run_ge 0 1 g bm (o := cO ((p.n.rs b (N + 1)).flatMap spR ++ sp) 23) (o0 := memO kvM (vvM p.n) Ls) (by kernel_rfl) (by kernel_rfl) (by omega) (fun _ h => h) (fun hge5 => ?_)
      refine run_end (fn := f48) rfl (Nat.le_refl _) (by kernel_rfl) [] [sV g k cap] (e := []) (by kernel_rfl) trivial (fun w1 k1 h1 => ?_)
      subst hkl
      exact .inr ⟨by cases hL2 : p.n.rs b (N + 1) with | nil => rw [hL2] at hk1; simp at hk1 | cons a l => rfl, (g, cap, sp), hkc, rfl, k1, fun q hq => by rw [List.mem_singleton] at hq; subst hq; exact ⟨h1 (g, _) (List.mem_of_getElem? (i := 0) rfl), hge5⟩, List.pairwise_singleton _ _⟩
  · skip
    exact hI.elim

end Go.Proofs.Ytfjfkaaflghaiaa
