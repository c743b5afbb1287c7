/-
  PAIR: Least.
  PAIR: sets of blocks.
  PAIR: the longest blocks.
  PAIR: Longest.
-/
import Derived.Test.YthnhcacoegmdfaaGf
import Derived.Test.YthnhcacoegmdfaaGb
import Derived.Test.YthnhcacoegmdfaaGc
namespace Go.Proofs.Ythnhcacoegmdfaa
open Go.RowKit Go.Proofs.Try


/-- What work gives: two blocks and a number, or a panic. -/
def W3 (r : Sum Int ((Nat × Nat) × Int)) (w : World) (e : Ending) (w' : World) : Prop := match r with
  | .inl k => Pan k w e w'
  | .inr x => Ret (.agg #[.int .i64 (x.1.1 : Int), .int .i64 (x.1.2 : Int), .int .i64 x.2]) w e w'
def faA (r : Sum Int ((Nat × Nat) × Int)) : (Nat × Nat) × Int := match r with
  | .inl _ => ((0, 0), 0)
  | .inr x => x
theorem answer_far (K : Nat) (caps : Array Value) (w : World) (r : Sum Int ((Nat × Nat) × Int)) (hcf : ∀ w, (callFunc K caps).run Try.prog w = .ok (.enter K caps) w) (h : ∀ w1, Keeps w w1 → Calls Try.prog K caps w1 (W3 r w1)) : Calls Try.prog 66 #[.func (.func K) #[] caps] w (Ret (.tuple #[.agg #[.int .i64 ((faA r).1.1 : Int), .int .i64 ((faA r).1.2 : Int), .int .i64 (faA r).2], .int .i64 (erA r)]) w) := by
  have h1 := h _ (((Keeps.refl w).alloc (.cells #[.int .i64 0, .int .i64 0, .int .i64 0] 115)).alloc (.cells #[.int .i64 0] 24))
  cases r with
  | inl k => exact answer_pan_farthest K caps w k hcf h1
  | inr x => exact answer_ok_farthest K caps w x.1.1 x.1.2 x.2 hcf h1
def leastR (p : Pr) : Sum Int ((Nat × Nat) × Int) := bif p.ok then bif p.n.known.isEmpty then .inl 10 else bif decide ((p.bs.length : Int) < 2) then .inl 4 else .inr p.n.farA else .inl 1
set_option maxRecDepth 100000 in
theorem least1_any (p : Pr) (bp : Nat) (w : World) (hp : p.In w) (hbp : w.heap[bp]? = some (.cells #[.slice p.ba p.bs.length p.bc, .int .i64 p.zlo, .int .i64 p.zhi, .int .i64 p.rlo, .int .i64 p.rhi, .slice p.ra p.rs.length p.rc] 30 (0, 0))) : Calls Try.prog 67 #[.pointer (some ⟨bp, 0, none⟩)] w (W3 (leastR p) w) := by
  refine calls_run (fn := f67) (c := (f67.body).getD .skip) [.pointer (some ⟨bp, 0, none⟩)] func67 (by kernel_rfl) (fun _ => False) [] (fun _ h => by cases h) (List.Pairwise.nil) 17 (by kernel_rfl) (by simp) ?_
  refine run_auto [] 2 [] [] [0] [] (st' := ⟨[(0, pA bp)], []⟩) (acc := []) (by kernel_rfl) (by kernel_rfl) trivial ?_
  refine run_new (aO #[iV 0, iV 0, iV 0] 115) (fun b1 => pA b1) (some 1) (fun _ => by kernel_rfl) (fun b1 hb1 => ?_)
  refine run_auto [] 3 [] [] [0, 1] [0] (st' := ⟨[(0, pA bp), (1, pA b1)], [(b1, aO #[iV 0, iV 0, iV 0] 115)]⟩) (acc := []) (by kernel_rfl) (by kernel_rfl) trivial ?_
  refine run_v (Instr.loadAt 30 (pA bp) >>= fun v => pure (Next.value v)) (some 3) (.agg #[.slice p.ba p.bs.length p.bc, iV p.zlo, iV p.zhi, iV p.rlo, iV p.rhi, .slice p.ra p.rs.length p.rc]) (by kernel_rfl) (fun w1 k1 h1 => load_in (base := 0) (off := 0) k1 (fun h => h) [.slice p.ba p.bs.length p.bc, iV p.zlo, iV p.zhi, iV p.rlo, iV p.rhi, .slice p.ra p.rs.length p.rc] (fun i u hi => by rw [Nat.zero_add]; exact cells_of_heap hbp i u hi) (by kernel_rfl)) ?_
  cases hd1 : p.ok with
  | false =>
    exact run_panics rfl (Nat.le_refl _) 36 #[.agg #[.slice p.ba p.bs.length p.bc, iV p.zlo, iV p.zhi, iV p.rlo, iV p.rhi, .slice p.ra p.rs.length p.rc]] (some 4) (pe 1) (by kernel_rfl) (fun w1 k1 h1 => (by have h := needPair_any p w1 (hp.keep (k1.keeps (fun _ h => h))); rw [hd1] at h; exact h)) (fun w1 k1 h1 => (by unfold leastR; rw [hd1]; exact ⟨rfl, k1.keeps (fun _ h => h)⟩))
  | true =>
    have hF := Pr.fine hd1
    have hb5 := hF.b5
    refine run_ret1 36 #[.agg #[.slice p.ba p.bs.length p.bc, iV p.zlo, iV p.zhi, iV p.rlo, iV p.rhi, .slice p.ra p.rs.length p.rc]] (some 4) (.tuple #[]) (by kernel_rfl) (fun w1 k1 h1 => (by have h := needPair_any p w1 (hp.keep (k1.keeps (fun _ h => h))); rw [hd1] at h; exact h)) ?_
    refine run_auto [] 3 [] [] [0, 1] [0] (st' := ⟨[(0, pA bp), (1, pA b1)], [(b1, aO #[iV 0, iV 0, iV 0] 115)]⟩) (acc := []) (by kernel_rfl) (by kernel_rfl) trivial ?_
    refine run_v (Instr.loadAt 30 (pA bp) >>= fun v => pure (Next.value v)) (some 5) (.agg #[.slice p.ba p.bs.length p.bc, iV p.zlo, iV p.zhi, iV p.rlo, iV p.rhi, .slice p.ra p.rs.length p.rc]) (by kernel_rfl) (fun w1 k1 h1 => load_in (base := 0) (off := 0) k1 (fun h => h) [.slice p.ba p.bs.length p.bc, iV p.zlo, iV p.zhi, iV p.rlo, iV p.rhi, .slice p.ra p.rs.length p.rc] (fun i u hi => by rw [Nat.zero_add]; exact cells_of_heap hbp i u hi) (by kernel_rfl)) ?_
    cases hd2 : p.n.known.isEmpty with
    | false =>
      have hne : p.n.known ≠ [] := fun h0 => by rw [h0] at hd2; cases hd2
      refine run_nw 40 #[.agg #[.slice p.ba p.bs.length p.bc, iV p.zlo, iV p.zhi, iV p.rlo, iV p.rhi, .slice p.ra p.rs.length p.rc]] (some 6) (α := Unit) (fun _u b2 => .map (some b2)) (fun _u => .map (entF p.n.known) p.n.known.length) (fun _u => True) (by kernel_rfl) (fun _ => rfl) (fun w1 k1 h1 => truths_yes (hp.keep (k1.keeps (fun _ h => h))) hF hd2) (fun _u b2 hIb2 hb2 => ?_)
      refine run_auto [] 6 [] [] [0, 1, 2, 7] [0, 1] (st' := ⟨[(0, pA bp), (1, pA b1), (2, .map (some b2)), (7, pA bp)], [(b2, .map (entF p.n.known) p.n.known.length), (b1, aO #[iV 0, iV 0, iV 0] 115)]⟩) (acc := []) (by kernel_rfl) (by kernel_rfl) trivial ?_
      refine run_v (Instr.loadAt 27 (pA bp) >>= fun v => pure (Next.value v)) (some 8) (.slice p.ba p.bs.length p.bc) (by kernel_rfl) (fun w1 k1 h1 => load_in (base := 0) (off := 0) k1 (fun h => h) [.slice p.ba p.bs.length p.bc, iV p.zlo, iV p.zhi, iV p.rlo, iV p.rhi, .slice p.ra p.rs.length p.rc] (fun i u hi => by rw [Nat.zero_add]; exact cells_of_heap hbp i u hi) (by kernel_rfl)) ?_
      cases hd3 : (decide ((p.bs.length : Int) < 2)) with
      | false =>
        have hp3 := of_decide_eq_false hd3
        refine run_auto [(10, .bool false)] 8 [false] [] [1, 2, 12] [0, 1] (st' := ⟨[(1, pA b1), (2, .map (some b2)), (12, pA bp)], [(b2, .map (entF p.n.known) p.n.known.length), (b1, aO #[iV 0, iV 0, iV 0] 115)]⟩) (acc := [(.bool false, .bool false), (.bool (decide ((p.bs.length : Int) < 2)), .bool false)]) (by kernel_rfl) (by kernel_rfl) ⟨rfl, (bo hd3), trivial⟩ ?_
        refine run_v (Instr.loadAt 27 (pA bp) >>= fun v => pure (Next.value v)) (some 13) (.slice p.ba p.bs.length p.bc) (by kernel_rfl) (fun w1 k1 h1 => load_in (base := 0) (off := 0) k1 (fun h => h) [.slice p.ba p.bs.length p.bc, iV p.zlo, iV p.zhi, iV p.rlo, iV p.rhi, .slice p.ra p.rs.length p.rc] (fun i u hi => by rw [Nat.zero_add]; exact cells_of_heap hbp i u hi) (by kernel_rfl)) ?_
        refine run_auto [] 2 [] [] [1, 14, 15] [0, 1] (st' := ⟨[(1, pA b1), (14, iV (p.bs.length : Int)), (15, .map (some b2))], [(b2, .map (entF p.n.known) p.n.known.length), (b1, aO #[iV 0, iV 0, iV 0] 115)]⟩) (acc := []) (by kernel_rfl) (by kernel_rfl) trivial ?_
        refine run_ret1 68 #[iV (p.bs.length : Int), .map (some b2)] (some 16) (.agg #[iV (p.n.farA.1.1 : Int), iV (p.n.farA.1.2 : Int), iV p.n.farA.2]) (by kernel_rfl) (fun w1 k1 h1 => farthestOf_any p b2 w1 hF hne (h1 (b2, .map (entF p.n.known) p.n.known.length) (List.mem_of_getElem? (i := 0) (by kernel_rfl)))) ?_
        refine run_auto [] 2 [] [1] [1] [1] (st' := ⟨[(1, pA b1)], [(b1, aO #[iV (p.n.farA.1.1 : Int), iV (p.n.farA.1.2 : Int), iV p.n.farA.2] 115)]⟩) (acc := [(pA b1, pA b1)]) (by kernel_rfl) (by kernel_rfl) ⟨rfl, trivial⟩ ?_
        refine run_end (fn := f67) rfl (Nat.le_refl _) (by kernel_rfl) [0] [.agg #[iV (p.n.farA.1.1 : Int), iV (p.n.farA.1.2 : Int), iV p.n.farA.2]] (e := [(pA b1, pA b1)]) (by kernel_rfl) ⟨rfl, trivial⟩ (fun w1 k1 h1 => ?_)
        unfold leastR
        rw [hd1, hd2, hd3]
        exact ⟨rfl, k1.keeps (fun _ h => h)⟩
      | true =>
        have hp3 := of_decide_eq_true hd3
        refine run_auto [(10, .bool true)] 6 [true] [] [0, 1, 2, 11] [0, 1] (st' := ⟨[(0, pA bp), (1, pA b1), (2, .map (some b2)), (11, .iface 24 (iV 4))], [(b2, .map (entF p.n.known) p.n.known.length), (b1, aO #[iV 0, iV 0, iV 0] 115)]⟩) (acc := [(.bool true, .bool true), (.bool (decide ((p.bs.length : Int) < 2)), .bool true)]) (by kernel_rfl) (by kernel_rfl) ⟨rfl, (bo hd3), trivial⟩ ?_
        exact run_panic rfl (Nat.le_refl _) (Instr.panic (.iface 24 (iV 4)) >>= fun v => pure (Next.value v)) none (.iface 24 (iV 4)) (by kernel_rfl) (fun w => by kernel_rfl) (fun w1 k1 h1 => (by unfold leastR; rw [hd1, hd2, hd3]; exact ⟨rfl, k1.keeps (fun _ h => h)⟩))
    | true =>
      exact run_panics rfl (Nat.le_refl _) 40 #[.agg #[.slice p.ba p.bs.length p.bc, iV p.zlo, iV p.zhi, iV p.rlo, iV p.rhi, .slice p.ra p.rs.length p.rc]] (some 6) (pe 10) (by kernel_rfl) (fun w1 k1 h1 => truths_no (hp.keep (k1.keeps (fun _ h => h))) hF hd2) (fun w1 k1 h1 => (by unfold leastR; rw [hd1, hd2]; exact ⟨rfl, k1.keeps (fun _ h => h)⟩))

set_option maxRecDepth 100000 in
theorem Least_any (p : Pr) (w : World) (hp : p.In w) : Calls Try.prog 29 #[.agg #[.slice p.ba p.bs.length p.bc, .int .i64 p.zlo, .int .i64 p.zhi, .int .i64 p.rlo, .int .i64 p.rhi, .slice p.ra p.rs.length p.rc]] w (Ret (.tuple #[.int .i64 ((faA (leastR p)).1.1 : Int), .int .i64 ((faA (leastR p)).1.2 : Int), .int .i64 (faA (leastR p)).2, .int .i64 (erA (leastR p))]) w) := by
  refine calls_run (fn := f29) (c := (f29.body).getD .skip) [.agg #[.slice p.ba p.bs.length p.bc, .int .i64 p.zlo, .int .i64 p.zhi, .int .i64 p.rlo, .int .i64 p.rhi, .slice p.ra p.rs.length p.rc]] func29 (by kernel_rfl) (fun _ => False) [] (fun _ h => by cases h) (List.Pairwise.nil) 21 (by kernel_rfl) (by simp) ?_
  refine run_auto [] 2 [] [] [0] [] (st' := ⟨[(0, .agg #[.slice p.ba p.bs.length p.bc, iV p.zlo, iV p.zhi, iV p.rlo, iV p.rhi, .slice p.ra p.rs.length p.rc])], []⟩) (acc := []) (by kernel_rfl) (by kernel_rfl) trivial ?_
  refine run_new (aO #[.slice p.ba p.bs.length p.bc, iV p.zlo, iV p.zhi, iV p.rlo, iV p.rhi, .slice p.ra p.rs.length p.rc] 30) (fun b1 => pA b1) (some 1) (fun _ => by kernel_rfl) (fun b1 hb1 => ?_)
  refine run_auto [] 8 [] [] [2, 3, 4, 5, 8] [0] (st' := ⟨[(2, iV 0), (3, iV 0), (4, iV 0), (5, iV 0), (8, .func (.func 67) #[] #[pA b1])], [(b1, aO #[.slice p.ba p.bs.length p.bc, iV p.zlo, iV p.zhi, iV p.rlo, iV p.rhi, .slice p.ra p.rs.length p.rc] 30)]⟩) (acc := []) (by kernel_rfl) (by kernel_rfl) trivial ?_
  refine run_ret1 66 #[.func (.func 67) #[] #[pA b1]] (some 9) (.tuple #[.agg #[iV ((faA (leastR p)).1.1 : Int), iV ((faA (leastR p)).1.2 : Int), iV ((faA (leastR p)).2)], iV (erA (leastR p))]) (by kernel_rfl) (fun w1 k1 h1 => answer_far 67 #[pA b1] w1 (leastR p) (fun _ => by kernel_rfl) (fun w2 kk => least1_any p b1 w2 ((hp.keep (k1.keeps (fun _ h => h))).keep kk) ((kk.heap (Array.getElem?_eq_some_iff.1 (h1 (b1, aO #[.slice p.ba p.bs.length p.bc, iV p.zlo, iV p.zhi, iV p.rlo, iV p.rhi, .slice p.ra p.rs.length p.rc] 30) (List.mem_of_getElem? (i := 0) (by kernel_rfl)))).1).trans (h1 (b1, aO #[.slice p.ba p.bs.length p.bc, iV p.zlo, iV p.zhi, iV p.rlo, iV p.rhi, .slice p.ra p.rs.length p.rc] 30) (List.mem_of_getElem? (i := 0) (by kernel_rfl)))))) ?_
  refine run_auto [] 3 [] [] [2, 3, 4, 5, 10, 11] [] (st' := ⟨[(2, iV 0), (3, iV 0), (4, iV 0), (5, iV 0), (10, .agg #[iV ((faA (leastR p)).1.1 : Int), iV ((faA (leastR p)).1.2 : Int), iV ((faA (leastR p)).2)]), (11, iV (erA (leastR p)))], []⟩) (acc := []) (by kernel_rfl) (by kernel_rfl) trivial ?_
  refine run_new (aO #[iV 0, iV 0, iV 0] 115) (fun b2 => pA b2) (some 6) (fun _ => by kernel_rfl) (fun b2 hb2 => ?_)
  refine run_auto [] 4 [] [0] [2, 3, 4, 5, 6] [0] (st' := ⟨[(2, iV 0), (3, iV 0), (4, iV 0), (5, iV (erA (leastR p))), (6, pA b2)], [(b2, aO #[iV ((faA (leastR p)).1.1 : Int), iV ((faA (leastR p)).1.2 : Int), iV ((faA (leastR p)).2)] 115)]⟩) (acc := [(pA b2, pA b2)]) (by kernel_rfl) (by kernel_rfl) ⟨rfl, trivial⟩ ?_
  refine draw 13 [{ val := fun _ => pA b2, slots := [6] },
      { val := fun _ => pA b2, slots := [12] },
      { val := fun _ => iV ((faA (leastR p)).1.1 : Int), slots := [13], reads := [0] },
      { val := fun _ => pA b2, slots := [6] },
      { val := fun _ => .pointer (some ⟨b2, 1, none⟩), slots := [15] },
      { val := fun _ => iV ((faA (leastR p)).1.2 : Int), slots := [16], reads := [0] },
      { val := fun _ => .pointer (some ⟨b2, 2, none⟩), slots := [6] },
      { val := fun _ => iV ((faA (leastR p)).2), slots := [18], reads := [0] },
      { val := fun _ => iV (erA (leastR p)), slots := [5] },
      { val := fun _ => iV ((faA (leastR p)).1.1 : Int), slots := [14] },
      { val := fun _ => iV ((faA (leastR p)).1.2 : Int), slots := [17] },
      { val := fun _ => iV ((faA (leastR p)).2), slots := [19] },
      { val := fun _ => iV (erA (leastR p)), slots := [20] }] [[], [0], [0, 1], [], [3], [3, 4], [], [6], [], [0, 1, 2], [0, 1, 2, 3, 4, 5, 9], [0, 1, 2, 3, 4, 5, 6, 7, 9, 10], [0, 1, 2, 3, 4, 5, 6, 7, 8, 9, 10, 11]] (by kernel_rfl) (by kernel_rfl) (by kernel_rfl) (by kernel_rfl) [2, 3, 4, 5] [] (by kernel_rfl)
      ⟨⟨⟨⟨⟨⟨⟨⟨⟨⟨⟨⟨⟨trivial,
      tri_quiet (fun β => []) [] [] (fun β => []) (by kernel_rfl) (fun β extra => by kernel_rfl) (by kernel_rfl) (fun β => trivial)⟩,
      tri_quiet (fun β => []) [] [] (fun β => []) (by kernel_rfl) (fun β extra => by kernel_rfl) (by kernel_rfl) (fun β => trivial)⟩,
      tri_quiet (fun β => []) [0] [0] (fun β => [(pA b2, pA b2)]) (by kernel_rfl) (fun β extra => by kernel_rfl) (by kernel_rfl) (fun β => ⟨rfl, trivial⟩)⟩,
      tri_quiet (fun β => []) [] [] (fun β => []) (by kernel_rfl) (fun β extra => by kernel_rfl) (by kernel_rfl) (fun β => trivial)⟩,
      tri_quiet (fun β => []) [] [] (fun β => []) (by kernel_rfl) (fun β extra => by kernel_rfl) (by kernel_rfl) (fun β => trivial)⟩,
      tri_quiet (fun β => []) [0] [0] (fun β => [(pA b2, pA b2)]) (by kernel_rfl) (fun β extra => by kernel_rfl) (by kernel_rfl) (fun β => ⟨rfl, trivial⟩)⟩,
      tri_quiet (fun β => []) [] [] (fun β => []) (by kernel_rfl) (fun β extra => by kernel_rfl) (by kernel_rfl) (fun β => trivial)⟩,
      tri_quiet (fun β => []) [0] [0] (fun β => [(pA b2, pA b2)]) (by kernel_rfl) (fun β extra => by kernel_rfl) (by kernel_rfl) (fun β => ⟨rfl, trivial⟩)⟩,
      tri_quiet (fun β => []) [] [] (fun β => []) (by kernel_rfl) (fun β extra => by kernel_rfl) (by kernel_rfl) (fun β => trivial)⟩,
      tri_quiet (fun β => []) [] [] (fun β => []) (by kernel_rfl) (fun β extra => by kernel_rfl) (by kernel_rfl) (fun β => trivial)⟩,
      tri_quiet (fun β => []) [] [] (fun β => []) (by kernel_rfl) (fun β extra => by kernel_rfl) (by kernel_rfl) (fun β => trivial)⟩,
      tri_quiet (fun β => []) [] [] (fun β => []) (by kernel_rfl) (fun β extra => by kernel_rfl) (by kernel_rfl) (fun β => trivial)⟩,
      tri_quiet (fun β => []) [] [] (fun β => []) (by kernel_rfl) (fun β extra => by kernel_rfl) (by kernel_rfl) (fun β => trivial)⟩
      (fun β => ⟨[(2, iV ((faA (leastR p)).1.1 : Int)), (3, iV ((faA (leastR p)).1.2 : Int)), (4, iV ((faA (leastR p)).2)), (5, iV (erA (leastR p)))], []⟩) (fun β => by kernel_rfl) (fun β3 => ?_)
  refine run_end (fn := f29) rfl (Nat.le_refl _) (by kernel_rfl) [] [iV ((faA (leastR p)).1.1 : Int), iV ((faA (leastR p)).1.2 : Int), iV ((faA (leastR p)).2), iV (erA (leastR p))] (e := []) (by kernel_rfl) trivial (fun w1 k1 h1 => ?_)
  exact ⟨rfl, k1.keeps (fun _ h => h)⟩

end Go.Proofs.Ythnhcacoegmdfaa

namespace Go.Proofs.Ythnhcacoegmdfaa
open Go.RowKit Go.Proofs.Try


theorem pow_le5 {n : Nat} (h : n ≤ 8) : 2 ^ n ≤ 256 := (Nat.pow_le_pow_right (by omega) h : 2 ^ n ≤ 2 ^ 8)
theorem shl_le {k : Nat} (h : k ≤ 8) : 1 <<< k ≤ 256 := by
  rw [Nat.one_shiftLeft]
  exact pow_le5 h
theorem those_next (so : Nat → Bool) (k : Nat) : thoseL (k + 1) so = if so k then thoseL k so ||| 1 <<< k else thoseL k so := by
  unfold thoseL
  rw [List.range_succ, List.foldl_append]
  rfl
theorem those_lt {n : Nat} (h : n ≤ 8) (so : Nat → Bool) : thoseL n so < 256 := by
  refine Nat.lt_of_lt_of_le (Nat.lt_pow_two_of_testBit _ fun i hi => ?_) (pow_le5 h)
  rw [thoseL_bit]
  simp
  omega
set_option maxRecDepth 100000 in
theorem fullSet_any (n : Nat) (h : n ≤ 8) (w : World)  : Calls Try.prog 90 #[.int .i64 (n : Int)] w (RetI ((2 ^ n - 1 : Nat) : Int) w) := by
  have h0 := pow_le5 h
  have h0i : (0 : Int) ≤ (2 : Int) ^ n ∧ (2 : Int) ^ n ≤ 256 := ⟨Int.pow_nonneg (by omega), by exact_mod_cast h0⟩
  have h0k : (0 : Int) ≤ ((2 : Nat) : Int) ^ n ∧ ((2 : Nat) : Int) ^ n ≤ 256 := h0i
  refine calls_run (fn := f90) (c := (f90.body).getD .skip) [.int .i64 (n : Int)] func90 (by kernel_rfl) (fun _ => False) [] (fun _ h => by cases h) (List.Pairwise.nil) 6 (by kernel_rfl) (by simp) ?_
  refine run_auto [] 7 [] [] [2, 3] [] (st' := ⟨[(2, iV 0), (3, iV (n : Int))], []⟩) (acc := []) (by kernel_rfl) (by kernel_rfl) trivial ?_
  refine run_v (binOp .shl 98 (iV (1 : Nat)) (iV (n : Nat)) >>= fun v => pure (Next.value v)) (some 4) (iV ((1 <<< n : Nat) : Int)) (by kernel_rfl) (fun w1 k1 h1 => shl_run 1 n (by omega) (by have := shl_le (k := n) (by omega); omega)) ?_
  refine run_auto [(5, iV (((1 <<< n : Nat) : Int) - 1))] 3 [] [] [2] [] (st' := ⟨[(2, iV (((1 <<< n : Nat) : Int) - 1))], []⟩) (acc := [(iV (IntKind.i64.wrap (((1 <<< n : Nat) : Int) - 1)), iV (((1 <<< n : Nat) : Int) - 1))]) (by kernel_rfl) (by kernel_rfl) ⟨(wr (by omega) (by omega)), trivial⟩ ?_
  refine run_end (fn := f90) rfl (Nat.le_refl _) (by kernel_rfl) [] [iV (((1 <<< n : Nat) : Int) - 1)] (e := []) (by kernel_rfl) trivial (fun w1 k1 h1 => ?_)
  have h1 := Nat.one_shiftLeft n
  have h2 := Nat.one_le_two_pow (n := n)
  exact ⟨by rw [show (((1 <<< n : Nat) : Int) - 1) = ((2 ^ n - 1 : Nat) : Int) by omega]; rfl, k1.keeps (fun _ h => h)⟩

set_option maxRecDepth 100000 in
theorem those_surelyLongest (g : Gp) (n : Nat) (h : n ≤ 5) (w : World)  : Calls Try.prog 93 #[.int .i64 (n : Int), .func (.func 94) #[.agg (gc g).toArray] #[]] w (RetI ((thoseL n (fun k => ((List.range 5).all fun o => decide (g o k ≤ 0))) : Nat) : Int) w) := by
  refine calls_run (fn := f93) (c := (f93.body).getD .skip) [.int .i64 (n : Int), .func (.func 94) #[.agg (gc g).toArray] #[]] func93 (by kernel_rfl) (fun _ => False) [] (fun _ h => by cases h) (List.Pairwise.nil) 20 (by kernel_rfl) (by simp) ?_
  refine run_auto [] 15 [] [] [1, 4, 5, 7, 8] [] (st' := ⟨[(1, .func (.func 94) #[.agg (gc g).toArray] #[]), (4, iV 0), (5, iV 0), (7, iV (n : Int)), (8, iV 0)], []⟩) (acc := []) (by kernel_rfl) (by kernel_rfl) trivial ?_
  refine run_auto [] 0 [] [] [1, 4, 5, 7, 8] [] (st' := ⟨[(1, .func (.func 94) #[.agg (gc g).toArray] #[]), (4, iV 0), (5, iV 0), (7, iV (n : Int)), (8, iV 0)], []⟩) (acc := []) (by kernel_rfl) (by kernel_rfl) trivial ?_
  refine run_loop (S := fun (k : Nat) => ⟨[(1, .func (.func 94) #[.agg (gc g).toArray] #[]), (4, iV 0), (5, iV ((thoseL k (fun k => ((List.range 5).all fun o => decide (g o k ≤ 0))) : Nat) : Int)), (7, iV (n : Int)), (8, iV (k : Int))], []⟩) (fun k => k ≤ n) (fun k => n - k) (0) (by kernel_rfl) (Nat.zero_le _) (by kernel_rfl) (fun k hI0 J0 hJ0 => ?_)
  cases hd1 : (decide ((k : Int) < (n : Int))) with
  | false =>
    have hp1 := of_decide_eq_false hd1
    refine run_auto [(9, .bool false)] 12 [false] [] [4] [] (st' := ⟨[(4, iV ((thoseL k (fun k => ((List.range 5).all fun o => decide (g o k ≤ 0))) : Nat) : Int))], []⟩) (acc := [(.bool false, .bool false), (.bool (decide ((k : Int) < (n : Int))), .bool false)]) (by kernel_rfl) (by kernel_rfl) ⟨rfl, (bo hd1), trivial⟩ ?_
    refine run_end (fn := f93) rfl (Nat.le_refl _) (by kernel_rfl) [] [iV ((thoseL k (fun k => ((List.range 5).all fun o => decide (g o k ≤ 0))) : Nat) : Int)] (e := []) (by kernel_rfl) trivial (fun w1 k1 h1 => ?_)
    exact ⟨by rw [show k = n by omega]; rfl, k1.keeps (fun _ h => h)⟩
  | true =>
    have hp1 := of_decide_eq_true hd1
    refine run_auto [(9, .bool true)] 18 [true] [] [1, 4, 5, 7, 8, 6, 11, 12] [] (st' := ⟨[(1, .func (.func 94) #[.agg (gc g).toArray] #[]), (4, iV 0), (5, iV ((thoseL k (fun k => ((List.range 5).all fun o => decide (g o k ≤ 0))) : Nat) : Int)), (7, iV (n : Int)), (8, iV (k : Int)), (6, iV (k : Int)), (11, .func (.func 94) #[.agg (gc g).toArray] #[]), (12, iV (k : Int))], []⟩) (acc := [(.bool true, .bool true), (.bool (decide ((k : Int) < (n : Int))), .bool true)]) (by kernel_rfl) (by kernel_rfl) ⟨rfl, (bo hd1), trivial⟩ ?_
    cases hd2 : ((List.range 5).all fun o => decide (g o k ≤ 0)) with
    | false =>
      refine run_ret1 94 #[.agg (gc g).toArray, iV (k : Int)] (some 13) (.bool false) (by kernel_rfl) (fun w1 k1 h1 => (by have h := surelyLongest_any g k (by omega) w1; rw [hd2] at h; exact h)) ?_
      refine run_auto [(18, iV ((k + 1 : Nat) : Int))] 8 [false] [] [1, 4, 5, 7, 8] [] (st' := ⟨[(1, .func (.func 94) #[.agg (gc g).toArray] #[]), (4, iV 0), (5, iV ((thoseL k (fun k => ((List.range 5).all fun o => decide (g o k ≤ 0))) : Nat) : Int)), (7, iV (n : Int)), (8, iV ((k + 1 : Nat) : Int))], []⟩) (acc := [(iV (IntKind.i64.wrap ((k : Int) + 1)), iV ((k + 1 : Nat) : Int)), (.bool false, .bool false)]) (by kernel_rfl) (by kernel_rfl) ⟨(wr (by omega) (by omega)), rfl, trivial⟩ ?_
      have hj := hJ0 (k + 1) (by omega) (by omega)
      rw [(those_next (fun k => ((List.range 5).all fun o => decide (g o k ≤ 0))) k).trans (if_neg (by rw [hd2]; simp))] at hj
      exact run_round (by kernel_rfl) hj
    | true =>
      refine run_ret1 94 #[.agg (gc g).toArray, iV (k : Int)] (some 13) (.bool true) (by kernel_rfl) (fun w1 k1 h1 => (by have h := surelyLongest_any g k (by omega) w1; rw [hd2] at h; exact h)) ?_
      refine run_auto [] 5 [true] [] [1, 4, 5, 7, 8, 14, 15] [] (st' := ⟨[(1, .func (.func 94) #[.agg (gc g).toArray] #[]), (4, iV 0), (5, iV ((thoseL k (fun k => ((List.range 5).all fun o => decide (g o k ≤ 0))) : Nat) : Int)), (7, iV (n : Int)), (8, iV (k : Int)), (14, iV ((thoseL k (fun k => ((List.range 5).all fun o => decide (g o k ≤ 0))) : Nat) : Int)), (15, iV (k : Int))], []⟩) (acc := [(.bool true, .bool true)]) (by kernel_rfl) (by kernel_rfl) ⟨rfl, trivial⟩ ?_
      refine run_v (binOp .shl 98 (iV (1 : Nat)) (iV (k : Nat)) >>= fun v => pure (Next.value v)) (some 16) (iV ((1 <<< k : Nat) : Int)) (by kernel_rfl) (fun w1 k1 h1 => shl_run 1 k (by omega) (by have := shl_le (k := k) (by omega); omega)) ?_
      refine run_auto [(17, iV (((thoseL k (fun k => ((List.range 5).all fun o => decide (g o k ≤ 0))) : Nat) ||| (1 <<< k : Nat) : Nat) : Int)), (18, iV ((k + 1 : Nat) : Int))] 8 [] [] [1, 4, 5, 7, 8] [] (st' := ⟨[(1, .func (.func 94) #[.agg (gc g).toArray] #[]), (4, iV 0), (5, iV (((thoseL k (fun k => ((List.range 5).all fun o => decide (g o k ≤ 0))) : Nat) ||| (1 <<< k : Nat) : Nat) : Int)), (7, iV (n : Int)), (8, iV ((k + 1 : Nat) : Int))], []⟩) (acc := [(iV (IntKind.i64.wrap ((k : Int) + 1)), iV ((k + 1 : Nat) : Int)), (iV (bits .or .i64 ((thoseL k (fun k => ((List.range 5).all fun o => decide (g o k ≤ 0))) : Nat) : Int) ((1 <<< k : Nat) : Int)), iV (((thoseL k (fun k => ((List.range 5).all fun o => decide (g o k ≤ 0))) : Nat) ||| (1 <<< k : Nat) : Nat) : Int))]) (by kernel_rfl) (by kernel_rfl) ⟨(wr (by omega) (by omega)), (or_nat (thoseL k (fun k => ((List.range 5).all fun o => decide (g o k ≤ 0))) : Nat) (1 <<< k : Nat) (by have := those_lt (n := k) (by omega) (fun k => ((List.range 5).all fun o => decide (g o k ≤ 0))); omega) (by have := shl_le (k := k) (by omega); omega)), trivial⟩ ?_
      have hj := hJ0 (k + 1) (by omega) (by omega)
      rw [(those_next (fun k => ((List.range 5).all fun o => decide (g o k ≤ 0))) k).trans (if_pos (by rw [hd2]))] at hj
      exact run_round (by kernel_rfl) hj

set_option maxRecDepth 100000 in
theorem those_perhapsLongest (g : Gp) (n : Nat) (h : n ≤ 5) (w : World)  : Calls Try.prog 93 #[.int .i64 (n : Int), .func (.func 95) #[.agg (gc g).toArray] #[]] w (RetI ((thoseL n (fun k => ((List.range 5).all fun o => decide (0 ≤ g k o))) : Nat) : Int) w) := by
  refine calls_run (fn := f93) (c := (f93.body).getD .skip) [.int .i64 (n : Int), .func (.func 95) #[.agg (gc g).toArray] #[]] func93 (by kernel_rfl) (fun _ => False) [] (fun _ h => by cases h) (List.Pairwise.nil) 20 (by kernel_rfl) (by simp) ?_
  refine run_auto [] 15 [] [] [1, 4, 5, 7, 8] [] (st' := ⟨[(1, .func (.func 95) #[.agg (gc g).toArray] #[]), (4, iV 0), (5, iV 0), (7, iV (n : Int)), (8, iV 0)], []⟩) (acc := []) (by kernel_rfl) (by kernel_rfl) trivial ?_
  refine run_auto [] 0 [] [] [1, 4, 5, 7, 8] [] (st' := ⟨[(1, .func (.func 95) #[.agg (gc g).toArray] #[]), (4, iV 0), (5, iV 0), (7, iV (n : Int)), (8, iV 0)], []⟩) (acc := []) (by kernel_rfl) (by kernel_rfl) trivial ?_
  refine run_loop (S := fun (k : Nat) => ⟨[(1, .func (.func 95) #[.agg (gc g).toArray] #[]), (4, iV 0), (5, iV ((thoseL k (fun k => ((List.range 5).all fun o => decide (0 ≤ g k o))) : Nat) : Int)), (7, iV (n : Int)), (8, iV (k : Int))], []⟩) (fun k => k ≤ n) (fun k => n - k) (0) (by kernel_rfl) (Nat.zero_le _) (by kernel_rfl) (fun k hI0 J0 hJ0 => ?_)
  cases hd1 : (decide ((k : Int) < (n : Int))) with
  | false =>
    have hp1 := of_decide_eq_false hd1
    refine run_auto [(9, .bool false)] 12 [false] [] [4] [] (st' := ⟨[(4, iV ((thoseL k (fun k => ((List.range 5).all fun o => decide (0 ≤ g k o))) : Nat) : Int))], []⟩) (acc := [(.bool false, .bool false), (.bool (decide ((k : Int) < (n : Int))), .bool false)]) (by kernel_rfl) (by kernel_rfl) ⟨rfl, (bo hd1), trivial⟩ ?_
    refine run_end (fn := f93) rfl (Nat.le_refl _) (by kernel_rfl) [] [iV ((thoseL k (fun k => ((List.range 5).all fun o => decide (0 ≤ g k o))) : Nat) : Int)] (e := []) (by kernel_rfl) trivial (fun w1 k1 h1 => ?_)
    exact ⟨by rw [show k = n by omega]; rfl, k1.keeps (fun _ h => h)⟩
  | true =>
    have hp1 := of_decide_eq_true hd1
    refine run_auto [(9, .bool true)] 18 [true] [] [1, 4, 5, 7, 8, 6, 11, 12] [] (st' := ⟨[(1, .func (.func 95) #[.agg (gc g).toArray] #[]), (4, iV 0), (5, iV ((thoseL k (fun k => ((List.range 5).all fun o => decide (0 ≤ g k o))) : Nat) : Int)), (7, iV (n : Int)), (8, iV (k : Int)), (6, iV (k : Int)), (11, .func (.func 95) #[.agg (gc g).toArray] #[]), (12, iV (k : Int))], []⟩) (acc := [(.bool true, .bool true), (.bool (decide ((k : Int) < (n : Int))), .bool true)]) (by kernel_rfl) (by kernel_rfl) ⟨rfl, (bo hd1), trivial⟩ ?_
    cases hd2 : ((List.range 5).all fun o => decide (0 ≤ g k o)) with
    | false =>
      refine run_ret1 95 #[.agg (gc g).toArray, iV (k : Int)] (some 13) (.bool false) (by kernel_rfl) (fun w1 k1 h1 => (by have h := perhapsLongest_any g k (by omega) w1; rw [hd2] at h; exact h)) ?_
      refine run_auto [(18, iV ((k + 1 : Nat) : Int))] 8 [false] [] [1, 4, 5, 7, 8] [] (st' := ⟨[(1, .func (.func 95) #[.agg (gc g).toArray] #[]), (4, iV 0), (5, iV ((thoseL k (fun k => ((List.range 5).all fun o => decide (0 ≤ g k o))) : Nat) : Int)), (7, iV (n : Int)), (8, iV ((k + 1 : Nat) : Int))], []⟩) (acc := [(iV (IntKind.i64.wrap ((k : Int) + 1)), iV ((k + 1 : Nat) : Int)), (.bool false, .bool false)]) (by kernel_rfl) (by kernel_rfl) ⟨(wr (by omega) (by omega)), rfl, trivial⟩ ?_
      have hj := hJ0 (k + 1) (by omega) (by omega)
      rw [(those_next (fun k => ((List.range 5).all fun o => decide (0 ≤ g k o))) k).trans (if_neg (by rw [hd2]; simp))] at hj
      exact run_round (by kernel_rfl) hj
    | true =>
      refine run_ret1 95 #[.agg (gc g).toArray, iV (k : Int)] (some 13) (.bool true) (by kernel_rfl) (fun w1 k1 h1 => (by have h := perhapsLongest_any g k (by omega) w1; rw [hd2] at h; exact h)) ?_
      refine run_auto [] 5 [true] [] [1, 4, 5, 7, 8, 14, 15] [] (st' := ⟨[(1, .func (.func 95) #[.agg (gc g).toArray] #[]), (4, iV 0), (5, iV ((thoseL k (fun k => ((List.range 5).all fun o => decide (0 ≤ g k o))) : Nat) : Int)), (7, iV (n : Int)), (8, iV (k : Int)), (14, iV ((thoseL k (fun k => ((List.range 5).all fun o => decide (0 ≤ g k o))) : Nat) : Int)), (15, iV (k : Int))], []⟩) (acc := [(.bool true, .bool true)]) (by kernel_rfl) (by kernel_rfl) ⟨rfl, trivial⟩ ?_
      refine run_v (binOp .shl 98 (iV (1 : Nat)) (iV (k : Nat)) >>= fun v => pure (Next.value v)) (some 16) (iV ((1 <<< k : Nat) : Int)) (by kernel_rfl) (fun w1 k1 h1 => shl_run 1 k (by omega) (by have := shl_le (k := k) (by omega); omega)) ?_
      refine run_auto [(17, iV (((thoseL k (fun k => ((List.range 5).all fun o => decide (0 ≤ g k o))) : Nat) ||| (1 <<< k : Nat) : Nat) : Int)), (18, iV ((k + 1 : Nat) : Int))] 8 [] [] [1, 4, 5, 7, 8] [] (st' := ⟨[(1, .func (.func 95) #[.agg (gc g).toArray] #[]), (4, iV 0), (5, iV (((thoseL k (fun k => ((List.range 5).all fun o => decide (0 ≤ g k o))) : Nat) ||| (1 <<< k : Nat) : Nat) : Int)), (7, iV (n : Int)), (8, iV ((k + 1 : Nat) : Int))], []⟩) (acc := [(iV (IntKind.i64.wrap ((k : Int) + 1)), iV ((k + 1 : Nat) : Int)), (iV (bits .or .i64 ((thoseL k (fun k => ((List.range 5).all fun o => decide (0 ≤ g k o))) : Nat) : Int) ((1 <<< k : Nat) : Int)), iV (((thoseL k (fun k => ((List.range 5).all fun o => decide (0 ≤ g k o))) : Nat) ||| (1 <<< k : Nat) : Nat) : Int))]) (by kernel_rfl) (by kernel_rfl) ⟨(wr (by omega) (by omega)), (or_nat (thoseL k (fun k => ((List.range 5).all fun o => decide (0 ≤ g k o))) : Nat) (1 <<< k : Nat) (by have := those_lt (n := k) (by omega) (fun k => ((List.range 5).all fun o => decide (0 ≤ g k o))); omega) (by have := shl_le (k := k) (by omega); omega)), trivial⟩ ?_
      have hj := hJ0 (k + 1) (by omega) (by omega)
      rw [(those_next (fun k => ((List.range 5).all fun o => decide (0 ≤ g k o))) k).trans (if_pos (by rw [hd2]))] at hj
      exact run_round (by kernel_rfl) hj

end Go.Proofs.Ythnhcacoegmdfaa

namespace Go.Proofs.Ythnhcacoegmdfaa
open Go.RowKit Go.Proofs.Try


theorem entF_ok : ∀ (s p : List ((Int × Int) × Gp)) (es : Array MapEntry), es.size = p.length → (∀ e ∈ es.toList, ∃ k, p[e.born]? = some k ∧ e.key = .agg #[.int .i64 k.1.1, .int .i64 k.1.2] ∧ e.val = .agg (gc k.2).toArray) → ∀ e ∈ (s.foldl entK es).toList, ∃ k, (p ++ s)[e.born]? = some k ∧ e.key = .agg #[.int .i64 k.1.1, .int .i64 k.1.2] ∧ e.val = .agg (gc k.2).toArray
  | [], p, es, _, h, e, he => by rw [List.append_nil]; exact h e he
  | k :: s, p, es, hs, h, e, he => by
    have h2 := entF_ok s (p ++ [k]) (entK es k) (by simp [entK, hs]) (fun x hx => ?_) e he
    · rwa [List.append_assoc] at h2
    · unfold entK at hx
      rw [Array.toList_push, List.mem_append] at hx
      rcases hx with hx | hx
      · obtain ⟨q, h3, h4⟩ := h x hx
        exact ⟨q, by rw [List.getElem?_append_left (List.getElem?_eq_some_iff.1 h3).1]; exact h3, h4⟩
      · rw [List.mem_singleton] at hx
        subst hx
        exact ⟨k, by dsimp only; rw [hs]; simp, rfl, rfl⟩
theorem entF_at {s : List ((Int × Int) × Gp)} {e : MapEntry} (h : e ∈ (entF s).toList) : ∃ k, s[e.born]? = some k ∧ e.key = .agg #[.int .i64 k.1.1, .int .i64 k.1.2] ∧ e.val = .agg (gc k.2).toArray := by
  have := entF_ok s [] #[] rfl (fun e he => by simp at he) e h
  rwa [List.nil_append] at this
theorem entF_bi (s : List ((Int × Int) × Gp)) : ∀ i (h : i < (entF s).size), (entF s)[i].born = i := by
  have : ∀ (s : List ((Int × Int) × Gp)) (es : Array MapEntry), (∀ i (h : i < es.size), es[i].born = i) → ∀ i (h : i < (s.foldl entK es).size), (s.foldl entK es)[i].born = i := by
    intro s
    induction s with
    | nil => exact fun es h => h
    | cons k s ih =>
      intro es h
      refine ih (entK es k) fun i hi => ?_
      unfold entK at hi ⊢
      rw [Array.getElem_push]
      split
      · exact h _ _
      · have : i = es.size := by simp at hi; omega
        exact this.symm
  exact this s #[] (fun i h => by simp at h)
def gOf (s : List ((Int × Int) × Gp)) (e : MapEntry) : Gp := ((s[e.born]?).map (·.2)).getD fun _ _ => 0
theorem gOf_all (s : List ((Int × Int) × Gp)) : (entF s).toList.map (gOf s) = s.map (·.2) := by
  apply List.ext_getElem
  · simp [entF_size]
  · intro i h1 h2
    have hi : i < (entF s).size := by simpa using h1
    have hs : i < s.length := by simpa using h2
    simp only [List.getElem_map, Array.getElem_toList]
    unfold gOf
    rw [entF_bi s i hi, List.getElem?_eq_getElem hs]
    rfl
/-- What has been found by these entries. -/
def LS (p : Pr) (L : List MapEntry) : Nat × Nat := longS p.bs.length (2 ^ p.bs.length - 1, 0) (L.map (gOf p.n.known))
theorem LS_next (p : Pr) (L : List MapEntry) {e : MapEntry} {g : Gp} (hg : gOf p.n.known e = g) : LS p (L ++ [e]) = ((LS p L).1 &&& thoseL p.bs.length (fun k => ((List.range 5).all fun o => decide (g o k ≤ 0))), (LS p L).2 ||| thoseL p.bs.length (fun k => ((List.range 5).all fun o => decide (0 ≤ g k o)))) := by
  unfold LS longS
  rw [List.map_append, List.foldl_append, ← hg]
  rfl
theorem LS_lt (p : Pr) (h : p.bs.length ≤ 5) (L : List MapEntry) : (LS p L).1 < 256 ∧ (LS p L).2 < 256 := by
  have key : ∀ (l : List Gp) (s : Nat × Nat), s.1 < 256 ∧ s.2 < 256 → (longS p.bs.length s l).1 < 256 ∧ (longS p.bs.length s l).2 < 256 := by
    intro l
    induction l with
    | nil => exact fun s h => h
    | cons g l ih =>
      intro s hs
      refine ih _ ⟨Nat.lt_of_le_of_lt Nat.and_le_left hs.1, Nat.or_lt_two_pow (n := 8) hs.2 (those_lt (by omega) _)⟩
  have h2 := pow_le5 (n := p.bs.length) (by omega)
  exact key _ _ ⟨by dsimp only; omega, by dsimp only; omega⟩
theorem LS_done {p : Pr} {L : List MapEntry} (h : L.Perm (entF p.n.known).toList) : LS p L = p.n.longA := by
  unfold LS Prn.longA
  rw [← gOf_all]
  exact longS_perm (List.Perm.map _ h) _
set_option maxRecDepth 100000 in
theorem longestOf_any (p : Pr) (bm : Nat) (w : World) (hF : p.Fine) (hmp : w.heap[bm]? = some (.map (entF p.n.known) p.n.known.length)) : Calls Try.prog 61 #[.int .i64 (p.bs.length : Int), .map (some bm)] w (Ret (.agg #[.int .i64 (p.n.longA.1 : Int), .int .i64 (p.n.longA.2 : Int)]) w) := by
  have h5 := hF.b5
  refine calls_run (fn := f61) (c := (f61.body).getD .skip) [.int .i64 (p.bs.length : Int), .map (some bm)] func61 (by kernel_rfl) (fun _ => False) [] (fun _ h => by cases h) (List.Pairwise.nil) 34 (by kernel_rfl) (by simp) ?_
  refine run_auto [] 2 [] [] [0, 1] [] (st' := ⟨[(0, iV (p.bs.length : Int)), (1, .map (some bm))], []⟩) (acc := []) (by kernel_rfl) (by kernel_rfl) trivial ?_
  refine run_new (aO #[iV 0, iV 0] 106) (fun b1 => pA b1) (some 4) (fun _ => by kernel_rfl) (fun b1 hb1 => ?_)
  refine run_auto [] 4 [] [] [0, 1, 4, 8] [0] (st' := ⟨[(0, iV (p.bs.length : Int)), (1, .map (some bm)), (4, pA b1), (8, iV (p.bs.length : Int))], [(b1, aO #[iV 0, iV 0] 106)]⟩) (acc := []) (by kernel_rfl) (by kernel_rfl) trivial ?_
  refine run_ret1 90 #[iV (p.bs.length : Int)] (some 9) (iV ((2 ^ p.bs.length - 1 : Nat) : Int)) (by kernel_rfl) (fun w1 k1 h1 => fullSet_any p.bs.length (by omega) w1) ?_
  refine run_auto [] 1 [] [] [0, 1, 4, 10] [0] (st' := ⟨[(0, iV (p.bs.length : Int)), (1, .map (some bm)), (4, pA b1), (10, .agg #[iV ((2 ^ p.bs.length - 1 : Nat) : Int), iV 0])], [(b1, aO #[iV 0, iV 0] 106)]⟩) (acc := []) (by kernel_rfl) (by kernel_rfl) trivial ?_
  refine run_new (aO #[iV 0, iV 0] 106) (fun b2 => pA b2) (some 5) (fun _ => by kernel_rfl) (fun b2 hb2 => ?_)
  refine run_auto [] 6 [] [0] [0, 4, 5, 11] [0, 1] (st' := ⟨[(0, iV (p.bs.length : Int)), (4, pA b1), (5, pA b2), (11, .map (some bm))], [(b2, aO #[iV ((2 ^ p.bs.length - 1 : Nat) : Int), iV 0] 106), (b1, aO #[iV 0, iV 0] 106)]⟩) (acc := [(pA b2, pA b2)]) (by kernel_rfl) (by kernel_rfl) ⟨rfl, trivial⟩ ?_
  refine run_rangeMap (some 12) 77 79 70 bm (entF p.n.known) p.n.known.length (by kernel_rfl) (by kernel_rfl) (fun w1 k1 h1 => (k1.block bm (Array.getElem?_eq_some_iff.1 hmp).1 (fun h => h)).trans hmp) (fun b3 hb3 => ?_)
  refine run_auto [] 2 [] [] [0, 4, 5, 12] [0, 1, 2] (st' := ⟨[(0, iV (p.bs.length : Int)), (4, pA b1), (5, pA b2), (12, pA b3)], [(b3, .mapIter (some bm) p.n.known.length #[] p.n.known.length), (b2, aO #[iV ((2 ^ p.bs.length - 1 : Nat) : Int), iV 0] 106), (b1, aO #[iV 0, iV 0] 106)]⟩) (acc := []) (by kernel_rfl) (by kernel_rfl) trivial ?_
  refine run_auto [] 0 [] [] [0, 4, 5, 12] [0, 1, 2] (st' := ⟨[(0, iV (p.bs.length : Int)), (4, pA b1), (5, pA b2), (12, pA b3)], [(b3, .mapIter (some bm) p.n.known.length #[] p.n.known.length), (b2, aO #[iV ((2 ^ p.bs.length - 1 : Nat) : Int), iV 0] 106), (b1, aO #[iV 0, iV 0] 106)]⟩) (acc := []) (by kernel_rfl) (by kernel_rfl) trivial ?_
  refine run_loop (S := fun (L : List MapEntry) => ⟨[(0, iV (p.bs.length : Int)), (4, pA b1), (5, pA b2), (12, pA b3)], [(b3, .mapIter (some bm) p.n.known.length (bornsL L) p.n.known.length), (b2, aO #[iV ((LS p L).1 : Int), iV ((LS p L).2 : Int)] 106), (b1, aO #[iV 0, iV 0] 106)]⟩) (fun L => MapIn (entF p.n.known) L) (fun L => (leftOf (entF p.n.known) (bornsL L)).size) ([]) (by kernel_rfl) (MapIn.start _) (by kernel_rfl) (fun L hI0 J0 hJ0 => ?_)
  refine run_auto [] 2 [] [] [0, 4, 5, 12] [0, 1, 2] (st' := ⟨[(0, iV (p.bs.length : Int)), (4, pA b1), (5, pA b2), (12, pA b3)], [(b3, .mapIter (some bm) p.n.known.length (bornsL L) p.n.known.length), (b2, aO #[iV ((LS p L).1 : Int), iV ((LS p L).2 : Int)] 106), (b1, aO #[iV 0, iV 0] 106)]⟩) (acc := []) (by kernel_rfl) (by kernel_rfl) trivial ?_
  refine run_nextMap (some 13) 0 b3 bm p.n.known.length p.n.known.length (bornsL L) (entF p.n.known) p.n.known.length 0 (by kernel_rfl) (by kernel_rfl) (fun w1 k1 h1 => (k1.block bm (Array.getElem?_eq_some_iff.1 hmp).1 (fun h => h)).trans hmp) (entF_born p.n.known) (Nat.le_refl _) (fun hno => ?_) (fun e he => ?_)
  · skip
    refine run_auto [] 10 [false] [1, 2] [4] [2] (st' := ⟨[(4, pA b1)], [(b1, aO #[iV ((LS p L).1 : Int), iV ((LS p L).2 : Int)] 106)]⟩) (acc := [(pA b1, pA b1), (pA b2, pA b2), (.bool false, .bool false)]) (by kernel_rfl) (by kernel_rfl) ⟨rfl, rfl, rfl, trivial⟩ ?_
    refine run_end (fn := f61) rfl (Nat.le_refl _) (by kernel_rfl) [0] [.agg #[iV ((LS p L).1 : Int), iV ((LS p L).2 : Int)]] (e := [(pA b1, pA b1)]) (by kernel_rfl) ⟨rfl, trivial⟩ (fun w1 k1 h1 => ?_)
    exact ⟨by rw [← LS_done (hI0.done hno)]; rfl, k1.keeps (fun _ h => h)⟩
  · skip
    obtain ⟨k, hk, hek, hev⟩ := entF_at (MapIn.mem he)
    have hg : gOf p.n.known e = k.2 := by unfold gOf; rw [hk]; rfl
    rw [hek, hev]
    have hLS := LS_lt p (by omega) L
    refine run_auto [] 8 [true] [] [0, 4, 5, 12] [0, 1, 2] (st' := ⟨[(0, iV (p.bs.length : Int)), (4, pA b1), (5, pA b2), (12, pA b3)], [(b3, .mapIter (some bm) p.n.known.length ((bornsL L).push e.born) p.n.known.length), (b2, aO #[iV ((LS p L).1 : Int), iV ((LS p L).2 : Int)] 106), (b1, aO #[iV 0, iV 0] 106)]⟩) (acc := [(.bool true, .bool true)]) (by kernel_rfl) (by kernel_rfl) ⟨rfl, trivial⟩ ?_
    refine run_v (Instr.entry (pA b3) >>= fun v => pure (Next.value v)) (some 15) (.tuple #[.agg #[iV k.1.1, iV k.1.2], .agg (gc k.2).toArray]) (by kernel_rfl) (fun w1 k1 h1 => entry_run (e := e) (h1 (b3, .mapIter (some bm) p.n.known.length ((bornsL L).push e.born) p.n.known.length) (List.mem_of_getElem? (i := 0) (by kernel_rfl))) ((k1.block bm (Array.getElem?_eq_some_iff.1 hmp).1 (fun h => h)).trans hmp) (MapIn.mem he) (entF_nodup p.n.known) hek hev) ?_
    refine run_auto [] 1 [] [] [0, 4, 5, 12, 16] [0, 1, 2] (st' := ⟨[(0, iV (p.bs.length : Int)), (4, pA b1), (5, pA b2), (12, pA b3), (16, .agg (gc k.2).toArray)], [(b3, .mapIter (some bm) p.n.known.length ((bornsL L).push e.born) p.n.known.length), (b2, aO #[iV ((LS p L).1 : Int), iV ((LS p L).2 : Int)] 106), (b1, aO #[iV 0, iV 0] 106)]⟩) (acc := []) (by kernel_rfl) (by kernel_rfl) trivial ?_
    refine run_new (aO #[iV 0, iV 0, iV 0, iV 0, iV 0, iV 0, iV 0, iV 0, iV 0, iV 0, iV 0, iV 0, iV 0, iV 0, iV 0, iV 0, iV 0, iV 0, iV 0, iV 0, iV 0, iV 0, iV 0, iV 0, iV 0, iV 0, iV 0, iV 0, iV 0, iV 0, iV 0, iV 0, iV 0, iV 0, iV 0, iV 0] 70) (fun b4 => pA b4) (some 7) (fun _ => by kernel_rfl) (fun b4 hb4 => ?_)
    refine run_auto [] 3 [] [0] [0, 4, 5, 12, 7] [0, 1, 2, 3] (st' := ⟨[(0, iV (p.bs.length : Int)), (4, pA b1), (5, pA b2), (12, pA b3), (7, pA b4)], [(b4, cO (gc k.2) 70), (b3, .mapIter (some bm) p.n.known.length ((bornsL L).push e.born) p.n.known.length), (b2, aO #[iV ((LS p L).1 : Int), iV ((LS p L).2 : Int)] 106), (b1, aO #[iV 0, iV 0] 106)]⟩) (acc := [(pA b4, pA b4)]) (by kernel_rfl) (by kernel_rfl) ⟨rfl, trivial⟩ ?_
    refine draw 9 [{ val := fun _ => pA b2, slots := [5] },
          { val := fun _ => iV ((LS p L).1 : Int), slots := [17], reads := [2] },
          { val := fun _ => iV (p.bs.length : Int), slots := [0] },
          { val := fun _ => .agg (gc k.2).toArray, slots := [7], reads := [0] },
          { val := fun _ => .func (.func 94) #[.agg (gc k.2).toArray] #[], slots := [20] },
          { val := fun _ => iV (((thoseL p.bs.length (fun q => ((List.range 5).all fun o => decide (k.2 o q ≤ 0)))) : Nat) : Int), slots := [19, 21] },
          { val := fun _ => iV (((LS p L).1 &&& ((thoseL p.bs.length (fun q => ((List.range 5).all fun o => decide (k.2 o q ≤ 0)))) : Nat) : Nat) : Int), slots := [18, 22] },
          { val := fun _ => pA b2, slots := [5] },
          { upd := [(2, fun l => aO #[iV (((LS p L).1 &&& ((thoseL p.bs.length (fun q => ((List.range 5).all fun o => decide (k.2 o q ≤ 0)))) : Nat) : Nat) : Int), iV ((LS p L).2 : Int)] 106)], slots := [23, 24], reads := [2] }] [[], [0], [], [], [3], [2, 3, 4], [0, 1, 2, 3, 4, 5], [0, 1, 2, 3, 4, 5, 6], [0, 1, 2, 3, 4, 5, 6, 7]] (by kernel_rfl) (by kernel_rfl) (by kernel_rfl) (by kernel_rfl) [0, 4, 5, 12, 7] [0, 1, 2, 3] (by kernel_rfl)
          ⟨⟨⟨⟨⟨⟨⟨⟨⟨trivial,
          tri_quiet (fun β => []) [] [] (fun β => []) (by kernel_rfl) (fun β extra => by kernel_rfl) (by kernel_rfl) (fun β => trivial)⟩,
          tri_quiet (fun β => []) [0] [0] (fun β => [(pA b2, pA b2)]) (by kernel_rfl) (fun β extra => by kernel_rfl) (by kernel_rfl) (fun β => ⟨rfl, trivial⟩)⟩,
          tri_quiet (fun β => []) [] [] (fun β => []) (by kernel_rfl) (fun β extra => by kernel_rfl) (by kernel_rfl) (fun β => trivial)⟩,
          tri_quiet (fun β => []) [0] [0] (fun β => [(pA b4, pA b4)]) (by kernel_rfl) (fun β extra => by kernel_rfl) (by kernel_rfl) (fun β => ⟨rfl, trivial⟩)⟩,
          tri_quiet (fun β => []) [] [] (fun β => []) (by kernel_rfl) (fun β extra => by kernel_rfl) (by kernel_rfl) (fun β => trivial)⟩,
          tri_call 93 (fun β => #[iV (p.bs.length : Int), .func (.func 94) #[.agg (gc k.2).toArray] #[]]) (by kernel_rfl) (fun β extra => by kernel_rfl) (fun β => by kernel_rfl) (fun β w1 k1 h1 => those_surelyLongest k.2 p.bs.length (by omega) w1)⟩,
          tri_quiet (fun β => [(23, iV (((LS p L).1 &&& ((thoseL p.bs.length (fun q => ((List.range 5).all fun o => decide (k.2 o q ≤ 0)))) : Nat) : Nat) : Int))]) [] [] (fun β => [(iV (bits .and .i64 ((LS p L).1 : Int) (((thoseL p.bs.length (fun q => ((List.range 5).all fun o => decide (k.2 o q ≤ 0)))) : Nat) : Int)), iV (((LS p L).1 &&& ((thoseL p.bs.length (fun q => ((List.range 5).all fun o => decide (k.2 o q ≤ 0)))) : Nat) : Nat) : Int))]) (by kernel_rfl) (fun β extra => by kernel_rfl) (by kernel_rfl) (fun β => ⟨(and_nat (LS p L).1 ((thoseL p.bs.length (fun q => ((List.range 5).all fun o => decide (k.2 o q ≤ 0)))) : Nat) (by omega) (by have := those_lt (n := p.bs.length) (by omega) (fun q => ((List.range 5).all fun o => decide (k.2 o q ≤ 0))); omega)), trivial⟩)⟩,
          tri_quiet (fun β => []) [] [] (fun β => []) (by kernel_rfl) (fun β extra => by kernel_rfl) (by kernel_rfl) (fun β => trivial)⟩,
          tri_quiet (fun β => []) [0] [0] (fun β => [(pA b2, pA b2)]) (by kernel_rfl) (fun β extra => by kernel_rfl) (by kernel_rfl) (fun β => ⟨rfl, trivial⟩)⟩
          (fun β => ⟨[(0, iV (p.bs.length : Int)), (4, pA b1), (5, pA b2), (12, pA b3), (7, pA b4)], [(b4, cO (gc k.2) 70), (b3, .mapIter (some bm) p.n.known.length ((bornsL L).push e.born) p.n.known.length), (b2, aO #[iV (((LS p L).1 &&& ((thoseL p.bs.length (fun q => ((List.range 5).all fun o => decide (k.2 o q ≤ 0)))) : Nat) : Nat) : Int), iV ((LS p L).2 : Int)] 106), (b1, aO #[iV 0, iV 0] 106)]⟩) (fun β => by kernel_rfl) (fun β5 => ?_)
    refine draw 9 [{ val := fun _ => .pointer (some ⟨b2, 1, none⟩), slots := [5] },
          { val := fun _ => iV ((LS p L).2 : Int), slots := [25], reads := [2] },
          { val := fun _ => iV (p.bs.length : Int), slots := [0] },
          { val := fun _ => .agg (gc k.2).toArray, slots := [7], reads := [0] },
          { val := fun _ => .func (.func 95) #[.agg (gc k.2).toArray] #[], slots := [28] },
          { val := fun _ => iV (((thoseL p.bs.length (fun q => ((List.range 5).all fun o => decide (0 ≤ k.2 q o)))) : Nat) : Int), slots := [27, 29] },
          { val := fun _ => iV (((LS p L).2 ||| ((thoseL p.bs.length (fun q => ((List.range 5).all fun o => decide (0 ≤ k.2 q o)))) : Nat) : Nat) : Int), slots := [26, 30] },
          { val := fun _ => .pointer (some ⟨b2, 1, none⟩), slots := [5] },
          { upd := [(2, fun l => aO #[iV (((LS p L).1 &&& ((thoseL p.bs.length (fun q => ((List.range 5).all fun o => decide (k.2 o q ≤ 0)))) : Nat) : Nat) : Int), iV (((LS p L).2 ||| ((thoseL p.bs.length (fun q => ((List.range 5).all fun o => decide (0 ≤ k.2 q o)))) : Nat) : Nat) : Int)] 106)], slots := [31, 32], reads := [2] }] [[], [0], [], [], [3], [2, 3, 4], [0, 1, 2, 3, 4, 5], [0, 1, 2, 3, 4, 5, 6], [0, 1, 2, 3, 4, 5, 6, 7]] (by kernel_rfl) (by kernel_rfl) (by kernel_rfl) (by kernel_rfl) [0, 4, 5, 12] [1, 2, 3] (by kernel_rfl)
          ⟨⟨⟨⟨⟨⟨⟨⟨⟨trivial,
          tri_quiet (fun β => []) [] [] (fun β => []) (by kernel_rfl) (fun β extra => by kernel_rfl) (by kernel_rfl) (fun β => trivial)⟩,
          tri_quiet (fun β => []) [0] [0] (fun β => [(pA b2, pA b2)]) (by kernel_rfl) (fun β extra => by kernel_rfl) (by kernel_rfl) (fun β => ⟨rfl, trivial⟩)⟩,
          tri_quiet (fun β => []) [] [] (fun β => []) (by kernel_rfl) (fun β extra => by kernel_rfl) (by kernel_rfl) (fun β => trivial)⟩,
          tri_quiet (fun β => []) [0] [0] (fun β => [(pA b4, pA b4)]) (by kernel_rfl) (fun β extra => by kernel_rfl) (by kernel_rfl) (fun β => ⟨rfl, trivial⟩)⟩,
          tri_quiet (fun β => []) [] [] (fun β => []) (by kernel_rfl) (fun β extra => by kernel_rfl) (by kernel_rfl) (fun β => trivial)⟩,
          tri_call 93 (fun β => #[iV (p.bs.length : Int), .func (.func 95) #[.agg (gc k.2).toArray] #[]]) (by kernel_rfl) (fun β extra => by kernel_rfl) (fun β => by kernel_rfl) (fun β w1 k1 h1 => those_perhapsLongest k.2 p.bs.length (by omega) w1)⟩,
          tri_quiet (fun β => [(31, iV (((LS p L).2 ||| ((thoseL p.bs.length (fun q => ((List.range 5).all fun o => decide (0 ≤ k.2 q o)))) : Nat) : Nat) : Int))]) [] [] (fun β => [(iV (bits .or .i64 ((LS p L).2 : Int) (((thoseL p.bs.length (fun q => ((List.range 5).all fun o => decide (0 ≤ k.2 q o)))) : Nat) : Int)), iV (((LS p L).2 ||| ((thoseL p.bs.length (fun q => ((List.range 5).all fun o => decide (0 ≤ k.2 q o)))) : Nat) : Nat) : Int))]) (by kernel_rfl) (fun β extra => by kernel_rfl) (by kernel_rfl) (fun β => ⟨(or_nat (LS p L).2 ((thoseL p.bs.length (fun q => ((List.range 5).all fun o => decide (0 ≤ k.2 q o)))) : Nat) (by omega) (by have := those_lt (n := p.bs.length) (by omega) (fun q => ((List.range 5).all fun o => decide (0 ≤ k.2 q o))); omega)), trivial⟩)⟩,
          tri_quiet (fun β => []) [] [] (fun β => []) (by kernel_rfl) (fun β extra => by kernel_rfl) (by kernel_rfl) (fun β => trivial)⟩,
          tri_quiet (fun β => []) [0] [0] (fun β => [(pA b2, pA b2)]) (by kernel_rfl) (fun β extra => by kernel_rfl) (by kernel_rfl) (fun β => ⟨rfl, trivial⟩)⟩
          (fun β => ⟨[(0, iV (p.bs.length : Int)), (4, pA b1), (5, pA b2), (12, pA b3)], [(b3, .mapIter (some bm) p.n.known.length ((bornsL L).push e.born) p.n.known.length), (b2, aO #[iV (((LS p L).1 &&& ((thoseL p.bs.length (fun q => ((List.range 5).all fun o => decide (k.2 o q ≤ 0)))) : Nat) : Nat) : Int), iV (((LS p L).2 ||| ((thoseL p.bs.length (fun q => ((List.range 5).all fun o => decide (0 ≤ k.2 q o)))) : Nat) : Nat) : Int)] 106), (b1, aO #[iV 0, iV 0] 106)]⟩) (fun β => by kernel_rfl) (fun β6 => ?_)
    refine run_auto [] 1 [] [] [0, 4, 5, 12] [0, 1, 2] (st' := ⟨[(0, iV (p.bs.length : Int)), (4, pA b1), (5, pA b2), (12, pA b3)], [(b3, .mapIter (some bm) p.n.known.length ((bornsL L).push e.born) p.n.known.length), (b2, aO #[iV (((LS p L).1 &&& ((thoseL p.bs.length (fun q => ((List.range 5).all fun o => decide (k.2 o q ≤ 0)))) : Nat) : Nat) : Int), iV (((LS p L).2 ||| ((thoseL p.bs.length (fun q => ((List.range 5).all fun o => decide (0 ≤ k.2 q o)))) : Nat) : Nat) : Int)] 106), (b1, aO #[iV 0, iV 0] 106)]⟩) (acc := []) (by kernel_rfl) (by kernel_rfl) trivial ?_
    have hj := hJ0 (L ++ [e]) (hI0.next (entF_nodup _) he) (MapIn.less he)
    rw [LS_next p L hg, ← bornsL_push] at hj
    exact run_round (by kernel_rfl) hj

end Go.Proofs.Ythnhcacoegmdfaa

namespace Go.Proofs.Ythnhcacoegmdfaa
open Go.RowKit Go.Proofs.Try


/-- What work gives: two sets, or a panic. -/
def WL (r : Sum Int (Nat × Nat)) (w : World) (e : Ending) (w' : World) : Prop := match r with
  | .inl k => Pan k w e w'
  | .inr x => Ret (.agg #[.int .i64 (x.1 : Int), .int .i64 (x.2 : Int)]) w e w'
def loA (r : Sum Int (Nat × Nat)) : Nat × Nat := match r with
  | .inl _ => (0, 0)
  | .inr x => x
theorem answer_long (K : Nat) (caps : Array Value) (w : World) (r : Sum Int (Nat × Nat)) (hcf : ∀ w, (callFunc K caps).run Try.prog w = .ok (.enter K caps) w) (h : ∀ w1, Keeps w w1 → Calls Try.prog K caps w1 (WL r w1)) : Calls Try.prog 59 #[.func (.func K) #[] caps] w (Ret (.tuple #[.agg #[.int .i64 ((loA r).1 : Int), .int .i64 ((loA r).2 : Int)], .int .i64 (erA r)]) w) := by
  have h1 := h _ (((Keeps.refl w).alloc (.cells #[.int .i64 0, .int .i64 0] 106)).alloc (.cells #[.int .i64 0] 24))
  cases r with
  | inl k => exact answer_pan_longest K caps w k hcf h1
  | inr x => exact answer_ok_longest K caps w x.1 x.2 hcf h1
def longR (p : Pr) : Sum Int (Nat × Nat) := bif p.ok then bif p.n.known.isEmpty then .inl 10 else .inr p.n.longA else .inl 1
set_option maxRecDepth 100000 in
theorem longest1_any (p : Pr) (bp : Nat) (w : World) (hp : p.In w) (hbp : w.heap[bp]? = some (.cells #[.slice p.ba p.bs.length p.bc, .int .i64 p.zlo, .int .i64 p.zhi, .int .i64 p.rlo, .int .i64 p.rhi, .slice p.ra p.rs.length p.rc] 30 (0, 0))) : Calls Try.prog 60 #[.pointer (some ⟨bp, 0, none⟩)] w (WL (longR p) w) := by
  refine calls_run (fn := f60) (c := (f60.body).getD .skip) [.pointer (some ⟨bp, 0, none⟩)] func60 (by kernel_rfl) (fun _ => False) [] (fun _ h => by cases h) (List.Pairwise.nil) 10 (by kernel_rfl) (by simp) ?_
  refine run_auto [] 2 [] [] [0] [] (st' := ⟨[(0, pA bp)], []⟩) (acc := []) (by kernel_rfl) (by kernel_rfl) trivial ?_
  refine run_new (aO #[iV 0, iV 0] 106) (fun b1 => pA b1) (some 1) (fun _ => by kernel_rfl) (fun b1 hb1 => ?_)
  refine run_auto [] 3 [] [] [0, 1] [0] (st' := ⟨[(0, pA bp), (1, pA b1)], [(b1, aO #[iV 0, iV 0] 106)]⟩) (acc := []) (by kernel_rfl) (by kernel_rfl) trivial ?_
  refine run_v (Instr.loadAt 30 (pA bp) >>= fun v => pure (Next.value v)) (some 2) (.agg #[.slice p.ba p.bs.length p.bc, iV p.zlo, iV p.zhi, iV p.rlo, iV p.rhi, .slice p.ra p.rs.length p.rc]) (by kernel_rfl) (fun w1 k1 h1 => load_in (base := 0) (off := 0) k1 (fun h => h) [.slice p.ba p.bs.length p.bc, iV p.zlo, iV p.zhi, iV p.rlo, iV p.rhi, .slice p.ra p.rs.length p.rc] (fun i u hi => by rw [Nat.zero_add]; exact cells_of_heap hbp i u hi) (by kernel_rfl)) ?_
  cases hd1 : p.ok with
  | false =>
    exact run_panics rfl (Nat.le_refl _) 36 #[.agg #[.slice p.ba p.bs.length p.bc, iV p.zlo, iV p.zhi, iV p.rlo, iV p.rhi, .slice p.ra p.rs.length p.rc]] (some 3) (pe 1) (by kernel_rfl) (fun w1 k1 h1 => (by have h := needPair_any p w1 (hp.keep (k1.keeps (fun _ h => h))); rw [hd1] at h; exact h)) (fun w1 k1 h1 => (by unfold longR; rw [hd1]; exact ⟨rfl, k1.keeps (fun _ h => h)⟩))
  | true =>
    have hF := Pr.fine hd1
    refine run_ret1 36 #[.agg #[.slice p.ba p.bs.length p.bc, iV p.zlo, iV p.zhi, iV p.rlo, iV p.rhi, .slice p.ra p.rs.length p.rc]] (some 3) (.tuple #[]) (by kernel_rfl) (fun w1 k1 h1 => (by have h := needPair_any p w1 (hp.keep (k1.keeps (fun _ h => h))); rw [hd1] at h; exact h)) ?_
    refine run_auto [] 2 [] [] [0, 1] [0] (st' := ⟨[(0, pA bp), (1, pA b1)], [(b1, aO #[iV 0, iV 0] 106)]⟩) (acc := []) (by kernel_rfl) (by kernel_rfl) trivial ?_
    cases hd2 : p.n.known.isEmpty with
    | false =>
      refine draw 7 [{ val := fun _ => pA bp, slots := [0] },
              { val := fun _ => .slice p.ba p.bs.length p.bc, slots := [4] },
              { val := fun _ => iV (p.bs.length : Int), slots := [5] },
              { val := fun _ => .agg #[.slice p.ba p.bs.length p.bc, iV p.zlo, iV p.zhi, iV p.rlo, iV p.rhi, .slice p.ra p.rs.length p.rc], slots := [0] },
              { names := [5], val := fun l => .map (some (l.getD 0 0)), upd := [(5, fun l => .map (entF p.n.known) p.n.known.length)], news := [5], slots := [7] },
              { val := fun _ => .agg #[iV (p.n.longA.1 : Int), iV (p.n.longA.2 : Int)], slots := [6, 8], reads := [5] },
              { upd := [(0, fun l => aO #[iV (p.n.longA.1 : Int), iV (p.n.longA.2 : Int)] 106)], slots := [1, 9], reads := [0] }] [[], [0], [0, 1], [], [3], [0, 1, 2, 3, 4], [0, 1, 2, 3, 4, 5]] (by kernel_rfl) (by kernel_rfl) (by kernel_rfl) (by kernel_rfl) [1] [0] (by kernel_rfl)
              ⟨⟨⟨⟨⟨⟨⟨trivial,
              tri_quiet (fun β => []) [] [] (fun β => []) (by kernel_rfl) (fun β extra => by kernel_rfl) (by kernel_rfl) (fun β => trivial)⟩,
              tri_v (fun β => (Instr.loadAt 27 (pA bp) >>= fun v => pure (Next.value v))) (by kernel_rfl) (fun β extra => by kernel_rfl) (fun β => by kernel_rfl) (fun β w1 k1 h1 => load_in (base := 0) (off := 0) k1 (fun h => h) [.slice p.ba p.bs.length p.bc, iV p.zlo, iV p.zhi, iV p.rlo, iV p.rhi, .slice p.ra p.rs.length p.rc] (fun i u hi => by rw [Nat.zero_add]; exact cells_of_heap hbp i u hi) (by kernel_rfl))⟩,
              tri_quiet (fun β => []) [] [] (fun β => []) (by kernel_rfl) (fun β extra => by kernel_rfl) (by kernel_rfl) (fun β => trivial)⟩,
              tri_v (fun β => (Instr.loadAt 30 (pA bp) >>= fun v => pure (Next.value v))) (by kernel_rfl) (fun β extra => by kernel_rfl) (fun β => by kernel_rfl) (fun β w1 k1 h1 => load_in (base := 0) (off := 0) k1 (fun h => h) [.slice p.ba p.bs.length p.bc, iV p.zlo, iV p.zhi, iV p.rlo, iV p.rhi, .slice p.ra p.rs.length p.rc] (fun i u hi => by rw [Nat.zero_add]; exact cells_of_heap hbp i u hi) (by kernel_rfl))⟩,
              tri_nw 5 (fun β b => .map (some b)) (fun β => .map (entF p.n.known) p.n.known.length) 40 (fun β => #[.agg #[.slice p.ba p.bs.length p.bc, iV p.zlo, iV p.zhi, iV p.rlo, iV p.rhi, .slice p.ra p.rs.length p.rc]]) (by kernel_rfl) (fun β extra => by kernel_rfl) (fun β => by kernel_rfl) (fun β b => by kernel_rfl) (fun β b => by kernel_rfl) (fun β b => by kernel_rfl) (fun β w1 k1 h1 => truths_yes (hp.keep (k1.keeps (fun _ h => h))) hF hd2)⟩,
              tri_call 61 (fun β => #[iV (p.bs.length : Int), .map (some (β 5))]) (by kernel_rfl) (fun β extra => by kernel_rfl) (fun β => by kernel_rfl) (fun β w1 k1 h1 => longestOf_any p (β 5) w1 hF (h1 ((β 5), .map (entF p.n.known) p.n.known.length) (List.mem_of_getElem? (i := 0) (by kernel_rfl))))⟩,
              tri_quiet (fun β => []) [0] [0] (fun β => [(pA b1, pA b1)]) (by kernel_rfl) (fun β extra => by kernel_rfl) (by kernel_rfl) (fun β => ⟨rfl, trivial⟩)⟩
              (fun β => ⟨[(1, pA b1)], [(b1, aO #[iV (p.n.longA.1 : Int), iV (p.n.longA.2 : Int)] 106)]⟩) (fun β => by kernel_rfl) (fun β2 => ?_)
      refine run_end (fn := f60) rfl (Nat.le_refl _) (by kernel_rfl) [0] [.agg #[iV (p.n.longA.1 : Int), iV (p.n.longA.2 : Int)]] (e := [(pA b1, pA b1)]) (by kernel_rfl) ⟨rfl, trivial⟩ (fun w1 k1 h1 => ?_)
      unfold longR
      rw [hd1, hd2]
      exact ⟨rfl, k1.keeps (fun _ h => h)⟩
    | true =>
      refine draw 7 [{ val := fun _ => pA bp, slots := [0] },
              { val := fun _ => .slice p.ba p.bs.length p.bc, slots := [4] },
              { val := fun _ => iV (p.bs.length : Int), slots := [5] },
              { val := fun _ => .agg #[.slice p.ba p.bs.length p.bc, iV p.zlo, iV p.zhi, iV p.rlo, iV p.rhi, .slice p.ra p.rs.length p.rc], slots := [0] },
              { upd := [(5, fun _ => .deferred none)], news := [5], slots := [7] },
              { reads := [5] },
              { reads := [5] }] [[], [0], [0, 1], [], [3], [0, 1, 2, 3, 4], [0, 1, 2, 3, 4, 5]] (by kernel_rfl) (by kernel_rfl) (by kernel_rfl) (by kernel_rfl) [] [5] (by kernel_rfl)
              ⟨⟨⟨⟨⟨⟨⟨trivial,
              tri_quiet (fun β => []) [] [] (fun β => []) (by kernel_rfl) (fun β extra => by kernel_rfl) (by kernel_rfl) (fun β => trivial)⟩,
              tri_v (fun β => (Instr.loadAt 27 (pA bp) >>= fun v => pure (Next.value v))) (by kernel_rfl) (fun β extra => by kernel_rfl) (fun β => by kernel_rfl) (fun β w1 k1 h1 => load_in (base := 0) (off := 0) k1 (fun h => h) [.slice p.ba p.bs.length p.bc, iV p.zlo, iV p.zhi, iV p.rlo, iV p.rhi, .slice p.ra p.rs.length p.rc] (fun i u hi => by rw [Nat.zero_add]; exact cells_of_heap hbp i u hi) (by kernel_rfl))⟩,
              tri_quiet (fun β => []) [] [] (fun β => []) (by kernel_rfl) (fun β extra => by kernel_rfl) (by kernel_rfl) (fun β => trivial)⟩,
              tri_v (fun β => (Instr.loadAt 30 (pA bp) >>= fun v => pure (Next.value v))) (by kernel_rfl) (fun β extra => by kernel_rfl) (fun β => by kernel_rfl) (fun β w1 k1 h1 => load_in (base := 0) (off := 0) k1 (fun h => h) [.slice p.ba p.bs.length p.bc, iV p.zlo, iV p.zhi, iV p.rlo, iV p.rhi, .slice p.ra p.rs.length p.rc] (fun i u hi => by rw [Nat.zero_add]; exact cells_of_heap hbp i u hi) (by kernel_rfl))⟩,
              tri_panics rfl (Nat.le_refl _) 40 (fun β => #[.agg #[.slice p.ba p.bs.length p.bc, iV p.zlo, iV p.zhi, iV p.rlo, iV p.rhi, .slice p.ra p.rs.length p.rc]]) (pe 10) (fun β extra => by kernel_rfl) (fun β w1 k1 h1 => truths_no (hp.keep (k1.keeps (fun _ h => h))) hF hd2) (fun w1 k1 => (by unfold longR; rw [hd1, hd2]; exact ⟨rfl, k1.keeps (fun _ h => h)⟩))⟩,
              tri_void (fun β => ⟨β 5, [], by kernel_rfl⟩)⟩,
              tri_void (fun β => ⟨β 5, [], by kernel_rfl⟩)⟩
              (fun β => ⟨[], [(β 5, .deferred none)]⟩) (fun β => by kernel_rfl) (fun β2 => run_void)

set_option maxRecDepth 100000 in
theorem Longest_any (p : Pr) (w : World) (hp : p.In w) : Calls Try.prog 23 #[.agg #[.slice p.ba p.bs.length p.bc, .int .i64 p.zlo, .int .i64 p.zhi, .int .i64 p.rlo, .int .i64 p.rhi, .slice p.ra p.rs.length p.rc]] w (Ret (.tuple #[.int .i64 ((loA (longR p)).1 : Int), .int .i64 ((loA (longR p)).2 : Int), .int .i64 (erA (longR p))]) w) := by
  refine calls_run (fn := f23) (c := (f23.body).getD .skip) [.agg #[.slice p.ba p.bs.length p.bc, .int .i64 p.zlo, .int .i64 p.zhi, .int .i64 p.rlo, .int .i64 p.rhi, .slice p.ra p.rs.length p.rc]] func23 (by kernel_rfl) (fun _ => False) [] (fun _ h => by cases h) (List.Pairwise.nil) 16 (by kernel_rfl) (by simp) ?_
  refine run_auto [] 2 [] [] [0] [] (st' := ⟨[(0, .agg #[.slice p.ba p.bs.length p.bc, iV p.zlo, iV p.zhi, iV p.rlo, iV p.rhi, .slice p.ra p.rs.length p.rc])], []⟩) (acc := []) (by kernel_rfl) (by kernel_rfl) trivial ?_
  refine run_new (aO #[.slice p.ba p.bs.length p.bc, iV p.zlo, iV p.zhi, iV p.rlo, iV p.rhi, .slice p.ra p.rs.length p.rc] 30) (fun b1 => pA b1) (some 1) (fun _ => by kernel_rfl) (fun b1 hb1 => ?_)
  refine run_auto [] 7 [] [] [2, 3, 4, 7] [0] (st' := ⟨[(2, iV 0), (3, iV 0), (4, iV 0), (7, .func (.func 60) #[] #[pA b1])], [(b1, aO #[.slice p.ba p.bs.length p.bc, iV p.zlo, iV p.zhi, iV p.rlo, iV p.rhi, .slice p.ra p.rs.length p.rc] 30)]⟩) (acc := []) (by kernel_rfl) (by kernel_rfl) trivial ?_
  refine run_ret1 59 #[.func (.func 60) #[] #[pA b1]] (some 8) (.tuple #[.agg #[iV ((loA (longR p)).1 : Int), iV ((loA (longR p)).2 : Int)], iV (erA (longR p))]) (by kernel_rfl) (fun w1 k1 h1 => answer_long 60 #[pA b1] w1 (longR p) (fun _ => by kernel_rfl) (fun w2 kk => longest1_any p b1 w2 ((hp.keep (k1.keeps (fun _ h => h))).keep kk) ((kk.heap (Array.getElem?_eq_some_iff.1 (h1 (b1, aO #[.slice p.ba p.bs.length p.bc, iV p.zlo, iV p.zhi, iV p.rlo, iV p.rhi, .slice p.ra p.rs.length p.rc] 30) (List.mem_of_getElem? (i := 0) (by kernel_rfl)))).1).trans (h1 (b1, aO #[.slice p.ba p.bs.length p.bc, iV p.zlo, iV p.zhi, iV p.rlo, iV p.rhi, .slice p.ra p.rs.length p.rc] 30) (List.mem_of_getElem? (i := 0) (by kernel_rfl)))))) ?_
  refine run_auto [] 3 [] [] [2, 3, 4, 9, 10] [] (st' := ⟨[(2, iV 0), (3, iV 0), (4, iV 0), (9, .agg #[iV ((loA (longR p)).1 : Int), iV ((loA (longR p)).2 : Int)]), (10, iV (erA (longR p)))], []⟩) (acc := []) (by kernel_rfl) (by kernel_rfl) trivial ?_
  refine run_new (aO #[iV 0, iV 0] 106) (fun b2 => pA b2) (some 5) (fun _ => by kernel_rfl) (fun b2 hb2 => ?_)
  refine run_auto [] 4 [] [0] [2, 3, 4, 5] [0] (st' := ⟨[(2, iV 0), (3, iV 0), (4, iV (erA (longR p))), (5, pA b2)], [(b2, aO #[iV ((loA (longR p)).1 : Int), iV ((loA (longR p)).2 : Int)] 106)]⟩) (acc := [(pA b2, pA b2)]) (by kernel_rfl) (by kernel_rfl) ⟨rfl, trivial⟩ ?_
  refine draw 8 [{ val := fun _ => pA b2, slots := [5] },
      { val := fun _ => iV ((loA (longR p)).1 : Int), slots := [11], reads := [0] },
      { val := fun _ => .pointer (some ⟨b2, 1, none⟩), slots := [5] },
      { val := fun _ => iV ((loA (longR p)).2 : Int), slots := [13], reads := [0] },
      { val := fun _ => iV (erA (longR p)), slots := [4] },
      { val := fun _ => iV ((loA (longR p)).1 : Int), slots := [12] },
      { val := fun _ => iV ((loA (longR p)).2 : Int), slots := [14] },
      { val := fun _ => iV (erA (longR p)), slots := [15] }] [[], [0], [], [2], [], [0, 1], [0, 1, 2, 3, 5], [0, 1, 2, 3, 4, 5, 6]] (by kernel_rfl) (by kernel_rfl) (by kernel_rfl) (by kernel_rfl) [2, 3, 4] [] (by kernel_rfl)
      ⟨⟨⟨⟨⟨⟨⟨⟨trivial,
      tri_quiet (fun β => []) [] [] (fun β => []) (by kernel_rfl) (fun β extra => by kernel_rfl) (by kernel_rfl) (fun β => trivial)⟩,
      tri_quiet (fun β => []) [0] [0] (fun β => [(pA b2, pA b2)]) (by kernel_rfl) (fun β extra => by kernel_rfl) (by kernel_rfl) (fun β => ⟨rfl, trivial⟩)⟩,
      tri_quiet (fun β => []) [] [] (fun β => []) (by kernel_rfl) (fun β extra => by kernel_rfl) (by kernel_rfl) (fun β => trivial)⟩,
      tri_quiet (fun β => []) [0] [0] (fun β => [(pA b2, pA b2)]) (by kernel_rfl) (fun β extra => by kernel_rfl) (by kernel_rfl) (fun β => ⟨rfl, trivial⟩)⟩,
      tri_quiet (fun β => []) [] [] (fun β => []) (by kernel_rfl) (fun β extra => by kernel_rfl) (by kernel_rfl) (fun β => trivial)⟩,
      tri_quiet (fun β => []) [] [] (fun β => []) (by kernel_rfl) (fun β extra => by kernel_rfl) (by kernel_rfl) (fun β => trivial)⟩,
      tri_quiet (fun β => []) [] [] (fun β => []) (by kernel_rfl) (fun β extra => by kernel_rfl) (by kernel_rfl) (fun β => trivial)⟩,
      tri_quiet (fun β => []) [] [] (fun β => []) (by kernel_rfl) (fun β extra => by kernel_rfl) (by kernel_rfl) (fun β => trivial)⟩
      (fun β => ⟨[(2, iV ((loA (longR p)).1 : Int)), (3, iV ((loA (longR p)).2 : Int)), (4, iV (erA (longR p)))], []⟩) (fun β => by kernel_rfl) (fun β3 => ?_)
  refine run_end (fn := f23) rfl (Nat.le_refl _) (by kernel_rfl) [] [iV ((loA (longR p)).1 : Int), iV ((loA (longR p)).2 : Int), iV (erA (longR p))] (e := []) (by kernel_rfl) trivial (fun w1 k1 h1 => ?_)
  exact ⟨rfl, k1.keeps (fun _ h => h)⟩

end Go.Proofs.Ythnhcacoegmdfaa
