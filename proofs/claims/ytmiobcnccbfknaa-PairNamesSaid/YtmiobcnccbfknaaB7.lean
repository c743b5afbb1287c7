/-
  PAIR: Least.
-/
import Derived.Test.YtmiobcnccbfknaaB6
namespace Go.Proofs.Ytmiobcnccbfknaa
open Go.RowKit Go.Proofs.Try


/-- What work gives: two blocks and a number, or a panic. -/
def W3 (r : Sum Int ((Nat × Nat) × Int)) (w : World) (e : Ending) (w' : World) : Prop := match r with
  | .inl k => Pan k w e w'
  | .inr x => Ret (.agg #[.int .i64 (x.1.1 : Int), .int .i64 (x.1.2 : Int), .int .i64 x.2]) w e w'
def faA (r : Sum Int ((Nat × Nat) × Int)) : (Nat × Nat) × Int := match r with
  | .inl _ => ((0, 0), 0)
  | .inr x => x
theorem answer_far (K : Nat) (caps : Array Value) (w : World) (r : Sum Int ((Nat × Nat) × Int)) (hcf : ∀ w, (callFunc K caps).run Try.prog w = .ok (.enter K caps) w) (h : ∀ w1, Keeps w w1 → Calls Try.prog K caps w1 (W3 r w1)) : Calls Try.prog 66 #[.func (.func K) #[] caps] w (Ret (.tuple #[.agg #[.int .i64 ((faA r).1.1 : Int), .int .i64 ((faA r).1.2 : Int), .int .i64 (faA r).2], .int .i64 (erA r)]) w) := by
  have h1 := h _ (((Keeps.refl w).alloc (.cells #[.int .i64 0, .int .i64 0, .int .i64 0] 115)).alloc (.cells #[.int .i64 0] 24))
  cases r with
  | inl k => exact answer_pan_farthest K caps w k hcf h1
  | inr x => exact answer_ok_farthest K caps w x.1.1 x.1.2 x.2 hcf h1
def leastR (p : Pr) : Sum Int ((Nat × Nat) × Int) := bif p.ok then bif p.n.known.isEmpty then .inl 10 else bif decide ((p.bs.length : Int) < 2) then .inl 4 else .inr p.n.farA else .inl 1
set_option maxRecDepth 100000 in
theorem least1_any (p : Pr) (bp : Nat) (w : World) (hp : p.In w) (hbp : w.heap[bp]? = some (.cells #[.slice p.ba p.bs.length p.bc, .int .i64 p.zlo, .int .i64 p.zhi, .int .i64 p.rlo, .int .i64 p.rhi, .slice p.ra p.rs.length p.rc] 30 (0, 0))) : Calls Try.prog 67 #[.pointer (some ⟨bp, 0, none⟩)] w (W3 (leastR p) w) := by
  refine calls_run (fn := f67) (c := (f67.body).getD .skip) [.pointer (some ⟨bp, 0, none⟩)] func67 (by kernel_rfl) (fun _ => False) [] (fun _ h => by cases h) (List.Pairwise.nil) 17 (by kernel_rfl) (by simp) ?_
  refine run_auto [] 2 [] [] [0] [] (st' := ⟨[(0, .pointer (some ⟨bp, 0, none⟩))], []⟩) (acc := []) (by kernel_rfl) (by kernel_rfl) trivial ?_
  refine run_new (.cells #[.int .i64 0, .int .i64 0, .int .i64 0] 115 (0, 0)) (fun b1 => .pointer (some ⟨b1, 0, none⟩)) (some 1) (fun _ => by kernel_rfl) (fun b1 hb1 => ?_)
  refine run_auto [] 3 [] [] [0, 1] [0] (st' := ⟨[(0, .pointer (some ⟨bp, 0, none⟩)), (1, .pointer (some ⟨b1, 0, none⟩))], [(b1, .cells #[.int .i64 0, .int .i64 0, .int .i64 0] 115 (0, 0))]⟩) (acc := []) (by kernel_rfl) (by kernel_rfl) trivial ?_
  refine run_v (Instr.loadAt 30 (.pointer (some ⟨bp, 0, none⟩)) >>= fun v => pure (Next.value v)) (some 3) (.agg #[.slice p.ba p.bs.length p.bc, .int .i64 p.zlo, .int .i64 p.zhi, .int .i64 p.rlo, .int .i64 p.rhi, .slice p.ra p.rs.length p.rc]) (by kernel_rfl) (fun w1 k1 h1 => load_in (base := 0) (off := 0) k1 (fun h => h) [.slice p.ba p.bs.length p.bc, .int .i64 p.zlo, .int .i64 p.zhi, .int .i64 p.rlo, .int .i64 p.rhi, .slice p.ra p.rs.length p.rc] (fun i u hi => by rw [Nat.zero_add]; exact cells_of_heap hbp i u hi) (by kernel_rfl)) ?_
  cases hd1 : p.ok with
  | false =>
    exact run_panics rfl (Nat.le_refl _) 36 #[.agg #[.slice p.ba p.bs.length p.bc, .int .i64 p.zlo, .int .i64 p.zhi, .int .i64 p.rlo, .int .i64 p.rhi, .slice p.ra p.rs.length p.rc]] (some 4) (pe 1) (by kernel_rfl) (fun w1 k1 h1 => (by have h := needPair_any p w1 (hp.keep (k1.keeps (fun _ h => h))); rw [hd1] at h; exact h)) (fun w1 k1 h1 => (by unfold leastR; rw [hd1]; exact ⟨rfl, k1.keeps (fun _ h => h)⟩))
  | true =>
    have hF := Pr.fine hd1
    have hb5 := hF.b5
    refine run_ret1 36 #[.agg #[.slice p.ba p.bs.length p.bc, .int .i64 p.zlo, .int .i64 p.zhi, .int .i64 p.rlo, .int .i64 p.rhi, .slice p.ra p.rs.length p.rc]] (some 4) (.tuple #[]) (by kernel_rfl) (fun w1 k1 h1 => (by have h := needPair_any p w1 (hp.keep (k1.keeps (fun _ h => h))); rw [hd1] at h; exact h)) ?_
    refine run_auto [] 3 [] [] [0, 1] [0] (st' := ⟨[(0, .pointer (some ⟨bp, 0, none⟩)), (1, .pointer (some ⟨b1, 0, none⟩))], [(b1, .cells #[.int .i64 0, .int .i64 0, .int .i64 0] 115 (0, 0))]⟩) (acc := []) (by kernel_rfl) (by kernel_rfl) trivial ?_
    refine run_v (Instr.loadAt 30 (.pointer (some ⟨bp, 0, none⟩)) >>= fun v => pure (Next.value v)) (some 5) (.agg #[.slice p.ba p.bs.length p.bc, .int .i64 p.zlo, .int .i64 p.zhi, .int .i64 p.rlo, .int .i64 p.rhi, .slice p.ra p.rs.length p.rc]) (by kernel_rfl) (fun w1 k1 h1 => load_in (base := 0) (off := 0) k1 (fun h => h) [.slice p.ba p.bs.length p.bc, .int .i64 p.zlo, .int .i64 p.zhi, .int .i64 p.rlo, .int .i64 p.rhi, .slice p.ra p.rs.length p.rc] (fun i u hi => by rw [Nat.zero_add]; exact cells_of_heap hbp i u hi) (by kernel_rfl)) ?_
    cases hd2 : p.n.known.isEmpty with
    | false =>
      have hne : p.n.known ≠ [] := fun h0 => by rw [h0] at hd2; cases hd2
      refine run_nw 40 #[.agg #[.slice p.ba p.bs.length p.bc, .int .i64 p.zlo, .int .i64 p.zhi, .int .i64 p.rlo, .int .i64 p.rhi, .slice p.ra p.rs.length p.rc]] (some 6) (α := Unit) (fun _u b2 => .map (some b2)) (fun _u => .map (entF p.n.known) p.n.known.length) (fun _u => True) (by kernel_rfl) (fun _ => rfl) (fun w1 k1 h1 => truths_yes (hp.keep (k1.keeps (fun _ h => h))) hF hd2) (fun _u b2 hIb2 hb2 => ?_)
      refine run_auto [] 6 [] [] [0, 1, 2, 7] [0, 1] (st' := ⟨[(0, .pointer (some ⟨bp, 0, none⟩)), (1, .pointer (some ⟨b1, 0, none⟩)), (2, .map (some b2)), (7, .pointer (some ⟨bp, 0, none⟩))], [(b2, .map (entF p.n.known) p.n.known.length), (b1, .cells #[.int .i64 0, .int .i64 0, .int .i64 0] 115 (0, 0))]⟩) (acc := []) (by kernel_rfl) (by kernel_rfl) trivial ?_
      refine run_v (Instr.loadAt 27 (.pointer (some ⟨bp, 0, none⟩)) >>= fun v => pure (Next.value v)) (some 8) (.slice p.ba p.bs.length p.bc) (by kernel_rfl) (fun w1 k1 h1 => load_in (base := 0) (off := 0) k1 (fun h => h) [.slice p.ba p.bs.length p.bc, .int .i64 p.zlo, .int .i64 p.zhi, .int .i64 p.rlo, .int .i64 p.rhi, .slice p.ra p.rs.length p.rc] (fun i u hi => by rw [Nat.zero_add]; exact cells_of_heap hbp i u hi) (by kernel_rfl)) ?_
      cases hd3 : (decide ((p.bs.length : Int) < 2)) with
      | false =>
        have hp3 := of_decide_eq_false hd3
        refine run_auto [(10, .bool false)] 8 [false] [] [1, 2, 12] [0, 1] (st' := ⟨[(1, .pointer (some ⟨b1, 0, none⟩)), (2, .map (some b2)), (12, .pointer (some ⟨bp, 0, none⟩))], [(b2, .map (entF p.n.known) p.n.known.length), (b1, .cells #[.int .i64 0, .int .i64 0, .int .i64 0] 115 (0, 0))]⟩) (acc := [(.bool false, .bool false), (.bool (decide ((p.bs.length : Int) < 2)), .bool false)]) (by kernel_rfl) (by kernel_rfl) ⟨rfl, (bo hd3), trivial⟩ ?_
        refine run_v (Instr.loadAt 27 (.pointer (some ⟨bp, 0, none⟩)) >>= fun v => pure (Next.value v)) (some 13) (.slice p.ba p.bs.length p.bc) (by kernel_rfl) (fun w1 k1 h1 => load_in (base := 0) (off := 0) k1 (fun h => h) [.slice p.ba p.bs.length p.bc, .int .i64 p.zlo, .int .i64 p.zhi, .int .i64 p.rlo, .int .i64 p.rhi, .slice p.ra p.rs.length p.rc] (fun i u hi => by rw [Nat.zero_add]; exact cells_of_heap hbp i u hi) (by kernel_rfl)) ?_
        refine run_auto [] 2 [] [] [1, 14, 15] [0, 1] (st' := ⟨[(1, .pointer (some ⟨b1, 0, none⟩)), (14, .int .i64 (p.bs.length : Int)), (15, .map (some b2))], [(b2, .map (entF p.n.known) p.n.known.length), (b1, .cells #[.int .i64 0, .int .i64 0, .int .i64 0] 115 (0, 0))]⟩) (acc := []) (by kernel_rfl) (by kernel_rfl) trivial ?_
        refine run_ret1 68 #[.int .i64 (p.bs.length : Int), .map (some b2)] (some 16) (.agg #[.int .i64 (p.n.farA.1.1 : Int), .int .i64 (p.n.farA.1.2 : Int), .int .i64 p.n.farA.2]) (by kernel_rfl) (fun w1 k1 h1 => farthestOf_any p b2 w1 hF hne (h1 (b2, .map (entF p.n.known) p.n.known.length) (List.mem_of_getElem? (i := 0) (by kernel_rfl)))) ?_
        refine run_auto [] 2 [] [1] [1] [1] (st' := ⟨[(1, .pointer (some ⟨b1, 0, none⟩))], [(b1, .cells #[.int .i64 (p.n.farA.1.1 : Int), .int .i64 (p.n.farA.1.2 : Int), .int .i64 p.n.farA.2] 115 (0, 0))]⟩) (acc := [(.pointer (some ⟨b1, 0, none⟩), .pointer (some ⟨b1, 0, none⟩))]) (by kernel_rfl) (by kernel_rfl) ⟨rfl, trivial⟩ ?_
        refine run_end (fn := f67) rfl (Nat.le_refl _) (by kernel_rfl) [0] [.agg #[.int .i64 (p.n.farA.1.1 : Int), .int .i64 (p.n.farA.1.2 : Int), .int .i64 p.n.farA.2]] (e := [(.pointer (some ⟨b1, 0, none⟩), .pointer (some ⟨b1, 0, none⟩))]) (by kernel_rfl) ⟨rfl, trivial⟩ (fun w1 k1 h1 => ?_)
        unfold leastR
        rw [hd1, hd2, hd3]
        exact ⟨rfl, k1.keeps (fun _ h => h)⟩
      | true =>
        have hp3 := of_decide_eq_true hd3
        refine run_auto [(10, .bool true)] 6 [true] [] [0, 1, 2, 11] [0, 1] (st' := ⟨[(0, .pointer (some ⟨bp, 0, none⟩)), (1, .pointer (some ⟨b1, 0, none⟩)), (2, .map (some b2)), (11, .iface 24 (.int .i64 4))], [(b2, .map (entF p.n.known) p.n.known.length), (b1, .cells #[.int .i64 0, .int .i64 0, .int .i64 0] 115 (0, 0))]⟩) (acc := [(.bool true, .bool true), (.bool (decide ((p.bs.length : Int) < 2)), .bool true)]) (by kernel_rfl) (by kernel_rfl) ⟨rfl, (bo hd3), trivial⟩ ?_
        exact run_panic rfl (Nat.le_refl _) (Instr.panic (.iface 24 (.int .i64 4)) >>= fun v => pure (Next.value v)) none (.iface 24 (.int .i64 4)) (by kernel_rfl) (fun w => by kernel_rfl) (fun w1 k1 h1 => (by unfold leastR; rw [hd1, hd2, hd3]; exact ⟨rfl, k1.keeps (fun _ h => h)⟩))
    | true =>
      exact run_panics rfl (Nat.le_refl _) 40 #[.agg #[.slice p.ba p.bs.length p.bc, .int .i64 p.zlo, .int .i64 p.zhi, .int .i64 p.rlo, .int .i64 p.rhi, .slice p.ra p.rs.length p.rc]] (some 6) (pe 10) (by kernel_rfl) (fun w1 k1 h1 => truths_no (hp.keep (k1.keeps (fun _ h => h))) hF hd2) (fun w1 k1 h1 => (by unfold leastR; rw [hd1, hd2]; exact ⟨rfl, k1.keeps (fun _ h => h)⟩))

set_option maxRecDepth 100000 in
theorem Least_any (p : Pr) (w : World) (hp : p.In w) : Calls Try.prog 29 #[.agg #[.slice p.ba p.bs.length p.bc, .int .i64 p.zlo, .int .i64 p.zhi, .int .i64 p.rlo, .int .i64 p.rhi, .slice p.ra p.rs.length p.rc]] w (Ret (.tuple #[.int .i64 ((faA (leastR p)).1.1 : Int), .int .i64 ((faA (leastR p)).1.2 : Int), .int .i64 (faA (leastR p)).2, .int .i64 (erA (leastR p))]) w) := by
  refine calls_run (fn := f29) (c := (f29.body).getD .skip) [.agg #[.slice p.ba p.bs.length p.bc, .int .i64 p.zlo, .int .i64 p.zhi, .int .i64 p.rlo, .int .i64 p.rhi, .slice p.ra p.rs.length p.rc]] func29 (by kernel_rfl) (fun _ => False) [] (fun _ h => by cases h) (List.Pairwise.nil) 21 (by kernel_rfl) (by simp) ?_
  refine run_auto [] 2 [] [] [0] [] (st' := ⟨[(0, .agg #[.slice p.ba p.bs.length p.bc, .int .i64 p.zlo, .int .i64 p.zhi, .int .i64 p.rlo, .int .i64 p.rhi, .slice p.ra p.rs.length p.rc])], []⟩) (acc := []) (by kernel_rfl) (by kernel_rfl) trivial ?_
  refine run_new (.cells #[.slice p.ba p.bs.length p.bc, .int .i64 p.zlo, .int .i64 p.zhi, .int .i64 p.rlo, .int .i64 p.rhi, .slice p.ra p.rs.length p.rc] 30 (0, 0)) (fun b1 => .pointer (some ⟨b1, 0, none⟩)) (some 1) (fun _ => by kernel_rfl) (fun b1 hb1 => ?_)
  refine run_auto [] 8 [] [] [2, 3, 4, 5, 8] [0] (st' := ⟨[(2, .int .i64 0), (3, .int .i64 0), (4, .int .i64 0), (5, .int .i64 0), (8, .func (.func 67) #[] #[.pointer (some ⟨b1, 0, none⟩)])], [(b1, .cells #[.slice p.ba p.bs.length p.bc, .int .i64 p.zlo, .int .i64 p.zhi, .int .i64 p.rlo, .int .i64 p.rhi, .slice p.ra p.rs.length p.rc] 30 (0, 0))]⟩) (acc := []) (by kernel_rfl) (by kernel_rfl) trivial ?_
  refine run_ret1 66 #[.func (.func 67) #[] #[.pointer (some ⟨b1, 0, none⟩)]] (some 9) (.tuple #[.agg #[.int .i64 ((faA (leastR p)).1.1 : Int), .int .i64 ((faA (leastR p)).1.2 : Int), .int .i64 ((faA (leastR p)).2)], .int .i64 (erA (leastR p))]) (by kernel_rfl) (fun w1 k1 h1 => answer_far 67 #[.pointer (some ⟨b1, 0, none⟩)] w1 (leastR p) (fun _ => by kernel_rfl) (fun w2 kk => least1_any p b1 w2 ((hp.keep (k1.keeps (fun _ h => h))).keep kk) ((kk.heap (Array.getElem?_eq_some_iff.1 (h1 (b1, .cells #[.slice p.ba p.bs.length p.bc, .int .i64 p.zlo, .int .i64 p.zhi, .int .i64 p.rlo, .int .i64 p.rhi, .slice p.ra p.rs.length p.rc] 30 (0, 0)) (List.mem_of_getElem? (i := 0) (by kernel_rfl)))).1).trans (h1 (b1, .cells #[.slice p.ba p.bs.length p.bc, .int .i64 p.zlo, .int .i64 p.zhi, .int .i64 p.rlo, .int .i64 p.rhi, .slice p.ra p.rs.length p.rc] 30 (0, 0)) (List.mem_of_getElem? (i := 0) (by kernel_rfl)))))) ?_
  refine run_auto [] 3 [] [] [2, 3, 4, 5, 10, 11] [] (st' := ⟨[(2, .int .i64 0), (3, .int .i64 0), (4, .int .i64 0), (5, .int .i64 0), (10, .agg #[.int .i64 ((faA (leastR p)).1.1 : Int), .int .i64 ((faA (leastR p)).1.2 : Int), .int .i64 ((faA (leastR p)).2)]), (11, .int .i64 (erA (leastR p)))], []⟩) (acc := []) (by kernel_rfl) (by kernel_rfl) trivial ?_
  refine run_new (.cells #[.int .i64 0, .int .i64 0, .int .i64 0] 115 (0, 0)) (fun b2 => .pointer (some ⟨b2, 0, none⟩)) (some 6) (fun _ => by kernel_rfl) (fun b2 hb2 => ?_)
  refine run_auto [] 4 [] [0] [2, 3, 4, 5, 6] [0] (st' := ⟨[(2, .int .i64 0), (3, .int .i64 0), (4, .int .i64 0), (5, .int .i64 (erA (leastR p))), (6, .pointer (some ⟨b2, 0, none⟩))], [(b2, .cells #[.int .i64 ((faA (leastR p)).1.1 : Int), .int .i64 ((faA (leastR p)).1.2 : Int), .int .i64 ((faA (leastR p)).2)] 115 (0, 0))]⟩) (acc := [(.pointer (some ⟨b2, 0, none⟩), .pointer (some ⟨b2, 0, none⟩))]) (by kernel_rfl) (by kernel_rfl) ⟨rfl, trivial⟩ ?_
  refine draw 13 [{ val := fun _ => .pointer (some ⟨b2, 0, none⟩), slots := [6] },
      { val := fun _ => .pointer (some ⟨b2, 0, none⟩), slots := [12] },
      { val := fun _ => .int .i64 ((faA (leastR p)).1.1 : Int), slots := [13], reads := [0] },
      { val := fun _ => .pointer (some ⟨b2, 0, none⟩), slots := [6] },
      { val := fun _ => .pointer (some ⟨b2, 1, none⟩), slots := [15] },
      { val := fun _ => .int .i64 ((faA (leastR p)).1.2 : Int), slots := [16], reads := [0] },
      { val := fun _ => .pointer (some ⟨b2, 2, none⟩), slots := [6] },
      { val := fun _ => .int .i64 ((faA (leastR p)).2), slots := [18], reads := [0] },
      { val := fun _ => .int .i64 (erA (leastR p)), slots := [5] },
      { val := fun _ => .int .i64 ((faA (leastR p)).1.1 : Int), slots := [14] },
      { val := fun _ => .int .i64 ((faA (leastR p)).1.2 : Int), slots := [17] },
      { val := fun _ => .int .i64 ((faA (leastR p)).2), slots := [19] },
      { val := fun _ => .int .i64 (erA (leastR p)), slots := [20] }] [[], [0], [0, 1], [], [3], [3, 4], [], [6], [], [0, 1, 2], [0, 1, 2, 3, 4, 5, 9], [0, 1, 2, 3, 4, 5, 6, 7, 9, 10], [0, 1, 2, 3, 4, 5, 6, 7, 8, 9, 10, 11]] (by kernel_rfl) (by kernel_rfl) (by kernel_rfl) (by kernel_rfl) [2, 3, 4, 5] [] (by kernel_rfl)
      ⟨⟨⟨⟨⟨⟨⟨⟨⟨⟨⟨⟨⟨trivial,
      tri_quiet (fun β => []) [] [] (fun β => []) (by kernel_rfl) (fun β extra => by kernel_rfl) (by kernel_rfl) (fun β => trivial)⟩,
      tri_quiet (fun β => []) [] [] (fun β => []) (by kernel_rfl) (fun β extra => by kernel_rfl) (by kernel_rfl) (fun β => trivial)⟩,
      tri_quiet (fun β => []) [0] [0] (fun β => [(.pointer (some ⟨b2, 0, none⟩), .pointer (some ⟨b2, 0, none⟩))]) (by kernel_rfl) (fun β extra => by kernel_rfl) (by kernel_rfl) (fun β => ⟨rfl, trivial⟩)⟩,
      tri_quiet (fun β => []) [] [] (fun β => []) (by kernel_rfl) (fun β extra => by kernel_rfl) (by kernel_rfl) (fun β => trivial)⟩,
      tri_quiet (fun β => []) [] [] (fun β => []) (by kernel_rfl) (fun β extra => by kernel_rfl) (by kernel_rfl) (fun β => trivial)⟩,
      tri_quiet (fun β => []) [0] [0] (fun β => [(.pointer (some ⟨b2, 0, none⟩), .pointer (some ⟨b2, 0, none⟩))]) (by kernel_rfl) (fun β extra => by kernel_rfl) (by kernel_rfl) (fun β => ⟨rfl, trivial⟩)⟩,
      tri_quiet (fun β => []) [] [] (fun β => []) (by kernel_rfl) (fun β extra => by kernel_rfl) (by kernel_rfl) (fun β => trivial)⟩,
      tri_quiet (fun β => []) [0] [0] (fun β => [(.pointer (some ⟨b2, 0, none⟩), .pointer (some ⟨b2, 0, none⟩))]) (by kernel_rfl) (fun β extra => by kernel_rfl) (by kernel_rfl) (fun β => ⟨rfl, trivial⟩)⟩,
      tri_quiet (fun β => []) [] [] (fun β => []) (by kernel_rfl) (fun β extra => by kernel_rfl) (by kernel_rfl) (fun β => trivial)⟩,
      tri_quiet (fun β => []) [] [] (fun β => []) (by kernel_rfl) (fun β extra => by kernel_rfl) (by kernel_rfl) (fun β => trivial)⟩,
      tri_quiet (fun β => []) [] [] (fun β => []) (by kernel_rfl) (fun β extra => by kernel_rfl) (by kernel_rfl) (fun β => trivial)⟩,
      tri_quiet (fun β => []) [] [] (fun β => []) (by kernel_rfl) (fun β extra => by kernel_rfl) (by kernel_rfl) (fun β => trivial)⟩,
      tri_quiet (fun β => []) [] [] (fun β => []) (by kernel_rfl) (fun β extra => by kernel_rfl) (by kernel_rfl) (fun β => trivial)⟩
      (fun β => ⟨[(2, .int .i64 ((faA (leastR p)).1.1 : Int)), (3, .int .i64 ((faA (leastR p)).1.2 : Int)), (4, .int .i64 ((faA (leastR p)).2)), (5, .int .i64 (erA (leastR p)))], []⟩) (fun β => by kernel_rfl) (fun β3 => ?_)
  refine run_end (fn := f29) rfl (Nat.le_refl _) (by kernel_rfl) [] [.int .i64 ((faA (leastR p)).1.1 : Int), .int .i64 ((faA (leastR p)).1.2 : Int), .int .i64 ((faA (leastR p)).2), .int .i64 (erA (leastR p))] (e := []) (by kernel_rfl) trivial (fun w1 k1 h1 => ?_)
  exact ⟨rfl, k1.keeps (fun _ h => h)⟩

end Go.Proofs.Ytmiobcnccbfknaa
