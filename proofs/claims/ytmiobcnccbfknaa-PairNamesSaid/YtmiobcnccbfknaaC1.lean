/-
  PAIR: Longest.
-/
import Derived.Test.YtmiobcnccbfknaaB9
namespace Go.Proofs.Ytmiobcnccbfknaa
open Go.RowKit Go.Proofs.Try


/-- What work gives: two sets, or a panic. -/
def WL (r : Sum Int (Nat × Nat)) (w : World) (e : Ending) (w' : World) : Prop := match r with
  | .inl k => Pan k w e w'
  | .inr x => Ret (.agg #[.int .i64 (x.1 : Int), .int .i64 (x.2 : Int)]) w e w'
def loA (r : Sum Int (Nat × Nat)) : Nat × Nat := match r with
  | .inl _ => (0, 0)
  | .inr x => x
theorem answer_long (K : Nat) (caps : Array Value) (w : World) (r : Sum Int (Nat × Nat)) (hcf : ∀ w, (callFunc K caps).run Try.prog w = .ok (.enter K caps) w) (h : ∀ w1, Keeps w w1 → Calls Try.prog K caps w1 (WL r w1)) : Calls Try.prog 59 #[.func (.func K) #[] caps] w (Ret (.tuple #[.agg #[.int .i64 ((loA r).1 : Int), .int .i64 ((loA r).2 : Int)], .int .i64 (erA r)]) w) := by
  have h1 := h _ (((Keeps.refl w).alloc (.cells #[.int .i64 0, .int .i64 0] 106)).alloc (.cells #[.int .i64 0] 24))
  cases r with
  | inl k => exact answer_pan_longest K caps w k hcf h1
  | inr x => exact answer_ok_longest K caps w x.1 x.2 hcf h1
def longR (p : Pr) : Sum Int (Nat × Nat) := bif p.ok then bif p.n.known.isEmpty then .inl 10 else .inr p.n.longA else .inl 1
set_option maxRecDepth 100000 in
theorem longest1_any (p : Pr) (bp : Nat) (w : World) (hp : p.In w) (hbp : w.heap[bp]? = some (.cells #[.slice p.ba p.bs.length p.bc, .int .i64 p.zlo, .int .i64 p.zhi, .int .i64 p.rlo, .int .i64 p.rhi, .slice p.ra p.rs.length p.rc] 30 (0, 0))) : Calls Try.prog 60 #[.pointer (some ⟨bp, 0, none⟩)] w (WL (longR p) w) := by
  refine calls_run (fn := f60) (c := (f60.body).getD .skip) [.pointer (some ⟨bp, 0, none⟩)] func60 (by kernel_rfl) (fun _ => False) [] (fun _ h => by cases h) (List.Pairwise.nil) 10 (by kernel_rfl) (by simp) ?_
  refine run_auto [] 2 [] [] [0] [] (st' := ⟨[(0, .pointer (some ⟨bp, 0, none⟩))], []⟩) (acc := []) (by kernel_rfl) (by kernel_rfl) trivial ?_
  refine run_new (.cells #[.int .i64 0, .int .i64 0] 106 (0, 0)) (fun b1 => .pointer (some ⟨b1, 0, none⟩)) (some 1) (fun _ => by kernel_rfl) (fun b1 hb1 => ?_)
  refine run_auto [] 3 [] [] [0, 1] [0] (st' := ⟨[(0, .pointer (some ⟨bp, 0, none⟩)), (1, .pointer (some ⟨b1, 0, none⟩))], [(b1, .cells #[.int .i64 0, .int .i64 0] 106 (0, 0))]⟩) (acc := []) (by kernel_rfl) (by kernel_rfl) trivial ?_
  refine run_v (Instr.loadAt 30 (.pointer (some ⟨bp, 0, none⟩)) >>= fun v => pure (Next.value v)) (some 2) (.agg #[.slice p.ba p.bs.length p.bc, .int .i64 p.zlo, .int .i64 p.zhi, .int .i64 p.rlo, .int .i64 p.rhi, .slice p.ra p.rs.length p.rc]) (by kernel_rfl) (fun w1 k1 h1 => load_in (base := 0) (off := 0) k1 (fun h => h) [.slice p.ba p.bs.length p.bc, .int .i64 p.zlo, .int .i64 p.zhi, .int .i64 p.rlo, .int .i64 p.rhi, .slice p.ra p.rs.length p.rc] (fun i u hi => by rw [Nat.zero_add]; exact cells_of_heap hbp i u hi) (by kernel_rfl)) ?_
  cases hd1 : p.ok with
  | false =>
    exact run_panics rfl (Nat.le_refl _) 36 #[.agg #[.slice p.ba p.bs.length p.bc, .int .i64 p.zlo, .int .i64 p.zhi, .int .i64 p.rlo, .int .i64 p.rhi, .slice p.ra p.rs.length p.rc]] (some 3) (pe 1) (by kernel_rfl) (fun w1 k1 h1 => (by have h := needPair_any p w1 (hp.keep (k1.keeps (fun _ h => h))); rw [hd1] at h; exact h)) (fun w1 k1 h1 => (by unfold longR; rw [hd1]; exact ⟨rfl, k1.keeps (fun _ h => h)⟩))
  | true =>
    have hF := Pr.fine hd1
    refine run_ret1 36 #[.agg #[.slice p.ba p.bs.length p.bc, .int .i64 p.zlo, .int .i64 p.zhi, .int .i64 p.rlo, .int .i64 p.rhi, .slice p.ra p.rs.length p.rc]] (some 3) (.tuple #[]) (by kernel_rfl) (fun w1 k1 h1 => (by have h := needPair_any p w1 (hp.keep (k1.keeps (fun _ h => h))); rw [hd1] at h; exact h)) ?_
    refine run_auto [] 2 [] [] [0, 1] [0] (st' := ⟨[(0, .pointer (some ⟨bp, 0, none⟩)), (1, .pointer (some ⟨b1, 0, none⟩))], [(b1, .cells #[.int .i64 0, .int .i64 0] 106 (0, 0))]⟩) (acc := []) (by kernel_rfl) (by kernel_rfl) trivial ?_
    cases hd2 : p.n.known.isEmpty with
    | false =>
      refine draw 7 [{ val := fun _ => .pointer (some ⟨bp, 0, none⟩), slots := [0] },
              { val := fun _ => .slice p.ba p.bs.length p.bc, slots := [4] },
              { val := fun _ => .int .i64 (p.bs.length : Int), slots := [5] },
              { val := fun _ => .agg #[.slice p.ba p.bs.length p.bc, .int .i64 p.zlo, .int .i64 p.zhi, .int .i64 p.rlo, .int .i64 p.rhi, .slice p.ra p.rs.length p.rc], slots := [0] },
              { names := [5], val := fun l => .map (some (l.getD 0 0)), upd := [(5, fun l => .map (entF p.n.known) p.n.known.length)], news := [5], slots := [7] },
              { val := fun _ => .agg #[.int .i64 (p.n.longA.1 : Int), .int .i64 (p.n.longA.2 : Int)], slots := [6, 8], reads := [5] },
              { upd := [(0, fun l => .cells #[.int .i64 (p.n.longA.1 : Int), .int .i64 (p.n.longA.2 : Int)] 106 (0, 0))], slots := [1, 9], reads := [0] }] [[], [0], [0, 1], [], [3], [0, 1, 2, 3, 4], [0, 1, 2, 3, 4, 5]] (by kernel_rfl) (by kernel_rfl) (by kernel_rfl) (by kernel_rfl) [1] [0] (by kernel_rfl)
              ⟨⟨⟨⟨⟨⟨⟨trivial,
              tri_quiet (fun β => []) [] [] (fun β => []) (by kernel_rfl) (fun β extra => by kernel_rfl) (by kernel_rfl) (fun β => trivial)⟩,
              tri_v (fun β => (Instr.loadAt 27 (.pointer (some ⟨bp, 0, none⟩)) >>= fun v => pure (Next.value v))) (by kernel_rfl) (fun β extra => by kernel_rfl) (fun β => by kernel_rfl) (fun β w1 k1 h1 => load_in (base := 0) (off := 0) k1 (fun h => h) [.slice p.ba p.bs.length p.bc, .int .i64 p.zlo, .int .i64 p.zhi, .int .i64 p.rlo, .int .i64 p.rhi, .slice p.ra p.rs.length p.rc] (fun i u hi => by rw [Nat.zero_add]; exact cells_of_heap hbp i u hi) (by kernel_rfl))⟩,
              tri_quiet (fun β => []) [] [] (fun β => []) (by kernel_rfl) (fun β extra => by kernel_rfl) (by kernel_rfl) (fun β => trivial)⟩,
              tri_v (fun β => (Instr.loadAt 30 (.pointer (some ⟨bp, 0, none⟩)) >>= fun v => pure (Next.value v))) (by kernel_rfl) (fun β extra => by kernel_rfl) (fun β => by kernel_rfl) (fun β w1 k1 h1 => load_in (base := 0) (off := 0) k1 (fun h => h) [.slice p.ba p.bs.length p.bc, .int .i64 p.zlo, .int .i64 p.zhi, .int .i64 p.rlo, .int .i64 p.rhi, .slice p.ra p.rs.length p.rc] (fun i u hi => by rw [Nat.zero_add]; exact cells_of_heap hbp i u hi) (by kernel_rfl))⟩,
              tri_nw 5 (fun β b => .map (some b)) (fun β => .map (entF p.n.known) p.n.known.length) 40 (fun β => #[.agg #[.slice p.ba p.bs.length p.bc, .int .i64 p.zlo, .int .i64 p.zhi, .int .i64 p.rlo, .int .i64 p.rhi, .slice p.ra p.rs.length p.rc]]) (by kernel_rfl) (fun β extra => by kernel_rfl) (fun β => by kernel_rfl) (fun β b => by kernel_rfl) (fun β b => by kernel_rfl) (fun β b => by kernel_rfl) (fun β w1 k1 h1 => truths_yes (hp.keep (k1.keeps (fun _ h => h))) hF hd2)⟩,
              tri_call 61 (fun β => #[.int .i64 (p.bs.length : Int), .map (some (β 5))]) (by kernel_rfl) (fun β extra => by kernel_rfl) (fun β => by kernel_rfl) (fun β w1 k1 h1 => longestOf_any p (β 5) w1 hF (h1 ((β 5), .map (entF p.n.known) p.n.known.length) (List.mem_of_getElem? (i := 0) (by kernel_rfl))))⟩,
              tri_quiet (fun β => []) [0] [0] (fun β => [(.pointer (some ⟨b1, 0, none⟩), .pointer (some ⟨b1, 0, none⟩))]) (by kernel_rfl) (fun β extra => by kernel_rfl) (by kernel_rfl) (fun β => ⟨rfl, trivial⟩)⟩
              (fun β => ⟨[(1, .pointer (some ⟨b1, 0, none⟩))], [(b1, .cells #[.int .i64 (p.n.longA.1 : Int), .int .i64 (p.n.longA.2 : Int)] 106 (0, 0))]⟩) (fun β => by kernel_rfl) (fun β2 => ?_)
      refine run_end (fn := f60) rfl (Nat.le_refl _) (by kernel_rfl) [0] [.agg #[.int .i64 (p.n.longA.1 : Int), .int .i64 (p.n.longA.2 : Int)]] (e := [(.pointer (some ⟨b1, 0, none⟩), .pointer (some ⟨b1, 0, none⟩))]) (by kernel_rfl) ⟨rfl, trivial⟩ (fun w1 k1 h1 => ?_)
      unfold longR
      rw [hd1, hd2]
      exact ⟨rfl, k1.keeps (fun _ h => h)⟩
    | true =>
      refine draw 7 [{ val := fun _ => .pointer (some ⟨bp, 0, none⟩), slots := [0] },
              { val := fun _ => .slice p.ba p.bs.length p.bc, slots := [4] },
              { val := fun _ => .int .i64 (p.bs.length : Int), slots := [5] },
              { val := fun _ => .agg #[.slice p.ba p.bs.length p.bc, .int .i64 p.zlo, .int .i64 p.zhi, .int .i64 p.rlo, .int .i64 p.rhi, .slice p.ra p.rs.length p.rc], slots := [0] },
              { upd := [(5, fun _ => .deferred none)], news := [5], slots := [7] },
              { reads := [5] },
              { reads := [5] }] [[], [0], [0, 1], [], [3], [0, 1, 2, 3, 4], [0, 1, 2, 3, 4, 5]] (by kernel_rfl) (by kernel_rfl) (by kernel_rfl) (by kernel_rfl) [] [5] (by kernel_rfl)
              ⟨⟨⟨⟨⟨⟨⟨trivial,
              tri_quiet (fun β => []) [] [] (fun β => []) (by kernel_rfl) (fun β extra => by kernel_rfl) (by kernel_rfl) (fun β => trivial)⟩,
              tri_v (fun β => (Instr.loadAt 27 (.pointer (some ⟨bp, 0, none⟩)) >>= fun v => pure (Next.value v))) (by kernel_rfl) (fun β extra => by kernel_rfl) (fun β => by kernel_rfl) (fun β w1 k1 h1 => load_in (base := 0) (off := 0) k1 (fun h => h) [.slice p.ba p.bs.length p.bc, .int .i64 p.zlo, .int .i64 p.zhi, .int .i64 p.rlo, .int .i64 p.rhi, .slice p.ra p.rs.length p.rc] (fun i u hi => by rw [Nat.zero_add]; exact cells_of_heap hbp i u hi) (by kernel_rfl))⟩,
              tri_quiet (fun β => []) [] [] (fun β => []) (by kernel_rfl) (fun β extra => by kernel_rfl) (by kernel_rfl) (fun β => trivial)⟩,
              tri_v (fun β => (Instr.loadAt 30 (.pointer (some ⟨bp, 0, none⟩)) >>= fun v => pure (Next.value v))) (by kernel_rfl) (fun β extra => by kernel_rfl) (fun β => by kernel_rfl) (fun β w1 k1 h1 => load_in (base := 0) (off := 0) k1 (fun h => h) [.slice p.ba p.bs.length p.bc, .int .i64 p.zlo, .int .i64 p.zhi, .int .i64 p.rlo, .int .i64 p.rhi, .slice p.ra p.rs.length p.rc] (fun i u hi => by rw [Nat.zero_add]; exact cells_of_heap hbp i u hi) (by kernel_rfl))⟩,
              tri_panics rfl (Nat.le_refl _) 40 (fun β => #[.agg #[.slice p.ba p.bs.length p.bc, .int .i64 p.zlo, .int .i64 p.zhi, .int .i64 p.rlo, .int .i64 p.rhi, .slice p.ra p.rs.length p.rc]]) (pe 10) (fun β extra => by kernel_rfl) (fun β w1 k1 h1 => truths_no (hp.keep (k1.keeps (fun _ h => h))) hF hd2) (fun w1 k1 => (by unfold longR; rw [hd1, hd2]; exact ⟨rfl, k1.keeps (fun _ h => h)⟩))⟩,
              tri_void (fun β => ⟨β 5, [], by kernel_rfl⟩)⟩,
              tri_void (fun β => ⟨β 5, [], by kernel_rfl⟩)⟩
              (fun β => ⟨[], [(β 5, .deferred none)]⟩) (fun β => by kernel_rfl) (fun β2 => run_void)

set_option maxRecDepth 100000 in
theorem Longest_any (p : Pr) (w : World) (hp : p.In w) : Calls Try.prog 23 #[.agg #[.slice p.ba p.bs.length p.bc, .int .i64 p.zlo, .int .i64 p.zhi, .int .i64 p.rlo, .int .i64 p.rhi, .slice p.ra p.rs.length p.rc]] w (Ret (.tuple #[.int .i64 ((loA (longR p)).1 : Int), .int .i64 ((loA (longR p)).2 : Int), .int .i64 (erA (longR p))]) w) := by
  refine calls_run (fn := f23) (c := (f23.body).getD .skip) [.agg #[.slice p.ba p.bs.length p.bc, .int .i64 p.zlo, .int .i64 p.zhi, .int .i64 p.rlo, .int .i64 p.rhi, .slice p.ra p.rs.length p.rc]] func23 (by kernel_rfl) (fun _ => False) [] (fun _ h => by cases h) (List.Pairwise.nil) 16 (by kernel_rfl) (by simp) ?_
  refine run_auto [] 2 [] [] [0] [] (st' := ⟨[(0, .agg #[.slice p.ba p.bs.length p.bc, .int .i64 p.zlo, .int .i64 p.zhi, .int .i64 p.rlo, .int .i64 p.rhi, .slice p.ra p.rs.length p.rc])], []⟩) (acc := []) (by kernel_rfl) (by kernel_rfl) trivial ?_
  refine run_new (.cells #[.slice p.ba p.bs.length p.bc, .int .i64 p.zlo, .int .i64 p.zhi, .int .i64 p.rlo, .int .i64 p.rhi, .slice p.ra p.rs.length p.rc] 30 (0, 0)) (fun b1 => .pointer (some ⟨b1, 0, none⟩)) (some 1) (fun _ => by kernel_rfl) (fun b1 hb1 => ?_)
  refine run_auto [] 7 [] [] [2, 3, 4, 7] [0] (st' := ⟨[(2, .int .i64 0), (3, .int .i64 0), (4, .int .i64 0), (7, .func (.func 60) #[] #[.pointer (some ⟨b1, 0, none⟩)])], [(b1, .cells #[.slice p.ba p.bs.length p.bc, .int .i64 p.zlo, .int .i64 p.zhi, .int .i64 p.rlo, .int .i64 p.rhi, .slice p.ra p.rs.length p.rc] 30 (0, 0))]⟩) (acc := []) (by kernel_rfl) (by kernel_rfl) trivial ?_
  refine run_ret1 59 #[.func (.func 60) #[] #[.pointer (some ⟨b1, 0, none⟩)]] (some 8) (.tuple #[.agg #[.int .i64 ((loA (longR p)).1 : Int), .int .i64 ((loA (longR p)).2 : Int)], .int .i64 (erA (longR p))]) (by kernel_rfl) (fun w1 k1 h1 => answer_long 60 #[.pointer (some ⟨b1, 0, none⟩)] w1 (longR p) (fun _ => by kernel_rfl) (fun w2 kk => longest1_any p b1 w2 ((hp.keep (k1.keeps (fun _ h => h))).keep kk) ((kk.heap (Array.getElem?_eq_some_iff.1 (h1 (b1, .cells #[.slice p.ba p.bs.length p.bc, .int .i64 p.zlo, .int .i64 p.zhi, .int .i64 p.rlo, .int .i64 p.rhi, .slice p.ra p.rs.length p.rc] 30 (0, 0)) (List.mem_of_getElem? (i := 0) (by kernel_rfl)))).1).trans (h1 (b1, .cells #[.slice p.ba p.bs.length p.bc, .int .i64 p.zlo, .int .i64 p.zhi, .int .i64 p.rlo, .int .i64 p.rhi, .slice p.ra p.rs.length p.rc] 30 (0, 0)) (List.mem_of_getElem? (i := 0) (by kernel_rfl)))))) ?_
  refine run_auto [] 3 [] [] [2, 3, 4, 9, 10] [] (st' := ⟨[(2, .int .i64 0), (3, .int .i64 0), (4, .int .i64 0), (9, .agg #[.int .i64 ((loA (longR p)).1 : Int), .int .i64 ((loA (longR p)).2 : Int)]), (10, .int .i64 (erA (longR p)))], []⟩) (acc := []) (by kernel_rfl) (by kernel_rfl) trivial ?_
  refine run_new (.cells #[.int .i64 0, .int .i64 0] 106 (0, 0)) (fun b2 => .pointer (some ⟨b2, 0, none⟩)) (some 5) (fun _ => by kernel_rfl) (fun b2 hb2 => ?_)
  refine run_auto [] 4 [] [0] [2, 3, 4, 5] [0] (st' := ⟨[(2, .int .i64 0), (3, .int .i64 0), (4, .int .i64 (erA (longR p))), (5, .pointer (some ⟨b2, 0, none⟩))], [(b2, .cells #[.int .i64 ((loA (longR p)).1 : Int), .int .i64 ((loA (longR p)).2 : Int)] 106 (0, 0))]⟩) (acc := [(.pointer (some ⟨b2, 0, none⟩), .pointer (some ⟨b2, 0, none⟩))]) (by kernel_rfl) (by kernel_rfl) ⟨rfl, trivial⟩ ?_
  refine draw 8 [{ val := fun _ => .pointer (some ⟨b2, 0, none⟩), slots := [5] },
      { val := fun _ => .int .i64 ((loA (longR p)).1 : Int), slots := [11], reads := [0] },
      { val := fun _ => .pointer (some ⟨b2, 1, none⟩), slots := [5] },
      { val := fun _ => .int .i64 ((loA (longR p)).2 : Int), slots := [13], reads := [0] },
      { val := fun _ => .int .i64 (erA (longR p)), slots := [4] },
      { val := fun _ => .int .i64 ((loA (longR p)).1 : Int), slots := [12] },
      { val := fun _ => .int .i64 ((loA (longR p)).2 : Int), slots := [14] },
      { val := fun _ => .int .i64 (erA (longR p)), slots := [15] }] [[], [0], [], [2], [], [0, 1], [0, 1, 2, 3, 5], [0, 1, 2, 3, 4, 5, 6]] (by kernel_rfl) (by kernel_rfl) (by kernel_rfl) (by kernel_rfl) [2, 3, 4] [] (by kernel_rfl)
      ⟨⟨⟨⟨⟨⟨⟨⟨trivial,
      tri_quiet (fun β => []) [] [] (fun β => []) (by kernel_rfl) (fun β extra => by kernel_rfl) (by kernel_rfl) (fun β => trivial)⟩,
      tri_quiet (fun β => []) [0] [0] (fun β => [(.pointer (some ⟨b2, 0, none⟩), .pointer (some ⟨b2, 0, none⟩))]) (by kernel_rfl) (fun β extra => by kernel_rfl) (by kernel_rfl) (fun β => ⟨rfl, trivial⟩)⟩,
      tri_quiet (fun β => []) [] [] (fun β => []) (by kernel_rfl) (fun β extra => by kernel_rfl) (by kernel_rfl) (fun β => trivial)⟩,
      tri_quiet (fun β => []) [0] [0] (fun β => [(.pointer (some ⟨b2, 0, none⟩), .pointer (some ⟨b2, 0, none⟩))]) (by kernel_rfl) (fun β extra => by kernel_rfl) (by kernel_rfl) (fun β => ⟨rfl, trivial⟩)⟩,
      tri_quiet (fun β => []) [] [] (fun β => []) (by kernel_rfl) (fun β extra => by kernel_rfl) (by kernel_rfl) (fun β => trivial)⟩,
      tri_quiet (fun β => []) [] [] (fun β => []) (by kernel_rfl) (fun β extra => by kernel_rfl) (by kernel_rfl) (fun β => trivial)⟩,
      tri_quiet (fun β => []) [] [] (fun β => []) (by kernel_rfl) (fun β extra => by kernel_rfl) (by kernel_rfl) (fun β => trivial)⟩,
      tri_quiet (fun β => []) [] [] (fun β => []) (by kernel_rfl) (fun β extra => by kernel_rfl) (by kernel_rfl) (fun β => trivial)⟩
      (fun β => ⟨[(2, .int .i64 ((loA (longR p)).1 : Int)), (3, .int .i64 ((loA (longR p)).2 : Int)), (4, .int .i64 (erA (longR p)))], []⟩) (fun β => by kernel_rfl) (fun β3 => ?_)
  refine run_end (fn := f23) rfl (Nat.le_refl _) (by kernel_rfl) [] [.int .i64 ((loA (longR p)).1 : Int), .int .i64 ((loA (longR p)).2 : Int), .int .i64 (erA (longR p))] (e := []) (by kernel_rfl) trivial (fun w1 k1 h1 => ?_)
  exact ⟨rfl, k1.keeps (fun _ h => h)⟩

end Go.Proofs.Ytmiobcnccbfknaa
