/-
  PAIR: Known, Differ, Shows.
-/
import Derived.Test.YtmiobcnccbfknaaB3
import Derived.Test.YtmiobcnccbfknaaB4
namespace Go.Proofs.Ytmiobcnccbfknaa
open Go.RowKit Go.Proofs.Try


theorem mild {p : Pr} (h : p.Fine) : Mild p.n.known := by
  intro k hk
  have h1 := Prn.mem_known.1 hk
  obtain ⟨hd, hs, _⟩ := Prn.left_some h.ok h1.2
  have h2 := Prn.mem_comps.1 h1.1
  have h3 : p.zlo ≤ k.1.1 ∧ k.1.1 ≤ p.zhi := h2.1
  have h4 : p.rlo ≤ k.1.2 ∧ k.1.2 ≤ p.rhi := h2.2
  have hz := h.z
  have hr := h.r
  refine ⟨fun i j hi hj => ?_, by omega, by omega⟩
  have := Gp.low hd hs hi hj
  have := hs i j hi hj
  omega
/-- What work gives: a span, or a panic. -/
def W2 (r : Sum Int (Int × Int)) (w : World) (e : Ending) (w' : World) : Prop := match r with
  | .inl k => Pan k w e w'
  | .inr x => Ret (.agg #[.int .i64 x.1, .int .i64 x.2]) w e w'
def spA (r : Sum Int (Int × Int)) : Int × Int := match r with
  | .inl _ => (0, 0)
  | .inr x => x
def erA {α : Type} (r : Sum Int α) : Int := match r with
  | .inl k => k
  | .inr _ => 0
theorem answer_span (K : Nat) (caps : Array Value) (w : World) (r : Sum Int (Int × Int)) (hcf : ∀ w, (callFunc K caps).run Try.prog w = .ok (.enter K caps) w) (h : ∀ w1, Keeps w w1 → Calls Try.prog K caps w1 (W2 r w1)) : Calls Try.prog 34 #[.func (.func K) #[] caps] w (Ret (.tuple #[.agg #[.int .i64 (spA r).1, .int .i64 (spA r).2], .int .i64 (erA r)]) w) := by
  have h1 := h _ (((Keeps.refl w).alloc (.cells #[.int .i64 0, .int .i64 0] 23)).alloc (.cells #[.int .i64 0] 24))
  cases r with
  | inl k => exact answer_pan_span K caps w k hcf h1
  | inr x => exact answer_ok_span K caps w x.1 x.2 hcf h1
theorem truths_no {p : Pr} {w : World} (hp : p.In w) (hF : p.Fine) (h : p.n.known.isEmpty = true) : Calls Try.prog 40 #[.agg #[.slice p.ba p.bs.length p.bc, .int .i64 p.zlo, .int .i64 p.zhi, .int .i64 p.rlo, .int .i64 p.rhi, .slice p.ra p.rs.length p.rc]] w (Pan 10 w) := (truths_any p w hp hF).mono fun e w' he => by
  unfold Truths at he
  rw [if_pos (List.isEmpty_iff.1 h)] at he
  exact he
theorem truths_yes {p : Pr} {w : World} (hp : p.In w) (hF : p.Fine) (h : p.n.known.isEmpty = false) : Calls Try.prog 40 #[.agg #[.slice p.ba p.bs.length p.bc, .int .i64 p.zlo, .int .i64 p.zhi, .int .i64 p.rlo, .int .i64 p.rhi, .slice p.ra p.rs.length p.rc]] w (Nw (α := Unit) (fun _ b => .map (some b)) (fun _ => .map (entF p.n.known) p.n.known.length) (fun _ => True) w) := (truths_any p w hp hF).mono fun e w' he => by
  unfold Truths at he
  rw [if_neg (fun h0 => by rw [h0] at h; cases h)] at he
  exact he
def knownR (p : Pr) (n : Int) : Sum Int (Int × Int) := bif p.ok then bif blkB n p.bs.length then bif p.n.known.isEmpty then .inl 10 else .inr (p.n.differA n.toNat 5) else .inl 2 else .inl 1
def differR (p : Pr) (a b : Int) : Sum Int (Int × Int) := bif p.ok then bif blkB a p.bs.length then bif blkB b p.bs.length then bif p.n.known.isEmpty then .inl 10 else .inr (p.n.differA a.toNat b.toNat) else .inl 2 else .inl 2 else .inl 1
def showsR (p : Pr) (m : Int) : Sum Int (Int × Int) := bif p.ok then bif minB m then bif p.n.known.isEmpty then .inl 10 else .inr (p.n.showsA m) else .inl 2 else .inl 1
set_option maxRecDepth 100000 in
theorem known1_any (p : Pr) (n : Int) (bp b_n : Nat) (w : World) (hp : p.In w) (hbp : w.heap[bp]? = some (.cells #[.slice p.ba p.bs.length p.bc, .int .i64 p.zlo, .int .i64 p.zhi, .int .i64 p.rlo, .int .i64 p.rhi, .slice p.ra p.rs.length p.rc] 30 (0, 0))) (hb_n : w.heap[b_n]? = some (.cells #[.int .i64 n] 3 (0, 0))) : Calls Try.prog 35 #[.pointer (some ⟨bp, 0, none⟩), .pointer (some ⟨b_n, 0, none⟩)] w (W2 (knownR p n) w) := by
  refine calls_run (fn := f35) (c := (f35.body).getD .skip) [.pointer (some ⟨bp, 0, none⟩), .pointer (some ⟨b_n, 0, none⟩)] func35 (by kernel_rfl) (fun _ => False) [] (fun _ h => by cases h) (List.Pairwise.nil) 15 (by kernel_rfl) (by simp) ?_
  refine run_auto [] 2 [] [] [0, 1] [] (st' := ⟨[(0, .pointer (some ⟨bp, 0, none⟩)), (1, .pointer (some ⟨b_n, 0, none⟩))], []⟩) (acc := []) (by kernel_rfl) (by kernel_rfl) trivial ?_
  refine run_new (.cells #[.int .i64 0, .int .i64 0] 23 (0, 0)) (fun b1 => .pointer (some ⟨b1, 0, none⟩)) (some 2) (fun _ => by kernel_rfl) (fun b1 hb1 => ?_)
  refine run_auto [] 3 [] [] [0, 1, 2] [0] (st' := ⟨[(0, .pointer (some ⟨bp, 0, none⟩)), (1, .pointer (some ⟨b_n, 0, none⟩)), (2, .pointer (some ⟨b1, 0, none⟩))], [(b1, .cells #[.int .i64 0, .int .i64 0] 23 (0, 0))]⟩) (acc := []) (by kernel_rfl) (by kernel_rfl) trivial ?_
  refine run_v (Instr.loadAt 30 (.pointer (some ⟨bp, 0, none⟩)) >>= fun v => pure (Next.value v)) (some 3) (.agg #[.slice p.ba p.bs.length p.bc, .int .i64 p.zlo, .int .i64 p.zhi, .int .i64 p.rlo, .int .i64 p.rhi, .slice p.ra p.rs.length p.rc]) (by kernel_rfl) (fun w1 k1 h1 => load_in (base := 0) (off := 0) k1 (fun h => h) [.slice p.ba p.bs.length p.bc, .int .i64 p.zlo, .int .i64 p.zhi, .int .i64 p.rlo, .int .i64 p.rhi, .slice p.ra p.rs.length p.rc] (fun i u hi => by rw [Nat.zero_add]; exact cells_of_heap hbp i u hi) (by kernel_rfl)) ?_
  cases hd1 : p.ok with
  | false =>
    exact run_panics rfl (Nat.le_refl _) 36 #[.agg #[.slice p.ba p.bs.length p.bc, .int .i64 p.zlo, .int .i64 p.zhi, .int .i64 p.rlo, .int .i64 p.rhi, .slice p.ra p.rs.length p.rc]] (some 4) (pe 1) (by kernel_rfl) (fun w1 k1 h1 => (by have h := needPair_any p w1 (hp.keep (k1.keeps (fun _ h => h))); rw [hd1] at h; exact h)) (fun w1 k1 h1 => (by unfold knownR; rw [hd1]; exact ⟨rfl, k1.keeps (fun _ h => h)⟩))
  | true =>
    have hF := Pr.fine hd1
    have hb5 := hF.b5
    refine run_ret1 36 #[.agg #[.slice p.ba p.bs.length p.bc, .int .i64 p.zlo, .int .i64 p.zhi, .int .i64 p.rlo, .int .i64 p.rhi, .slice p.ra p.rs.length p.rc]] (some 4) (.tuple #[]) (by kernel_rfl) (fun w1 k1 h1 => (by have h := needPair_any p w1 (hp.keep (k1.keeps (fun _ h => h))); rw [hd1] at h; exact h)) ?_
    refine run_auto [] 3 [] [] [0, 1, 2] [0] (st' := ⟨[(0, .pointer (some ⟨bp, 0, none⟩)), (1, .pointer (some ⟨b_n, 0, none⟩)), (2, .pointer (some ⟨b1, 0, none⟩))], [(b1, .cells #[.int .i64 0, .int .i64 0] 23 (0, 0))]⟩) (acc := []) (by kernel_rfl) (by kernel_rfl) trivial ?_
    refine run_v (Instr.loadAt 30 (.pointer (some ⟨bp, 0, none⟩)) >>= fun v => pure (Next.value v)) (some 5) (.agg #[.slice p.ba p.bs.length p.bc, .int .i64 p.zlo, .int .i64 p.zhi, .int .i64 p.rlo, .int .i64 p.rhi, .slice p.ra p.rs.length p.rc]) (by kernel_rfl) (fun w1 k1 h1 => load_in (base := 0) (off := 0) k1 (fun h => h) [.slice p.ba p.bs.length p.bc, .int .i64 p.zlo, .int .i64 p.zhi, .int .i64 p.rlo, .int .i64 p.rhi, .slice p.ra p.rs.length p.rc] (fun i u hi => by rw [Nat.zero_add]; exact cells_of_heap hbp i u hi) (by kernel_rfl)) ?_
    refine run_v (Instr.loadAt 3 (.pointer (some ⟨b_n, 0, none⟩)) >>= fun v => pure (Next.value v)) (some 6) (.int .i64 n) (by kernel_rfl) (fun w1 k1 h1 => load_in (base := 0) (off := 0) k1 (fun h => h) [.int .i64 n] (fun i u hi => by rw [Nat.zero_add]; exact cells_of_heap hb_n i u hi) (by kernel_rfl)) ?_
    cases hd2 : (blkB n (p.bs.length : Int)) with
    | false =>
      exact run_panics rfl (Nat.le_refl _) 37 #[.agg #[.slice p.ba p.bs.length p.bc, .int .i64 p.zlo, .int .i64 p.zhi, .int .i64 p.rlo, .int .i64 p.rhi, .slice p.ra p.rs.length p.rc], .int .i64 n] (some 7) (pe 2) (by kernel_rfl) (fun w1 k1 h1 => (by have h := needBlock_any p n w1; rw [hd2] at h; exact h)) (fun w1 k1 h1 => (by unfold knownR; rw [hd1, hd2]; exact ⟨rfl, k1.keeps (fun _ h => h)⟩))
    | true =>
      obtain ⟨nn, rfl⟩ : ∃ nn : Nat, n = (nn : Int) := ⟨n.toNat, by have h := hd2; unfold blkB at h; simp only [decide_eq_true_eq] at h; omega⟩
      have hltn : nn < p.bs.length := by have h := hd2; unfold blkB at h; simp only [decide_eq_true_eq] at h; omega
      refine run_ret1 37 #[.agg #[.slice p.ba p.bs.length p.bc, .int .i64 p.zlo, .int .i64 p.zhi, .int .i64 p.rlo, .int .i64 p.rhi, .slice p.ra p.rs.length p.rc], .int .i64 (nn : Int)] (some 7) (.tuple #[]) (by kernel_rfl) (fun w1 k1 h1 => (by have h := needBlock_any p (nn : Int) w1; rw [hd2] at h; exact h)) ?_
      refine run_auto [] 2 [] [] [0, 1, 2] [0] (st' := ⟨[(0, .pointer (some ⟨bp, 0, none⟩)), (1, .pointer (some ⟨b_n, 0, none⟩)), (2, .pointer (some ⟨b1, 0, none⟩))], [(b1, .cells #[.int .i64 0, .int .i64 0] 23 (0, 0))]⟩) (acc := []) (by kernel_rfl) (by kernel_rfl) trivial ?_
      cases hd3 : p.n.known.isEmpty with
      | false =>
        refine draw 8 [{ val := fun _ => .agg #[.slice p.ba p.bs.length p.bc, .int .i64 p.zlo, .int .i64 p.zhi, .int .i64 p.rlo, .int .i64 p.rhi, .slice p.ra p.rs.length p.rc], slots := [0] },
                  { names := [2], val := fun l => .map (some (l.getD 0 0)), upd := [(2, fun l => .map (entF p.n.known) p.n.known.length)], news := [2], slots := [8] },
                  { names := [2, 3], val := fun l => .func (.func 76) #[] #[.pointer (some ⟨(l.getD 1 0), 0, none⟩)], upd := [(3, fun l => .cells #[.map (some (l.getD 0 0))] 77 (0, 0))], news := [3], slots := [9] },
                  { val := fun _ => .int .i64 (nn : Int), slots := [1] },
                  { val := fun _ => .agg #[.int .i64 (nn : Int), .int .i64 5], slots := [11] },
                  { val := fun _ => .agg #[.func (.func 41) #[] #[], .int .i64 (nn : Int), .int .i64 5], slots := [12] },
                  { val := fun _ => .agg #[.int .i64 (p.n.differA nn 5).1, .int .i64 (p.n.differA nn 5).2], slots := [10, 13], reads := [3, 2] },
                  { upd := [(0, fun l => .cells #[.int .i64 (p.n.differA nn 5).1, .int .i64 (p.n.differA nn 5).2] 23 (0, 0))], slots := [2, 14], reads := [0] }] [[], [0], [0, 1], [], [3], [3, 4], [0, 1, 2, 3, 4, 5], [0, 1, 2, 3, 4, 5, 6]] (by kernel_rfl) (by kernel_rfl) (by kernel_rfl) (by kernel_rfl) [2] [0] (by kernel_rfl)
                  ⟨⟨⟨⟨⟨⟨⟨⟨trivial,
                  tri_v (fun β => (Instr.loadAt 30 (.pointer (some ⟨bp, 0, none⟩)) >>= fun v => pure (Next.value v))) (by kernel_rfl) (fun β extra => by kernel_rfl) (fun β => by kernel_rfl) (fun β w1 k1 h1 => load_in (base := 0) (off := 0) k1 (fun h => h) [.slice p.ba p.bs.length p.bc, .int .i64 p.zlo, .int .i64 p.zhi, .int .i64 p.rlo, .int .i64 p.rhi, .slice p.ra p.rs.length p.rc] (fun i u hi => by rw [Nat.zero_add]; exact cells_of_heap hbp i u hi) (by kernel_rfl))⟩,
                  tri_nw 2 (fun β b => .map (some b)) (fun β => .map (entF p.n.known) p.n.known.length) 40 (fun β => #[.agg #[.slice p.ba p.bs.length p.bc, .int .i64 p.zlo, .int .i64 p.zhi, .int .i64 p.rlo, .int .i64 p.rhi, .slice p.ra p.rs.length p.rc]]) (by kernel_rfl) (fun β extra => by kernel_rfl) (fun β => by kernel_rfl) (fun β b => by kernel_rfl) (fun β b => by kernel_rfl) (fun β b => by kernel_rfl) (fun β w1 k1 h1 => truths_yes (hp.keep (k1.keeps (fun _ h => h))) hF hd3)⟩,
                  tri_nw 3 (fun β b => .func (.func 76) #[] #[.pointer (some ⟨b, 0, none⟩)]) (fun β => .cells #[.map (some (β 2))] 77 (0, 0)) 39 (fun β => #[.map (some (β 2))]) (by kernel_rfl) (fun β extra => by kernel_rfl) (fun β => by kernel_rfl) (fun β b => by kernel_rfl) (fun β b => by kernel_rfl) (fun β b => by kernel_rfl) (fun β w1 k1 h1 => values_any (β 2) w1)⟩,
                  tri_v (fun β => (Instr.loadAt 3 (.pointer (some ⟨b_n, 0, none⟩)) >>= fun v => pure (Next.value v))) (by kernel_rfl) (fun β extra => by kernel_rfl) (fun β => by kernel_rfl) (fun β w1 k1 h1 => load_in (base := 0) (off := 0) k1 (fun h => h) [.int .i64 (nn : Int)] (fun i u hi => by rw [Nat.zero_add]; exact cells_of_heap hb_n i u hi) (by kernel_rfl))⟩,
                  tri_quiet (fun β => []) [] [] (fun β => []) (by kernel_rfl) (fun β extra => by kernel_rfl) (by kernel_rfl) (fun β => trivial)⟩,
                  tri_quiet (fun β => []) [] [] (fun β => []) (by kernel_rfl) (fun β extra => by kernel_rfl) (by kernel_rfl) (fun β => trivial)⟩,
                  tri_call 38 (fun β => #[.func (.func 76) #[] #[.pointer (some ⟨(β 3), 0, none⟩)], .agg #[.func (.func 41) #[] #[], .int .i64 (nn : Int), .int .i64 5]]) (by kernel_rfl) (fun β extra => by kernel_rfl) (fun β => by kernel_rfl) (fun β w1 k1 h1 => reach_gaps p.n.known (β 3) (β 2) nn 5 w1 (mild hF) (h1 ((β 3), .cells #[.map (some (β 2))] 77 (0, 0)) (List.mem_of_getElem? (i := 0) (by kernel_rfl))) (h1 ((β 2), .map (entF p.n.known) p.n.known.length) (List.mem_of_getElem? (i := 1) (by kernel_rfl))) (by omega) (by omega))⟩,
                  tri_quiet (fun β => []) [0] [0] (fun β => [(.pointer (some ⟨b1, 0, none⟩), .pointer (some ⟨b1, 0, none⟩))]) (by kernel_rfl) (fun β extra => by kernel_rfl) (by kernel_rfl) (fun β => ⟨rfl, trivial⟩)⟩
                  (fun β => ⟨[(2, .pointer (some ⟨b1, 0, none⟩))], [(b1, .cells #[.int .i64 (p.n.differA nn 5).1, .int .i64 (p.n.differA nn 5).2] 23 (0, 0))]⟩) (fun β => by kernel_rfl) (fun β2 => ?_)
        refine run_end (fn := f35) rfl (Nat.le_refl _) (by kernel_rfl) [0] [.agg #[.int .i64 (p.n.differA nn 5).1, .int .i64 (p.n.differA nn 5).2]] (e := [(.pointer (some ⟨b1, 0, none⟩), .pointer (some ⟨b1, 0, none⟩))]) (by kernel_rfl) ⟨rfl, trivial⟩ (fun w1 k1 h1 => ?_)
        unfold knownR
        rw [hd1, hd2, hd3]
        exact ⟨rfl, k1.keeps (fun _ h => h)⟩
      | true =>
        refine draw 8 [{ val := fun _ => .agg #[.slice p.ba p.bs.length p.bc, .int .i64 p.zlo, .int .i64 p.zhi, .int .i64 p.rlo, .int .i64 p.rhi, .slice p.ra p.rs.length p.rc], slots := [0] },
                  { upd := [(2, fun _ => .deferred none)], news := [2], slots := [8] },
                  { reads := [2] },
                  { val := fun _ => .int .i64 (nn : Int), slots := [1] },
                  { val := fun _ => .agg #[.int .i64 (nn : Int), .int .i64 5], slots := [11] },
                  { val := fun _ => .agg #[.func (.func 41) #[] #[], .int .i64 (nn : Int), .int .i64 5], slots := [12] },
                  { reads := [2] },
                  { reads := [2] }] [[], [0], [0, 1], [], [3], [3, 4], [0, 1, 2, 3, 4, 5], [0, 1, 2, 3, 4, 5, 6]] (by kernel_rfl) (by kernel_rfl) (by kernel_rfl) (by kernel_rfl) [] [2] (by kernel_rfl)
                  ⟨⟨⟨⟨⟨⟨⟨⟨trivial,
                  tri_v (fun β => (Instr.loadAt 30 (.pointer (some ⟨bp, 0, none⟩)) >>= fun v => pure (Next.value v))) (by kernel_rfl) (fun β extra => by kernel_rfl) (fun β => by kernel_rfl) (fun β w1 k1 h1 => load_in (base := 0) (off := 0) k1 (fun h => h) [.slice p.ba p.bs.length p.bc, .int .i64 p.zlo, .int .i64 p.zhi, .int .i64 p.rlo, .int .i64 p.rhi, .slice p.ra p.rs.length p.rc] (fun i u hi => by rw [Nat.zero_add]; exact cells_of_heap hbp i u hi) (by kernel_rfl))⟩,
                  tri_panics rfl (Nat.le_refl _) 40 (fun β => #[.agg #[.slice p.ba p.bs.length p.bc, .int .i64 p.zlo, .int .i64 p.zhi, .int .i64 p.rlo, .int .i64 p.rhi, .slice p.ra p.rs.length p.rc]]) (pe 10) (fun β extra => by kernel_rfl) (fun β w1 k1 h1 => truths_no (hp.keep (k1.keeps (fun _ h => h))) hF hd3) (fun w1 k1 => (by unfold knownR; rw [hd1, hd2, hd3]; exact ⟨rfl, k1.keeps (fun _ h => h)⟩))⟩,
                  tri_void (fun β => ⟨β 2, [], by kernel_rfl⟩)⟩,
                  tri_v (fun β => (Instr.loadAt 3 (.pointer (some ⟨b_n, 0, none⟩)) >>= fun v => pure (Next.value v))) (by kernel_rfl) (fun β extra => by kernel_rfl) (fun β => by kernel_rfl) (fun β w1 k1 h1 => load_in (base := 0) (off := 0) k1 (fun h => h) [.int .i64 (nn : Int)] (fun i u hi => by rw [Nat.zero_add]; exact cells_of_heap hb_n i u hi) (by kernel_rfl))⟩,
                  tri_quiet (fun β => []) [] [] (fun β => []) (by kernel_rfl) (fun β extra => by kernel_rfl) (by kernel_rfl) (fun β => trivial)⟩,
                  tri_quiet (fun β => []) [] [] (fun β => []) (by kernel_rfl) (fun β extra => by kernel_rfl) (by kernel_rfl) (fun β => trivial)⟩,
                  tri_void (fun β => ⟨β 2, [], by kernel_rfl⟩)⟩,
                  tri_void (fun β => ⟨β 2, [], by kernel_rfl⟩)⟩
                  (fun β => ⟨[], [(β 2, .deferred none)]⟩) (fun β => by kernel_rfl) (fun β2 => run_void)

set_option maxRecDepth 100000 in
theorem differ1_any (p : Pr) (a b : Int) (bp b_a b_b : Nat) (w : World) (hp : p.In w) (hbp : w.heap[bp]? = some (.cells #[.slice p.ba p.bs.length p.bc, .int .i64 p.zlo, .int .i64 p.zhi, .int .i64 p.rlo, .int .i64 p.rhi, .slice p.ra p.rs.length p.rc] 30 (0, 0))) (hb_a : w.heap[b_a]? = some (.cells #[.int .i64 a] 3 (0, 0))) (hb_b : w.heap[b_b]? = some (.cells #[.int .i64 b] 3 (0, 0))) : Calls Try.prog 42 #[.pointer (some ⟨bp, 0, none⟩), .pointer (some ⟨b_a, 0, none⟩), .pointer (some ⟨b_b, 0, none⟩)] w (W2 (differR p a b) w) := by
  refine calls_run (fn := f42) (c := (f42.body).getD .skip) [.pointer (some ⟨bp, 0, none⟩), .pointer (some ⟨b_a, 0, none⟩), .pointer (some ⟨b_b, 0, none⟩)] func42 (by kernel_rfl) (fun _ => False) [] (fun _ h => by cases h) (List.Pairwise.nil) 20 (by kernel_rfl) (by simp) ?_
  refine run_auto [] 2 [] [] [0, 1, 2] [] (st' := ⟨[(0, .pointer (some ⟨bp, 0, none⟩)), (1, .pointer (some ⟨b_a, 0, none⟩)), (2, .pointer (some ⟨b_b, 0, none⟩))], []⟩) (acc := []) (by kernel_rfl) (by kernel_rfl) trivial ?_
  refine run_new (.cells #[.int .i64 0, .int .i64 0] 23 (0, 0)) (fun b1 => .pointer (some ⟨b1, 0, none⟩)) (some 3) (fun _ => by kernel_rfl) (fun b1 hb1 => ?_)
  refine run_auto [] 3 [] [] [0, 1, 2, 3] [0] (st' := ⟨[(0, .pointer (some ⟨bp, 0, none⟩)), (1, .pointer (some ⟨b_a, 0, none⟩)), (2, .pointer (some ⟨b_b, 0, none⟩)), (3, .pointer (some ⟨b1, 0, none⟩))], [(b1, .cells #[.int .i64 0, .int .i64 0] 23 (0, 0))]⟩) (acc := []) (by kernel_rfl) (by kernel_rfl) trivial ?_
  refine run_v (Instr.loadAt 30 (.pointer (some ⟨bp, 0, none⟩)) >>= fun v => pure (Next.value v)) (some 4) (.agg #[.slice p.ba p.bs.length p.bc, .int .i64 p.zlo, .int .i64 p.zhi, .int .i64 p.rlo, .int .i64 p.rhi, .slice p.ra p.rs.length p.rc]) (by kernel_rfl) (fun w1 k1 h1 => load_in (base := 0) (off := 0) k1 (fun h => h) [.slice p.ba p.bs.length p.bc, .int .i64 p.zlo, .int .i64 p.zhi, .int .i64 p.rlo, .int .i64 p.rhi, .slice p.ra p.rs.length p.rc] (fun i u hi => by rw [Nat.zero_add]; exact cells_of_heap hbp i u hi) (by kernel_rfl)) ?_
  cases hd1 : p.ok with
  | false =>
    exact run_panics rfl (Nat.le_refl _) 36 #[.agg #[.slice p.ba p.bs.length p.bc, .int .i64 p.zlo, .int .i64 p.zhi, .int .i64 p.rlo, .int .i64 p.rhi, .slice p.ra p.rs.length p.rc]] (some 5) (pe 1) (by kernel_rfl) (fun w1 k1 h1 => (by have h := needPair_any p w1 (hp.keep (k1.keeps (fun _ h => h))); rw [hd1] at h; exact h)) (fun w1 k1 h1 => (by unfold differR; rw [hd1]; exact ⟨rfl, k1.keeps (fun _ h => h)⟩))
  | true =>
    have hF := Pr.fine hd1
    have hb5 := hF.b5
    refine run_ret1 36 #[.agg #[.slice p.ba p.bs.length p.bc, .int .i64 p.zlo, .int .i64 p.zhi, .int .i64 p.rlo, .int .i64 p.rhi, .slice p.ra p.rs.length p.rc]] (some 5) (.tuple #[]) (by kernel_rfl) (fun w1 k1 h1 => (by have h := needPair_any p w1 (hp.keep (k1.keeps (fun _ h => h))); rw [hd1] at h; exact h)) ?_
    refine run_auto [] 3 [] [] [0, 1, 2, 3] [0] (st' := ⟨[(0, .pointer (some ⟨bp, 0, none⟩)), (1, .pointer (some ⟨b_a, 0, none⟩)), (2, .pointer (some ⟨b_b, 0, none⟩)), (3, .pointer (some ⟨b1, 0, none⟩))], [(b1, .cells #[.int .i64 0, .int .i64 0] 23 (0, 0))]⟩) (acc := []) (by kernel_rfl) (by kernel_rfl) trivial ?_
    refine run_v (Instr.loadAt 30 (.pointer (some ⟨bp, 0, none⟩)) >>= fun v => pure (Next.value v)) (some 6) (.agg #[.slice p.ba p.bs.length p.bc, .int .i64 p.zlo, .int .i64 p.zhi, .int .i64 p.rlo, .int .i64 p.rhi, .slice p.ra p.rs.length p.rc]) (by kernel_rfl) (fun w1 k1 h1 => load_in (base := 0) (off := 0) k1 (fun h => h) [.slice p.ba p.bs.length p.bc, .int .i64 p.zlo, .int .i64 p.zhi, .int .i64 p.rlo, .int .i64 p.rhi, .slice p.ra p.rs.length p.rc] (fun i u hi => by rw [Nat.zero_add]; exact cells_of_heap hbp i u hi) (by kernel_rfl)) ?_
    refine run_v (Instr.loadAt 3 (.pointer (some ⟨b_a, 0, none⟩)) >>= fun v => pure (Next.value v)) (some 7) (.int .i64 a) (by kernel_rfl) (fun w1 k1 h1 => load_in (base := 0) (off := 0) k1 (fun h => h) [.int .i64 a] (fun i u hi => by rw [Nat.zero_add]; exact cells_of_heap hb_a i u hi) (by kernel_rfl)) ?_
    cases hd2 : (blkB a (p.bs.length : Int)) with
    | false =>
      exact run_panics rfl (Nat.le_refl _) 37 #[.agg #[.slice p.ba p.bs.length p.bc, .int .i64 p.zlo, .int .i64 p.zhi, .int .i64 p.rlo, .int .i64 p.rhi, .slice p.ra p.rs.length p.rc], .int .i64 a] (some 8) (pe 2) (by kernel_rfl) (fun w1 k1 h1 => (by have h := needBlock_any p a w1; rw [hd2] at h; exact h)) (fun w1 k1 h1 => (by unfold differR; rw [hd1, hd2]; exact ⟨rfl, k1.keeps (fun _ h => h)⟩))
    | true =>
      obtain ⟨an, rfl⟩ : ∃ an : Nat, a = (an : Int) := ⟨a.toNat, by have h := hd2; unfold blkB at h; simp only [decide_eq_true_eq] at h; omega⟩
      have hlta : an < p.bs.length := by have h := hd2; unfold blkB at h; simp only [decide_eq_true_eq] at h; omega
      refine run_ret1 37 #[.agg #[.slice p.ba p.bs.length p.bc, .int .i64 p.zlo, .int .i64 p.zhi, .int .i64 p.rlo, .int .i64 p.rhi, .slice p.ra p.rs.length p.rc], .int .i64 (an : Int)] (some 8) (.tuple #[]) (by kernel_rfl) (fun w1 k1 h1 => (by have h := needBlock_any p (an : Int) w1; rw [hd2] at h; exact h)) ?_
      refine run_auto [] 3 [] [] [0, 1, 2, 3] [0] (st' := ⟨[(0, .pointer (some ⟨bp, 0, none⟩)), (1, .pointer (some ⟨b_a, 0, none⟩)), (2, .pointer (some ⟨b_b, 0, none⟩)), (3, .pointer (some ⟨b1, 0, none⟩))], [(b1, .cells #[.int .i64 0, .int .i64 0] 23 (0, 0))]⟩) (acc := []) (by kernel_rfl) (by kernel_rfl) trivial ?_
      refine run_v (Instr.loadAt 30 (.pointer (some ⟨bp, 0, none⟩)) >>= fun v => pure (Next.value v)) (some 9) (.agg #[.slice p.ba p.bs.length p.bc, .int .i64 p.zlo, .int .i64 p.zhi, .int .i64 p.rlo, .int .i64 p.rhi, .slice p.ra p.rs.length p.rc]) (by kernel_rfl) (fun w1 k1 h1 => load_in (base := 0) (off := 0) k1 (fun h => h) [.slice p.ba p.bs.length p.bc, .int .i64 p.zlo, .int .i64 p.zhi, .int .i64 p.rlo, .int .i64 p.rhi, .slice p.ra p.rs.length p.rc] (fun i u hi => by rw [Nat.zero_add]; exact cells_of_heap hbp i u hi) (by kernel_rfl)) ?_
      refine run_v (Instr.loadAt 3 (.pointer (some ⟨b_b, 0, none⟩)) >>= fun v => pure (Next.value v)) (some 10) (.int .i64 b) (by kernel_rfl) (fun w1 k1 h1 => load_in (base := 0) (off := 0) k1 (fun h => h) [.int .i64 b] (fun i u hi => by rw [Nat.zero_add]; exact cells_of_heap hb_b i u hi) (by kernel_rfl)) ?_
      cases hd3 : (blkB b (p.bs.length : Int)) with
      | false =>
        exact run_panics rfl (Nat.le_refl _) 37 #[.agg #[.slice p.ba p.bs.length p.bc, .int .i64 p.zlo, .int .i64 p.zhi, .int .i64 p.rlo, .int .i64 p.rhi, .slice p.ra p.rs.length p.rc], .int .i64 b] (some 11) (pe 2) (by kernel_rfl) (fun w1 k1 h1 => (by have h := needBlock_any p b w1; rw [hd3] at h; exact h)) (fun w1 k1 h1 => (by unfold differR; rw [hd1, hd2, hd3]; exact ⟨rfl, k1.keeps (fun _ h => h)⟩))
      | true =>
        obtain ⟨bn, rfl⟩ : ∃ bn : Nat, b = (bn : Int) := ⟨b.toNat, by have h := hd3; unfold blkB at h; simp only [decide_eq_true_eq] at h; omega⟩
        have hltb : bn < p.bs.length := by have h := hd3; unfold blkB at h; simp only [decide_eq_true_eq] at h; omega
        refine run_ret1 37 #[.agg #[.slice p.ba p.bs.length p.bc, .int .i64 p.zlo, .int .i64 p.zhi, .int .i64 p.rlo, .int .i64 p.rhi, .slice p.ra p.rs.length p.rc], .int .i64 (bn : Int)] (some 11) (.tuple #[]) (by kernel_rfl) (fun w1 k1 h1 => (by have h := needBlock_any p (bn : Int) w1; rw [hd3] at h; exact h)) ?_
        refine run_auto [] 2 [] [] [0, 1, 2, 3] [0] (st' := ⟨[(0, .pointer (some ⟨bp, 0, none⟩)), (1, .pointer (some ⟨b_a, 0, none⟩)), (2, .pointer (some ⟨b_b, 0, none⟩)), (3, .pointer (some ⟨b1, 0, none⟩))], [(b1, .cells #[.int .i64 0, .int .i64 0] 23 (0, 0))]⟩) (acc := []) (by kernel_rfl) (by kernel_rfl) trivial ?_
        cases hd4 : p.n.known.isEmpty with
        | false =>
          refine draw 9 [{ val := fun _ => .agg #[.slice p.ba p.bs.length p.bc, .int .i64 p.zlo, .int .i64 p.zhi, .int .i64 p.rlo, .int .i64 p.rhi, .slice p.ra p.rs.length p.rc], slots := [0] },
                      { names := [2], val := fun l => .map (some (l.getD 0 0)), upd := [(2, fun l => .map (entF p.n.known) p.n.known.length)], news := [2], slots := [12] },
                      { names := [2, 3], val := fun l => .func (.func 76) #[] #[.pointer (some ⟨(l.getD 1 0), 0, none⟩)], upd := [(3, fun l => .cells #[.map (some (l.getD 0 0))] 77 (0, 0))], news := [3], slots := [13] },
                      { val := fun _ => .int .i64 (an : Int), slots := [1] },
                      { val := fun _ => .int .i64 (bn : Int), slots := [2] },
                      { val := fun _ => .agg #[.int .i64 (an : Int), .int .i64 (bn : Int)], slots := [15, 16] },
                      { val := fun _ => .agg #[.func (.func 41) #[] #[], .int .i64 (an : Int), .int .i64 (bn : Int)], slots := [17] },
                      { val := fun _ => .agg #[.int .i64 (p.n.differA an bn).1, .int .i64 (p.n.differA an bn).2], slots := [14, 18], reads := [3, 2] },
                      { upd := [(0, fun l => .cells #[.int .i64 (p.n.differA an bn).1, .int .i64 (p.n.differA an bn).2] 23 (0, 0))], slots := [3, 19], reads := [0] }] [[], [0], [0, 1], [], [], [3, 4], [3, 4, 5], [0, 1, 2, 3, 4, 5, 6], [0, 1, 2, 3, 4, 5, 6, 7]] (by kernel_rfl) (by kernel_rfl) (by kernel_rfl) (by kernel_rfl) [3] [0] (by kernel_rfl)
                      ⟨⟨⟨⟨⟨⟨⟨⟨⟨trivial,
                      tri_v (fun β => (Instr.loadAt 30 (.pointer (some ⟨bp, 0, none⟩)) >>= fun v => pure (Next.value v))) (by kernel_rfl) (fun β extra => by kernel_rfl) (fun β => by kernel_rfl) (fun β w1 k1 h1 => load_in (base := 0) (off := 0) k1 (fun h => h) [.slice p.ba p.bs.length p.bc, .int .i64 p.zlo, .int .i64 p.zhi, .int .i64 p.rlo, .int .i64 p.rhi, .slice p.ra p.rs.length p.rc] (fun i u hi => by rw [Nat.zero_add]; exact cells_of_heap hbp i u hi) (by kernel_rfl))⟩,
                      tri_nw 2 (fun β b => .map (some b)) (fun β => .map (entF p.n.known) p.n.known.length) 40 (fun β => #[.agg #[.slice p.ba p.bs.length p.bc, .int .i64 p.zlo, .int .i64 p.zhi, .int .i64 p.rlo, .int .i64 p.rhi, .slice p.ra p.rs.length p.rc]]) (by kernel_rfl) (fun β extra => by kernel_rfl) (fun β => by kernel_rfl) (fun β b => by kernel_rfl) (fun β b => by kernel_rfl) (fun β b => by kernel_rfl) (fun β w1 k1 h1 => truths_yes (hp.keep (k1.keeps (fun _ h => h))) hF hd4)⟩,
                      tri_nw 3 (fun β b => .func (.func 76) #[] #[.pointer (some ⟨b, 0, none⟩)]) (fun β => .cells #[.map (some (β 2))] 77 (0, 0)) 39 (fun β => #[.map (some (β 2))]) (by kernel_rfl) (fun β extra => by kernel_rfl) (fun β => by kernel_rfl) (fun β b => by kernel_rfl) (fun β b => by kernel_rfl) (fun β b => by kernel_rfl) (fun β w1 k1 h1 => values_any (β 2) w1)⟩,
                      tri_v (fun β => (Instr.loadAt 3 (.pointer (some ⟨b_a, 0, none⟩)) >>= fun v => pure (Next.value v))) (by kernel_rfl) (fun β extra => by kernel_rfl) (fun β => by kernel_rfl) (fun β w1 k1 h1 => load_in (base := 0) (off := 0) k1 (fun h => h) [.int .i64 (an : Int)] (fun i u hi => by rw [Nat.zero_add]; exact cells_of_heap hb_a i u hi) (by kernel_rfl))⟩,
                      tri_v (fun β => (Instr.loadAt 3 (.pointer (some ⟨b_b, 0, none⟩)) >>= fun v => pure (Next.value v))) (by kernel_rfl) (fun β extra => by kernel_rfl) (fun β => by kernel_rfl) (fun β w1 k1 h1 => load_in (base := 0) (off := 0) k1 (fun h => h) [.int .i64 (bn : Int)] (fun i u hi => by rw [Nat.zero_add]; exact cells_of_heap hb_b i u hi) (by kernel_rfl))⟩,
                      tri_quiet (fun β => []) [] [] (fun β => []) (by kernel_rfl) (fun β extra => by kernel_rfl) (by kernel_rfl) (fun β => trivial)⟩,
                      tri_quiet (fun β => []) [] [] (fun β => []) (by kernel_rfl) (fun β extra => by kernel_rfl) (by kernel_rfl) (fun β => trivial)⟩,
                      tri_call 38 (fun β => #[.func (.func 76) #[] #[.pointer (some ⟨(β 3), 0, none⟩)], .agg #[.func (.func 41) #[] #[], .int .i64 (an : Int), .int .i64 (bn : Int)]]) (by kernel_rfl) (fun β extra => by kernel_rfl) (fun β => by kernel_rfl) (fun β w1 k1 h1 => reach_gaps p.n.known (β 3) (β 2) an bn w1 (mild hF) (h1 ((β 3), .cells #[.map (some (β 2))] 77 (0, 0)) (List.mem_of_getElem? (i := 0) (by kernel_rfl))) (h1 ((β 2), .map (entF p.n.known) p.n.known.length) (List.mem_of_getElem? (i := 1) (by kernel_rfl))) (by omega) (by omega))⟩,
                      tri_quiet (fun β => []) [0] [0] (fun β => [(.pointer (some ⟨b1, 0, none⟩), .pointer (some ⟨b1, 0, none⟩))]) (by kernel_rfl) (fun β extra => by kernel_rfl) (by kernel_rfl) (fun β => ⟨rfl, trivial⟩)⟩
                      (fun β => ⟨[(3, .pointer (some ⟨b1, 0, none⟩))], [(b1, .cells #[.int .i64 (p.n.differA an bn).1, .int .i64 (p.n.differA an bn).2] 23 (0, 0))]⟩) (fun β => by kernel_rfl) (fun β2 => ?_)
          refine run_end (fn := f42) rfl (Nat.le_refl _) (by kernel_rfl) [0] [.agg #[.int .i64 (p.n.differA an bn).1, .int .i64 (p.n.differA an bn).2]] (e := [(.pointer (some ⟨b1, 0, none⟩), .pointer (some ⟨b1, 0, none⟩))]) (by kernel_rfl) ⟨rfl, trivial⟩ (fun w1 k1 h1 => ?_)
          unfold differR
          rw [hd1, hd2, hd3, hd4]
          exact ⟨rfl, k1.keeps (fun _ h => h)⟩
        | true =>
          refine draw 9 [{ val := fun _ => .agg #[.slice p.ba p.bs.length p.bc, .int .i64 p.zlo, .int .i64 p.zhi, .int .i64 p.rlo, .int .i64 p.rhi, .slice p.ra p.rs.length p.rc], slots := [0] },
                      { upd := [(2, fun _ => .deferred none)], news := [2], slots := [12] },
                      { reads := [2] },
                      { val := fun _ => .int .i64 (an : Int), slots := [1] },
                      { val := fun _ => .int .i64 (bn : Int), slots := [2] },
                      { val := fun _ => .agg #[.int .i64 (an : Int), .int .i64 (bn : Int)], slots := [15, 16] },
                      { val := fun _ => .agg #[.func (.func 41) #[] #[], .int .i64 (an : Int), .int .i64 (bn : Int)], slots := [17] },
                      { reads := [2] },
                      { reads := [2] }] [[], [0], [0, 1], [], [], [3, 4], [3, 4, 5], [0, 1, 2, 3, 4, 5, 6], [0, 1, 2, 3, 4, 5, 6, 7]] (by kernel_rfl) (by kernel_rfl) (by kernel_rfl) (by kernel_rfl) [] [2] (by kernel_rfl)
                      ⟨⟨⟨⟨⟨⟨⟨⟨⟨trivial,
                      tri_v (fun β => (Instr.loadAt 30 (.pointer (some ⟨bp, 0, none⟩)) >>= fun v => pure (Next.value v))) (by kernel_rfl) (fun β extra => by kernel_rfl) (fun β => by kernel_rfl) (fun β w1 k1 h1 => load_in (base := 0) (off := 0) k1 (fun h => h) [.slice p.ba p.bs.length p.bc, .int .i64 p.zlo, .int .i64 p.zhi, .int .i64 p.rlo, .int .i64 p.rhi, .slice p.ra p.rs.length p.rc] (fun i u hi => by rw [Nat.zero_add]; exact cells_of_heap hbp i u hi) (by kernel_rfl))⟩,
                      tri_panics rfl (Nat.le_refl _) 40 (fun β => #[.agg #[.slice p.ba p.bs.length p.bc, .int .i64 p.zlo, .int .i64 p.zhi, .int .i64 p.rlo, .int .i64 p.rhi, .slice p.ra p.rs.length p.rc]]) (pe 10) (fun β extra => by kernel_rfl) (fun β w1 k1 h1 => truths_no (hp.keep (k1.keeps (fun _ h => h))) hF hd4) (fun w1 k1 => (by unfold differR; rw [hd1, hd2, hd3, hd4]; exact ⟨rfl, k1.keeps (fun _ h => h)⟩))⟩,
                      tri_void (fun β => ⟨β 2, [], by kernel_rfl⟩)⟩,
                      tri_v (fun β => (Instr.loadAt 3 (.pointer (some ⟨b_a, 0, none⟩)) >>= fun v => pure (Next.value v))) (by kernel_rfl) (fun β extra => by kernel_rfl) (fun β => by kernel_rfl) (fun β w1 k1 h1 => load_in (base := 0) (off := 0) k1 (fun h => h) [.int .i64 (an : Int)] (fun i u hi => by rw [Nat.zero_add]; exact cells_of_heap hb_a i u hi) (by kernel_rfl))⟩,
                      tri_v (fun β => (Instr.loadAt 3 (.pointer (some ⟨b_b, 0, none⟩)) >>= fun v => pure (Next.value v))) (by kernel_rfl) (fun β extra => by kernel_rfl) (fun β => by kernel_rfl) (fun β w1 k1 h1 => load_in (base := 0) (off := 0) k1 (fun h => h) [.int .i64 (bn : Int)] (fun i u hi => by rw [Nat.zero_add]; exact cells_of_heap hb_b i u hi) (by kernel_rfl))⟩,
                      tri_quiet (fun β => []) [] [] (fun β => []) (by kernel_rfl) (fun β extra => by kernel_rfl) (by kernel_rfl) (fun β => trivial)⟩,
                      tri_quiet (fun β => []) [] [] (fun β => []) (by kernel_rfl) (fun β extra => by kernel_rfl) (by kernel_rfl) (fun β => trivial)⟩,
                      tri_void (fun β => ⟨β 2, [], by kernel_rfl⟩)⟩,
                      tri_void (fun β => ⟨β 2, [], by kernel_rfl⟩)⟩
                      (fun β => ⟨[], [(β 2, .deferred none)]⟩) (fun β => by kernel_rfl) (fun β2 => run_void)

set_option maxRecDepth 100000 in
theorem shows1_any (p : Pr) (m : Int) (bp b_m : Nat) (w : World) (hp : p.In w) (hbp : w.heap[bp]? = some (.cells #[.slice p.ba p.bs.length p.bc, .int .i64 p.zlo, .int .i64 p.zhi, .int .i64 p.rlo, .int .i64 p.rhi, .slice p.ra p.rs.length p.rc] 30 (0, 0))) (hb_m : w.heap[b_m]? = some (.cells #[.int .i64 m] 3 (0, 0))) : Calls Try.prog 43 #[.pointer (some ⟨bp, 0, none⟩), .pointer (some ⟨b_m, 0, none⟩)] w (W2 (showsR p m) w) := by
  refine calls_run (fn := f43) (c := (f43.body).getD .skip) [.pointer (some ⟨bp, 0, none⟩), .pointer (some ⟨b_m, 0, none⟩)] func43 (by kernel_rfl) (fun _ => False) [] (fun _ h => by cases h) (List.Pairwise.nil) 13 (by kernel_rfl) (by simp) ?_
  refine run_auto [] 2 [] [] [0, 1] [] (st' := ⟨[(0, .pointer (some ⟨bp, 0, none⟩)), (1, .pointer (some ⟨b_m, 0, none⟩))], []⟩) (acc := []) (by kernel_rfl) (by kernel_rfl) trivial ?_
  refine run_new (.cells #[.int .i64 0, .int .i64 0] 23 (0, 0)) (fun b1 => .pointer (some ⟨b1, 0, none⟩)) (some 2) (fun _ => by kernel_rfl) (fun b1 hb1 => ?_)
  refine run_auto [] 3 [] [] [0, 1, 2] [0] (st' := ⟨[(0, .pointer (some ⟨bp, 0, none⟩)), (1, .pointer (some ⟨b_m, 0, none⟩)), (2, .pointer (some ⟨b1, 0, none⟩))], [(b1, .cells #[.int .i64 0, .int .i64 0] 23 (0, 0))]⟩) (acc := []) (by kernel_rfl) (by kernel_rfl) trivial ?_
  refine run_v (Instr.loadAt 30 (.pointer (some ⟨bp, 0, none⟩)) >>= fun v => pure (Next.value v)) (some 3) (.agg #[.slice p.ba p.bs.length p.bc, .int .i64 p.zlo, .int .i64 p.zhi, .int .i64 p.rlo, .int .i64 p.rhi, .slice p.ra p.rs.length p.rc]) (by kernel_rfl) (fun w1 k1 h1 => load_in (base := 0) (off := 0) k1 (fun h => h) [.slice p.ba p.bs.length p.bc, .int .i64 p.zlo, .int .i64 p.zhi, .int .i64 p.rlo, .int .i64 p.rhi, .slice p.ra p.rs.length p.rc] (fun i u hi => by rw [Nat.zero_add]; exact cells_of_heap hbp i u hi) (by kernel_rfl)) ?_
  cases hd1 : p.ok with
  | false =>
    exact run_panics rfl (Nat.le_refl _) 36 #[.agg #[.slice p.ba p.bs.length p.bc, .int .i64 p.zlo, .int .i64 p.zhi, .int .i64 p.rlo, .int .i64 p.rhi, .slice p.ra p.rs.length p.rc]] (some 4) (pe 1) (by kernel_rfl) (fun w1 k1 h1 => (by have h := needPair_any p w1 (hp.keep (k1.keeps (fun _ h => h))); rw [hd1] at h; exact h)) (fun w1 k1 h1 => (by unfold showsR; rw [hd1]; exact ⟨rfl, k1.keeps (fun _ h => h)⟩))
  | true =>
    have hF := Pr.fine hd1
    have hb5 := hF.b5
    refine run_ret1 36 #[.agg #[.slice p.ba p.bs.length p.bc, .int .i64 p.zlo, .int .i64 p.zhi, .int .i64 p.rlo, .int .i64 p.rhi, .slice p.ra p.rs.length p.rc]] (some 4) (.tuple #[]) (by kernel_rfl) (fun w1 k1 h1 => (by have h := needPair_any p w1 (hp.keep (k1.keeps (fun _ h => h))); rw [hd1] at h; exact h)) ?_
    refine run_auto [] 3 [] [] [0, 1, 2] [0] (st' := ⟨[(0, .pointer (some ⟨bp, 0, none⟩)), (1, .pointer (some ⟨b_m, 0, none⟩)), (2, .pointer (some ⟨b1, 0, none⟩))], [(b1, .cells #[.int .i64 0, .int .i64 0] 23 (0, 0))]⟩) (acc := []) (by kernel_rfl) (by kernel_rfl) trivial ?_
    refine run_v (Instr.loadAt 3 (.pointer (some ⟨b_m, 0, none⟩)) >>= fun v => pure (Next.value v)) (some 5) (.int .i64 m) (by kernel_rfl) (fun w1 k1 h1 => load_in (base := 0) (off := 0) k1 (fun h => h) [.int .i64 m] (fun i u hi => by rw [Nat.zero_add]; exact cells_of_heap hb_m i u hi) (by kernel_rfl)) ?_
    cases hd2 : (minB m) with
    | false =>
      exact run_panics rfl (Nat.le_refl _) 44 #[.int .i64 m] (some 6) (pe 2) (by kernel_rfl) (fun w1 k1 h1 => (by have h := needMinute_any m w1; rw [hd2] at h; exact h)) (fun w1 k1 h1 => (by unfold showsR; rw [hd1, hd2]; exact ⟨rfl, k1.keeps (fun _ h => h)⟩))
    | true =>
      have hm_m : 0 ≤ m ∧ m ≤ 60 := by have h := hd2; unfold minB at h; simpa using h
      refine run_ret1 44 #[.int .i64 m] (some 6) (.tuple #[]) (by kernel_rfl) (fun w1 k1 h1 => (by have h := needMinute_any m w1; rw [hd2] at h; exact h)) ?_
      refine run_auto [] 2 [] [] [0, 1, 2] [0] (st' := ⟨[(0, .pointer (some ⟨bp, 0, none⟩)), (1, .pointer (some ⟨b_m, 0, none⟩)), (2, .pointer (some ⟨b1, 0, none⟩))], [(b1, .cells #[.int .i64 0, .int .i64 0] 23 (0, 0))]⟩) (acc := []) (by kernel_rfl) (by kernel_rfl) trivial ?_
      cases hd3 : p.n.known.isEmpty with
      | false =>
        refine draw 7 [{ val := fun _ => .agg #[.slice p.ba p.bs.length p.bc, .int .i64 p.zlo, .int .i64 p.zhi, .int .i64 p.rlo, .int .i64 p.rhi, .slice p.ra p.rs.length p.rc], slots := [0] },
                  { names := [2], val := fun l => .map (some (l.getD 0 0)), upd := [(2, fun l => .map (entF p.n.known) p.n.known.length)], news := [2], slots := [7] },
                  { names := [2, 3], val := fun l => .func (.func 79) #[] #[.pointer (some ⟨(l.getD 1 0), 0, none⟩)], upd := [(3, fun l => .cells #[.map (some (l.getD 0 0))] 77 (0, 0))], news := [3], slots := [8] },
                  { val := fun _ => .int .i64 m, slots := [1] },
                  { val := fun _ => .agg #[.func (.func 47) #[] #[], .int .i64 m], slots := [10] },
                  { val := fun _ => .agg #[.int .i64 (p.n.showsA m).1, .int .i64 (p.n.showsA m).2], slots := [9, 11], reads := [3, 2] },
                  { upd := [(0, fun l => .cells #[.int .i64 (p.n.showsA m).1, .int .i64 (p.n.showsA m).2] 23 (0, 0))], slots := [2, 12], reads := [0] }] [[], [0], [0, 1], [], [3], [0, 1, 2, 3, 4], [0, 1, 2, 3, 4, 5]] (by kernel_rfl) (by kernel_rfl) (by kernel_rfl) (by kernel_rfl) [2] [0] (by kernel_rfl)
                  ⟨⟨⟨⟨⟨⟨⟨trivial,
                  tri_v (fun β => (Instr.loadAt 30 (.pointer (some ⟨bp, 0, none⟩)) >>= fun v => pure (Next.value v))) (by kernel_rfl) (fun β extra => by kernel_rfl) (fun β => by kernel_rfl) (fun β w1 k1 h1 => load_in (base := 0) (off := 0) k1 (fun h => h) [.slice p.ba p.bs.length p.bc, .int .i64 p.zlo, .int .i64 p.zhi, .int .i64 p.rlo, .int .i64 p.rhi, .slice p.ra p.rs.length p.rc] (fun i u hi => by rw [Nat.zero_add]; exact cells_of_heap hbp i u hi) (by kernel_rfl))⟩,
                  tri_nw 2 (fun β b => .map (some b)) (fun β => .map (entF p.n.known) p.n.known.length) 40 (fun β => #[.agg #[.slice p.ba p.bs.length p.bc, .int .i64 p.zlo, .int .i64 p.zhi, .int .i64 p.rlo, .int .i64 p.rhi, .slice p.ra p.rs.length p.rc]]) (by kernel_rfl) (fun β extra => by kernel_rfl) (fun β => by kernel_rfl) (fun β b => by kernel_rfl) (fun β b => by kernel_rfl) (fun β b => by kernel_rfl) (fun β w1 k1 h1 => truths_yes (hp.keep (k1.keeps (fun _ h => h))) hF hd3)⟩,
                  tri_nw 3 (fun β b => .func (.func 79) #[] #[.pointer (some ⟨b, 0, none⟩)]) (fun β => .cells #[.map (some (β 2))] 77 (0, 0)) 46 (fun β => #[.map (some (β 2))]) (by kernel_rfl) (fun β extra => by kernel_rfl) (fun β => by kernel_rfl) (fun β b => by kernel_rfl) (fun β b => by kernel_rfl) (fun β b => by kernel_rfl) (fun β w1 k1 h1 => keys_any (β 2) w1)⟩,
                  tri_v (fun β => (Instr.loadAt 3 (.pointer (some ⟨b_m, 0, none⟩)) >>= fun v => pure (Next.value v))) (by kernel_rfl) (fun β extra => by kernel_rfl) (fun β => by kernel_rfl) (fun β w1 k1 h1 => load_in (base := 0) (off := 0) k1 (fun h => h) [.int .i64 m] (fun i u hi => by rw [Nat.zero_add]; exact cells_of_heap hb_m i u hi) (by kernel_rfl))⟩,
                  tri_quiet (fun β => []) [] [] (fun β => []) (by kernel_rfl) (fun β extra => by kernel_rfl) (by kernel_rfl) (fun β => trivial)⟩,
                  tri_call 45 (fun β => #[.func (.func 79) #[] #[.pointer (some ⟨(β 3), 0, none⟩)], .agg #[.func (.func 47) #[] #[], .int .i64 m]]) (by kernel_rfl) (fun β extra => by kernel_rfl) (fun β => by kernel_rfl) (fun β w1 k1 h1 => reach_comp p.n.known (β 3) (β 2) m (by omega) (by omega) w1 (mild hF) (h1 ((β 3), .cells #[.map (some (β 2))] 77 (0, 0)) (List.mem_of_getElem? (i := 0) (by kernel_rfl))) (h1 ((β 2), .map (entF p.n.known) p.n.known.length) (List.mem_of_getElem? (i := 1) (by kernel_rfl))))⟩,
                  tri_quiet (fun β => []) [0] [0] (fun β => [(.pointer (some ⟨b1, 0, none⟩), .pointer (some ⟨b1, 0, none⟩))]) (by kernel_rfl) (fun β extra => by kernel_rfl) (by kernel_rfl) (fun β => ⟨rfl, trivial⟩)⟩
                  (fun β => ⟨[(2, .pointer (some ⟨b1, 0, none⟩))], [(b1, .cells #[.int .i64 (p.n.showsA m).1, .int .i64 (p.n.showsA m).2] 23 (0, 0))]⟩) (fun β => by kernel_rfl) (fun β2 => ?_)
        refine run_end (fn := f43) rfl (Nat.le_refl _) (by kernel_rfl) [0] [.agg #[.int .i64 (p.n.showsA m).1, .int .i64 (p.n.showsA m).2]] (e := [(.pointer (some ⟨b1, 0, none⟩), .pointer (some ⟨b1, 0, none⟩))]) (by kernel_rfl) ⟨rfl, trivial⟩ (fun w1 k1 h1 => ?_)
        unfold showsR
        rw [hd1, hd2, hd3]
        exact ⟨rfl, k1.keeps (fun _ h => h)⟩
      | true =>
        refine draw 7 [{ val := fun _ => .agg #[.slice p.ba p.bs.length p.bc, .int .i64 p.zlo, .int .i64 p.zhi, .int .i64 p.rlo, .int .i64 p.rhi, .slice p.ra p.rs.length p.rc], slots := [0] },
                  { upd := [(2, fun _ => .deferred none)], news := [2], slots := [7] },
                  { reads := [2] },
                  { val := fun _ => .int .i64 m, slots := [1] },
                  { val := fun _ => .agg #[.func (.func 47) #[] #[], .int .i64 m], slots := [10] },
                  { reads := [2] },
                  { reads := [2] }] [[], [0], [0, 1], [], [3], [0, 1, 2, 3, 4], [0, 1, 2, 3, 4, 5]] (by kernel_rfl) (by kernel_rfl) (by kernel_rfl) (by kernel_rfl) [] [2] (by kernel_rfl)
                  ⟨⟨⟨⟨⟨⟨⟨trivial,
                  tri_v (fun β => (Instr.loadAt 30 (.pointer (some ⟨bp, 0, none⟩)) >>= fun v => pure (Next.value v))) (by kernel_rfl) (fun β extra => by kernel_rfl) (fun β => by kernel_rfl) (fun β w1 k1 h1 => load_in (base := 0) (off := 0) k1 (fun h => h) [.slice p.ba p.bs.length p.bc, .int .i64 p.zlo, .int .i64 p.zhi, .int .i64 p.rlo, .int .i64 p.rhi, .slice p.ra p.rs.length p.rc] (fun i u hi => by rw [Nat.zero_add]; exact cells_of_heap hbp i u hi) (by kernel_rfl))⟩,
                  tri_panics rfl (Nat.le_refl _) 40 (fun β => #[.agg #[.slice p.ba p.bs.length p.bc, .int .i64 p.zlo, .int .i64 p.zhi, .int .i64 p.rlo, .int .i64 p.rhi, .slice p.ra p.rs.length p.rc]]) (pe 10) (fun β extra => by kernel_rfl) (fun β w1 k1 h1 => truths_no (hp.keep (k1.keeps (fun _ h => h))) hF hd3) (fun w1 k1 => (by unfold showsR; rw [hd1, hd2, hd3]; exact ⟨rfl, k1.keeps (fun _ h => h)⟩))⟩,
                  tri_void (fun β => ⟨β 2, [], by kernel_rfl⟩)⟩,
                  tri_v (fun β => (Instr.loadAt 3 (.pointer (some ⟨b_m, 0, none⟩)) >>= fun v => pure (Next.value v))) (by kernel_rfl) (fun β extra => by kernel_rfl) (fun β => by kernel_rfl) (fun β w1 k1 h1 => load_in (base := 0) (off := 0) k1 (fun h => h) [.int .i64 m] (fun i u hi => by rw [Nat.zero_add]; exact cells_of_heap hb_m i u hi) (by kernel_rfl))⟩,
                  tri_quiet (fun β => []) [] [] (fun β => []) (by kernel_rfl) (fun β extra => by kernel_rfl) (by kernel_rfl) (fun β => trivial)⟩,
                  tri_void (fun β => ⟨β 2, [], by kernel_rfl⟩)⟩,
                  tri_void (fun β => ⟨β 2, [], by kernel_rfl⟩)⟩
                  (fun β => ⟨[], [(β 2, .deferred none)]⟩) (fun β => by kernel_rfl) (fun β2 => run_void)

set_option maxRecDepth 100000 in
theorem Known_any (p : Pr) (n : Int) (w : World) (hp : p.In w) : Calls Try.prog 11 #[.agg #[.slice p.ba p.bs.length p.bc, .int .i64 p.zlo, .int .i64 p.zhi, .int .i64 p.rlo, .int .i64 p.rhi, .slice p.ra p.rs.length p.rc], .int .i64 n] w (Ret (.tuple #[.agg #[.int .i64 (spA (knownR p n)).1, .int .i64 (spA (knownR p n)).2], .int .i64 (erA (knownR p n))]) w) := by
  refine calls_run (fn := f11) (c := (f11.body).getD .skip) [.agg #[.slice p.ba p.bs.length p.bc, .int .i64 p.zlo, .int .i64 p.zhi, .int .i64 p.rlo, .int .i64 p.rhi, .slice p.ra p.rs.length p.rc], .int .i64 n] func11 (by kernel_rfl) (fun _ => False) [] (fun _ h => by cases h) (List.Pairwise.nil) 10 (by kernel_rfl) (by simp) ?_
  refine run_auto [] 2 [] [] [0, 1] [] (st' := ⟨[(0, .agg #[.slice p.ba p.bs.length p.bc, .int .i64 p.zlo, .int .i64 p.zhi, .int .i64 p.rlo, .int .i64 p.rhi, .slice p.ra p.rs.length p.rc]), (1, .int .i64 n)], []⟩) (acc := []) (by kernel_rfl) (by kernel_rfl) trivial ?_
  refine run_new (.cells #[.slice p.ba p.bs.length p.bc, .int .i64 p.zlo, .int .i64 p.zhi, .int .i64 p.rlo, .int .i64 p.rhi, .slice p.ra p.rs.length p.rc] 30 (0, 0)) (fun b1 => .pointer (some ⟨b1, 0, none⟩)) (some 2) (fun _ => by kernel_rfl) (fun b1 hb1 => ?_)
  refine run_new (.cells #[.int .i64 n] 3 (0, 0)) (fun b2 => .pointer (some ⟨b2, 0, none⟩)) (some 3) (fun _ => by kernel_rfl) (fun b2 hb2 => ?_)
  refine run_new (.cells #[.int .i64 0, .int .i64 0] 23 (0, 0)) (fun b3 => .pointer (some ⟨b3, 0, none⟩)) (some 4) (fun _ => by kernel_rfl) (fun b3 hb3 => ?_)
  refine run_auto [] 5 [] [] [4, 5, 6] [0, 1, 2] (st' := ⟨[(4, .pointer (some ⟨b3, 0, none⟩)), (5, .int .i64 0), (6, .func (.func 35) #[] #[.pointer (some ⟨b1, 0, none⟩), .pointer (some ⟨b2, 0, none⟩)])], [(b3, .cells #[.int .i64 0, .int .i64 0] 23 (0, 0)), (b2, .cells #[.int .i64 n] 3 (0, 0)), (b1, .cells #[.slice p.ba p.bs.length p.bc, .int .i64 p.zlo, .int .i64 p.zhi, .int .i64 p.rlo, .int .i64 p.rhi, .slice p.ra p.rs.length p.rc] 30 (0, 0))]⟩) (acc := []) (by kernel_rfl) (by kernel_rfl) trivial ?_
  refine run_ret1 34 #[.func (.func 35) #[] #[.pointer (some ⟨b1, 0, none⟩), .pointer (some ⟨b2, 0, none⟩)]] (some 7) (.tuple #[.agg #[.int .i64 ((spA (knownR p n)).1), .int .i64 ((spA (knownR p n)).2)], .int .i64 (erA (knownR p n))]) (by kernel_rfl) (fun w1 k1 h1 => answer_span 35 #[.pointer (some ⟨b1, 0, none⟩), .pointer (some ⟨b2, 0, none⟩)] w1 (knownR p n) (fun _ => by kernel_rfl) (fun w2 kk => known1_any p n b1 b2 w2 ((hp.keep (k1.keeps (fun _ h => h))).keep kk) ((kk.heap (Array.getElem?_eq_some_iff.1 (h1 (b1, .cells #[.slice p.ba p.bs.length p.bc, .int .i64 p.zlo, .int .i64 p.zhi, .int .i64 p.rlo, .int .i64 p.rhi, .slice p.ra p.rs.length p.rc] 30 (0, 0)) (List.mem_of_getElem? (i := 2) (by kernel_rfl)))).1).trans (h1 (b1, .cells #[.slice p.ba p.bs.length p.bc, .int .i64 p.zlo, .int .i64 p.zhi, .int .i64 p.rlo, .int .i64 p.rhi, .slice p.ra p.rs.length p.rc] 30 (0, 0)) (List.mem_of_getElem? (i := 2) (by kernel_rfl)))) ((kk.heap (Array.getElem?_eq_some_iff.1 (h1 (b2, .cells #[.int .i64 n] 3 (0, 0)) (List.mem_of_getElem? (i := 1) (by kernel_rfl)))).1).trans (h1 (b2, .cells #[.int .i64 n] 3 (0, 0)) (List.mem_of_getElem? (i := 1) (by kernel_rfl)))))) ?_
  refine run_auto [] 5 [] [0] [4, 5] [0] (st' := ⟨[(4, .pointer (some ⟨b3, 0, none⟩)), (5, .int .i64 (erA (knownR p n)))], [(b3, .cells #[.int .i64 ((spA (knownR p n)).1), .int .i64 ((spA (knownR p n)).2)] 23 (0, 0))]⟩) (acc := [(.pointer (some ⟨b3, 0, none⟩), .pointer (some ⟨b3, 0, none⟩))]) (by kernel_rfl) (by kernel_rfl) ⟨rfl, trivial⟩ ?_
  refine run_end (fn := f11) rfl (Nat.le_refl _) (by kernel_rfl) [0] [.agg #[.int .i64 ((spA (knownR p n)).1), .int .i64 ((spA (knownR p n)).2)], .int .i64 (erA (knownR p n))] (e := [(.pointer (some ⟨b3, 0, none⟩), .pointer (some ⟨b3, 0, none⟩))]) (by kernel_rfl) ⟨rfl, trivial⟩ (fun w1 k1 h1 => ?_)
  exact ⟨rfl, k1.keeps (fun _ h => h)⟩

set_option maxRecDepth 100000 in
theorem Differ_any (p : Pr) (a b : Int) (w : World) (hp : p.In w) : Calls Try.prog 13 #[.agg #[.slice p.ba p.bs.length p.bc, .int .i64 p.zlo, .int .i64 p.zhi, .int .i64 p.rlo, .int .i64 p.rhi, .slice p.ra p.rs.length p.rc], .int .i64 a, .int .i64 b] w (Ret (.tuple #[.agg #[.int .i64 (spA (differR p a b)).1, .int .i64 (spA (differR p a b)).2], .int .i64 (erA (differR p a b))]) w) := by
  refine calls_run (fn := f13) (c := (f13.body).getD .skip) [.agg #[.slice p.ba p.bs.length p.bc, .int .i64 p.zlo, .int .i64 p.zhi, .int .i64 p.rlo, .int .i64 p.rhi, .slice p.ra p.rs.length p.rc], .int .i64 a, .int .i64 b] func13 (by kernel_rfl) (fun _ => False) [] (fun _ h => by cases h) (List.Pairwise.nil) 12 (by kernel_rfl) (by simp) ?_
  refine run_auto [] 2 [] [] [0, 1, 2] [] (st' := ⟨[(0, .agg #[.slice p.ba p.bs.length p.bc, .int .i64 p.zlo, .int .i64 p.zhi, .int .i64 p.rlo, .int .i64 p.rhi, .slice p.ra p.rs.length p.rc]), (1, .int .i64 a), (2, .int .i64 b)], []⟩) (acc := []) (by kernel_rfl) (by kernel_rfl) trivial ?_
  refine run_new (.cells #[.slice p.ba p.bs.length p.bc, .int .i64 p.zlo, .int .i64 p.zhi, .int .i64 p.rlo, .int .i64 p.rhi, .slice p.ra p.rs.length p.rc] 30 (0, 0)) (fun b1 => .pointer (some ⟨b1, 0, none⟩)) (some 3) (fun _ => by kernel_rfl) (fun b1 hb1 => ?_)
  refine run_new (.cells #[.int .i64 a] 3 (0, 0)) (fun b2 => .pointer (some ⟨b2, 0, none⟩)) (some 4) (fun _ => by kernel_rfl) (fun b2 hb2 => ?_)
  refine run_new (.cells #[.int .i64 b] 3 (0, 0)) (fun b3 => .pointer (some ⟨b3, 0, none⟩)) (some 5) (fun _ => by kernel_rfl) (fun b3 hb3 => ?_)
  refine run_new (.cells #[.int .i64 0, .int .i64 0] 23 (0, 0)) (fun b4 => .pointer (some ⟨b4, 0, none⟩)) (some 6) (fun _ => by kernel_rfl) (fun b4 hb4 => ?_)
  refine run_auto [] 5 [] [] [6, 7, 8] [0, 1, 2, 3] (st' := ⟨[(6, .pointer (some ⟨b4, 0, none⟩)), (7, .int .i64 0), (8, .func (.func 42) #[] #[.pointer (some ⟨b1, 0, none⟩), .pointer (some ⟨b2, 0, none⟩), .pointer (some ⟨b3, 0, none⟩)])], [(b4, .cells #[.int .i64 0, .int .i64 0] 23 (0, 0)), (b3, .cells #[.int .i64 b] 3 (0, 0)), (b2, .cells #[.int .i64 a] 3 (0, 0)), (b1, .cells #[.slice p.ba p.bs.length p.bc, .int .i64 p.zlo, .int .i64 p.zhi, .int .i64 p.rlo, .int .i64 p.rhi, .slice p.ra p.rs.length p.rc] 30 (0, 0))]⟩) (acc := []) (by kernel_rfl) (by kernel_rfl) trivial ?_
  refine run_ret1 34 #[.func (.func 42) #[] #[.pointer (some ⟨b1, 0, none⟩), .pointer (some ⟨b2, 0, none⟩), .pointer (some ⟨b3, 0, none⟩)]] (some 9) (.tuple #[.agg #[.int .i64 ((spA (differR p a b)).1), .int .i64 ((spA (differR p a b)).2)], .int .i64 (erA (differR p a b))]) (by kernel_rfl) (fun w1 k1 h1 => answer_span 42 #[.pointer (some ⟨b1, 0, none⟩), .pointer (some ⟨b2, 0, none⟩), .pointer (some ⟨b3, 0, none⟩)] w1 (differR p a b) (fun _ => by kernel_rfl) (fun w2 kk => differ1_any p a b b1 b2 b3 w2 ((hp.keep (k1.keeps (fun _ h => h))).keep kk) ((kk.heap (Array.getElem?_eq_some_iff.1 (h1 (b1, .cells #[.slice p.ba p.bs.length p.bc, .int .i64 p.zlo, .int .i64 p.zhi, .int .i64 p.rlo, .int .i64 p.rhi, .slice p.ra p.rs.length p.rc] 30 (0, 0)) (List.mem_of_getElem? (i := 3) (by kernel_rfl)))).1).trans (h1 (b1, .cells #[.slice p.ba p.bs.length p.bc, .int .i64 p.zlo, .int .i64 p.zhi, .int .i64 p.rlo, .int .i64 p.rhi, .slice p.ra p.rs.length p.rc] 30 (0, 0)) (List.mem_of_getElem? (i := 3) (by kernel_rfl)))) ((kk.heap (Array.getElem?_eq_some_iff.1 (h1 (b2, .cells #[.int .i64 a] 3 (0, 0)) (List.mem_of_getElem? (i := 2) (by kernel_rfl)))).1).trans (h1 (b2, .cells #[.int .i64 a] 3 (0, 0)) (List.mem_of_getElem? (i := 2) (by kernel_rfl)))) ((kk.heap (Array.getElem?_eq_some_iff.1 (h1 (b3, .cells #[.int .i64 b] 3 (0, 0)) (List.mem_of_getElem? (i := 1) (by kernel_rfl)))).1).trans (h1 (b3, .cells #[.int .i64 b] 3 (0, 0)) (List.mem_of_getElem? (i := 1) (by kernel_rfl)))))) ?_
  refine run_auto [] 5 [] [0] [6, 7] [0] (st' := ⟨[(6, .pointer (some ⟨b4, 0, none⟩)), (7, .int .i64 (erA (differR p a b)))], [(b4, .cells #[.int .i64 ((spA (differR p a b)).1), .int .i64 ((spA (differR p a b)).2)] 23 (0, 0))]⟩) (acc := [(.pointer (some ⟨b4, 0, none⟩), .pointer (some ⟨b4, 0, none⟩))]) (by kernel_rfl) (by kernel_rfl) ⟨rfl, trivial⟩ ?_
  refine run_end (fn := f13) rfl (Nat.le_refl _) (by kernel_rfl) [0] [.agg #[.int .i64 ((spA (differR p a b)).1), .int .i64 ((spA (differR p a b)).2)], .int .i64 (erA (differR p a b))] (e := [(.pointer (some ⟨b4, 0, none⟩), .pointer (some ⟨b4, 0, none⟩))]) (by kernel_rfl) ⟨rfl, trivial⟩ (fun w1 k1 h1 => ?_)
  exact ⟨rfl, k1.keeps (fun _ h => h)⟩

set_option maxRecDepth 100000 in
theorem Shows_any (p : Pr) (m : Int) (w : World) (hp : p.In w) : Calls Try.prog 14 #[.agg #[.slice p.ba p.bs.length p.bc, .int .i64 p.zlo, .int .i64 p.zhi, .int .i64 p.rlo, .int .i64 p.rhi, .slice p.ra p.rs.length p.rc], .int .i64 m] w (Ret (.tuple #[.agg #[.int .i64 (spA (showsR p m)).1, .int .i64 (spA (showsR p m)).2], .int .i64 (erA (showsR p m))]) w) := by
  refine calls_run (fn := f14) (c := (f14.body).getD .skip) [.agg #[.slice p.ba p.bs.length p.bc, .int .i64 p.zlo, .int .i64 p.zhi, .int .i64 p.rlo, .int .i64 p.rhi, .slice p.ra p.rs.length p.rc], .int .i64 m] func14 (by kernel_rfl) (fun _ => False) [] (fun _ h => by cases h) (List.Pairwise.nil) 10 (by kernel_rfl) (by simp) ?_
  refine run_auto [] 2 [] [] [0, 1] [] (st' := ⟨[(0, .agg #[.slice p.ba p.bs.length p.bc, .int .i64 p.zlo, .int .i64 p.zhi, .int .i64 p.rlo, .int .i64 p.rhi, .slice p.ra p.rs.length p.rc]), (1, .int .i64 m)], []⟩) (acc := []) (by kernel_rfl) (by kernel_rfl) trivial ?_
  refine run_new (.cells #[.slice p.ba p.bs.length p.bc, .int .i64 p.zlo, .int .i64 p.zhi, .int .i64 p.rlo, .int .i64 p.rhi, .slice p.ra p.rs.length p.rc] 30 (0, 0)) (fun b1 => .pointer (some ⟨b1, 0, none⟩)) (some 2) (fun _ => by kernel_rfl) (fun b1 hb1 => ?_)
  refine run_new (.cells #[.int .i64 m] 3 (0, 0)) (fun b2 => .pointer (some ⟨b2, 0, none⟩)) (some 3) (fun _ => by kernel_rfl) (fun b2 hb2 => ?_)
  refine run_new (.cells #[.int .i64 0, .int .i64 0] 23 (0, 0)) (fun b3 => .pointer (some ⟨b3, 0, none⟩)) (some 4) (fun _ => by kernel_rfl) (fun b3 hb3 => ?_)
  refine run_auto [] 5 [] [] [4, 5, 6] [0, 1, 2] (st' := ⟨[(4, .pointer (some ⟨b3, 0, none⟩)), (5, .int .i64 0), (6, .func (.func 43) #[] #[.pointer (some ⟨b1, 0, none⟩), .pointer (some ⟨b2, 0, none⟩)])], [(b3, .cells #[.int .i64 0, .int .i64 0] 23 (0, 0)), (b2, .cells #[.int .i64 m] 3 (0, 0)), (b1, .cells #[.slice p.ba p.bs.length p.bc, .int .i64 p.zlo, .int .i64 p.zhi, .int .i64 p.rlo, .int .i64 p.rhi, .slice p.ra p.rs.length p.rc] 30 (0, 0))]⟩) (acc := []) (by kernel_rfl) (by kernel_rfl) trivial ?_
  refine run_ret1 34 #[.func (.func 43) #[] #[.pointer (some ⟨b1, 0, none⟩), .pointer (some ⟨b2, 0, none⟩)]] (some 7) (.tuple #[.agg #[.int .i64 ((spA (showsR p m)).1), .int .i64 ((spA (showsR p m)).2)], .int .i64 (erA (showsR p m))]) (by kernel_rfl) (fun w1 k1 h1 => answer_span 43 #[.pointer (some ⟨b1, 0, none⟩), .pointer (some ⟨b2, 0, none⟩)] w1 (showsR p m) (fun _ => by kernel_rfl) (fun w2 kk => shows1_any p m b1 b2 w2 ((hp.keep (k1.keeps (fun _ h => h))).keep kk) ((kk.heap (Array.getElem?_eq_some_iff.1 (h1 (b1, .cells #[.slice p.ba p.bs.length p.bc, .int .i64 p.zlo, .int .i64 p.zhi, .int .i64 p.rlo, .int .i64 p.rhi, .slice p.ra p.rs.length p.rc] 30 (0, 0)) (List.mem_of_getElem? (i := 2) (by kernel_rfl)))).1).trans (h1 (b1, .cells #[.slice p.ba p.bs.length p.bc, .int .i64 p.zlo, .int .i64 p.zhi, .int .i64 p.rlo, .int .i64 p.rhi, .slice p.ra p.rs.length p.rc] 30 (0, 0)) (List.mem_of_getElem? (i := 2) (by kernel_rfl)))) ((kk.heap (Array.getElem?_eq_some_iff.1 (h1 (b2, .cells #[.int .i64 m] 3 (0, 0)) (List.mem_of_getElem? (i := 1) (by kernel_rfl)))).1).trans (h1 (b2, .cells #[.int .i64 m] 3 (0, 0)) (List.mem_of_getElem? (i := 1) (by kernel_rfl)))))) ?_
  refine run_auto [] 5 [] [0] [4, 5] [0] (st' := ⟨[(4, .pointer (some ⟨b3, 0, none⟩)), (5, .int .i64 (erA (showsR p m)))], [(b3, .cells #[.int .i64 ((spA (showsR p m)).1), .int .i64 ((spA (showsR p m)).2)] 23 (0, 0))]⟩) (acc := [(.pointer (some ⟨b3, 0, none⟩), .pointer (some ⟨b3, 0, none⟩))]) (by kernel_rfl) (by kernel_rfl) ⟨rfl, trivial⟩ ?_
  refine run_end (fn := f14) rfl (Nat.le_refl _) (by kernel_rfl) [0] [.agg #[.int .i64 ((spA (showsR p m)).1), .int .i64 ((spA (showsR p m)).2)], .int .i64 (erA (showsR p m))] (e := [(.pointer (some ⟨b3, 0, none⟩), .pointer (some ⟨b3, 0, none⟩))]) (by kernel_rfl) ⟨rfl, trivial⟩ (fun w1 k1 h1 => ?_)
  exact ⟨rfl, k1.keeps (fun _ h => h)⟩

end Go.Proofs.Ytmiobcnccbfknaa
