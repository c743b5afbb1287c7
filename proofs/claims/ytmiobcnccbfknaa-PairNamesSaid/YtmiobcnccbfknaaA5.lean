/-
  PAIR: the comparators that a pair can have.
-/
import Derived.Test.YtmiobcnccbfknaaA4
import Derived.Test.YtmiobcnccbfknaaXF
namespace Go.Proofs.Ytmiobcnccbfknaa
open Go.RowKit Go.Proofs.Try


def Pr.cells (p : Pr) : List Value := [.slice p.ba p.bs.length p.bc, .int .i64 p.zlo, .int .i64 p.zhi, .int .i64 p.rlo, .int .i64 p.rhi, .slice p.ra p.rs.length p.rc]
def compV (zlo rlo : Int) (i j : Nat) : List Value := [.agg #[.int .i64 (zlo + (i : Int)), .int .i64 (rlo + (j : Int))]]
def Pr.nz (p : Pr) : Nat := (p.zhi - p.zlo + 1).toNat
def Pr.nr (p : Pr) : Nat := (p.rhi - p.rlo + 1).toNat
/-- The comparators, in their order. -/
def Pr.compL (p : Pr) : List (List Value) := pre2 (compV p.zlo p.rlo) p.nr p.nz 0
set_option maxRecDepth 100000 in
theorem comparators_any (p : Pr) (w : World)  : Calls Try.prog 100 #[.agg #[.slice p.ba p.bs.length p.bc, .int .i64 p.zlo, .int .i64 p.zhi, .int .i64 p.rlo, .int .i64 p.rhi, .slice p.ra p.rs.length p.rc]] w (Nw (α := Unit) (fun _ b => .func (.func 108) #[] #[.pointer (some ⟨b, 0, none⟩)]) (fun _ => .cells #[.slice p.ba p.bs.length p.bc, .int .i64 p.zlo, .int .i64 p.zhi, .int .i64 p.rlo, .int .i64 p.rhi, .slice p.ra p.rs.length p.rc] 30 (0, 0)) (fun _ => True) w) := by
  refine calls_run (fn := f100) (c := (f100.body).getD .skip) [.agg #[.slice p.ba p.bs.length p.bc, .int .i64 p.zlo, .int .i64 p.zhi, .int .i64 p.rlo, .int .i64 p.rhi, .slice p.ra p.rs.length p.rc]] func100 (by kernel_rfl) (fun _ => False) [] (fun _ h => by cases h) (List.Pairwise.nil) 4 (by kernel_rfl) (by simp) ?_
  refine run_auto [] 2 [] [] [0] [] (st' := ⟨[(0, .agg #[.slice p.ba p.bs.length p.bc, .int .i64 p.zlo, .int .i64 p.zhi, .int .i64 p.rlo, .int .i64 p.rhi, .slice p.ra p.rs.length p.rc])], []⟩) (acc := []) (by kernel_rfl) (by kernel_rfl) trivial ?_
  refine run_new (.cells #[.slice p.ba p.bs.length p.bc, .int .i64 p.zlo, .int .i64 p.zhi, .int .i64 p.rlo, .int .i64 p.rhi, .slice p.ra p.rs.length p.rc] 30 (0, 0)) (fun b1 => .pointer (some ⟨b1, 0, none⟩)) (some 1) (fun _ => by kernel_rfl) (fun b1 hb1 => ?_)
  refine run_auto [] 7 [] [] [2] [0] (st' := ⟨[(2, .func (.func 108) #[] #[.pointer (some ⟨b1, 0, none⟩)])], [(b1, .cells #[.slice p.ba p.bs.length p.bc, .int .i64 p.zlo, .int .i64 p.zhi, .int .i64 p.rlo, .int .i64 p.rhi, .slice p.ra p.rs.length p.rc] 30 (0, 0))]⟩) (acc := []) (by kernel_rfl) (by kernel_rfl) trivial ?_
  refine run_end (fn := f100) rfl (Nat.le_refl _) (by kernel_rfl) [] [.func (.func 108) #[] #[.pointer (some ⟨b1, 0, none⟩)]] (e := []) (by kernel_rfl) trivial (fun w1 k1 h1 => ?_)
  exact ⟨(), b1, trivial, hb1, rfl, k1.keeps (fun _ h => h), h1 (b1, _) (List.mem_of_getElem? (i := 0) rfl)⟩

set_option maxRecDepth 100000 in
theorem possible_any (p : Pr) (w : World)  : Calls Try.prog 77 #[.agg #[.slice p.ba p.bs.length p.bc, .int .i64 p.zlo, .int .i64 p.zhi, .int .i64 p.rlo, .int .i64 p.rhi, .slice p.ra p.rs.length p.rc]] w (Nw (α := Unit) (fun _ b => .func (.func 97) #[] #[.pointer (some ⟨b, 0, none⟩)]) (fun _ => .cells #[.slice p.ba p.bs.length p.bc, .int .i64 p.zlo, .int .i64 p.zhi, .int .i64 p.rlo, .int .i64 p.rhi, .slice p.ra p.rs.length p.rc] 30 (0, 0)) (fun _ => True) w) := by
  refine calls_run (fn := f77) (c := (f77.body).getD .skip) [.agg #[.slice p.ba p.bs.length p.bc, .int .i64 p.zlo, .int .i64 p.zhi, .int .i64 p.rlo, .int .i64 p.rhi, .slice p.ra p.rs.length p.rc]] func77 (by kernel_rfl) (fun _ => False) [] (fun _ h => by cases h) (List.Pairwise.nil) 4 (by kernel_rfl) (by simp) ?_
  refine run_auto [] 2 [] [] [0] [] (st' := ⟨[(0, .agg #[.slice p.ba p.bs.length p.bc, .int .i64 p.zlo, .int .i64 p.zhi, .int .i64 p.rlo, .int .i64 p.rhi, .slice p.ra p.rs.length p.rc])], []⟩) (acc := []) (by kernel_rfl) (by kernel_rfl) trivial ?_
  refine run_new (.cells #[.slice p.ba p.bs.length p.bc, .int .i64 p.zlo, .int .i64 p.zhi, .int .i64 p.rlo, .int .i64 p.rhi, .slice p.ra p.rs.length p.rc] 30 (0, 0)) (fun b1 => .pointer (some ⟨b1, 0, none⟩)) (some 1) (fun _ => by kernel_rfl) (fun b1 hb1 => ?_)
  refine run_auto [] 7 [] [] [2] [0] (st' := ⟨[(2, .func (.func 97) #[] #[.pointer (some ⟨b1, 0, none⟩)])], [(b1, .cells #[.slice p.ba p.bs.length p.bc, .int .i64 p.zlo, .int .i64 p.zhi, .int .i64 p.rlo, .int .i64 p.rhi, .slice p.ra p.rs.length p.rc] 30 (0, 0))]⟩) (acc := []) (by kernel_rfl) (by kernel_rfl) trivial ?_
  refine run_end (fn := f77) rfl (Nat.le_refl _) (by kernel_rfl) [] [.func (.func 97) #[] #[.pointer (some ⟨b1, 0, none⟩)]] (e := []) (by kernel_rfl) trivial (fun w1 k1 h1 => ?_)
  exact ⟨(), b1, trivial, hb1, rfl, k1.keeps (fun _ h => h), h1 (b1, _) (List.mem_of_getElem? (i := 0) rfl)⟩

set_option maxRecDepth 100000 in
theorem comps_give (p : Pr) (b : Nat) (z1 : -10 ≤ p.zlo) (z2 : p.zhi ≤ 10) (r1 : -5 ≤ p.rlo) (r2 : p.rhi ≤ 5) : Gives Try.prog 108 #[.pointer (some ⟨b, 0, none⟩)] [(b, .cells #[.slice p.ba p.bs.length p.bc, .int .i64 p.zlo, .int .i64 p.zhi, .int .i64 p.rlo, .int .i64 p.rhi, .slice p.ra p.rs.length p.rc] 30 (0, 0))] (fun _ _ => True) (fun l => l <+: p.compL) (fun l => l = p.compL) := by
  intro l J Jx E0 w hE0 hst hJw hown hdis _ hy
  have hb := hown _ (List.mem_singleton.2 rfl)
  have hnd := hdis _ (List.mem_singleton.2 rfl)
  refine calls_runE (fn := f108) (c := (f108.body).getD .skip) [.func (.yield l) #[] #[], .pointer (some ⟨b, 0, none⟩)] func108 (by kernel_rfl) E0 hE0 hJw 31 (by kernel_rfl) (by simp) ?_
  refine run_auto [] 4 [] [] [0, 1, 6] [] (st' := ⟨[(0, .func (.yield l) #[] #[]), (1, .pointer (some ⟨b, 0, none⟩)), (6, .pointer (some ⟨b, 1, none⟩))], []⟩) (acc := []) (by kernel_rfl) (by kernel_rfl) trivial ?_
  refine run_v (Instr.loadAt 3 (.pointer (some ⟨b, 1, none⟩)) >>= fun v => pure (Next.value v)) (some 7) (.int .i64 p.zlo) (by kernel_rfl) (fun w1 k1 h1 => load_in (base := 0) (off := 1) k1 hnd [.slice p.ba p.bs.length p.bc, .int .i64 p.zlo, .int .i64 p.zhi, .int .i64 p.rlo, .int .i64 p.rhi, .slice p.ra p.rs.length p.rc] (fun i u hi => by rw [Nat.zero_add]; exact cells_of_heap hb i u hi) (by kernel_rfl)) ?_
  refine run_auto [] 3 [] [] [0, 1, 3] [] (st' := ⟨[(0, .func (.yield l) #[] #[]), (1, .pointer (some ⟨b, 0, none⟩)), (3, .int .i64 p.zlo)], []⟩) (acc := []) (by kernel_rfl) (by kernel_rfl) trivial ?_
  refine run_auto [] 0 [] [] [0, 1, 3] [] (st' := ⟨[(0, .func (.yield l) #[] #[]), (1, .pointer (some ⟨b, 0, none⟩)), (3, .int .i64 p.zlo)], []⟩) (acc := []) (by kernel_rfl) (by kernel_rfl) trivial ?_
  refine run_loopE (σ := Nat × Ext) (S := fun (x : Nat × Ext) => ⟨[(0, .func (.yield l) #[] #[]), (1, .pointer (some ⟨b, 0, none⟩)), (3, .int .i64 (p.zlo + (x.1 : Int)))], []⟩) (fun (x : Nat × Ext) => x.2) (fun (x : Nat × Ext) => x.1 ≤ p.nz ∧ J (pre2 (compV p.zlo p.rlo) p.nr x.1 0) x.2 ∧ x.2.n0 = E0.n0 ∧ (∀ b, b < w.heap.size → x.2.D b → E0.D b)) (fun (x : Nat × Ext) => p.nz - x.1) ((0, E0)) (by kernel_rfl) (⟨Nat.zero_le _, hst, rfl, (fun _ _ h => h)⟩) (by simp) rfl (fun x hI0 J0 hJ0 => ?_)
  obtain ⟨i, Ea⟩ := x
  obtain ⟨hl0, hJEa, hnEa, hsEa⟩ := hI0
  dsimp only at hl0 hJEa hnEa hsEa hJ0
  refine run_auto [] 6 [] [] [0, 1, 3, 8, 10] [] (st' := ⟨[(0, .func (.yield l) #[] #[]), (1, .pointer (some ⟨b, 0, none⟩)), (3, .int .i64 (p.zlo + (i : Int))), (8, .int .i64 (p.zlo + (i : Int))), (10, .pointer (some ⟨b, 2, none⟩))], []⟩) (acc := []) (by kernel_rfl) (by kernel_rfl) trivial ?_
  refine run_v (Instr.loadAt 3 (.pointer (some ⟨b, 2, none⟩)) >>= fun v => pure (Next.value v)) (some 11) (.int .i64 p.zhi) (by kernel_rfl) (fun w1 k1 h1 => load_in (base := 0) (off := 2) k1 hnd [.slice p.ba p.bs.length p.bc, .int .i64 p.zlo, .int .i64 p.zhi, .int .i64 p.rlo, .int .i64 p.rhi, .slice p.ra p.rs.length p.rc] (fun i u hi => by rw [Nat.zero_add]; exact cells_of_heap hb i u hi) (by kernel_rfl)) ?_
  cases hd1 : (decide ((p.zlo + (i : Int)) ≤ p.zhi)) with
  | false =>
    have hp1 := of_decide_eq_false hd1
    refine run_auto [(12, .bool false)] 4 [false] [] [] [] (st' := ⟨[], []⟩) (acc := [(.bool false, .bool false), (.bool (decide ((p.zlo + (i : Int)) ≤ p.zhi)), .bool false)]) (by kernel_rfl) (by kernel_rfl) ⟨rfl, (bo hd1), trivial⟩ ?_
    refine run_endE (fn := f108) rfl (Nat.le_refl _) (by kernel_rfl) [] [] (e := []) (by kernel_rfl) trivial (fun w1 k1 h1 hE1 => ?_)
    exact ⟨rfl, Ea, hnEa, hE1, .inl ⟨_, rfl, by have h := hJEa; rw [show i = p.nz by have h0 := hl0; unfold Pr.nz at h0 ⊢; omega] at h; exact h⟩⟩
  | true =>
    have hp1 := of_decide_eq_true hd1
    refine run_auto [(12, .bool true)] 10 [true] [] [0, 1, 3, 16] [] (st' := ⟨[(0, .func (.yield l) #[] #[]), (1, .pointer (some ⟨b, 0, none⟩)), (3, .int .i64 (p.zlo + (i : Int))), (16, .pointer (some ⟨b, 3, none⟩))], []⟩) (acc := [(.bool true, .bool true), (.bool (decide ((p.zlo + (i : Int)) ≤ p.zhi)), .bool true)]) (by kernel_rfl) (by kernel_rfl) ⟨rfl, (bo hd1), trivial⟩ ?_
    refine run_v (Instr.loadAt 3 (.pointer (some ⟨b, 3, none⟩)) >>= fun v => pure (Next.value v)) (some 17) (.int .i64 p.rlo) (by kernel_rfl) (fun w1 k1 h1 => load_in (base := 0) (off := 3) k1 hnd [.slice p.ba p.bs.length p.bc, .int .i64 p.zlo, .int .i64 p.zhi, .int .i64 p.rlo, .int .i64 p.rhi, .slice p.ra p.rs.length p.rc] (fun i u hi => by rw [Nat.zero_add]; exact cells_of_heap hb i u hi) (by kernel_rfl)) ?_
    refine run_auto [] 3 [] [] [0, 1, 3, 4] [] (st' := ⟨[(0, .func (.yield l) #[] #[]), (1, .pointer (some ⟨b, 0, none⟩)), (3, .int .i64 (p.zlo + (i : Int))), (4, .int .i64 p.rlo)], []⟩) (acc := []) (by kernel_rfl) (by kernel_rfl) trivial ?_
    refine run_auto [] 0 [] [] [0, 1, 3, 4] [] (st' := ⟨[(0, .func (.yield l) #[] #[]), (1, .pointer (some ⟨b, 0, none⟩)), (3, .int .i64 (p.zlo + (i : Int))), (4, .int .i64 p.rlo)], []⟩) (acc := []) (by kernel_rfl) (by kernel_rfl) trivial ?_
    refine run_loopE (σ := Nat × Ext) (S := fun (y : Nat × Ext) => ⟨[(0, .func (.yield l) #[] #[]), (1, .pointer (some ⟨b, 0, none⟩)), (3, .int .i64 (p.zlo + (i : Int))), (4, .int .i64 (p.rlo + (y.1 : Int)))], []⟩) (fun (y : Nat × Ext) => y.2) (fun (y : Nat × Ext) => y.1 ≤ p.nr ∧ J (pre2 (compV p.zlo p.rlo) p.nr i y.1) y.2 ∧ y.2.n0 = E0.n0 ∧ (∀ b, b < w.heap.size → y.2.D b → E0.D b)) (fun (y : Nat × Ext) => p.nr - y.1) ((0, Ea)) (by kernel_rfl) (⟨Nat.zero_le _, hJEa, hnEa, hsEa⟩) (by simp) rfl (fun y hI1 J1 hJ1 => ?_)
    obtain ⟨j, Eb⟩ := y
    obtain ⟨hl1, hJEb, hnEb, hsEb⟩ := hI1
    dsimp only at hl1 hJEb hnEb hsEb hJ1
    refine run_auto [] 6 [] [] [0, 1, 3, 4, 18, 20] [] (st' := ⟨[(0, .func (.yield l) #[] #[]), (1, .pointer (some ⟨b, 0, none⟩)), (3, .int .i64 (p.zlo + (i : Int))), (4, .int .i64 (p.rlo + (j : Int))), (18, .int .i64 (p.rlo + (j : Int))), (20, .pointer (some ⟨b, 4, none⟩))], []⟩) (acc := []) (by kernel_rfl) (by kernel_rfl) trivial ?_
    refine run_v (Instr.loadAt 3 (.pointer (some ⟨b, 4, none⟩)) >>= fun v => pure (Next.value v)) (some 21) (.int .i64 p.rhi) (by kernel_rfl) (fun w1 k1 h1 => load_in (base := 0) (off := 4) k1 hnd [.slice p.ba p.bs.length p.bc, .int .i64 p.zlo, .int .i64 p.zhi, .int .i64 p.rlo, .int .i64 p.rhi, .slice p.ra p.rs.length p.rc] (fun i u hi => by rw [Nat.zero_add]; exact cells_of_heap hb i u hi) (by kernel_rfl)) ?_
    cases hd2 : (decide ((p.rlo + (j : Int)) ≤ p.rhi)) with
    | false =>
      have hp2 := of_decide_eq_false hd2
      refine run_auto [(22, .bool false), (14, .int .i64 (p.zlo + ((i + 1 : Nat) : Int)))] 10 [false] [] [0, 1, 3] [] (st' := ⟨[(0, .func (.yield l) #[] #[]), (1, .pointer (some ⟨b, 0, none⟩)), (3, .int .i64 (p.zlo + ((i + 1 : Nat) : Int)))], []⟩) (acc := [(.int .i64 (IntKind.i64.wrap ((p.zlo + (i : Int)) + 1)), .int .i64 (p.zlo + ((i + 1 : Nat) : Int))), (.bool false, .bool false), (.bool (decide ((p.rlo + (j : Int)) ≤ p.rhi)), .bool false)]) (by kernel_rfl) (by kernel_rfl) ⟨((wr (by omega) (by omega)).trans (io (by omega))), rfl, (bo hd2), trivial⟩ ?_
      exact run_round (by kernel_rfl) (hJ0 ((i + 1, Eb)) (⟨by unfold Pr.nz; dsimp only; omega, by have h := hJEb; rw [show j = p.nr by have h0 := hl1; unfold Pr.nr at h0 ⊢; omega, pre2_row] at h; exact h, hnEb, hsEb⟩) (by unfold Pr.nz; dsimp only; omega))
    | true =>
      have hp2 := of_decide_eq_true hd2
      refine run_auto [(22, .bool true)] 12 [true] [] [0, 1, 3, 4, 25, 28] [] (st' := ⟨[(0, .func (.yield l) #[] #[]), (1, .pointer (some ⟨b, 0, none⟩)), (3, .int .i64 (p.zlo + (i : Int))), (4, .int .i64 (p.rlo + (j : Int))), (25, .func (.yield l) #[] #[]), (28, .agg #[.int .i64 (p.zlo + (i : Int)), .int .i64 (p.rlo + (j : Int))])], []⟩) (acc := [(.bool true, .bool true), (.bool (decide ((p.rlo + (j : Int)) ≤ p.rhi)), .bool true)]) (by kernel_rfl) (by kernel_rfl) ⟨rfl, (bo hd2), trivial⟩ ?_
      have hpre := pre2_in (compV p.zlo p.rlo) p.nr (i := i) (j := j) (n := p.nz) (by unfold Pr.nz; omega) (by unfold Pr.nr; omega)
      refine run_yield l #[.agg #[.int .i64 (p.zlo + (i : Int)), .int .i64 (p.rlo + (j : Int))]] (some 29) (by kernel_rfl) hsEb (Yt (J (pre2 (compV p.zlo p.rlo) p.nr i j ++ [compV p.zlo p.rlo i j])) Jx) (fun w1 hJ1 k1 => Ygives.out (Ygives.of (E := Eb) (hy _ (compV p.zlo p.rlo i j) Eb w1 hpre hJEb hnEb hJ1) hnEb)) (fun E3 t hok hn3 hs3 => ?_)
      have hs4 : ∀ b, b < w.heap.size → E3.D b → E0.D b := fun b hb h => (hs3 b h).elim (hsEb b hb) (fun h => absurd hb (Nat.not_lt.2 h))
      cases hd3 : t with
      | false =>
        rw [hd3] at hok
        dsimp only [Yt] at hok
        refine run_auto [(30, .bool true)] 3 [true] [] [0, 1, 3, 4] [] (st' := ⟨[(0, .func (.yield l) #[] #[]), (1, .pointer (some ⟨b, 0, none⟩)), (3, .int .i64 (p.zlo + (i : Int))), (4, .int .i64 (p.rlo + (j : Int)))], []⟩) (acc := [(.bool true, .bool true), (.bool true, .bool true)]) (by kernel_rfl) (by kernel_rfl) ⟨rfl, rfl, trivial⟩ ?_
        refine run_endE (fn := f108) rfl (Nat.le_refl _) (by kernel_rfl) [] [] (e := []) (by kernel_rfl) trivial (fun w1 k1 h1 hE1 => ?_)
        exact ⟨rfl, E3, (hn3.trans hnEb), hE1, .inr hok⟩
      | true =>
        rw [hd3] at hok
        dsimp only [Yt] at hok
        refine run_auto [(30, .bool false), (24, .int .i64 (p.rlo + ((j + 1 : Nat) : Int)))] 10 [false] [] [0, 1, 3, 4] [] (st' := ⟨[(0, .func (.yield l) #[] #[]), (1, .pointer (some ⟨b, 0, none⟩)), (3, .int .i64 (p.zlo + (i : Int))), (4, .int .i64 (p.rlo + ((j + 1 : Nat) : Int)))], []⟩) (acc := [(.int .i64 (IntKind.i64.wrap ((p.rlo + (j : Int)) + 1)), .int .i64 (p.rlo + ((j + 1 : Nat) : Int))), (.bool false, .bool false), (.bool false, .bool false)]) (by kernel_rfl) (by kernel_rfl) ⟨((wr (by omega) (by omega)).trans (io (by omega))), rfl, rfl, trivial⟩ ?_
        exact run_round (by kernel_rfl) (hJ1 ((j + 1, E3)) (⟨by unfold Pr.nr; dsimp only; omega, by have h := hok; rw [pre2_next] at h; exact h, (hn3.trans hnEb), hs4⟩) (by unfold Pr.nr; dsimp only; omega))
end Go.Proofs.Ytmiobcnccbfknaa
