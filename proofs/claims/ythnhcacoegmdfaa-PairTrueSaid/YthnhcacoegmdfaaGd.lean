/-
  PAIR: a pair in memory; within, wide, isBlock, isMinute, validBlocks, validReads.
  PAIR: what a comparator shows; gaps in memory.
  PAIR: bounds, put to gaps; what is known before anything is read.
-/
import Derived.Test.YthnhcacoegmdfaaGb
import Derived.Test.YthnhcacoegmdfaaRows
import Derived.Test.YthnhcacoegmdfaaGc
namespace Go.Proofs.Ythnhcacoegmdfaa
open Go.RowKit Go.Proofs.Try


/-- A reading: two blocks, a minute, and from where to where it is. -/
abbrev Rw := Int × Int × Int × Int × Int
def elB (bs : List (Int × Int)) (k : Nat) : Int × Int := bs[k]?.getD (0, 0)
def elR (rs : List Rw) (k : Nat) : Rw := rs[k]?.getD (0, 0, 0, 0, 0)
def inS (lo hi a b : Int) : Bool := decide (a ≤ lo ∧ lo ≤ hi ∧ hi ≤ b)
theorem inS_bd {lo hi a b : Int} (h : inS lo hi a b = true) : a ≤ lo ∧ lo ≤ hi ∧ hi ≤ b := by simpa [inS] using h
/-- The slice at a holds these spans. -/
def Bls (w : World) (a : Option Addr) (bs : List (Int × Int)) : Prop :=
  bs ≠ [] → ∃ b o, a = some ⟨b, o, none⟩ ∧ ∀ i, i < bs.length → w.cell? ⟨b, o + i * 2, none⟩ = some (.int .i64 (elB bs i).1) ∧ w.cell? ⟨b, o + i * 2 + 1, none⟩ = some (.int .i64 (elB bs i).2)
def Rds (w : World) (a : Option Addr) (rs : List Rw) : Prop :=
  rs ≠ [] → ∃ b o, a = some ⟨b, o, none⟩ ∧ ∀ i, i < rs.length → w.cell? ⟨b, o + i * 5, none⟩ = some (.int .i64 (elR rs i).1) ∧ w.cell? ⟨b, o + i * 5 + 1, none⟩ = some (.int .i64 (elR rs i).2.1) ∧
    w.cell? ⟨b, o + i * 5 + 2, none⟩ = some (.int .i64 (elR rs i).2.2.1) ∧ w.cell? ⟨b, o + i * 5 + 3, none⟩ = some (.int .i64 (elR rs i).2.2.2.1) ∧ w.cell? ⟨b, o + i * 5 + 4, none⟩ = some (.int .i64 (elR rs i).2.2.2.2)
theorem Bls.keep {w w' : World} {a : Option Addr} {xs : List (Int × Int)} (h : Bls w a xs) (k : Keeps w w') : Bls w' a xs := by
  intro hx
  obtain ⟨b, o, e, hc⟩ := h hx
  exact ⟨b, o, e, fun i hi => ⟨k.cell (hc i hi).1, k.cell (hc i hi).2⟩⟩
theorem Rds.keep {w w' : World} {a : Option Addr} {xs : List Rw} (h : Rds w a xs) (k : Keeps w w') : Rds w' a xs := by
  intro hx
  obtain ⟨b, o, e, hc⟩ := h hx
  exact ⟨b, o, e, fun i hi => ⟨k.cell (hc i hi).1, k.cell (hc i hi).2.1, k.cell (hc i hi).2.2.1, k.cell (hc i hi).2.2.2.1, k.cell (hc i hi).2.2.2.2⟩⟩
abbrev pe (k : Int) : List PanicEntry := [{ v := .iface 24 (.int .i64 k), recovered := false }]
def Pan (k : Int) (w : World) (e : Ending) (w' : World) : Prop := e = .panicked (pe k) ∧ Keeps w w'
/-- What must be so, or it panics with k. -/
def Need (b : Bool) (k : Int) (w : World) (e : Ending) (w' : World) : Prop := bif b then Ret (.tuple #[]) w e w' else Pan k w e w'
/-- A pair. -/
structure Pr where
  ba : Option Addr
  bc : Nat
  bs : List (Int × Int)
  zlo : Int
  zhi : Int
  rlo : Int
  rhi : Int
  ra : Option Addr
  rc : Nat
  rs : List Rw
def Pr.v (p : Pr) : Value := .agg #[.slice p.ba p.bs.length p.bc, .int .i64 p.zlo, .int .i64 p.zhi, .int .i64 p.rlo, .int .i64 p.rhi, .slice p.ra p.rs.length p.rc]
structure Pr.In (p : Pr) (w : World) : Prop where
  bl : Bls w p.ba p.bs
  rd : Rds w p.ra p.rs
  ln : p.bs.length ≤ maxLen
  lr : p.rs.length ≤ maxLen
theorem Pr.In.keep {p : Pr} {w w' : World} (h : p.In w) (k : Keeps w w') : p.In w' := ⟨h.bl.keep k, h.rd.keep k, h.ln, h.lr⟩
def blkB (n m : Int) : Bool := decide (0 ≤ n ∧ n < m)
def minB (n : Int) : Bool := decide (0 ≤ n ∧ n ≤ 60)
def vRd (n : Nat) (r : Rw) : Bool := blkB r.1 n && blkB r.2.1 n && !(r.1 == r.2.1) && minB r.2.2.1 && inS r.2.2.2.1 r.2.2.2.2 (-80) 80
def vBls (bs : List (Int × Int)) : Bool := decide (1 ≤ bs.length ∧ bs.length ≤ 5) && bs.all fun s => inS s.1 s.2 (-20) 20
def vRds (n : Nat) (rs : List Rw) : Bool := decide (rs.length ≤ 8) && rs.all (vRd n)
def Pr.ok (p : Pr) : Bool := vBls p.bs && inS p.zlo p.zhi (-10) 10 && decide (p.zhi - p.zlo ≤ 4) && inS p.rlo p.rhi (-5) 5 && decide (p.rhi - p.rlo ≤ 4) && vRds p.bs.length p.rs
theorem c2 {B : World} {b o : Nat} {u0 u1 : Value} (h0 : B.cell? ⟨b, o, none⟩ = some u0) (h1 : B.cell? ⟨b, o + 1, none⟩ = some u1) : ∀ i u, [u0, u1][i]? = some u → B.cell? ⟨b, o + i, none⟩ = some u := by
  intro i u hu
  match i, hu with
  | 0, hu => injection hu with hu; subst hu; exact h0
  | 1, hu => injection hu with hu; subst hu; exact h1
  | i + 2, hu => simp at hu
theorem c5 {B : World} {b o : Nat} {u0 u1 u2 u3 u4 : Value} (h0 : B.cell? ⟨b, o, none⟩ = some u0) (h1 : B.cell? ⟨b, o + 1, none⟩ = some u1) (h2 : B.cell? ⟨b, o + 2, none⟩ = some u2) (h3 : B.cell? ⟨b, o + 3, none⟩ = some u3) (h4 : B.cell? ⟨b, o + 4, none⟩ = some u4) : ∀ i u, [u0, u1, u2, u3, u4][i]? = some u → B.cell? ⟨b, o + i, none⟩ = some u := by
  intro i u hu
  match i, hu with
  | 0, hu => injection hu with hu; subst hu; exact h0
  | 1, hu => injection hu with hu; subst hu; exact h1
  | 2, hu => injection hu with hu; subst hu; exact h2
  | 3, hu => injection hu with hu; subst hu; exact h3
  | 4, hu => injection hu with hu; subst hu; exact h4
  | i + 5, hu => simp at hu
theorem all_no {α : Type} {p : α → Bool} {l : List α} {k : Nat} {d : α} (hk : k < l.length) (h : p (l[k]?.getD d) = false) : l.all p = false := by
  rw [List.all_eq_false]
  refine ⟨l[k], List.getElem_mem hk, ?_⟩
  rw [List.getElem?_eq_getElem hk] at h
  simpa using h
theorem all_yes {α : Type} {p : α → Bool} {l : List α} {d : α} (h : ∀ k, k < l.length → p (l[k]?.getD d) = true) : l.all p = true := by
  rw [List.all_eq_true]
  intro x hx
  obtain ⟨k, hk, rfl⟩ := List.getElem_of_mem hx
  have := h k hk
  rwa [List.getElem?_eq_getElem hk] at this
set_option maxRecDepth 100000 in
theorem within_any (lo hi a b : Int) (w : World)  : Calls Try.prog 72 #[.agg #[.int .i64 lo, .int .i64 hi], .int .i64 a, .int .i64 b] w (RetB (inS lo hi a b) w) := by
  refine calls_run (fn := f72) (c := (f72.body).getD .skip) [.agg #[.int .i64 lo, .int .i64 hi], .int .i64 a, .int .i64 b] func72 (by kernel_rfl) (fun _ => False) [] (fun _ h => by cases h) (List.Pairwise.nil) 24 (by kernel_rfl) (by simp) ?_
  refine run_auto [] 2 [] [] [0, 1, 2] [] (st' := ⟨[(0, .agg #[iV lo, iV hi]), (1, iV a), (2, iV b)], []⟩) (acc := []) (by kernel_rfl) (by kernel_rfl) trivial ?_
  refine run_new (aO #[iV lo, iV hi] 23) (fun b1 => pA b1) (some 3) (fun _ => by kernel_rfl) (fun b1 hb1 => ?_)
  cases hd1 : (decide (a ≤ lo)) with
  | false =>
    have hp1 := of_decide_eq_false hd1
    refine run_auto [(10, .bool false)] 23 [] [0] [6] [] (st' := ⟨[(6, .bool false)], []⟩) (acc := [(.bool (decide (a ≤ lo)), .bool false), (pA b1, pA b1)]) (by kernel_rfl) (by kernel_rfl) ⟨(bo hd1), rfl, trivial⟩ ?_
    refine run_end (fn := f72) rfl (Nat.le_refl _) (by kernel_rfl) [] [.bool false] (e := []) (by kernel_rfl) trivial (fun w1 k1 h1 => ?_)
    exact ⟨by simp only [resVal]; congr 2; simp only [inS]; simp; omega, k1.keeps (fun _ h => h)⟩
  | true =>
    have hp1 := of_decide_eq_true hd1
    cases hd2 : (decide (lo ≤ hi)) with
    | false =>
      have hp2 := of_decide_eq_false hd2
      refine run_auto [(10, .bool true), (16, .bool false)] 23 [] [0, 0, 0] [6] [] (st' := ⟨[(6, .bool false)], []⟩) (acc := [(.bool (decide (lo ≤ hi)), .bool false), (pA b1, pA b1), (pA b1, pA b1), (.bool (decide (a ≤ lo)), .bool true), (pA b1, pA b1)]) (by kernel_rfl) (by kernel_rfl) ⟨(bo hd2), rfl, rfl, (bo hd1), rfl, trivial⟩ ?_
      refine run_end (fn := f72) rfl (Nat.le_refl _) (by kernel_rfl) [] [.bool false] (e := []) (by kernel_rfl) trivial (fun w1 k1 h1 => ?_)
      exact ⟨by simp only [resVal]; congr 2; simp only [inS]; simp; omega, k1.keeps (fun _ h => h)⟩
    | true =>
      have hp2 := of_decide_eq_true hd2
      cases hd3 : (decide (hi ≤ b)) with
      | false =>
        have hp3 := of_decide_eq_false hd3
        refine run_auto [(10, .bool true), (16, .bool true), (22, .bool false)] 23 [] [0, 0, 0, 0] [6] [] (st' := ⟨[(6, .bool false)], []⟩) (acc := [(.bool (decide (hi ≤ b)), .bool false), (pA b1, pA b1), (.bool (decide (lo ≤ hi)), .bool true), (pA b1, pA b1), (pA b1, pA b1), (.bool (decide (a ≤ lo)), .bool true), (pA b1, pA b1)]) (by kernel_rfl) (by kernel_rfl) ⟨(bo hd3), rfl, (bo hd2), rfl, rfl, (bo hd1), rfl, trivial⟩ ?_
        refine run_end (fn := f72) rfl (Nat.le_refl _) (by kernel_rfl) [] [.bool false] (e := []) (by kernel_rfl) trivial (fun w1 k1 h1 => ?_)
        exact ⟨by simp only [resVal]; congr 2; simp only [inS]; simp; omega, k1.keeps (fun _ h => h)⟩
      | true =>
        have hp3 := of_decide_eq_true hd3
        refine run_auto [(10, .bool true), (16, .bool true), (22, .bool true)] 23 [] [0, 0, 0, 0] [6] [] (st' := ⟨[(6, .bool true)], []⟩) (acc := [(.bool (decide (hi ≤ b)), .bool true), (pA b1, pA b1), (.bool (decide (lo ≤ hi)), .bool true), (pA b1, pA b1), (pA b1, pA b1), (.bool (decide (a ≤ lo)), .bool true), (pA b1, pA b1)]) (by kernel_rfl) (by kernel_rfl) ⟨(bo hd3), rfl, (bo hd2), rfl, rfl, (bo hd1), rfl, trivial⟩ ?_
        refine run_end (fn := f72) rfl (Nat.le_refl _) (by kernel_rfl) [] [.bool true] (e := []) (by kernel_rfl) trivial (fun w1 k1 h1 => ?_)
        exact ⟨by simp only [resVal]; congr 2; simp only [inS]; simp; omega, k1.keeps (fun _ h => h)⟩

set_option maxRecDepth 100000 in
theorem wide_any (lo hi : Int) (h1 : -100000 ≤ lo) (h2 : lo ≤ 100000) (h3 : -100000 ≤ hi) (h4 : hi ≤ 100000) (w : World)  : Calls Try.prog 73 #[.agg #[.int .i64 lo, .int .i64 hi]] w (RetI (hi - lo) w) := by
  refine calls_run (fn := f73) (c := (f73.body).getD .skip) [.agg #[.int .i64 lo, .int .i64 hi]] func73 (by kernel_rfl) (fun _ => False) [] (fun _ h => by cases h) (List.Pairwise.nil) 8 (by kernel_rfl) (by simp) ?_
  refine run_auto [] 2 [] [] [0] [] (st' := ⟨[(0, .agg #[iV lo, iV hi])], []⟩) (acc := []) (by kernel_rfl) (by kernel_rfl) trivial ?_
  refine run_new (aO #[iV lo, iV hi] 23) (fun b1 => pA b1) (some 1) (fun _ => by kernel_rfl) (fun b1 hb1 => ?_)
  refine run_auto [(7, iV (hi - lo))] 11 [] [0, 0] [2] [] (st' := ⟨[(2, iV (hi - lo))], []⟩) (acc := [(iV (IntKind.i64.wrap (hi - lo)), iV (hi - lo)), (pA b1, pA b1), (pA b1, pA b1)]) (by kernel_rfl) (by kernel_rfl) ⟨(wr (by omega) (by omega)), rfl, rfl, trivial⟩ ?_
  refine run_end (fn := f73) rfl (Nat.le_refl _) (by kernel_rfl) [] [iV (hi - lo)] (e := []) (by kernel_rfl) trivial (fun w1 k1 h1 => ?_)
  exact ⟨rfl, k1.keeps (fun _ h => h)⟩

set_option maxRecDepth 100000 in
theorem isBlock_any (n m : Int) (w : World)  : Calls Try.prog 75 #[.int .i64 n, .int .i64 m] w (RetB (blkB n m) w) := by
  refine calls_run (fn := f75) (c := (f75.body).getD .skip) [.int .i64 n, .int .i64 m] func75 (by kernel_rfl) (fun _ => False) [] (fun _ h => by cases h) (List.Pairwise.nil) 12 (by kernel_rfl) (by simp) ?_
  cases hd1 : (decide (0 ≤ n)) with
  | false =>
    have hp1 := of_decide_eq_false hd1
    refine run_auto [(6, .bool false)] 15 [] [] [4] [] (st' := ⟨[(4, .bool false)], []⟩) (acc := [(.bool (decide (0 ≤ n)), .bool false)]) (by kernel_rfl) (by kernel_rfl) ⟨(bo hd1), trivial⟩ ?_
    refine run_end (fn := f75) rfl (Nat.le_refl _) (by kernel_rfl) [] [.bool false] (e := []) (by kernel_rfl) trivial (fun w1 k1 h1 => ?_)
    exact ⟨by simp only [resVal]; congr 2; simp only [blkB]; simp; omega, k1.keeps (fun _ h => h)⟩
  | true =>
    have hp1 := of_decide_eq_true hd1
    cases hd2 : (decide (n < m)) with
    | false =>
      have hp2 := of_decide_eq_false hd2
      refine run_auto [(6, .bool true), (10, .bool false)] 15 [] [] [4] [] (st' := ⟨[(4, .bool false)], []⟩) (acc := [(.bool (decide (n < m)), .bool false), (.bool (decide (0 ≤ n)), .bool true)]) (by kernel_rfl) (by kernel_rfl) ⟨(bo hd2), (bo hd1), trivial⟩ ?_
      refine run_end (fn := f75) rfl (Nat.le_refl _) (by kernel_rfl) [] [.bool false] (e := []) (by kernel_rfl) trivial (fun w1 k1 h1 => ?_)
      exact ⟨by simp only [resVal]; congr 2; simp only [blkB]; simp; omega, k1.keeps (fun _ h => h)⟩
    | true =>
      have hp2 := of_decide_eq_true hd2
      refine run_auto [(6, .bool true), (10, .bool true)] 15 [] [] [4] [] (st' := ⟨[(4, .bool true)], []⟩) (acc := [(.bool (decide (n < m)), .bool true), (.bool (decide (0 ≤ n)), .bool true)]) (by kernel_rfl) (by kernel_rfl) ⟨(bo hd2), (bo hd1), trivial⟩ ?_
      refine run_end (fn := f75) rfl (Nat.le_refl _) (by kernel_rfl) [] [.bool true] (e := []) (by kernel_rfl) trivial (fun w1 k1 h1 => ?_)
      exact ⟨by simp only [resVal]; congr 2; simp only [blkB]; simp; omega, k1.keeps (fun _ h => h)⟩

set_option maxRecDepth 100000 in
theorem isMinute_any (n : Int) (w : World)  : Calls Try.prog 78 #[.int .i64 n] w (RetB (minB n) w) := by
  refine calls_run (fn := f78) (c := (f78.body).getD .skip) [.int .i64 n] func78 (by kernel_rfl) (fun _ => False) [] (fun _ h => by cases h) (List.Pairwise.nil) 9 (by kernel_rfl) (by simp) ?_
  cases hd1 : (decide (0 ≤ n)) with
  | false =>
    have hp1 := of_decide_eq_false hd1
    refine run_auto [(4, .bool false)] 14 [] [] [2] [] (st' := ⟨[(2, .bool false)], []⟩) (acc := [(.bool (decide (0 ≤ n)), .bool false)]) (by kernel_rfl) (by kernel_rfl) ⟨(bo hd1), trivial⟩ ?_
    refine run_end (fn := f78) rfl (Nat.le_refl _) (by kernel_rfl) [] [.bool false] (e := []) (by kernel_rfl) trivial (fun w1 k1 h1 => ?_)
    exact ⟨by simp only [resVal]; congr 2; simp only [minB]; simp; omega, k1.keeps (fun _ h => h)⟩
  | true =>
    have hp1 := of_decide_eq_true hd1
    cases hd2 : (decide (n ≤ 60)) with
    | false =>
      have hp2 := of_decide_eq_false hd2
      refine run_auto [(4, .bool true), (7, .bool false)] 14 [] [] [2] [] (st' := ⟨[(2, .bool false)], []⟩) (acc := [(.bool (decide (n ≤ 60)), .bool false), (.bool (decide (0 ≤ n)), .bool true)]) (by kernel_rfl) (by kernel_rfl) ⟨(bo hd2), (bo hd1), trivial⟩ ?_
      refine run_end (fn := f78) rfl (Nat.le_refl _) (by kernel_rfl) [] [.bool false] (e := []) (by kernel_rfl) trivial (fun w1 k1 h1 => ?_)
      exact ⟨by simp only [resVal]; congr 2; simp only [minB]; simp; omega, k1.keeps (fun _ h => h)⟩
    | true =>
      have hp2 := of_decide_eq_true hd2
      refine run_auto [(4, .bool true), (7, .bool true)] 14 [] [] [2] [] (st' := ⟨[(2, .bool true)], []⟩) (acc := [(.bool (decide (n ≤ 60)), .bool true), (.bool (decide (0 ≤ n)), .bool true)]) (by kernel_rfl) (by kernel_rfl) ⟨(bo hd2), (bo hd1), trivial⟩ ?_
      refine run_end (fn := f78) rfl (Nat.le_refl _) (by kernel_rfl) [] [.bool true] (e := []) (by kernel_rfl) trivial (fun w1 k1 h1 => ?_)
      exact ⟨by simp only [resVal]; congr 2; simp only [minB]; simp; omega, k1.keeps (fun _ h => h)⟩

set_option maxRecDepth 100000 in
theorem validBlocks_any (ba : Option Addr) (bc : Nat) (bs : List (Int × Int)) (w : World) (hb : Bls w ba bs) (hl : bs.length ≤ maxLen) : Calls Try.prog 71 #[.slice ba bs.length bc] w (RetB (vBls bs) w) := by
  simp only [maxLen] at hl
  refine calls_run (fn := f71) (c := (f71.body).getD .skip) [.slice ba bs.length bc] func71 (by kernel_rfl) (fun _ => False) [] (fun _ h => by cases h) (List.Pairwise.nil) 23 (by kernel_rfl) (by simp) ?_
  cases hd1 : (decide ((bs.length : Int) < 1)) with
  | false =>
    have hp1 := of_decide_eq_false hd1
    cases hd2 : (decide (5 < (bs.length : Int))) with
    | false =>
      have hp2 := of_decide_eq_false hd2
      refine run_auto [(7, .bool false), (11, .bool false)] 26 [false] [] [2, 13, 14, 15] [] (st' := ⟨[(2, .bool false), (13, .slice ba bs.length bc), (14, iV (bs.length : Int)), (15, iV 0)], []⟩) (acc := [(.bool false, .bool false), (.bool (decide (5 < (bs.length : Int))), .bool false), (.bool (decide ((bs.length : Int) < 1)), .bool false)]) (by kernel_rfl) (by kernel_rfl) ⟨rfl, (bo hd2), (bo hd1), trivial⟩ ?_
      refine run_auto [] 0 [] [] [2, 13, 14, 15] [] (st' := ⟨[(2, .bool false), (13, .slice ba bs.length bc), (14, iV (bs.length : Int)), (15, iV 0)], []⟩) (acc := []) (by kernel_rfl) (by kernel_rfl) trivial ?_
      refine run_loop (S := fun (k : Nat) => ⟨[(2, .bool false), (13, .slice ba bs.length bc), (14, iV (bs.length : Int)), (15, iV (k : Int))], []⟩) (fun k => k ≤ bs.length ∧ ∀ j, j < k → inS (elB bs j).1 (elB bs j).2 (-20) 20 = true) (fun k => bs.length - k) (0) (by kernel_rfl) (⟨Nat.zero_le _, fun _ h => by cases h⟩) (by kernel_rfl) (fun k hI0 J0 hJ0 => ?_)
      obtain ⟨hI1, hI2⟩ := hI0
      cases hd3 : (decide ((k : Int) < (bs.length : Int))) with
      | false =>
        have hp3 := of_decide_eq_false hd3
        refine run_auto [(16, .bool false)] 11 [false] [] [2] [] (st' := ⟨[(2, .bool true)], []⟩) (acc := [(.bool false, .bool false), (.bool (decide ((k : Int) < (bs.length : Int))), .bool false)]) (by kernel_rfl) (by kernel_rfl) ⟨rfl, (bo hd3), trivial⟩ ?_
        refine run_end (fn := f71) rfl (Nat.le_refl _) (by kernel_rfl) [] [.bool true] (e := []) (by kernel_rfl) trivial (fun w1 k1 h1 => ?_)
        have h : vBls bs = true := by
          unfold vBls
          rw [all_yes (p := fun s => inS s.1 s.2 (-20) 20) (d := (0, 0)) (fun j hj => hI2 j (by omega))]
          simp; omega
        exact ⟨by rw [h]; rfl, k1.keeps (fun _ h => h)⟩
      | true =>
        have hp3 := of_decide_eq_true hd3
        have hlt : k < bs.length := by omega
        obtain ⟨b, o, rfl, hc⟩ := hb (by intro h; rw [h] at hlt; cases hlt)
        have hc := hc k hlt
        refine run_auto [(16, .bool true)] 11 [true] [] [2, 13, 14, 15] [] (st' := ⟨[(2, .bool false), (13, .slice (some ⟨b, o, none⟩) bs.length bc), (14, iV (bs.length : Int)), (15, iV (k : Int))], []⟩) (acc := [(.bool true, .bool true), (.bool (decide ((k : Int) < (bs.length : Int))), .bool true)]) (by kernel_rfl) (by kernel_rfl) ⟨rfl, (bo hd3), trivial⟩ ?_
        refine run_v (Instr.indexAt 27 (.slice (some ⟨b, o, none⟩) bs.length bc) (iV (k : Int)) >>= fun v => pure (Next.value v)) (some 17) (.pointer (some ⟨b, o + k * 2, none⟩)) (by kernel_rfl) (fun w1 k1 h1 => idx_run (e := 23) (n := 2) (by kernel_rfl) (by kernel_rfl) b o bs.length bc .i64 k hlt w1) ?_
        refine run_v (Instr.loadAt 23 (.pointer (some ⟨b, o + k * 2, none⟩)) >>= fun v => pure (Next.value v)) (some 18) (.agg #[iV (elB bs k).1, iV (elB bs k).2]) (by kernel_rfl) (fun w1 k1 h1 => load_in (off := 0) k1 (fun h => h) [iV (elB bs k).1, iV (elB bs k).2] (c2 hc.1 hc.2) (by kernel_rfl)) ?_
        refine run_new (aO #[iV 0, iV 0] 23) (fun b1 => pA b1) (some 4) (fun _ => by kernel_rfl) (fun b1 hb1 => ?_)
        refine run_auto [] 5 [] [0, 0] [2, 13, 14, 15, 19] [] (st' := ⟨[(2, .bool false), (13, .slice (some ⟨b, o, none⟩) bs.length bc), (14, iV (bs.length : Int)), (15, iV (k : Int)), (19, .agg #[iV (elB bs k).1, iV (elB bs k).2])], []⟩) (acc := [(pA b1, pA b1), (pA b1, pA b1)]) (by kernel_rfl) (by kernel_rfl) ⟨rfl, rfl, trivial⟩ ?_
        cases hd4 : (inS (elB bs k).1 (elB bs k).2 (-20) 20) with
        | false =>
          refine run_ret1 72 #[.agg #[iV (elB bs k).1, iV (elB bs k).2], iV (-20), iV 20] (some 20) (.bool false) (by kernel_rfl) (fun w1 k1 h1 => (by have h := within_any (elB bs k).1 (elB bs k).2 (-20) 20 w1; rw [hd4] at h; exact h)) ?_
          refine run_auto [(21, .bool true)] 7 [true] [] [2, 13, 14, 15] [] (st' := ⟨[(2, .bool false), (13, .slice (some ⟨b, o, none⟩) bs.length bc), (14, iV (bs.length : Int)), (15, iV (k : Int))], []⟩) (acc := [(.bool true, .bool true), (.bool true, .bool true)]) (by kernel_rfl) (by kernel_rfl) ⟨rfl, rfl, trivial⟩ ?_
          refine run_end (fn := f71) rfl (Nat.le_refl _) (by kernel_rfl) [] [.bool false] (e := []) (by kernel_rfl) trivial (fun w1 k1 h1 => ?_)
          have h : vBls bs = false := by
            unfold vBls
            rw [all_no (p := fun s => inS s.1 s.2 (-20) 20) (d := (0, 0)) hlt hd4]
            simp
          exact ⟨by rw [h]; rfl, k1.keeps (fun _ h => h)⟩
        | true =>
          refine run_ret1 72 #[.agg #[iV (elB bs k).1, iV (elB bs k).2], iV (-20), iV 20] (some 20) (.bool true) (by kernel_rfl) (fun w1 k1 h1 => (by have h := within_any (elB bs k).1 (elB bs k).2 (-20) 20 w1; rw [hd4] at h; exact h)) ?_
          refine run_auto [(21, .bool false), (22, iV ((k + 1 : Nat) : Int))] 9 [false] [] [2, 13, 14, 15] [] (st' := ⟨[(2, .bool false), (13, .slice (some ⟨b, o, none⟩) bs.length bc), (14, iV (bs.length : Int)), (15, iV ((k + 1 : Nat) : Int))], []⟩) (acc := [(iV (IntKind.i64.wrap ((k : Int) + 1)), iV ((k + 1 : Nat) : Int)), (.bool false, .bool false), (.bool false, .bool false)]) (by kernel_rfl) (by kernel_rfl) ⟨(wr (by omega) (by omega)), rfl, rfl, trivial⟩ ?_
          exact run_round (by kernel_rfl) (hJ0 (k + 1) (⟨by omega, fun j hj => (Nat.lt_succ_iff_lt_or_eq.1 hj).elim (hI2 j) (fun h => h ▸ hd4)⟩) (by omega))
    | true =>
      have hp2 := of_decide_eq_true hd2
      refine run_auto [(7, .bool false), (11, .bool true)] 21 [true] [] [0, 2] [] (st' := ⟨[(0, .slice ba bs.length bc), (2, .bool false)], []⟩) (acc := [(.bool true, .bool true), (.bool (decide (5 < (bs.length : Int))), .bool true), (.bool (decide ((bs.length : Int) < 1)), .bool false)]) (by kernel_rfl) (by kernel_rfl) ⟨rfl, (bo hd2), (bo hd1), trivial⟩ ?_
      refine run_end (fn := f71) rfl (Nat.le_refl _) (by kernel_rfl) [] [.bool false] (e := []) (by kernel_rfl) trivial (fun w1 k1 h1 => ?_)
      have h : vBls bs = false := by
        simp [vBls]; omega
      exact ⟨by rw [h]; rfl, k1.keeps (fun _ h => h)⟩
  | true =>
    have hp1 := of_decide_eq_true hd1
    refine run_auto [(7, .bool true)] 21 [true] [] [0, 2] [] (st' := ⟨[(0, .slice ba bs.length bc), (2, .bool false)], []⟩) (acc := [(.bool true, .bool true), (.bool (decide ((bs.length : Int) < 1)), .bool true)]) (by kernel_rfl) (by kernel_rfl) ⟨rfl, (bo hd1), trivial⟩ ?_
    refine run_end (fn := f71) rfl (Nat.le_refl _) (by kernel_rfl) [] [.bool false] (e := []) (by kernel_rfl) trivial (fun w1 k1 h1 => ?_)
    have h : vBls bs = false := by
      simp [vBls]; omega
    exact ⟨by rw [h]; rfl, k1.keeps (fun _ h => h)⟩

set_option maxRecDepth 100000 in
theorem validReads_any (m : Nat) (ra : Option Addr) (rc : Nat) (rs : List Rw) (w : World) (hb : Rds w ra rs) (hl : rs.length ≤ maxLen) : Calls Try.prog 74 #[.slice ra rs.length rc, .int .i64 (m : Int)] w (RetB (vRds m rs) w) := by
  simp only [maxLen] at hl
  refine calls_run (fn := f74) (c := (f74.body).getD .skip) [.slice ra rs.length rc, .int .i64 (m : Int)] func74 (by kernel_rfl) (fun _ => False) [] (fun _ h => by cases h) (List.Pairwise.nil) 48 (by kernel_rfl) (by simp) ?_
  cases hd1 : (decide (8 < (rs.length : Int))) with
  | false =>
    have hp1 := of_decide_eq_false hd1
    refine run_auto [(9, .bool false)] 21 [false] [] [1, 4, 10, 11, 12] [] (st' := ⟨[(1, iV (m : Int)), (4, .bool false), (10, .slice ra rs.length rc), (11, iV (rs.length : Int)), (12, iV 0)], []⟩) (acc := [(.bool false, .bool false), (.bool (decide (8 < (rs.length : Int))), .bool false)]) (by kernel_rfl) (by kernel_rfl) ⟨rfl, (bo hd1), trivial⟩ ?_
    refine run_auto [] 0 [] [] [1, 4, 10, 11, 12] [] (st' := ⟨[(1, iV (m : Int)), (4, .bool false), (10, .slice ra rs.length rc), (11, iV (rs.length : Int)), (12, iV 0)], []⟩) (acc := []) (by kernel_rfl) (by kernel_rfl) trivial ?_
    refine run_loop (S := fun (k : Nat) => ⟨[(1, iV (m : Int)), (4, .bool false), (10, .slice ra rs.length rc), (11, iV (rs.length : Int)), (12, iV (k : Int))], []⟩) (fun k => k ≤ rs.length ∧ ∀ j, j < k → vRd m (elR rs j) = true) (fun k => rs.length - k) (0) (by kernel_rfl) (⟨Nat.zero_le _, fun _ h => by cases h⟩) (by kernel_rfl) (fun k hI0 J0 hJ0 => ?_)
    obtain ⟨hI1, hI2⟩ := hI0
    cases hd2 : (decide ((k : Int) < (rs.length : Int))) with
    | false =>
      have hp2 := of_decide_eq_false hd2
      refine run_auto [(13, .bool false)] 11 [false] [] [4] [] (st' := ⟨[(4, .bool true)], []⟩) (acc := [(.bool false, .bool false), (.bool (decide ((k : Int) < (rs.length : Int))), .bool false)]) (by kernel_rfl) (by kernel_rfl) ⟨rfl, (bo hd2), trivial⟩ ?_
      refine run_end (fn := f74) rfl (Nat.le_refl _) (by kernel_rfl) [] [.bool true] (e := []) (by kernel_rfl) trivial (fun w1 k1 h1 => ?_)
      have h : vRds m rs = true := by
        unfold vRds
        rw [all_yes (p := vRd m) (d := (0, 0, 0, 0, 0)) (fun j hj => hI2 j (by omega))]
        simp; omega
      exact ⟨by rw [h]; rfl, k1.keeps (fun _ h => h)⟩
    | true =>
      have hp2 := of_decide_eq_true hd2
      have hlt : k < rs.length := by omega
      obtain ⟨b, o, rfl, hc⟩ := hb (by intro h; rw [h] at hlt; cases hlt)
      have hc := hc k hlt
      refine run_auto [(13, .bool true)] 11 [true] [] [1, 4, 10, 11, 12] [] (st' := ⟨[(1, iV (m : Int)), (4, .bool false), (10, .slice (some ⟨b, o, none⟩) rs.length rc), (11, iV (rs.length : Int)), (12, iV (k : Int))], []⟩) (acc := [(.bool true, .bool true), (.bool (decide ((k : Int) < (rs.length : Int))), .bool true)]) (by kernel_rfl) (by kernel_rfl) ⟨rfl, (bo hd2), trivial⟩ ?_
      refine run_v (Instr.indexAt 28 (.slice (some ⟨b, o, none⟩) rs.length rc) (iV (k : Int)) >>= fun v => pure (Next.value v)) (some 14) (.pointer (some ⟨b, o + k * 5, none⟩)) (by kernel_rfl) (fun w1 k1 h1 => idx_run (e := 38) (n := 5) (by kernel_rfl) (by kernel_rfl) b o rs.length rc .i64 k hlt w1) ?_
      refine run_v (Instr.loadAt 38 (.pointer (some ⟨b, o + k * 5, none⟩)) >>= fun v => pure (Next.value v)) (some 15) (.agg #[iV (elR rs k).1, iV (elR rs k).2.1, iV (elR rs k).2.2.1, iV (elR rs k).2.2.2.1, iV (elR rs k).2.2.2.2]) (by kernel_rfl) (fun w1 k1 h1 => load_in (off := 0) k1 (fun h => h) [iV (elR rs k).1, iV (elR rs k).2.1, iV (elR rs k).2.2.1, iV (elR rs k).2.2.2.1, iV (elR rs k).2.2.2.2] (c5 hc.1 hc.2.1 hc.2.2.1 hc.2.2.2.1 hc.2.2.2.2) (by kernel_rfl)) ?_
      refine run_new (aO #[iV 0, iV 0, iV 0, iV 0, iV 0] 38) (fun b1 => pA b1) (some 6) (fun _ => by kernel_rfl) (fun b1 hb1 => ?_)
      refine run_auto [] 7 [] [0, 0] [1, 4, 10, 11, 12, 6, 17, 18] [0] (st' := ⟨[(1, iV (m : Int)), (4, .bool false), (10, .slice (some ⟨b, o, none⟩) rs.length rc), (11, iV (rs.length : Int)), (12, iV (k : Int)), (6, pA b1), (17, iV (elR rs k).1), (18, iV (m : Int))], [(b1, aO #[iV (elR rs k).1, iV (elR rs k).2.1, iV (elR rs k).2.2.1, iV (elR rs k).2.2.2.1, iV (elR rs k).2.2.2.2] 38)]⟩) (acc := [(pA b1, pA b1), (pA b1, pA b1)]) (by kernel_rfl) (by kernel_rfl) ⟨rfl, rfl, trivial⟩ ?_
      cases hd3 : (blkB (elR rs k).1 (m : Int)) with
      | false =>
        refine run_ret1 75 #[iV (elR rs k).1, iV (m : Int)] (some 19) (.bool false) (by kernel_rfl) (fun w1 k1 h1 => (by have h := isBlock_any (elR rs k).1 (m : Int) w1; rw [hd3] at h; exact h)) ?_
        refine run_auto [(20, .bool true)] 33 [true] [] [1, 4, 10, 11, 12] [] (st' := ⟨[(1, iV (m : Int)), (4, .bool false), (10, .slice (some ⟨b, o, none⟩) rs.length rc), (11, iV (rs.length : Int)), (12, iV (k : Int))], []⟩) (acc := [(.bool true, .bool true), (.bool true, .bool true)]) (by kernel_rfl) (by kernel_rfl) ⟨rfl, rfl, trivial⟩ ?_
        refine run_end (fn := f74) rfl (Nat.le_refl _) (by kernel_rfl) [] [.bool false] (e := []) (by kernel_rfl) trivial (fun w1 k1 h1 => ?_)
        have h : vRds m rs = false := by
          unfold vRds
          rw [all_no (p := vRd m) (d := (0, 0, 0, 0, 0)) hlt (show vRd m (elR rs k) = false by simp [vRd, hd3])]
          simp
        exact ⟨by rw [h]; rfl, k1.keeps (fun _ h => h)⟩
      | true =>
        refine run_ret1 75 #[iV (elR rs k).1, iV (m : Int)] (some 19) (.bool true) (by kernel_rfl) (fun w1 k1 h1 => (by have h := isBlock_any (elR rs k).1 (m : Int) w1; rw [hd3] at h; exact h)) ?_
        refine run_auto [(20, .bool false)] 5 [] [0] [1, 4, 10, 11, 12, 6, 21, 23, 24] [0] (st' := ⟨[(1, iV (m : Int)), (4, .bool false), (10, .slice (some ⟨b, o, none⟩) rs.length rc), (11, iV (rs.length : Int)), (12, iV (k : Int)), (6, pA b1), (21, .bool false), (23, iV (elR rs k).2.1), (24, iV (m : Int))], [(b1, aO #[iV (elR rs k).1, iV (elR rs k).2.1, iV (elR rs k).2.2.1, iV (elR rs k).2.2.2.1, iV (elR rs k).2.2.2.2] 38)]⟩) (acc := [(pA b1, pA b1), (.bool false, .bool false)]) (by kernel_rfl) (by kernel_rfl) ⟨rfl, rfl, trivial⟩ ?_
        cases hd4 : (blkB (elR rs k).2.1 (m : Int)) with
        | false =>
          refine run_ret1 75 #[iV (elR rs k).2.1, iV (m : Int)] (some 25) (.bool false) (by kernel_rfl) (fun w1 k1 h1 => (by have h := isBlock_any (elR rs k).2.1 (m : Int) w1; rw [hd4] at h; exact h)) ?_
          refine run_auto [(26, .bool true)] 27 [true] [] [1, 4, 10, 11, 12] [] (st' := ⟨[(1, iV (m : Int)), (4, .bool false), (10, .slice (some ⟨b, o, none⟩) rs.length rc), (11, iV (rs.length : Int)), (12, iV (k : Int))], []⟩) (acc := [(.bool true, .bool true), (.bool true, .bool true)]) (by kernel_rfl) (by kernel_rfl) ⟨rfl, rfl, trivial⟩ ?_
          refine run_end (fn := f74) rfl (Nat.le_refl _) (by kernel_rfl) [] [.bool false] (e := []) (by kernel_rfl) trivial (fun w1 k1 h1 => ?_)
          have h : vRds m rs = false := by
            unfold vRds
            rw [all_no (p := vRd m) (d := (0, 0, 0, 0, 0)) hlt (show vRd m (elR rs k) = false by simp [vRd, hd3, hd4])]
            simp
          exact ⟨by rw [h]; rfl, k1.keeps (fun _ h => h)⟩
        | true =>
          refine run_ret1 75 #[iV (elR rs k).2.1, iV (m : Int)] (some 25) (.bool true) (by kernel_rfl) (fun w1 k1 h1 => (by have h := isBlock_any (elR rs k).2.1 (m : Int) w1; rw [hd4] at h; exact h)) ?_
          cases hd5 : ((elR rs k).1 == (elR rs k).2.1) with
          | false =>
            have hp5 : ¬ (elR rs k).1 = (elR rs k).2.1 := by simpa using hd5
            refine run_auto [(26, .bool false), (33, .bool false)] 12 [] [0, 0, 0] [1, 4, 10, 11, 12, 6, 35, 37] [0] (st' := ⟨[(1, iV (m : Int)), (4, .bool false), (10, .slice (some ⟨b, o, none⟩) rs.length rc), (11, iV (rs.length : Int)), (12, iV (k : Int)), (6, pA b1), (35, .bool false), (37, iV (elR rs k).2.2.1)], [(b1, aO #[iV (elR rs k).1, iV (elR rs k).2.1, iV (elR rs k).2.2.1, iV (elR rs k).2.2.2.1, iV (elR rs k).2.2.2.2] 38)]⟩) (acc := [(pA b1, pA b1), (.bool ((elR rs k).1 == (elR rs k).2.1), .bool false), (pA b1, pA b1), (pA b1, pA b1), (.bool false, .bool false)]) (by kernel_rfl) (by kernel_rfl) ⟨rfl, (bo hd5), rfl, rfl, rfl, trivial⟩ ?_
            cases hd6 : (minB (elR rs k).2.2.1) with
            | false =>
              refine run_ret1 78 #[iV (elR rs k).2.2.1] (some 38) (.bool false) (by kernel_rfl) (fun w1 k1 h1 => (by have h := isMinute_any (elR rs k).2.2.1 w1; rw [hd6] at h; exact h)) ?_
              refine run_auto [(39, .bool true)] 14 [true] [] [1, 4, 10, 11, 12] [] (st' := ⟨[(1, iV (m : Int)), (4, .bool false), (10, .slice (some ⟨b, o, none⟩) rs.length rc), (11, iV (rs.length : Int)), (12, iV (k : Int))], []⟩) (acc := [(.bool true, .bool true), (.bool true, .bool true)]) (by kernel_rfl) (by kernel_rfl) ⟨rfl, rfl, trivial⟩ ?_
              refine run_end (fn := f74) rfl (Nat.le_refl _) (by kernel_rfl) [] [.bool false] (e := []) (by kernel_rfl) trivial (fun w1 k1 h1 => ?_)
              have h : vRds m rs = false := by
                unfold vRds
                rw [all_no (p := vRd m) (d := (0, 0, 0, 0, 0)) hlt (show vRd m (elR rs k) = false by simp [vRd, hd3, hd4, hd5, hd6])]
                simp
              exact ⟨by rw [h]; rfl, k1.keeps (fun _ h => h)⟩
            | true =>
              refine run_ret1 78 #[iV (elR rs k).2.2.1] (some 38) (.bool true) (by kernel_rfl) (fun w1 k1 h1 => (by have h := isMinute_any (elR rs k).2.2.1 w1; rw [hd6] at h; exact h)) ?_
              refine run_auto [(39, .bool false)] 5 [] [0] [1, 4, 10, 11, 12, 41, 43] [] (st' := ⟨[(1, iV (m : Int)), (4, .bool false), (10, .slice (some ⟨b, o, none⟩) rs.length rc), (11, iV (rs.length : Int)), (12, iV (k : Int)), (41, .bool false), (43, .agg #[iV (elR rs k).2.2.2.1, iV (elR rs k).2.2.2.2])], []⟩) (acc := [(pA b1, pA b1), (.bool false, .bool false)]) (by kernel_rfl) (by kernel_rfl) ⟨rfl, rfl, trivial⟩ ?_
              cases hd7 : (inS (elR rs k).2.2.2.1 (elR rs k).2.2.2.2 (-80) 80) with
              | false =>
                refine run_ret1 72 #[.agg #[iV (elR rs k).2.2.2.1, iV (elR rs k).2.2.2.2], iV (-80), iV 80] (some 44) (.bool false) (by kernel_rfl) (fun w1 k1 h1 => (by have h := within_any (elR rs k).2.2.2.1 (elR rs k).2.2.2.2 (-80) 80 w1; rw [hd7] at h; exact h)) ?_
                refine run_auto [(45, .bool true)] 8 [true] [] [1, 4, 10, 11, 12] [] (st' := ⟨[(1, iV (m : Int)), (4, .bool false), (10, .slice (some ⟨b, o, none⟩) rs.length rc), (11, iV (rs.length : Int)), (12, iV (k : Int))], []⟩) (acc := [(.bool true, .bool true), (.bool true, .bool true)]) (by kernel_rfl) (by kernel_rfl) ⟨rfl, rfl, trivial⟩ ?_
                refine run_end (fn := f74) rfl (Nat.le_refl _) (by kernel_rfl) [] [.bool false] (e := []) (by kernel_rfl) trivial (fun w1 k1 h1 => ?_)
                have h : vRds m rs = false := by
                  unfold vRds
                  rw [all_no (p := vRd m) (d := (0, 0, 0, 0, 0)) hlt (show vRd m (elR rs k) = false by simp [vRd, hd3, hd4, hd5, hd6, hd7])]
                  simp
                exact ⟨by rw [h]; rfl, k1.keeps (fun _ h => h)⟩
              | true =>
                refine run_ret1 72 #[.agg #[iV (elR rs k).2.2.2.1, iV (elR rs k).2.2.2.2], iV (-80), iV 80] (some 44) (.bool true) (by kernel_rfl) (fun w1 k1 h1 => (by have h := within_any (elR rs k).2.2.2.1 (elR rs k).2.2.2.2 (-80) 80 w1; rw [hd7] at h; exact h)) ?_
                refine run_auto [(45, .bool false), (47, iV ((k + 1 : Nat) : Int))] 10 [false] [] [1, 4, 10, 11, 12] [] (st' := ⟨[(1, iV (m : Int)), (4, .bool false), (10, .slice (some ⟨b, o, none⟩) rs.length rc), (11, iV (rs.length : Int)), (12, iV ((k + 1 : Nat) : Int))], []⟩) (acc := [(iV (IntKind.i64.wrap ((k : Int) + 1)), iV ((k + 1 : Nat) : Int)), (.bool false, .bool false), (.bool false, .bool false)]) (by kernel_rfl) (by kernel_rfl) ⟨(wr (by omega) (by omega)), rfl, rfl, trivial⟩ ?_
                exact run_round (by kernel_rfl) (hJ0 (k + 1) (⟨by omega, fun j hj => (Nat.lt_succ_iff_lt_or_eq.1 hj).elim (hI2 j) (fun h => h ▸ (by simp [vRd, hd3, hd4, hd5, hd6, hd7]))⟩) (by omega))
          | true =>
            have hp5 : (elR rs k).1 = (elR rs k).2.1 := by simpa using hd5
            refine run_auto [(26, .bool false), (33, .bool true)] 27 [true] [0, 0] [1, 4, 10, 11, 12] [] (st' := ⟨[(1, iV (m : Int)), (4, .bool false), (10, .slice (some ⟨b, o, none⟩) rs.length rc), (11, iV (rs.length : Int)), (12, iV (k : Int))], []⟩) (acc := [(.bool true, .bool true), (.bool ((elR rs k).1 == (elR rs k).2.1), .bool true), (pA b1, pA b1), (pA b1, pA b1), (.bool false, .bool false)]) (by kernel_rfl) (by kernel_rfl) ⟨rfl, (bo hd5), rfl, rfl, rfl, trivial⟩ ?_
            refine run_end (fn := f74) rfl (Nat.le_refl _) (by kernel_rfl) [] [.bool false] (e := []) (by kernel_rfl) trivial (fun w1 k1 h1 => ?_)
            have h : vRds m rs = false := by
              unfold vRds
              rw [all_no (p := vRd m) (d := (0, 0, 0, 0, 0)) hlt (show vRd m (elR rs k) = false by simp [vRd, hd3, hd4, hd5])]
              simp
            exact ⟨by rw [h]; rfl, k1.keeps (fun _ h => h)⟩
  | true =>
    have hp1 := of_decide_eq_true hd1
    refine run_auto [(9, .bool true)] 16 [true] [] [0, 1, 4] [] (st' := ⟨[(0, .slice ra rs.length rc), (1, iV (m : Int)), (4, .bool false)], []⟩) (acc := [(.bool true, .bool true), (.bool (decide (8 < (rs.length : Int))), .bool true)]) (by kernel_rfl) (by kernel_rfl) ⟨rfl, (bo hd1), trivial⟩ ?_
    refine run_end (fn := f74) rfl (Nat.le_refl _) (by kernel_rfl) [] [.bool false] (e := []) (by kernel_rfl) trivial (fun w1 k1 h1 => ?_)
    have h : vRds m rs = false := by
      simp [vRds]; omega
    exact ⟨by rw [h]; rfl, k1.keeps (fun _ h => h)⟩

set_option maxRecDepth 100000 in
theorem needPair_any (p : Pr) (w : World) (hp : p.In w) : Calls Try.prog 36 #[.agg #[.slice p.ba p.bs.length p.bc, .int .i64 p.zlo, .int .i64 p.zhi, .int .i64 p.rlo, .int .i64 p.rhi, .slice p.ra p.rs.length p.rc]] w (Need p.ok 1 w) := by
  refine calls_run (fn := f36) (c := (f36.body).getD .skip) [.agg #[.slice p.ba p.bs.length p.bc, .int .i64 p.zlo, .int .i64 p.zhi, .int .i64 p.rlo, .int .i64 p.rhi, .slice p.ra p.rs.length p.rc]] func36 (by kernel_rfl) (fun _ => False) [] (fun _ h => by cases h) (List.Pairwise.nil) 39 (by kernel_rfl) (by simp) ?_
  refine run_auto [] 2 [] [] [0] [] (st' := ⟨[(0, .agg #[.slice p.ba p.bs.length p.bc, iV p.zlo, iV p.zhi, iV p.rlo, iV p.rhi, .slice p.ra p.rs.length p.rc])], []⟩) (acc := []) (by kernel_rfl) (by kernel_rfl) trivial ?_
  refine run_new (aO #[.slice p.ba p.bs.length p.bc, iV p.zlo, iV p.zhi, iV p.rlo, iV p.rhi, .slice p.ra p.rs.length p.rc] 30) (fun b1 => pA b1) (some 1) (fun _ => by kernel_rfl) (fun b1 hb1 => ?_)
  refine run_auto [] 5 [] [0] [1, 4] [0] (st' := ⟨[(1, pA b1), (4, .slice p.ba p.bs.length p.bc)], [(b1, aO #[.slice p.ba p.bs.length p.bc, iV p.zlo, iV p.zhi, iV p.rlo, iV p.rhi, .slice p.ra p.rs.length p.rc] 30)]⟩) (acc := [(pA b1, pA b1)]) (by kernel_rfl) (by kernel_rfl) ⟨rfl, trivial⟩ ?_
  cases hd1 : (vBls p.bs) with
  | false =>
    refine run_ret1 71 #[.slice p.ba p.bs.length p.bc] (some 5) (.bool false) (by kernel_rfl) (fun w1 k1 h1 => (by have h := validBlocks_any p.ba p.bc p.bs w1 (hp.keep (k1.keeps (fun _ h => h))).bl (hp.keep (k1.keeps (fun _ h => h))).ln; rw [hd1] at h; exact h)) ?_
    refine run_auto [(37, .bool true)] 40 [true] [] [38] [] (st' := ⟨[(38, .iface 24 (iV 1))], []⟩) (acc := [(.bool true, .bool true), (.bool true, .bool true)]) (by kernel_rfl) (by kernel_rfl) ⟨rfl, rfl, trivial⟩ ?_
    have h : p.ok = false := by simp [Pr.ok, hd1]
    unfold Need
    try rw [h]
    exact run_panic rfl (Nat.le_refl _) (Instr.panic (.iface 24 (iV 1)) >>= fun v => pure (Next.value v)) none (.iface 24 (iV 1)) (by kernel_rfl) (fun w => by kernel_rfl) (fun w1 k1 h1 => ⟨rfl, k1.keeps (fun _ h => h)⟩)
  | true =>
    refine run_ret1 71 #[.slice p.ba p.bs.length p.bc] (some 5) (.bool true) (by kernel_rfl) (fun w1 k1 h1 => (by have h := validBlocks_any p.ba p.bc p.bs w1 (hp.keep (k1.keeps (fun _ h => h))).bl (hp.keep (k1.keeps (fun _ h => h))).ln; rw [hd1] at h; exact h)) ?_
    refine run_auto [] 3 [] [0] [1, 6, 8] [0] (st' := ⟨[(1, pA b1), (6, .bool true), (8, .agg #[iV p.zlo, iV p.zhi])], [(b1, aO #[.slice p.ba p.bs.length p.bc, iV p.zlo, iV p.zhi, iV p.rlo, iV p.rhi, .slice p.ra p.rs.length p.rc] 30)]⟩) (acc := [(pA b1, pA b1)]) (by kernel_rfl) (by kernel_rfl) ⟨rfl, trivial⟩ ?_
    cases hd2 : (inS p.zlo p.zhi (-10) 10) with
    | false =>
      refine run_ret1 72 #[.agg #[iV p.zlo, iV p.zhi], iV (-10), iV 10] (some 9) (.bool false) (by kernel_rfl) (fun w1 k1 h1 => (by have h := within_any p.zlo p.zhi (-10) 10 w1; rw [hd2] at h; exact h)) ?_
      refine run_auto [(37, .bool true)] 36 [true] [] [38] [] (st' := ⟨[(38, .iface 24 (iV 1))], []⟩) (acc := [(.bool true, .bool true), (.bool true, .bool true)]) (by kernel_rfl) (by kernel_rfl) ⟨rfl, rfl, trivial⟩ ?_
      have h : p.ok = false := by simp [Pr.ok, hd1, hd2]
      unfold Need
      try rw [h]
      exact run_panic rfl (Nat.le_refl _) (Instr.panic (.iface 24 (iV 1)) >>= fun v => pure (Next.value v)) none (.iface 24 (iV 1)) (by kernel_rfl) (fun w => by kernel_rfl) (fun w1 k1 h1 => ⟨rfl, k1.keeps (fun _ h => h)⟩)
    | true =>
      have hqhd2 := inS_bd hd2
      refine run_ret1 72 #[.agg #[iV p.zlo, iV p.zhi], iV (-10), iV 10] (some 9) (.bool true) (by kernel_rfl) (fun w1 k1 h1 => (by have h := within_any p.zlo p.zhi (-10) 10 w1; rw [hd2] at h; exact h)) ?_
      refine run_auto [] 4 [] [0] [1, 11, 13] [0] (st' := ⟨[(1, pA b1), (11, .bool true), (13, .agg #[iV p.zlo, iV p.zhi])], [(b1, aO #[.slice p.ba p.bs.length p.bc, iV p.zlo, iV p.zhi, iV p.rlo, iV p.rhi, .slice p.ra p.rs.length p.rc] 30)]⟩) (acc := [(pA b1, pA b1)]) (by kernel_rfl) (by kernel_rfl) ⟨rfl, trivial⟩ ?_
      refine run_ret1 73 #[.agg #[iV p.zlo, iV p.zhi]] (some 14) (iV (p.zhi - p.zlo)) (by kernel_rfl) (fun w1 k1 h1 => wide_any p.zlo p.zhi (by omega) (by omega) (by omega) (by omega) w1) ?_
      cases hd3 : (decide ((p.zhi - p.zlo) ≤ 4)) with
      | false =>
        have hp3 := of_decide_eq_false hd3
        refine run_auto [(15, .bool false), (37, .bool true)] 31 [true] [] [38] [] (st' := ⟨[(38, .iface 24 (iV 1))], []⟩) (acc := [(.bool true, .bool true), (.bool true, .bool true), (.bool (decide ((p.zhi - p.zlo) ≤ 4)), .bool false)]) (by kernel_rfl) (by kernel_rfl) ⟨rfl, rfl, (bo hd3), trivial⟩ ?_
        have h : p.ok = false := by simp [Pr.ok, hd1, hd2, hd3]
        unfold Need
        try rw [h]
        exact run_panic rfl (Nat.le_refl _) (Instr.panic (.iface 24 (iV 1)) >>= fun v => pure (Next.value v)) none (.iface 24 (iV 1)) (by kernel_rfl) (fun w => by kernel_rfl) (fun w1 k1 h1 => ⟨rfl, k1.keeps (fun _ h => h)⟩)
      | true =>
        have hp3 := of_decide_eq_true hd3
        refine run_auto [(15, .bool true)] 5 [] [0] [1, 17, 19] [0] (st' := ⟨[(1, pA b1), (17, .bool true), (19, .agg #[iV p.rlo, iV p.rhi])], [(b1, aO #[.slice p.ba p.bs.length p.bc, iV p.zlo, iV p.zhi, iV p.rlo, iV p.rhi, .slice p.ra p.rs.length p.rc] 30)]⟩) (acc := [(pA b1, pA b1), (.bool (decide ((p.zhi - p.zlo) ≤ 4)), .bool true)]) (by kernel_rfl) (by kernel_rfl) ⟨rfl, (bo hd3), trivial⟩ ?_
        cases hd4 : (inS p.rlo p.rhi (-5) 5) with
        | false =>
          refine run_ret1 72 #[.agg #[iV p.rlo, iV p.rhi], iV (-5), iV 5] (some 20) (.bool false) (by kernel_rfl) (fun w1 k1 h1 => (by have h := within_any p.rlo p.rhi (-5) 5 w1; rw [hd4] at h; exact h)) ?_
          refine run_auto [(37, .bool true)] 25 [true] [] [38] [] (st' := ⟨[(38, .iface 24 (iV 1))], []⟩) (acc := [(.bool true, .bool true), (.bool true, .bool true)]) (by kernel_rfl) (by kernel_rfl) ⟨rfl, rfl, trivial⟩ ?_
          have h : p.ok = false := by simp [Pr.ok, hd1, hd2, hd3, hd4]
          unfold Need
          try rw [h]
          exact run_panic rfl (Nat.le_refl _) (Instr.panic (.iface 24 (iV 1)) >>= fun v => pure (Next.value v)) none (.iface 24 (iV 1)) (by kernel_rfl) (fun w => by kernel_rfl) (fun w1 k1 h1 => ⟨rfl, k1.keeps (fun _ h => h)⟩)
        | true =>
          have hqhd4 := inS_bd hd4
          refine run_ret1 72 #[.agg #[iV p.rlo, iV p.rhi], iV (-5), iV 5] (some 20) (.bool true) (by kernel_rfl) (fun w1 k1 h1 => (by have h := within_any p.rlo p.rhi (-5) 5 w1; rw [hd4] at h; exact h)) ?_
          refine run_auto [] 4 [] [0] [1, 22, 24] [0] (st' := ⟨[(1, pA b1), (22, .bool true), (24, .agg #[iV p.rlo, iV p.rhi])], [(b1, aO #[.slice p.ba p.bs.length p.bc, iV p.zlo, iV p.zhi, iV p.rlo, iV p.rhi, .slice p.ra p.rs.length p.rc] 30)]⟩) (acc := [(pA b1, pA b1)]) (by kernel_rfl) (by kernel_rfl) ⟨rfl, trivial⟩ ?_
          refine run_ret1 73 #[.agg #[iV p.rlo, iV p.rhi]] (some 25) (iV (p.rhi - p.rlo)) (by kernel_rfl) (fun w1 k1 h1 => wide_any p.rlo p.rhi (by omega) (by omega) (by omega) (by omega) w1) ?_
          cases hd5 : (decide ((p.rhi - p.rlo) ≤ 4)) with
          | false =>
            have hp5 := of_decide_eq_false hd5
            refine run_auto [(26, .bool false), (37, .bool true)] 20 [true] [] [38] [] (st' := ⟨[(38, .iface 24 (iV 1))], []⟩) (acc := [(.bool true, .bool true), (.bool true, .bool true), (.bool (decide ((p.rhi - p.rlo) ≤ 4)), .bool false)]) (by kernel_rfl) (by kernel_rfl) ⟨rfl, rfl, (bo hd5), trivial⟩ ?_
            have h : p.ok = false := by simp [Pr.ok, hd1, hd2, hd3, hd4, hd5]
            unfold Need
            try rw [h]
            exact run_panic rfl (Nat.le_refl _) (Instr.panic (.iface 24 (iV 1)) >>= fun v => pure (Next.value v)) none (.iface 24 (iV 1)) (by kernel_rfl) (fun w => by kernel_rfl) (fun w1 k1 h1 => ⟨rfl, k1.keeps (fun _ h => h)⟩)
          | true =>
            have hp5 := of_decide_eq_true hd5
            refine run_auto [(26, .bool true)] 8 [] [0, 0] [28, 30, 33] [] (st' := ⟨[(28, .bool true), (30, .slice p.ra p.rs.length p.rc), (33, iV (p.bs.length : Int))], []⟩) (acc := [(pA b1, pA b1), (pA b1, pA b1), (.bool (decide ((p.rhi - p.rlo) ≤ 4)), .bool true)]) (by kernel_rfl) (by kernel_rfl) ⟨rfl, rfl, (bo hd5), trivial⟩ ?_
            cases hd6 : (vRds p.bs.length p.rs) with
            | false =>
              refine run_ret1 74 #[.slice p.ra p.rs.length p.rc, iV (p.bs.length : Int)] (some 34) (.bool false) (by kernel_rfl) (fun w1 k1 h1 => (by have h := validReads_any p.bs.length p.ra p.rc p.rs w1 (hp.keep (k1.keeps (fun _ h => h))).rd (hp.keep (k1.keeps (fun _ h => h))).lr; rw [hd6] at h; exact h)) ?_
              refine run_auto [(37, .bool true)] 11 [true] [] [38] [] (st' := ⟨[(38, .iface 24 (iV 1))], []⟩) (acc := [(.bool true, .bool true), (.bool true, .bool true)]) (by kernel_rfl) (by kernel_rfl) ⟨rfl, rfl, trivial⟩ ?_
              have h : p.ok = false := by simp [Pr.ok, hd1, hd2, hd3, hd4, hd5, hd6]
              unfold Need
              try rw [h]
              exact run_panic rfl (Nat.le_refl _) (Instr.panic (.iface 24 (iV 1)) >>= fun v => pure (Next.value v)) none (.iface 24 (iV 1)) (by kernel_rfl) (fun w => by kernel_rfl) (fun w1 k1 h1 => ⟨rfl, k1.keeps (fun _ h => h)⟩)
            | true =>
              refine run_ret1 74 #[.slice p.ra p.rs.length p.rc, iV (p.bs.length : Int)] (some 34) (.bool true) (by kernel_rfl) (fun w1 k1 h1 => (by have h := validReads_any p.bs.length p.ra p.rc p.rs w1 (hp.keep (k1.keeps (fun _ h => h))).rd (hp.keep (k1.keeps (fun _ h => h))).lr; rw [hd6] at h; exact h)) ?_
              refine run_auto [(37, .bool false)] 10 [false] [] [] [] (st' := ⟨[], []⟩) (acc := [(.bool false, .bool false), (.bool false, .bool false)]) (by kernel_rfl) (by kernel_rfl) ⟨rfl, rfl, trivial⟩ ?_
              refine run_end (fn := f36) rfl (Nat.le_refl _) (by kernel_rfl) [] [] (e := []) (by kernel_rfl) trivial (fun w1 k1 h1 => ?_)
              have h : p.ok = true := by simp [Pr.ok, hd1, hd2, hd3, hd4, hd5, hd6]
              unfold Need
              try rw [h]
              exact ⟨rfl, k1.keeps (fun _ h => h)⟩

set_option maxRecDepth 100000 in
theorem needBlock_any (p : Pr) (n : Int) (w : World)  : Calls Try.prog 37 #[.agg #[.slice p.ba p.bs.length p.bc, .int .i64 p.zlo, .int .i64 p.zhi, .int .i64 p.rlo, .int .i64 p.rhi, .slice p.ra p.rs.length p.rc], .int .i64 n] w (Need (blkB n p.bs.length) 2 w) := by
  refine calls_run (fn := f37) (c := (f37.body).getD .skip) [.agg #[.slice p.ba p.bs.length p.bc, .int .i64 p.zlo, .int .i64 p.zhi, .int .i64 p.rlo, .int .i64 p.rhi, .slice p.ra p.rs.length p.rc], .int .i64 n] func37 (by kernel_rfl) (fun _ => False) [] (fun _ h => by cases h) (List.Pairwise.nil) 11 (by kernel_rfl) (by simp) ?_
  refine run_auto [] 2 [] [] [0, 1] [] (st' := ⟨[(0, .agg #[.slice p.ba p.bs.length p.bc, iV p.zlo, iV p.zhi, iV p.rlo, iV p.rhi, .slice p.ra p.rs.length p.rc]), (1, iV n)], []⟩) (acc := []) (by kernel_rfl) (by kernel_rfl) trivial ?_
  refine run_new (aO #[.slice p.ba p.bs.length p.bc, iV p.zlo, iV p.zhi, iV p.rlo, iV p.rhi, .slice p.ra p.rs.length p.rc] 30) (fun b1 => pA b1) (some 2) (fun _ => by kernel_rfl) (fun b1 hb1 => ?_)
  refine run_auto [] 7 [] [0] [4, 7] [] (st' := ⟨[(4, iV n), (7, iV (p.bs.length : Int))], []⟩) (acc := [(pA b1, pA b1)]) (by kernel_rfl) (by kernel_rfl) ⟨rfl, trivial⟩ ?_
  cases hd1 : (blkB n (p.bs.length : Int)) with
  | false =>
    refine run_ret1 75 #[iV n, iV (p.bs.length : Int)] (some 8) (.bool false) (by kernel_rfl) (fun w1 k1 h1 => (by have h := isBlock_any n (p.bs.length : Int) w1; rw [hd1] at h; exact h)) ?_
    refine run_auto [(9, .bool true)] 5 [true] [] [10] [] (st' := ⟨[(10, .iface 24 (iV 2))], []⟩) (acc := [(.bool true, .bool true), (.bool true, .bool true)]) (by kernel_rfl) (by kernel_rfl) ⟨rfl, rfl, trivial⟩ ?_
    have h : blkB n p.bs.length = false := by simp [hd1]
    unfold Need
    try rw [h]
    exact run_panic rfl (Nat.le_refl _) (Instr.panic (.iface 24 (iV 2)) >>= fun v => pure (Next.value v)) none (.iface 24 (iV 2)) (by kernel_rfl) (fun w => by kernel_rfl) (fun w1 k1 h1 => ⟨rfl, k1.keeps (fun _ h => h)⟩)
  | true =>
    refine run_ret1 75 #[iV n, iV (p.bs.length : Int)] (some 8) (.bool true) (by kernel_rfl) (fun w1 k1 h1 => (by have h := isBlock_any n (p.bs.length : Int) w1; rw [hd1] at h; exact h)) ?_
    refine run_auto [(9, .bool false)] 4 [false] [] [] [] (st' := ⟨[], []⟩) (acc := [(.bool false, .bool false), (.bool false, .bool false)]) (by kernel_rfl) (by kernel_rfl) ⟨rfl, rfl, trivial⟩ ?_
    refine run_end (fn := f37) rfl (Nat.le_refl _) (by kernel_rfl) [] [] (e := []) (by kernel_rfl) trivial (fun w1 k1 h1 => ?_)
    have h : blkB n p.bs.length = true := by simp [hd1]
    unfold Need
    try rw [h]
    exact ⟨rfl, k1.keeps (fun _ h => h)⟩

set_option maxRecDepth 100000 in
theorem needMinute_any (n : Int) (w : World)  : Calls Try.prog 44 #[.int .i64 n] w (Need (minB n) 2 w) := by
  refine calls_run (fn := f44) (c := (f44.body).getD .skip) [.int .i64 n] func44 (by kernel_rfl) (fun _ => False) [] (fun _ h => by cases h) (List.Pairwise.nil) 6 (by kernel_rfl) (by simp) ?_
  refine run_auto [] 3 [] [] [2] [] (st' := ⟨[(2, iV n)], []⟩) (acc := []) (by kernel_rfl) (by kernel_rfl) trivial ?_
  cases hd1 : (minB n) with
  | false =>
    refine run_ret1 78 #[iV n] (some 3) (.bool false) (by kernel_rfl) (fun w1 k1 h1 => (by have h := isMinute_any n w1; rw [hd1] at h; exact h)) ?_
    refine run_auto [(4, .bool true)] 5 [true] [] [5] [] (st' := ⟨[(5, .iface 24 (iV 2))], []⟩) (acc := [(.bool true, .bool true), (.bool true, .bool true)]) (by kernel_rfl) (by kernel_rfl) ⟨rfl, rfl, trivial⟩ ?_
    have h : minB n = false := by simp [hd1]
    unfold Need
    try rw [h]
    exact run_panic rfl (Nat.le_refl _) (Instr.panic (.iface 24 (iV 2)) >>= fun v => pure (Next.value v)) none (.iface 24 (iV 2)) (by kernel_rfl) (fun w => by kernel_rfl) (fun w1 k1 h1 => ⟨rfl, k1.keeps (fun _ h => h)⟩)
  | true =>
    refine run_ret1 78 #[iV n] (some 3) (.bool true) (by kernel_rfl) (fun w1 k1 h1 => (by have h := isMinute_any n w1; rw [hd1] at h; exact h)) ?_
    refine run_auto [(4, .bool false)] 4 [false] [] [] [] (st' := ⟨[], []⟩) (acc := [(.bool false, .bool false), (.bool false, .bool false)]) (by kernel_rfl) (by kernel_rfl) ⟨rfl, rfl, trivial⟩ ?_
    refine run_end (fn := f44) rfl (Nat.le_refl _) (by kernel_rfl) [] [] (e := []) (by kernel_rfl) trivial (fun w1 k1 h1 => ?_)
    have h : minB n = true := by simp [hd1]
    unfold Need
    try rw [h]
    exact ⟨rfl, k1.keeps (fun _ h => h)⟩

end Go.Proofs.Ythnhcacoegmdfaa

namespace Go.Proofs.Ythnhcacoegmdfaa
open Go.RowKit Go.Proofs.Try


theorem tdiv10 (n : Int) : n.tdiv 10 = if n < 0 then -((-n) / 10) else n / 10 := by
  split
  · have h := Int.neg_tdiv (a := -n) (b := 10)
    rw [Int.neg_neg] at h
    rw [h, Int.tdiv_eq_ediv_of_nonneg (by omega)]
  · exact Int.tdiv_eq_ediv_of_nonneg (by omega)
theorem tmod10 (n : Int) : n.tmod 10 = n - 10 * n.tdiv 10 := Int.tmod_def n 10
theorem tenth_down {n : Int} (h : n.tmod 10 < 0) : n.tdiv 10 - 1 = n / 10 := by
  have h1 := tdiv10 n
  have h2 := tmod10 n
  split at h1 <;> omega
theorem tenth_up {n : Int} (h : ¬ n.tmod 10 < 0) : n.tdiv 10 = n / 10 := by
  have h1 := tdiv10 n
  have h2 := tmod10 n
  split at h1 <;> omega
theorem tdv {x : Int} (h1 : -1000000 ≤ x) (h2 : x ≤ 1000000) : Value.int .i64 (IntKind.i64.wrap (x.tdiv 10)) = .int .i64 (x.tdiv 10) := by
  have h3 := tdiv10 x
  have h4 : -1000000 ≤ x.tdiv 10 ∧ x.tdiv 10 ≤ 1000000 := by split at h3 <;> omega
  exact wr (by omega) (by omega)
/-- Gaps as they lie in memory. -/
def gc (g : Gp) : List Value := (List.range 36).map fun k => .int .i64 (g (k / 6) (k % 6))
theorem gc_at (g : Gp) {a b : Nat} (ha : a < 6) (hb : b < 6) : (gc g)[a * 6 + b]? = some (.int .i64 (g a b)) := by
  unfold gc
  rw [List.getElem?_map, List.getElem?_range (by omega), Option.map_some, show (a * 6 + b) / 6 = a by omega, show (a * 6 + b) % 6 = b by omega]
theorem gc_load (g : Gp) {a b : Nat} (ha : a < 6) (hb : b < 6) {v : Int} (hv : g a b = v) : loadV Try.prog 3 (gc g) (a * 6 + b) = some (.int .i64 v) := by
  have h : tyAgg Try.prog 3 = some false := by kernel_rfl
  unfold loadV
  rw [h, ← hv]
  exact gc_at g ha hb
def Gp.set (g : Gp) (a b : Nat) (x : Int) : Gp := fun i j => if i = a ∧ j = b then x else g i j
theorem gc_len (g : Gp) : (gc g).length = 36 := by simp [gc]
theorem gc_store (g : Gp) {a b : Nat} (ha : a < 6) (hb : b < 6) (x : Int) {g' : Gp} (h : ∀ i j, i < 6 → j < 6 → g.set a b x i j = g' i j) : storeV Try.prog 3 (gc g) (a * 6 + b) (.int .i64 x) = some (gc g') := by
  have hs : tySize Try.prog 3 = some 1 := by kernel_rfl
  have hl := gc_len g
  unfold storeV
  rw [hs]
  have h1 : ((Value.int .i64 x).cells.toList.length == 1 && Nat.ble (a * 6 + b + 1) (gc g).length && (Value.int .i64 x).cells.toList.all (·.oneCell')) = true := by
    have : Nat.ble (a * 6 + b + 1) 36 = true := Nat.ble_eq_true_of_le (by omega)
    rw [hl, this]
    rfl
  dsimp only
  rw [h1]
  refine congrArg some ?_
  have h2 : (gc g).take (a * 6 + b) ++ (Value.int .i64 x).cells.toList ++ (gc g).drop (a * 6 + b + 1) = (gc g).set (a * 6 + b) (.int .i64 x) := by
    rw [List.set_eq_take_append_cons_drop, if_pos (by omega)]
    show List.take _ _ ++ [Value.int .i64 x] ++ _ = _
    simp
  rw [h2]
  apply List.ext_getElem?
  intro k
  rw [List.getElem?_set]
  by_cases hk : k < 36
  · have e : k = (k / 6) * 6 + k % 6 := by omega
    have h3 := h (k / 6) (k % 6) (by omega) (by omega)
    have q1 : (gc g)[k]? = some (.int .i64 (g (k / 6) (k % 6))) := by
      conv => lhs; rw [e]
      exact gc_at g (by omega) (by omega)
    have q2 : (gc g')[k]? = some (.int .i64 (g' (k / 6) (k % 6))) := by
      conv => lhs; rw [e]
      exact gc_at g' (by omega) (by omega)
    rw [q1, q2, ← h3]
    unfold Gp.set
    by_cases h4 : a * 6 + b = k
    · rw [if_pos h4, if_pos (by omega), if_pos (by omega)]
    · rw [if_neg h4, if_neg (by omega)]
  · have q1 : (gc g)[k]? = none := List.getElem?_eq_none (by omega)
    have q2 : (gc g')[k]? = none := List.getElem?_eq_none (by rw [gc_len]; omega)
    rw [q1, q2, if_neg (by omega)]
theorem gc_congr {g g' : Gp} (h : ∀ i j, i < 6 → j < 6 → g i j = g' i j) : gc g = gc g' := by
  unfold gc
  apply List.map_congr_left
  intro k hk
  have := List.mem_range.1 hk
  rw [h (k / 6) (k % 6) (by omega) (by omega)]
set_option maxRecDepth 100000 in
theorem tenth_any (n : Int) (h1 : -1000000 ≤ n) (h2 : n ≤ 1000000) (w : World)  : Calls Try.prog 102 #[.int .i64 n] w (RetI (n / 10) w) := by
  have d0 : -1000000 ≤ n.tdiv 10 ∧ n.tdiv 10 ≤ 1000000 := by have h3 := tdiv10 n; split at h3 <;> omega
  refine calls_run (fn := f102) (c := (f102.body).getD .skip) [.int .i64 n] func102 (by kernel_rfl) (fun _ => False) [] (fun _ h => by cases h) (List.Pairwise.nil) 12 (by kernel_rfl) (by simp) ?_
  cases hd1 : (decide ((Int.tmod n 10) < 0)) with
  | false =>
    have hp1 := of_decide_eq_false hd1
    refine run_auto [(5, iV (Int.tdiv n 10)), (8, .bool false)] 24 [false] [] [2] [] (st' := ⟨[(2, iV (Int.tdiv n 10))], []⟩) (acc := [(.bool false, .bool false), (.bool (decide ((Int.tmod n 10) < 0)), .bool false), (iV (IntKind.i64.wrap (Int.tdiv n 10)), iV (Int.tdiv n 10))]) (by kernel_rfl) (by kernel_rfl) ⟨rfl, (bo hd1), (tdv (by omega) (by omega)), trivial⟩ ?_
    refine run_end (fn := f102) rfl (Nat.le_refl _) (by kernel_rfl) [] [iV (Int.tdiv n 10)] (e := []) (by kernel_rfl) trivial (fun w1 k1 h1 => ?_)
    exact ⟨congrArg (fun x => Ending.returned (iV x)) (tenth_up hp1), k1.keeps (fun _ h => h)⟩
  | true =>
    have hp1 := of_decide_eq_true hd1
    refine run_auto [(5, iV (Int.tdiv n 10)), (8, .bool true), (10, iV ((Int.tdiv n 10) - 1))] 28 [true] [] [2] [] (st' := ⟨[(2, iV ((Int.tdiv n 10) - 1))], []⟩) (acc := [(iV (IntKind.i64.wrap ((Int.tdiv n 10) - 1)), iV ((Int.tdiv n 10) - 1)), (.bool true, .bool true), (.bool (decide ((Int.tmod n 10) < 0)), .bool true), (iV (IntKind.i64.wrap (Int.tdiv n 10)), iV (Int.tdiv n 10))]) (by kernel_rfl) (by kernel_rfl) ⟨(wr (by omega) (by omega)), rfl, (bo hd1), (tdv (by omega) (by omega)), trivial⟩ ?_
    refine run_end (fn := f102) rfl (Nat.le_refl _) (by kernel_rfl) [] [iV ((Int.tdiv n 10) - 1)] (e := []) (by kernel_rfl) trivial (fun w1 k1 h1 => ?_)
    exact ⟨congrArg (fun x => Ending.returned (iV x)) (tenth_down hp1), k1.keeps (fun _ h => h)⟩

set_option maxRecDepth 100000 in
theorem shows_any (z r m : Int) (z1 : -10 ≤ z) (z2 : z ≤ 10) (r1 : -5 ≤ r) (r2 : r ≤ 5) (m1 : 0 ≤ m) (m2 : m ≤ 60) (w : World)  : Calls Try.prog 80 #[.agg #[.int .i64 z, .int .i64 r], .int .i64 m] w (RetI (shw (z, r) m) w) := by
  obtain ⟨hb1, hb2, hb3, hb4⟩ := shw_in (c := (z, r)) z1 z2 r1 r2 m1 m2
  dsimp only [shw] at hb1 hb2 hb3 hb4
  refine calls_run (fn := f80) (c := (f80.body).getD .skip) [.agg #[.int .i64 z, .int .i64 r], .int .i64 m] func80 (by kernel_rfl) (fun _ => False) [] (fun _ h => by cases h) (List.Pairwise.nil) 13 (by kernel_rfl) (by simp) ?_
  refine run_auto [] 2 [] [] [0, 1] [] (st' := ⟨[(0, .agg #[iV z, iV r]), (1, iV m)], []⟩) (acc := []) (by kernel_rfl) (by kernel_rfl) trivial ?_
  refine run_new (aO #[iV z, iV r] 79) (fun b1 => pA b1) (some 2) (fun _ => by kernel_rfl) (fun b1 hb1 => ?_)
  refine run_auto [] 3 [] [] [1, 2, 4] [0] (st' := ⟨[(1, iV m), (2, pA b1), (4, iV 0)], [(b1, aO #[iV z, iV r] 79)]⟩) (acc := []) (by kernel_rfl) (by kernel_rfl) trivial ?_
  refine draw 9 [{ val := fun _ => pA b1, slots := [2] },
      { val := fun _ => iV z, slots := [5], reads := [0] },
      { val := fun _ => .pointer (some ⟨b1, 1, none⟩), slots := [2] },
      { val := fun _ => iV r, slots := [7], reads := [0] },
      { val := fun _ => iV m, slots := [1] },
      { val := fun _ => iV (r * m), slots := [8, 9] },
      { val := fun _ => iV ((r * m) / 10), slots := [10] },
      { val := fun _ => iV (z + ((r * m) / 10)), slots := [6, 11] },
      { val := fun _ => iV (z + ((r * m) / 10)), slots := [12] }] [[], [0], [], [2], [], [2, 3, 4], [2, 3, 4, 5], [0, 1, 2, 3, 4, 5, 6], [0, 1, 2, 3, 4, 5, 6, 7]] (by kernel_rfl) (by kernel_rfl) (by kernel_rfl) (by kernel_rfl) [4] [] (by kernel_rfl)
      ⟨⟨⟨⟨⟨⟨⟨⟨⟨trivial,
      tri_quiet (fun β => []) [] [] (fun β => []) (by kernel_rfl) (fun β extra => by kernel_rfl) (by kernel_rfl) (fun β => trivial)⟩,
      tri_quiet (fun β => []) [0] [0] (fun β => [(pA b1, pA b1)]) (by kernel_rfl) (fun β extra => by kernel_rfl) (by kernel_rfl) (fun β => ⟨rfl, trivial⟩)⟩,
      tri_quiet (fun β => []) [] [] (fun β => []) (by kernel_rfl) (fun β extra => by kernel_rfl) (by kernel_rfl) (fun β => trivial)⟩,
      tri_quiet (fun β => []) [0] [0] (fun β => [(pA b1, pA b1)]) (by kernel_rfl) (fun β extra => by kernel_rfl) (by kernel_rfl) (fun β => ⟨rfl, trivial⟩)⟩,
      tri_quiet (fun β => []) [] [] (fun β => []) (by kernel_rfl) (fun β extra => by kernel_rfl) (by kernel_rfl) (fun β => trivial)⟩,
      tri_quiet (fun β => [(10, iV (r * m))]) [] [] (fun β => [(iV (IntKind.i64.wrap (r * m)), iV (r * m))]) (by kernel_rfl) (fun β extra => by kernel_rfl) (by kernel_rfl) (fun β => ⟨(wr (by omega) (by omega)), trivial⟩)⟩,
      tri_call 102 (fun β => #[iV (r * m)]) (by kernel_rfl) (fun β extra => by kernel_rfl) (fun β => by kernel_rfl) (fun β w1 k1 h1 => tenth_any (r * m) (by omega) (by omega) w1)⟩,
      tri_quiet (fun β => [(12, iV (z + ((r * m) / 10)))]) [] [] (fun β => [(iV (IntKind.i64.wrap (z + ((r * m) / 10))), iV (z + ((r * m) / 10)))]) (by kernel_rfl) (fun β extra => by kernel_rfl) (by kernel_rfl) (fun β => ⟨(wr (by omega) (by omega)), trivial⟩)⟩,
      tri_quiet (fun β => []) [] [] (fun β => []) (by kernel_rfl) (fun β extra => by kernel_rfl) (by kernel_rfl) (fun β => trivial)⟩
      (fun β => ⟨[(4, iV (z + ((r * m) / 10)))], []⟩) (fun β => by kernel_rfl) (fun β2 => ?_)
  refine run_end (fn := f80) rfl (Nat.le_refl _) (by kernel_rfl) [] [iV (z + ((r * m) / 10))] (e := []) (by kernel_rfl) trivial (fun w1 k1 h1 => ?_)
  exact ⟨rfl, k1.keeps (fun _ h => h)⟩

set_option maxRecDepth 100000 in
theorem tells_any (z r m : Int) (z1 : -10 ≤ z) (z2 : z ≤ 10) (r1 : -5 ≤ r) (r2 : r ≤ 5) (m1 : 0 ≤ m) (m2 : m ≤ 60) (w : World)  : Calls Try.prog 47 #[.agg #[.int .i64 z, .int .i64 r], .int .i64 m] w (Ret (.agg #[.int .i64 (shw (z, r) m), .int .i64 (shw (z, r) m)]) w) := by
  refine calls_run (fn := f47) (c := (f47.body).getD .skip) [.agg #[.int .i64 z, .int .i64 r], .int .i64 m] func47 (by kernel_rfl) (fun _ => False) [] (fun _ h => by cases h) (List.Pairwise.nil) 12 (by kernel_rfl) (by simp) ?_
  refine run_auto [] 2 [] [] [0, 1] [] (st' := ⟨[(0, .agg #[iV z, iV r]), (1, iV m)], []⟩) (acc := []) (by kernel_rfl) (by kernel_rfl) trivial ?_
  refine run_new (aO #[iV z, iV r] 79) (fun b1 => pA b1) (some 2) (fun _ => by kernel_rfl) (fun b1 hb1 => ?_)
  refine run_new (aO #[iV 0, iV 0] 23) (fun b2 => pA b2) (some 4) (fun _ => by kernel_rfl) (fun b2 hb2 => ?_)
  refine run_auto [] 5 [] [1] [4, 6, 7] [0] (st' := ⟨[(4, pA b2), (6, .agg #[iV z, iV r]), (7, iV m)], [(b2, aO #[iV 0, iV 0] 23)]⟩) (acc := [(pA b1, pA b1)]) (by kernel_rfl) (by kernel_rfl) ⟨rfl, trivial⟩ ?_
  refine run_ret1 80 #[.agg #[iV z, iV r], iV m] (some 8) (iV (shw (z, r) m)) (by kernel_rfl) (fun w1 k1 h1 => shows_any z r m (by omega) (by omega) (by omega) (by omega) (by omega) (by omega) w1) ?_
  refine run_auto [] 9 [] [0] [4] [0] (st' := ⟨[(4, pA b2)], [(b2, aO #[iV (shw (z, r) m), iV (shw (z, r) m)] 23)]⟩) (acc := [(pA b2, pA b2)]) (by kernel_rfl) (by kernel_rfl) ⟨rfl, trivial⟩ ?_
  refine run_end (fn := f47) rfl (Nat.le_refl _) (by kernel_rfl) [0] [.agg #[iV (shw (z, r) m), iV (shw (z, r) m)]] (e := [(pA b2, pA b2)]) (by kernel_rfl) ⟨rfl, trivial⟩ (fun w1 k1 h1 => ?_)
  exact ⟨rfl, k1.keeps (fun _ h => h)⟩

set_option maxRecDepth 100000 in
theorem differ_any (g : Gp) (a b : Nat) (ha : a < 6) (hb : b < 6) (h1 : -1000 ≤ g b a) (h2 : g b a ≤ 1000) (w : World)  : Calls Try.prog 41 #[.agg (gc g).toArray, .agg #[.int .i64 (a : Int), .int .i64 (b : Int)]] w (Ret (.agg #[.int .i64 (-(g b a)), .int .i64 (g a b)]) w) := by
  refine calls_run (fn := f41) (c := (f41.body).getD .skip) [.agg (gc g).toArray, .agg #[.int .i64 (a : Int), .int .i64 (b : Int)]] func41 (by kernel_rfl) (fun _ => False) [] (fun _ h => by cases h) (List.Pairwise.nil) 21 (by kernel_rfl) (by simp) ?_
  refine run_auto [] 2 [] [] [0, 1] [] (st' := ⟨[(0, .agg (gc g).toArray), (1, .agg #[iV (a : Int), iV (b : Int)])], []⟩) (acc := []) (by kernel_rfl) (by kernel_rfl) trivial ?_
  refine run_new (cO (gc g) 70) (fun b1 => pA b1) (some 2) (fun _ => by kernel_rfl) (fun b1 hb1 => ?_)
  refine run_new (aO #[iV (a : Int), iV (b : Int)] 72) (fun b2 => pA b2) (some 3) (fun _ => by kernel_rfl) (fun b2 hb2 => ?_)
  refine run_new (aO #[iV 0, iV 0] 23) (fun b3 => pA b3) (some 4) (fun _ => by kernel_rfl) (fun b3 hb3 => ?_)
  refine run_auto [] 2 [] [] [2, 3, 4] [0, 1, 2] (st' := ⟨[(2, pA b1), (3, pA b2), (4, pA b3)], [(b3, aO #[iV 0, iV 0] 23), (b2, aO #[iV (a : Int), iV (b : Int)] 72), (b1, cO (gc g) 70)]⟩) (acc := []) (by kernel_rfl) (by kernel_rfl) trivial ?_
  refine draw 17 [{ val := fun _ => .pointer (some ⟨b2, 1, none⟩), slots := [3] },
      { val := fun _ => iV (b : Int), slots := [5], reads := [1] },
      { val := fun _ => pA b2, slots := [3] },
      { val := fun _ => iV (a : Int), slots := [7], reads := [1] },
      { val := fun _ => .pointer (some ⟨b1, b * 6, none⟩), slots := [2, 6] },
      { val := fun _ => .pointer (some ⟨b1, b * 6 + a, none⟩), slots := [8, 9] },
      { val := fun _ => iV (g b a), slots := [10], reads := [2] },
      { val := fun _ => iV (-(g b a)), slots := [11] },
      { val := fun _ => pA b2, slots := [3] },
      { val := fun _ => iV (a : Int), slots := [13], reads := [1] },
      { val := fun _ => .pointer (some ⟨b2, 1, none⟩), slots := [3] },
      { val := fun _ => iV (b : Int), slots := [15], reads := [1] },
      { val := fun _ => .pointer (some ⟨b1, a * 6, none⟩), slots := [2, 14] },
      { val := fun _ => .pointer (some ⟨b1, a * 6 + b, none⟩), slots := [16, 17] },
      { val := fun _ => iV (g a b), slots := [18], reads := [2] },
      { val := fun _ => .agg #[iV (-(g b a)), iV (g a b)], slots := [12, 19] },
      { upd := [(0, fun l => aO #[iV (-(g b a)), iV (g a b)] 23)], slots := [4, 20], reads := [0] }] [[], [0], [], [2], [0, 1], [0, 1, 2, 3, 4], [0, 1, 2, 3, 4, 5], [0, 1, 2, 3, 4, 5, 6], [], [8], [], [10], [8, 9], [8, 9, 10, 11, 12], [8, 9, 10, 11, 12, 13], [0, 1, 2, 3, 4, 5, 6, 7, 8, 9, 10, 11, 12, 13, 14], [0, 1, 2, 3, 4, 5, 6, 7, 8, 9, 10, 11, 12, 13, 14, 15]] (by kernel_rfl) (by kernel_rfl) (by kernel_rfl) (by kernel_rfl) [4] [0] (by kernel_rfl)
      ⟨⟨⟨⟨⟨⟨⟨⟨⟨⟨⟨⟨⟨⟨⟨⟨⟨trivial,
      tri_quiet (fun β => []) [] [] (fun β => []) (by kernel_rfl) (fun β extra => by kernel_rfl) (by kernel_rfl) (fun β => trivial)⟩,
      tri_quiet (fun β => []) [0] [0] (fun β => [(pA b2, pA b2)]) (by kernel_rfl) (fun β extra => by kernel_rfl) (by kernel_rfl) (fun β => ⟨rfl, trivial⟩)⟩,
      tri_quiet (fun β => []) [] [] (fun β => []) (by kernel_rfl) (fun β extra => by kernel_rfl) (by kernel_rfl) (fun β => trivial)⟩,
      tri_quiet (fun β => []) [0] [0] (fun β => [(pA b2, pA b2)]) (by kernel_rfl) (fun β extra => by kernel_rfl) (by kernel_rfl) (fun β => ⟨rfl, trivial⟩)⟩,
      tri_v (fun β => (Instr.indexAt 70 (pA b1) (iV (b : Int)) >>= fun v => pure (Next.value v))) (by kernel_rfl) (fun β extra => by kernel_rfl) (fun β => by kernel_rfl) (fun β w1 k1 h1 => idxA_run (e := 68) (n := 6) (len := 6) (by kernel_rfl) (by kernel_rfl) b1 (0) .i64 b (by omega) (b * 6) (by omega) w1)⟩,
      tri_v (fun β => (Instr.indexAt 68 (.pointer (some ⟨b1, b * 6, none⟩)) (iV (a : Int)) >>= fun v => pure (Next.value v))) (by kernel_rfl) (fun β extra => by kernel_rfl) (fun β => by kernel_rfl) (fun β w1 k1 h1 => idxA_run (e := 3) (n := 1) (len := 6) (by kernel_rfl) (by kernel_rfl) b1 (b * 6) .i64 a (by omega) (b * 6 + a) (by omega) w1)⟩,
      tri_v (fun β => (Instr.loadAt 3 (.pointer (some ⟨b1, b * 6 + a, none⟩)) >>= fun v => pure (Next.value v))) (by kernel_rfl) (fun β extra => by kernel_rfl) (fun β => by kernel_rfl) (fun β w1 k1 h1 => load_own (e := 70) (fr := (0, 0)) (c := gc g) h1 (List.mem_of_getElem? (i := 0) (by kernel_rfl)) (gc_load g (a := b) (b := a) (by omega) (by omega) (rfl)))⟩,
      tri_quiet (fun β => [(12, iV (-(g b a)))]) [] [] (fun β => [(iV (IntKind.i64.wrap (0 - (g b a))), iV (-(g b a)))]) (by kernel_rfl) (fun β extra => by kernel_rfl) (by kernel_rfl) (fun β => ⟨((wr (by omega) (by omega)).trans (io (by omega))), trivial⟩)⟩,
      tri_quiet (fun β => []) [] [] (fun β => []) (by kernel_rfl) (fun β extra => by kernel_rfl) (by kernel_rfl) (fun β => trivial)⟩,
      tri_quiet (fun β => []) [0] [0] (fun β => [(pA b2, pA b2)]) (by kernel_rfl) (fun β extra => by kernel_rfl) (by kernel_rfl) (fun β => ⟨rfl, trivial⟩)⟩,
      tri_quiet (fun β => []) [] [] (fun β => []) (by kernel_rfl) (fun β extra => by kernel_rfl) (by kernel_rfl) (fun β => trivial)⟩,
      tri_quiet (fun β => []) [0] [0] (fun β => [(pA b2, pA b2)]) (by kernel_rfl) (fun β extra => by kernel_rfl) (by kernel_rfl) (fun β => ⟨rfl, trivial⟩)⟩,
      tri_v (fun β => (Instr.indexAt 70 (pA b1) (iV (a : Int)) >>= fun v => pure (Next.value v))) (by kernel_rfl) (fun β extra => by kernel_rfl) (fun β => by kernel_rfl) (fun β w1 k1 h1 => idxA_run (e := 68) (n := 6) (len := 6) (by kernel_rfl) (by kernel_rfl) b1 (0) .i64 a (by omega) (a * 6) (by omega) w1)⟩,
      tri_v (fun β => (Instr.indexAt 68 (.pointer (some ⟨b1, a * 6, none⟩)) (iV (b : Int)) >>= fun v => pure (Next.value v))) (by kernel_rfl) (fun β extra => by kernel_rfl) (fun β => by kernel_rfl) (fun β w1 k1 h1 => idxA_run (e := 3) (n := 1) (len := 6) (by kernel_rfl) (by kernel_rfl) b1 (a * 6) .i64 b (by omega) (a * 6 + b) (by omega) w1)⟩,
      tri_v (fun β => (Instr.loadAt 3 (.pointer (some ⟨b1, a * 6 + b, none⟩)) >>= fun v => pure (Next.value v))) (by kernel_rfl) (fun β extra => by kernel_rfl) (fun β => by kernel_rfl) (fun β w1 k1 h1 => load_own (e := 70) (fr := (0, 0)) (c := gc g) h1 (List.mem_of_getElem? (i := 0) (by kernel_rfl)) (gc_load g (a := a) (b := b) (by omega) (by omega) (rfl)))⟩,
      tri_quiet (fun β => []) [] [] (fun β => []) (by kernel_rfl) (fun β extra => by kernel_rfl) (by kernel_rfl) (fun β => trivial)⟩,
      tri_quiet (fun β => []) [0] [0] (fun β => [(pA b3, pA b3)]) (by kernel_rfl) (fun β extra => by kernel_rfl) (by kernel_rfl) (fun β => ⟨rfl, trivial⟩)⟩
      (fun β => ⟨[(4, pA b3)], [(b3, aO #[iV (-(g b a)), iV (g a b)] 23)]⟩) (fun β => by kernel_rfl) (fun β4 => ?_)
  refine run_end (fn := f41) rfl (Nat.le_refl _) (by kernel_rfl) [0] [.agg #[iV (-(g b a)), iV (g a b)]] (e := [(pA b3, pA b3)]) (by kernel_rfl) ⟨rfl, trivial⟩ (fun w1 k1 h1 => ?_)
  exact ⟨rfl, k1.keeps (fun _ h => h)⟩

set_option maxRecDepth 100000 in
theorem surelyLongest_any (g : Gp) (x : Nat) (hx : x < 6) (w : World)  : Calls Try.prog 94 #[.agg (gc g).toArray, .int .i64 (x : Int)] w (RetB ((List.range 5).all fun o => decide (g o x ≤ 0)) w) := by
  refine calls_run (fn := f94) (c := (f94.body).getD .skip) [.agg (gc g).toArray, .int .i64 (x : Int)] func94 (by kernel_rfl) (fun _ => False) [] (fun _ h => by cases h) (List.Pairwise.nil) 16 (by kernel_rfl) (by simp) ?_
  refine run_auto [] 2 [] [] [0, 1] [] (st' := ⟨[(0, .agg (gc g).toArray), (1, iV (x : Int))], []⟩) (acc := []) (by kernel_rfl) (by kernel_rfl) trivial ?_
  refine run_new (cO (gc g) 70) (fun b1 => pA b1) (some 2) (fun _ => by kernel_rfl) (fun b1 hb1 => ?_)
  refine run_auto [] 8 [] [] [1, 2, 4, 6] [0] (st' := ⟨[(1, iV (x : Int)), (2, pA b1), (4, .bool false), (6, iV 0)], [(b1, cO (gc g) 70)]⟩) (acc := []) (by kernel_rfl) (by kernel_rfl) trivial ?_
  refine run_auto [] 0 [] [] [1, 2, 4, 6] [0] (st' := ⟨[(1, iV (x : Int)), (2, pA b1), (4, .bool false), (6, iV 0)], [(b1, cO (gc g) 70)]⟩) (acc := []) (by kernel_rfl) (by kernel_rfl) trivial ?_
  refine run_loop (S := fun (k : Nat) => ⟨[(1, iV (x : Int)), (2, pA b1), (4, .bool false), (6, iV (k : Int))], [(b1, cO (gc g) 70)]⟩) (fun k => k ≤ 5 ∧ ∀ j, j < k → g j x ≤ 0) (fun k => 5 - k) (0) (by kernel_rfl) (⟨Nat.zero_le _, fun _ h => by cases h⟩) (by kernel_rfl) (fun k hI0 J0 hJ0 => ?_)
  obtain ⟨hI1, hI2⟩ := hI0
  cases hd1 : (decide ((k : Int) < 5)) with
  | false =>
    have hp1 := of_decide_eq_false hd1
    refine run_auto [(7, .bool false)] 11 [false] [] [4] [] (st' := ⟨[(4, .bool true)], []⟩) (acc := [(.bool false, .bool false), (.bool (decide ((k : Int) < 5)), .bool false)]) (by kernel_rfl) (by kernel_rfl) ⟨rfl, (bo hd1), trivial⟩ ?_
    refine run_end (fn := f94) rfl (Nat.le_refl _) (by kernel_rfl) [] [.bool true] (e := []) (by kernel_rfl) trivial (fun w1 k1 h1 => ?_)
    have h : ((List.range 5).all fun o => decide (g o x ≤ 0)) = true := by
      rw [List.all_eq_true]
      intro o ho
      have ho := List.mem_range.1 ho
      exact decide_eq_true (hI2 o (by omega))
    exact ⟨by rw [h]; rfl, k1.keeps (fun _ h => h)⟩
  | true =>
    have hp1 := of_decide_eq_true hd1
    refine run_auto [(7, .bool true)] 18 [true] [] [1, 2, 4, 6, 9, 10] [0] (st' := ⟨[(1, iV (x : Int)), (2, pA b1), (4, .bool false), (6, iV (k : Int)), (9, iV (k : Int)), (10, iV (x : Int))], [(b1, cO (gc g) 70)]⟩) (acc := [(.bool true, .bool true), (.bool (decide ((k : Int) < 5)), .bool true)]) (by kernel_rfl) (by kernel_rfl) ⟨rfl, (bo hd1), trivial⟩ ?_
    refine run_v (Instr.indexAt 70 (pA b1) (iV (k : Int)) >>= fun v => pure (Next.value v)) (some 11) (.pointer (some ⟨b1, k * 6, none⟩)) (by kernel_rfl) (fun w1 k1 h1 => idxA_run (e := 68) (n := 6) (len := 6) (by kernel_rfl) (by kernel_rfl) b1 (0) .i64 k (by omega) (k * 6) (by omega) w1) ?_
    refine run_v (Instr.indexAt 68 (.pointer (some ⟨b1, k * 6, none⟩)) (iV (x : Int)) >>= fun v => pure (Next.value v)) (some 12) (.pointer (some ⟨b1, k * 6 + x, none⟩)) (by kernel_rfl) (fun w1 k1 h1 => idxA_run (e := 3) (n := 1) (len := 6) (by kernel_rfl) (by kernel_rfl) b1 (k * 6) .i64 x (by omega) (k * 6 + x) (by omega) w1) ?_
    refine run_v (Instr.loadAt 3 (.pointer (some ⟨b1, k * 6 + x, none⟩)) >>= fun v => pure (Next.value v)) (some 13) (iV (g k x)) (by kernel_rfl) (fun w1 k1 h1 => load_own (e := 70) (fr := (0, 0)) (c := gc g) h1 (List.mem_of_getElem? (i := 0) (by kernel_rfl)) (gc_load g (a := k) (b := x) (by omega) (by omega) (rfl))) ?_
    cases hd2 : (decide (0 < (g k x))) with
    | false =>
      have hp2 := of_decide_eq_false hd2
      refine run_auto [(14, .bool false), (15, iV ((k + 1 : Nat) : Int))] 9 [false] [] [1, 2, 4, 6] [0] (st' := ⟨[(1, iV (x : Int)), (2, pA b1), (4, .bool false), (6, iV ((k + 1 : Nat) : Int))], [(b1, cO (gc g) 70)]⟩) (acc := [(iV (IntKind.i64.wrap ((k : Int) + 1)), iV ((k + 1 : Nat) : Int)), (.bool false, .bool false), (.bool (decide (0 < (g k x))), .bool false)]) (by kernel_rfl) (by kernel_rfl) ⟨(wr (by omega) (by omega)), rfl, (bo hd2), trivial⟩ ?_
      exact run_round (by kernel_rfl) (hJ0 (k + 1) (⟨by omega, fun j hj => (Nat.lt_succ_iff_lt_or_eq.1 hj).elim (hI2 j) (fun h => h ▸ (by omega))⟩) (by omega))
    | true =>
      have hp2 := of_decide_eq_true hd2
      refine run_auto [(14, .bool true)] 7 [true] [] [1, 2, 4, 6] [0] (st' := ⟨[(1, iV (x : Int)), (2, pA b1), (4, .bool false), (6, iV (k : Int))], [(b1, cO (gc g) 70)]⟩) (acc := [(.bool true, .bool true), (.bool (decide (0 < (g k x))), .bool true)]) (by kernel_rfl) (by kernel_rfl) ⟨rfl, (bo hd2), trivial⟩ ?_
      refine run_end (fn := f94) rfl (Nat.le_refl _) (by kernel_rfl) [] [.bool false] (e := []) (by kernel_rfl) trivial (fun w1 k1 h1 => ?_)
      have h : ((List.range 5).all fun o => decide (g o x ≤ 0)) = false := by
        rw [List.all_eq_false]
        exact ⟨k, List.mem_range.2 (by omega), by simp; omega⟩
      exact ⟨by rw [h]; rfl, k1.keeps (fun _ h => h)⟩

set_option maxRecDepth 100000 in
theorem perhapsLongest_any (g : Gp) (x : Nat) (hx : x < 6) (w : World)  : Calls Try.prog 95 #[.agg (gc g).toArray, .int .i64 (x : Int)] w (RetB ((List.range 5).all fun o => decide (0 ≤ g x o)) w) := by
  refine calls_run (fn := f95) (c := (f95.body).getD .skip) [.agg (gc g).toArray, .int .i64 (x : Int)] func95 (by kernel_rfl) (fun _ => False) [] (fun _ h => by cases h) (List.Pairwise.nil) 16 (by kernel_rfl) (by simp) ?_
  refine run_auto [] 2 [] [] [0, 1] [] (st' := ⟨[(0, .agg (gc g).toArray), (1, iV (x : Int))], []⟩) (acc := []) (by kernel_rfl) (by kernel_rfl) trivial ?_
  refine run_new (cO (gc g) 70) (fun b1 => pA b1) (some 2) (fun _ => by kernel_rfl) (fun b1 hb1 => ?_)
  refine run_auto [] 8 [] [] [1, 2, 4, 6] [0] (st' := ⟨[(1, iV (x : Int)), (2, pA b1), (4, .bool false), (6, iV 0)], [(b1, cO (gc g) 70)]⟩) (acc := []) (by kernel_rfl) (by kernel_rfl) trivial ?_
  refine run_auto [] 0 [] [] [1, 2, 4, 6] [0] (st' := ⟨[(1, iV (x : Int)), (2, pA b1), (4, .bool false), (6, iV 0)], [(b1, cO (gc g) 70)]⟩) (acc := []) (by kernel_rfl) (by kernel_rfl) trivial ?_
  refine run_loop (S := fun (k : Nat) => ⟨[(1, iV (x : Int)), (2, pA b1), (4, .bool false), (6, iV (k : Int))], [(b1, cO (gc g) 70)]⟩) (fun k => k ≤ 5 ∧ ∀ j, j < k → 0 ≤ g x j) (fun k => 5 - k) (0) (by kernel_rfl) (⟨Nat.zero_le _, fun _ h => by cases h⟩) (by kernel_rfl) (fun k hI0 J0 hJ0 => ?_)
  obtain ⟨hI1, hI2⟩ := hI0
  cases hd1 : (decide ((k : Int) < 5)) with
  | false =>
    have hp1 := of_decide_eq_false hd1
    refine run_auto [(7, .bool false)] 11 [false] [] [4] [] (st' := ⟨[(4, .bool true)], []⟩) (acc := [(.bool false, .bool false), (.bool (decide ((k : Int) < 5)), .bool false)]) (by kernel_rfl) (by kernel_rfl) ⟨rfl, (bo hd1), trivial⟩ ?_
    refine run_end (fn := f95) rfl (Nat.le_refl _) (by kernel_rfl) [] [.bool true] (e := []) (by kernel_rfl) trivial (fun w1 k1 h1 => ?_)
    have h : ((List.range 5).all fun o => decide (0 ≤ g x o)) = true := by
      rw [List.all_eq_true]
      intro o ho
      have ho := List.mem_range.1 ho
      exact decide_eq_true (hI2 o (by omega))
    exact ⟨by rw [h]; rfl, k1.keeps (fun _ h => h)⟩
  | true =>
    have hp1 := of_decide_eq_true hd1
    refine run_auto [(7, .bool true)] 18 [true] [] [1, 2, 4, 6, 9, 10] [0] (st' := ⟨[(1, iV (x : Int)), (2, pA b1), (4, .bool false), (6, iV (k : Int)), (9, iV (x : Int)), (10, iV (k : Int))], [(b1, cO (gc g) 70)]⟩) (acc := [(.bool true, .bool true), (.bool (decide ((k : Int) < 5)), .bool true)]) (by kernel_rfl) (by kernel_rfl) ⟨rfl, (bo hd1), trivial⟩ ?_
    refine run_v (Instr.indexAt 70 (pA b1) (iV (x : Int)) >>= fun v => pure (Next.value v)) (some 11) (.pointer (some ⟨b1, x * 6, none⟩)) (by kernel_rfl) (fun w1 k1 h1 => idxA_run (e := 68) (n := 6) (len := 6) (by kernel_rfl) (by kernel_rfl) b1 (0) .i64 x (by omega) (x * 6) (by omega) w1) ?_
    refine run_v (Instr.indexAt 68 (.pointer (some ⟨b1, x * 6, none⟩)) (iV (k : Int)) >>= fun v => pure (Next.value v)) (some 12) (.pointer (some ⟨b1, x * 6 + k, none⟩)) (by kernel_rfl) (fun w1 k1 h1 => idxA_run (e := 3) (n := 1) (len := 6) (by kernel_rfl) (by kernel_rfl) b1 (x * 6) .i64 k (by omega) (x * 6 + k) (by omega) w1) ?_
    refine run_v (Instr.loadAt 3 (.pointer (some ⟨b1, x * 6 + k, none⟩)) >>= fun v => pure (Next.value v)) (some 13) (iV (g x k)) (by kernel_rfl) (fun w1 k1 h1 => load_own (e := 70) (fr := (0, 0)) (c := gc g) h1 (List.mem_of_getElem? (i := 0) (by kernel_rfl)) (gc_load g (a := x) (b := k) (by omega) (by omega) (rfl))) ?_
    cases hd2 : (decide ((g x k) < 0)) with
    | false =>
      have hp2 := of_decide_eq_false hd2
      refine run_auto [(14, .bool false), (15, iV ((k + 1 : Nat) : Int))] 9 [false] [] [1, 2, 4, 6] [0] (st' := ⟨[(1, iV (x : Int)), (2, pA b1), (4, .bool false), (6, iV ((k + 1 : Nat) : Int))], [(b1, cO (gc g) 70)]⟩) (acc := [(iV (IntKind.i64.wrap ((k : Int) + 1)), iV ((k + 1 : Nat) : Int)), (.bool false, .bool false), (.bool (decide ((g x k) < 0)), .bool false)]) (by kernel_rfl) (by kernel_rfl) ⟨(wr (by omega) (by omega)), rfl, (bo hd2), trivial⟩ ?_
      exact run_round (by kernel_rfl) (hJ0 (k + 1) (⟨by omega, fun j hj => (Nat.lt_succ_iff_lt_or_eq.1 hj).elim (hI2 j) (fun h => h ▸ (by omega))⟩) (by omega))
    | true =>
      have hp2 := of_decide_eq_true hd2
      refine run_auto [(14, .bool true)] 7 [true] [] [1, 2, 4, 6] [0] (st' := ⟨[(1, iV (x : Int)), (2, pA b1), (4, .bool false), (6, iV (k : Int))], [(b1, cO (gc g) 70)]⟩) (acc := [(.bool true, .bool true), (.bool (decide ((g x k) < 0)), .bool true)]) (by kernel_rfl) (by kernel_rfl) ⟨rfl, (bo hd2), trivial⟩ ?_
      refine run_end (fn := f95) rfl (Nat.le_refl _) (by kernel_rfl) [] [.bool false] (e := []) (by kernel_rfl) trivial (fun w1 k1 h1 => ?_)
      have h : ((List.range 5).all fun o => decide (0 ≤ g x o)) = false := by
        rw [List.all_eq_false]
        exact ⟨k, List.mem_range.2 (by omega), by simp; omega⟩
      exact ⟨by rw [h]; rfl, k1.keeps (fun _ h => h)⟩

set_option maxRecDepth 100000 in
theorem along_any (b : Nat) (x y : Int) (x1 : -1000 ≤ x) (x2 : x ≤ 1000) (y1 : -1000 ≤ y) (y2 : y ≤ 1000) (w : World) (hb : w.heap[b]? = some (.cells #[.int .i64 x, .int .i64 y] 3 (0, 0))) : Calls Try.prog 111 #[.slice (some ⟨b, 0, none⟩) 2 2] w (RetI (x + y) w) := by
  refine calls_run (fn := f111) (c := (f111.body).getD .skip) [.slice (some ⟨b, 0, none⟩) 2 2] func111 (by kernel_rfl) (fun _ => False) [] (fun _ h => by cases h) (List.Pairwise.nil) 17 (by kernel_rfl) (by simp) ?_
  refine run_auto [] 16 [] [] [2, 3, 6, 7, 8] [] (st' := ⟨[(2, iV 0), (3, iV 0), (6, sV b 2 2), (7, iV 2), (8, iV 0)], []⟩) (acc := []) (by kernel_rfl) (by kernel_rfl) trivial ?_
  refine run_once (by kernel_rfl) (fun J0 hJ0 => ?_)
  refine run_auto [(9, .bool true)] 12 [true] [] [2, 3, 6, 7, 8, 9, 10] [] (st' := ⟨[(2, iV 0), (3, iV 0), (6, sV b 2 2), (7, iV 2), (8, iV 0), (9, .bool true), (10, pA b)], []⟩) (acc := [(.bool true, .bool true), (.bool true, .bool true)]) (by kernel_rfl) (by kernel_rfl) ⟨rfl, rfl, trivial⟩ ?_
  refine run_v (Instr.loadAt 3 (pA b) >>= fun v => pure (Next.value v)) (some 11) (iV x) (by kernel_rfl) (fun w1 k1 h1 => load_in (base := 0) (off := 0) k1 (fun h => h) [iV x, iV y] (c2 (cells_of_heap (c := [_, _]) hb 0 _ rfl) (cells_of_heap (c := [_, _]) hb 1 _ rfl)) (by kernel_rfl)) ?_
  refine run_auto [(14, iV (0 + x)), (15, iV 1)] 13 [] [] [2, 3, 6, 7, 8, 9, 10, 11, 5, 12, 13, 14, 15] [] (st' := ⟨[(2, iV 0), (3, iV (0 + x)), (6, sV b 2 2), (7, iV 2), (8, iV 1), (9, .bool true), (10, pA b), (11, iV x), (5, iV x), (12, iV 0), (13, iV x), (14, iV (0 + x)), (15, iV 1)], []⟩) (acc := [(iV 1, iV 1), (iV (IntKind.i64.wrap (0 + x)), iV (0 + x))]) (by kernel_rfl) (by kernel_rfl) ⟨rfl, (wr (by omega) (by omega)), trivial⟩ ?_
  refine run_round (by kernel_rfl) (hJ0 _ ?_)
  refine run_auto [(9, .bool true)] 12 [true] [] [2, 3, 6, 7, 8, 9, 10, 11, 5, 12, 13, 14, 15] [] (st' := ⟨[(2, iV 0), (3, iV (0 + x)), (6, sV b 2 2), (7, iV 2), (8, iV 1), (9, .bool true), (10, .pointer (some ⟨b, 1, none⟩)), (11, iV x), (5, iV x), (12, iV 0), (13, iV x), (14, iV (0 + x)), (15, iV 1)], []⟩) (acc := [(.bool true, .bool true), (.bool true, .bool true)]) (by kernel_rfl) (by kernel_rfl) ⟨rfl, rfl, trivial⟩ ?_
  refine run_v (Instr.loadAt 3 (.pointer (some ⟨b, 1, none⟩)) >>= fun v => pure (Next.value v)) (some 11) (iV y) (by kernel_rfl) (fun w1 k1 h1 => load_in (base := 0) (off := 1) k1 (fun h => h) [iV x, iV y] (c2 (cells_of_heap (c := [_, _]) hb 0 _ rfl) (cells_of_heap (c := [_, _]) hb 1 _ rfl)) (by kernel_rfl)) ?_
  refine run_auto [(14, iV ((0 + x) + y)), (15, iV 2)] 13 [] [] [2, 3, 6, 7, 8, 9, 10, 11, 5, 12, 13, 14, 15] [] (st' := ⟨[(2, iV 0), (3, iV ((0 + x) + y)), (6, sV b 2 2), (7, iV 2), (8, iV 2), (9, .bool true), (10, .pointer (some ⟨b, 1, none⟩)), (11, iV y), (5, iV y), (12, iV (0 + x)), (13, iV y), (14, iV ((0 + x) + y)), (15, iV 2)], []⟩) (acc := [(iV 2, iV 2), (iV (IntKind.i64.wrap ((0 + x) + y)), iV ((0 + x) + y))]) (by kernel_rfl) (by kernel_rfl) ⟨rfl, (wr (by omega) (by omega)), trivial⟩ ?_
  refine run_round (by kernel_rfl) (hJ0 _ ?_)
  refine run_auto [(9, .bool false)] 12 [false] [] [2] [] (st' := ⟨[(2, iV ((0 + x) + y))], []⟩) (acc := [(.bool false, .bool false), (.bool false, .bool false)]) (by kernel_rfl) (by kernel_rfl) ⟨rfl, rfl, trivial⟩ ?_
  refine run_end (fn := f111) rfl (Nat.le_refl _) (by kernel_rfl) [] [iV ((0 + x) + y)] (e := []) (by kernel_rfl) trivial (fun w1 k1 h1 => ?_)
  exact ⟨by rw [show 0 + x + y = x + y by omega]; rfl, k1.keeps (fun _ h => h)⟩

set_option maxRecDepth 100000 in
theorem limit_any (bk : Nat) (g : Gp) (a b : Nat) (m : Int) (w : World) (ha : a < 6) (hb : b < 6) (hd : g.Done 6) (hs : g.Small 6 40) (m1 : -200 ≤ m) (m2 : m ≤ 200) (hw : w.heap[bk]? = some (.cells (gc g).toArray 70 (0, 0))) : Calls Try.prog 109 #[.pointer (some ⟨bk, 0, none⟩), .int .i64 (a : Int), .int .i64 (b : Int), .int .i64 m] w (Wr bk (.bool (!decide (m + g b a < 0))) (if m + g b a < 0 then (.cells (gc g).toArray 70 (0, 0)) else (.cells (gc (g.lim a b m)).toArray 70 (0, 0))) w) := by
  have pa := Gp.low hd hs hb ha
  have pb := hs b a hb ha
  refine calls_run (fn := f109) (c := (f109.body).getD .skip) [.pointer (some ⟨bk, 0, none⟩), .int .i64 (a : Int), .int .i64 (b : Int), .int .i64 m] func109 (by kernel_rfl) (fun x => x = bk) [(bk, .cells (gc g).toArray 70 (0, 0))] (fun p hp => by rcases List.mem_singleton.1 hp with rfl; exact ⟨hw, rfl, rfl⟩) (List.pairwise_singleton _ _) 74 (by kernel_rfl) (by simp) ?_
  refine run_auto [] 12 [] [] [0, 1, 2, 3, 8, 12, 14, 15, 16] [0] (st' := ⟨[(0, pA bk), (1, iV (a : Int)), (2, iV (b : Int)), (3, iV m), (8, .bool false), (12, iV m), (14, iV (b : Int)), (15, iV (a : Int)), (16, pA bk)], [(bk, cO (gc g) 70)]⟩) (acc := []) (by kernel_rfl) (by kernel_rfl) trivial ?_
  refine run_v (Instr.indexAt 70 (pA bk) (iV (b : Int)) >>= fun v => pure (Next.value v)) (some 17) (.pointer (some ⟨bk, b * 6, none⟩)) (by kernel_rfl) (fun w1 k1 h1 => idxA_run (e := 68) (n := 6) (len := 6) (by kernel_rfl) (by kernel_rfl) bk (0) .i64 b (by omega) (b * 6) (by omega) w1) ?_
  refine run_v (Instr.indexAt 68 (.pointer (some ⟨bk, b * 6, none⟩)) (iV (a : Int)) >>= fun v => pure (Next.value v)) (some 18) (.pointer (some ⟨bk, b * 6 + a, none⟩)) (by kernel_rfl) (fun w1 k1 h1 => idxA_run (e := 3) (n := 1) (len := 6) (by kernel_rfl) (by kernel_rfl) bk (b * 6) .i64 a (by omega) (b * 6 + a) (by omega) w1) ?_
  refine run_v (Instr.loadAt 3 (.pointer (some ⟨bk, b * 6 + a, none⟩)) >>= fun v => pure (Next.value v)) (some 19) (iV (g b a)) (by kernel_rfl) (fun w1 k1 h1 => load_own (e := 70) (fr := (0, 0)) (c := gc g) h1 (List.mem_of_getElem? (i := 0) (by kernel_rfl)) (gc_load g (a := b) (b := a) (by omega) (by omega) (rfl))) ?_
  refine run_new (aO #[iV m, iV (g b a)] 3) (fun b1 => sV b1 2 2) (some 20) (fun _ => by kernel_rfl) (fun b1 hb1 => ?_)
  refine run_ret1 111 #[sV b1 2 2] (some 21) (iV (m + (g b a))) (by kernel_rfl) (fun w1 k1 h1 => along_any b1 m (g b a) (by omega) (by omega) (by omega) (by omega) w1 (h1 (b1, aO #[iV m, iV (g b a)] 3) (List.mem_of_getElem? (i := 0) (by kernel_rfl)))) ?_
  cases hd1 : (decide ((m + (g b a)) < 0)) with
  | false =>
    have hp1 := of_decide_eq_false hd1
    refine run_auto [(22, .bool false)] 10 [false] [] [0, 1, 2, 3, 8, 23] [1] (st' := ⟨[(0, pA bk), (1, iV (a : Int)), (2, iV (b : Int)), (3, iV m), (8, .bool false), (23, iV 0)], [(bk, cO (gc g) 70)]⟩) (acc := [(.bool false, .bool false), (.bool (decide ((m + (g b a)) < 0)), .bool false)]) (by kernel_rfl) (by kernel_rfl) ⟨rfl, (bo hd1), trivial⟩ ?_
    refine run_auto [] 0 [] [] [0, 1, 2, 3, 8, 23] [0] (st' := ⟨[(0, pA bk), (1, iV (a : Int)), (2, iV (b : Int)), (3, iV m), (8, .bool false), (23, iV 0)], [(bk, cO (gc g) 70)]⟩) (acc := []) (by kernel_rfl) (by kernel_rfl) trivial ?_
    refine run_loop (S := fun (i : Nat) => ⟨[(0, pA bk), (1, iV (a : Int)), (2, iV (b : Int)), (3, iV m), (8, .bool false), (23, iV (i : Int))], [(bk, cO (gc (g.mid a b m i 0)) 70)]⟩) (fun i => i ≤ 6) (fun i => 6 - i) (0) (by kernel_rfl) (Nat.zero_le _) (by kernel_rfl) (fun i hI0 J0 hJ0 => ?_)
    cases hd2 : (decide ((i : Int) < 6)) with
    | false =>
      have hp2 := of_decide_eq_false hd2
      refine run_auto [(24, .bool false)] 11 [false] [] [8] [0] (st' := ⟨[(8, .bool true)], [(bk, cO (gc (g.mid a b m i 0)) 70)]⟩) (acc := [(.bool false, .bool false), (.bool (decide ((i : Int) < 6)), .bool false)]) (by kernel_rfl) (by kernel_rfl) ⟨rfl, (bo hd2), trivial⟩ ?_
      refine run_end (fn := f109) rfl (Nat.le_refl _) (by kernel_rfl) [] [.bool true] (e := []) (by kernel_rfl) trivial (fun w1 k1 h1 => ?_)
      rw [if_neg (by omega)]
      rw [show gc (g.mid a b m i 0) = gc (g.lim a b m) from gc_congr fun i' j' h1 _ => by rw [show i = 6 by omega]; exact Gp.mid_end g a b m h1 j'] at h1
      exact ⟨by simp [resVal], k1, h1 (bk, _) (List.mem_of_getElem? (i := 0) rfl)⟩
    | true =>
      have hp2 := of_decide_eq_true hd2
      have hi6 : i < 6 := by omega
      have qa := Gp.sums hd hs m1 m2 hi6 ha hb hb
      have qb := Gp.low hd hs hi6 hb
      have qc := hs i b hi6 hb
      have qd := hs i a hi6 ha
      have qe := Gp.low hd hs hi6 ha
      refine run_auto [(24, .bool true)] 20 [true] [] [0, 1, 2, 3, 8, 23, 9, 27, 28, 29] [0] (st' := ⟨[(0, pA bk), (1, iV (a : Int)), (2, iV (b : Int)), (3, iV m), (8, .bool false), (23, iV (i : Int)), (9, iV (i : Int)), (27, iV (i : Int)), (28, iV (a : Int)), (29, pA bk)], [(bk, cO (gc (g.mid a b m i 0)) 70)]⟩) (acc := [(.bool true, .bool true), (.bool (decide ((i : Int) < 6)), .bool true)]) (by kernel_rfl) (by kernel_rfl) ⟨rfl, (bo hd2), trivial⟩ ?_
      refine run_v (Instr.indexAt 70 (pA bk) (iV (i : Int)) >>= fun v => pure (Next.value v)) (some 30) (.pointer (some ⟨bk, i * 6, none⟩)) (by kernel_rfl) (fun w1 k1 h1 => idxA_run (e := 68) (n := 6) (len := 6) (by kernel_rfl) (by kernel_rfl) bk (0) .i64 i (by omega) (i * 6) (by omega) w1) ?_
      refine run_v (Instr.indexAt 68 (.pointer (some ⟨bk, i * 6, none⟩)) (iV (a : Int)) >>= fun v => pure (Next.value v)) (some 31) (.pointer (some ⟨bk, i * 6 + a, none⟩)) (by kernel_rfl) (fun w1 k1 h1 => idxA_run (e := 3) (n := 1) (len := 6) (by kernel_rfl) (by kernel_rfl) bk (i * 6) .i64 a (by omega) (i * 6 + a) (by omega) w1) ?_
      refine run_v (Instr.loadAt 3 (.pointer (some ⟨bk, i * 6 + a, none⟩)) >>= fun v => pure (Next.value v)) (some 32) (iV (g i a)) (by kernel_rfl) (fun w1 k1 h1 => load_own (e := 70) (fr := (0, 0)) (c := gc (g.mid a b m i 0)) h1 (List.mem_of_getElem? (i := 0) (by kernel_rfl)) (gc_load (g.mid a b m i 0) (a := i) (b := a) (by omega) (by omega) (Gp.mid_at g a b m i (by omega)))) ?_
      refine run_auto [] 1 [] [] [0, 1, 2, 3, 8, 23, 9, 32, 33] [0] (st' := ⟨[(0, pA bk), (1, iV (a : Int)), (2, iV (b : Int)), (3, iV m), (8, .bool false), (23, iV (i : Int)), (9, iV (i : Int)), (32, iV (g i a)), (33, iV m)], [(bk, cO (gc (g.mid a b m i 0)) 70)]⟩) (acc := []) (by kernel_rfl) (by kernel_rfl) trivial ?_
      refine run_new (aO #[iV (g i a), iV m] 3) (fun b2 => sV b2 2 2) (some 34) (fun _ => by kernel_rfl) (fun b2 hb2 => ?_)
      refine run_ret1 111 #[sV b2 2 2] (some 35) (iV ((g i a) + m)) (by kernel_rfl) (fun w1 k1 h1 => along_any b2 (g i a) m (by omega) (by omega) (by omega) (by omega) w1 (h1 (b2, aO #[iV (g i a), iV m] 3) (List.mem_of_getElem? (i := 0) (by kernel_rfl)))) ?_
      refine run_auto [] 10 [] [] [0, 1, 2, 3, 8, 23, 9, 10, 36, 38, 39, 40] [1] (st' := ⟨[(0, pA bk), (1, iV (a : Int)), (2, iV (b : Int)), (3, iV m), (8, .bool false), (23, iV (i : Int)), (9, iV (i : Int)), (10, iV ((g i a) + m)), (36, iV ((g i a) + m)), (38, iV (i : Int)), (39, iV (b : Int)), (40, pA bk)], [(bk, cO (gc (g.mid a b m i 0)) 70)]⟩) (acc := []) (by kernel_rfl) (by kernel_rfl) trivial ?_
      refine run_v (Instr.indexAt 70 (pA bk) (iV (i : Int)) >>= fun v => pure (Next.value v)) (some 41) (.pointer (some ⟨bk, i * 6, none⟩)) (by kernel_rfl) (fun w1 k1 h1 => idxA_run (e := 68) (n := 6) (len := 6) (by kernel_rfl) (by kernel_rfl) bk (0) .i64 i (by omega) (i * 6) (by omega) w1) ?_
      refine run_v (Instr.indexAt 68 (.pointer (some ⟨bk, i * 6, none⟩)) (iV (b : Int)) >>= fun v => pure (Next.value v)) (some 42) (.pointer (some ⟨bk, i * 6 + b, none⟩)) (by kernel_rfl) (fun w1 k1 h1 => idxA_run (e := 3) (n := 1) (len := 6) (by kernel_rfl) (by kernel_rfl) bk (i * 6) .i64 b (by omega) (i * 6 + b) (by omega) w1) ?_
      refine run_v (Instr.loadAt 3 (.pointer (some ⟨bk, i * 6 + b, none⟩)) >>= fun v => pure (Next.value v)) (some 43) (iV (g i b)) (by kernel_rfl) (fun w1 k1 h1 => load_own (e := 70) (fr := (0, 0)) (c := gc (g.mid a b m i 0)) h1 (List.mem_of_getElem? (i := 0) (by kernel_rfl)) (gc_load (g.mid a b m i 0) (a := i) (b := b) (by omega) (by omega) (Gp.mid_at g a b m i (by omega)))) ?_
      cases hd3 : (decide ((g i b) ≤ ((g i a) + m))) with
      | false =>
        have hp3 := of_decide_eq_false hd3
        refine run_auto [(44, .bool false)] 9 [false] [] [0, 1, 2, 3, 8, 23, 9, 10, 45] [0] (st' := ⟨[(0, pA bk), (1, iV (a : Int)), (2, iV (b : Int)), (3, iV m), (8, .bool false), (23, iV (i : Int)), (9, iV (i : Int)), (10, iV ((g i a) + m)), (45, iV 0)], [(bk, cO (gc (g.mid a b m i 0)) 70)]⟩) (acc := [(.bool false, .bool false), (.bool (decide ((g i b) ≤ ((g i a) + m))), .bool false)]) (by kernel_rfl) (by kernel_rfl) ⟨rfl, (bo hd3), trivial⟩ ?_
        refine run_auto [] 0 [] [] [0, 1, 2, 3, 8, 23, 9, 10, 45] [0] (st' := ⟨[(0, pA bk), (1, iV (a : Int)), (2, iV (b : Int)), (3, iV m), (8, .bool false), (23, iV (i : Int)), (9, iV (i : Int)), (10, iV ((g i a) + m)), (45, iV 0)], [(bk, cO (gc (g.mid a b m i 0)) 70)]⟩) (acc := []) (by kernel_rfl) (by kernel_rfl) trivial ?_
        refine run_loop (S := fun (j : Nat) => ⟨[(0, pA bk), (1, iV (a : Int)), (2, iV (b : Int)), (3, iV m), (8, .bool false), (23, iV (i : Int)), (9, iV (i : Int)), (10, iV ((g i a) + m)), (45, iV (j : Int))], [(bk, cO (gc (g.mid a b m i j)) 70)]⟩) (fun j => j ≤ 6) (fun j => 6 - j) (0) (by kernel_rfl) (Nat.zero_le _) (by kernel_rfl) (fun j hI1 J1 hJ1 => ?_)
        cases hd4 : (decide ((j : Int) < 6)) with
        | false =>
          have hp4 := of_decide_eq_false hd4
          refine run_auto [(46, .bool false), (73, iV ((i + 1 : Nat) : Int))] 12 [false] [] [0, 1, 2, 3, 8, 23] [0] (st' := ⟨[(0, pA bk), (1, iV (a : Int)), (2, iV (b : Int)), (3, iV m), (8, .bool false), (23, iV ((i + 1 : Nat) : Int))], [(bk, cO (gc (g.mid a b m i j)) 70)]⟩) (acc := [(iV (IntKind.i64.wrap ((i : Int) + 1)), iV ((i + 1 : Nat) : Int)), (.bool false, .bool false), (.bool (decide ((j : Int) < 6)), .bool false)]) (by kernel_rfl) (by kernel_rfl) ⟨(wr (by omega) (by omega)), rfl, (bo hd4), trivial⟩ ?_
          rw [show gc (g.mid a b m i j) = gc (g.mid a b m (i + 1) 0) from gc_congr fun i' j' _ h2 => by rw [show j = 6 by omega]; exact Gp.mid_row g a b m i i' h2]
          exact run_round (by kernel_rfl) (hJ0 (i + 1) (by omega) (by omega))
        | true =>
          have hp4 := of_decide_eq_true hd4
          have hj6 : j < 6 := by omega
          have ra := Gp.sums hd hs m1 m2 hi6 ha hb hj6
          have rb := Gp.low hd hs hi6 hj6
          have rc := hs i j hi6 hj6
          have rd := hs b j hb hj6
          have re := Gp.low hd hs hb hj6
          refine run_auto [(46, .bool true)] 14 [true] [] [0, 1, 2, 3, 8, 23, 9, 10, 45, 11] [0] (st' := ⟨[(0, pA bk), (1, iV (a : Int)), (2, iV (b : Int)), (3, iV m), (8, .bool false), (23, iV (i : Int)), (9, iV (i : Int)), (10, iV ((g i a) + m)), (45, iV (j : Int)), (11, iV (j : Int))], [(bk, cO (gc (g.mid a b m i j)) 70)]⟩) (acc := [(.bool true, .bool true), (.bool (decide ((j : Int) < 6)), .bool true)]) (by kernel_rfl) (by kernel_rfl) ⟨rfl, (bo hd4), trivial⟩ ?_
          refine draw 25 [{ val := fun _ => pA bk, slots := [0] },
                      { val := fun _ => iV (i : Int), slots := [9] },
                      { val := fun _ => iV (j : Int), slots := [11] },
                      { val := fun _ => pA bk, slots := [0] },
                      { val := fun _ => iV (i : Int), slots := [9] },
                      { val := fun _ => iV (j : Int), slots := [11] },
                      { val := fun _ => pA bk, slots := [51] },
                      { val := fun _ => .pointer (some ⟨bk, i * 6, none⟩), slots := [52, 54] },
                      { val := fun _ => .pointer (some ⟨bk, i * 6 + j, none⟩), slots := [53, 55] },
                      { val := fun _ => iV (g i j), slots := [56], reads := [0] },
                      { val := fun _ => iV ((g i a) + m), slots := [10] },
                      { val := fun _ => pA bk, slots := [0] },
                      { val := fun _ => iV (b : Int), slots := [2] },
                      { val := fun _ => iV (j : Int), slots := [11] },
                      { val := fun _ => pA bk, slots := [59] },
                      { val := fun _ => .pointer (some ⟨bk, b * 6, none⟩), slots := [60, 62] },
                      { val := fun _ => .pointer (some ⟨bk, b * 6 + j, none⟩), slots := [61, 63] },
                      { val := fun _ => iV (g b j), slots := [64], reads := [0] },
                      { names := [19], val := fun l => .slice (some ⟨(l.getD 0 0), 0, none⟩) 2 2, upd := [(19, fun l => aO #[iV ((g i a) + m), iV (g b j)] 3)], news := [19], slots := [58, 65] },
                      { val := fun _ => iV (((g i a) + m) + (g b j)), slots := [66], reads := [19] },
                      { val := fun _ => iV (min (g i j) (((g i a) + m) + (g b j))), slots := [57, 67] },
                      { val := fun _ => pA bk, slots := [48] },
                      { val := fun _ => .pointer (some ⟨bk, i * 6, none⟩), slots := [49, 69] },
                      { val := fun _ => .pointer (some ⟨bk, i * 6 + j, none⟩), slots := [50, 70] },
                      { upd := [(0, fun _ => cO (gc (g.mid a b m i (j + 1))) 70)], slots := [68, 71], reads := [0] }] [[], [], [], [], [], [], [3], [3, 4, 6], [3, 4, 5, 6, 7], [3, 4, 5, 6, 7, 8], [], [], [], [], [11], [11, 12, 14], [11, 12, 13, 14, 15], [11, 12, 13, 14, 15, 16], [10, 11, 12, 13, 14, 15, 16, 17], [10, 11, 12, 13, 14, 15, 16, 17, 18], [3, 4, 5, 6, 7, 8, 9, 10, 11, 12, 13, 14, 15, 16, 17, 18, 19], [0], [0, 1, 21], [0, 1, 2, 3, 4, 5, 6, 7, 8, 9, 10, 11, 12, 13, 14, 15, 16, 17, 18, 19, 20, 21, 22], [0, 1, 2, 3, 4, 5, 6, 7, 8, 9, 10, 11, 12, 13, 14, 15, 16, 17, 18, 19, 20, 21, 22, 23]] (by kernel_rfl) (by kernel_rfl) (by kernel_rfl) (by kernel_rfl) [0, 1, 2, 3, 8, 23, 9, 10, 45] [0] (by kernel_rfl)
                      ⟨⟨⟨⟨⟨⟨⟨⟨⟨⟨⟨⟨⟨⟨⟨⟨⟨⟨⟨⟨⟨⟨⟨⟨⟨trivial,
                      tri_quiet (fun β => []) [] [] (fun β => []) (by kernel_rfl) (fun β extra => by kernel_rfl) (by kernel_rfl) (fun β => trivial)⟩,
                      tri_quiet (fun β => []) [] [] (fun β => []) (by kernel_rfl) (fun β extra => by kernel_rfl) (by kernel_rfl) (fun β => trivial)⟩,
                      tri_quiet (fun β => []) [] [] (fun β => []) (by kernel_rfl) (fun β extra => by kernel_rfl) (by kernel_rfl) (fun β => trivial)⟩,
                      tri_quiet (fun β => []) [] [] (fun β => []) (by kernel_rfl) (fun β extra => by kernel_rfl) (by kernel_rfl) (fun β => trivial)⟩,
                      tri_quiet (fun β => []) [] [] (fun β => []) (by kernel_rfl) (fun β extra => by kernel_rfl) (by kernel_rfl) (fun β => trivial)⟩,
                      tri_quiet (fun β => []) [] [] (fun β => []) (by kernel_rfl) (fun β extra => by kernel_rfl) (by kernel_rfl) (fun β => trivial)⟩,
                      tri_quiet (fun β => []) [] [] (fun β => []) (by kernel_rfl) (fun β extra => by kernel_rfl) (by kernel_rfl) (fun β => trivial)⟩,
                      tri_v (fun β => (Instr.indexAt 70 (pA bk) (iV (i : Int)) >>= fun v => pure (Next.value v))) (by kernel_rfl) (fun β extra => by kernel_rfl) (fun β => by kernel_rfl) (fun β w1 k1 h1 => idxA_run (e := 68) (n := 6) (len := 6) (by kernel_rfl) (by kernel_rfl) bk (0) .i64 i (by omega) (i * 6) (by omega) w1)⟩,
                      tri_v (fun β => (Instr.indexAt 68 (.pointer (some ⟨bk, i * 6, none⟩)) (iV (j : Int)) >>= fun v => pure (Next.value v))) (by kernel_rfl) (fun β extra => by kernel_rfl) (fun β => by kernel_rfl) (fun β w1 k1 h1 => idxA_run (e := 3) (n := 1) (len := 6) (by kernel_rfl) (by kernel_rfl) bk (i * 6) .i64 j (by omega) (i * 6 + j) (by omega) w1)⟩,
                      tri_v (fun β => (Instr.loadAt 3 (.pointer (some ⟨bk, i * 6 + j, none⟩)) >>= fun v => pure (Next.value v))) (by kernel_rfl) (fun β extra => by kernel_rfl) (fun β => by kernel_rfl) (fun β w1 k1 h1 => load_own (e := 70) (fr := (0, 0)) (c := gc (g.mid a b m i j)) h1 (List.mem_of_getElem? (i := 0) (by kernel_rfl)) (gc_load (g.mid a b m i j) (a := i) (b := j) (by omega) (by omega) (Gp.mid_at g a b m i (by omega))))⟩,
                      tri_quiet (fun β => []) [] [] (fun β => []) (by kernel_rfl) (fun β extra => by kernel_rfl) (by kernel_rfl) (fun β => trivial)⟩,
                      tri_quiet (fun β => []) [] [] (fun β => []) (by kernel_rfl) (fun β extra => by kernel_rfl) (by kernel_rfl) (fun β => trivial)⟩,
                      tri_quiet (fun β => []) [] [] (fun β => []) (by kernel_rfl) (fun β extra => by kernel_rfl) (by kernel_rfl) (fun β => trivial)⟩,
                      tri_quiet (fun β => []) [] [] (fun β => []) (by kernel_rfl) (fun β extra => by kernel_rfl) (by kernel_rfl) (fun β => trivial)⟩,
                      tri_quiet (fun β => []) [] [] (fun β => []) (by kernel_rfl) (fun β extra => by kernel_rfl) (by kernel_rfl) (fun β => trivial)⟩,
                      tri_v (fun β => (Instr.indexAt 70 (pA bk) (iV (b : Int)) >>= fun v => pure (Next.value v))) (by kernel_rfl) (fun β extra => by kernel_rfl) (fun β => by kernel_rfl) (fun β w1 k1 h1 => idxA_run (e := 68) (n := 6) (len := 6) (by kernel_rfl) (by kernel_rfl) bk (0) .i64 b (by omega) (b * 6) (by omega) w1)⟩,
                      tri_v (fun β => (Instr.indexAt 68 (.pointer (some ⟨bk, b * 6, none⟩)) (iV (j : Int)) >>= fun v => pure (Next.value v))) (by kernel_rfl) (fun β extra => by kernel_rfl) (fun β => by kernel_rfl) (fun β w1 k1 h1 => idxA_run (e := 3) (n := 1) (len := 6) (by kernel_rfl) (by kernel_rfl) bk (b * 6) .i64 j (by omega) (b * 6 + j) (by omega) w1)⟩,
                      tri_v (fun β => (Instr.loadAt 3 (.pointer (some ⟨bk, b * 6 + j, none⟩)) >>= fun v => pure (Next.value v))) (by kernel_rfl) (fun β extra => by kernel_rfl) (fun β => by kernel_rfl) (fun β w1 k1 h1 => load_own (e := 70) (fr := (0, 0)) (c := gc (g.mid a b m i j)) h1 (List.mem_of_getElem? (i := 0) (by kernel_rfl)) (gc_load (g.mid a b m i j) (a := b) (b := j) (by omega) (by omega) (Gp.mid_b hd hb (show 0 ≤ m + g b a by omega) i j (by omega))))⟩,
                      tri_new 19 (fun β => aO #[iV ((g i a) + m), iV (g b j)] 3) (fun β b => sV b 2 2) [0] (by kernel_rfl) (fun β extra b => by kernel_rfl) (by kernel_rfl) (fun β b => by kernel_rfl) (fun β b => by kernel_rfl) (fun β b => by kernel_rfl)⟩,
                      tri_call 111 (fun β => #[.slice (some ⟨(β 19), 0, none⟩) 2 2]) (by kernel_rfl) (fun β extra => by kernel_rfl) (fun β => by kernel_rfl) (fun β w1 k1 h1 => along_any (β 19) ((g i a) + m) (g b j) (by omega) (by omega) (by omega) (by omega) w1 (h1 ((β 19), aO #[iV ((g i a) + m), iV (g b j)] 3) (List.mem_of_getElem? (i := 0) (by kernel_rfl))))⟩,
                      tri_quiet (fun β => [(68, iV (min (g i j) (((g i a) + m) + (g b j))))]) [] [] (fun β => [(iV (if (((g i a) + m) + (g b j)) < (g i j) then (((g i a) + m) + (g b j)) else (g i j)), iV (min (g i j) (((g i a) + m) + (g b j))))]) (by kernel_rfl) (fun β extra => by kernel_rfl) (by kernel_rfl) (fun β => ⟨(mn _ _ _), trivial⟩)⟩,
                      tri_quiet (fun β => []) [] [] (fun β => []) (by kernel_rfl) (fun β extra => by kernel_rfl) (by kernel_rfl) (fun β => trivial)⟩,
                      tri_v (fun β => (Instr.indexAt 70 (pA bk) (iV (i : Int)) >>= fun v => pure (Next.value v))) (by kernel_rfl) (fun β extra => by kernel_rfl) (fun β => by kernel_rfl) (fun β w1 k1 h1 => idxA_run (e := 68) (n := 6) (len := 6) (by kernel_rfl) (by kernel_rfl) bk (0) .i64 i (by omega) (i * 6) (by omega) w1)⟩,
                      tri_v (fun β => (Instr.indexAt 68 (.pointer (some ⟨bk, i * 6, none⟩)) (iV (j : Int)) >>= fun v => pure (Next.value v))) (by kernel_rfl) (fun β extra => by kernel_rfl) (fun β => by kernel_rfl) (fun β w1 k1 h1 => idxA_run (e := 3) (n := 1) (len := 6) (by kernel_rfl) (by kernel_rfl) bk (i * 6) .i64 j (by omega) (i * 6 + j) (by omega) w1)⟩,
                      tri_store (fun β => bk) (i * 6 + j) 3 (fun β => iV (min (g i j) (((g i a) + m) + (g b j)))) (gc (g.mid a b m i j)) (gc (g.mid a b m i (j + 1))) 70 (by kernel_rfl) (by kernel_rfl) (fun β extra => by kernel_rfl) (fun β => by kernel_rfl) (fun β => by kernel_rfl) (fun β => gc_store _ (by omega) (by omega) _ (fun i' j' _ _ => (Gp.mid_put g a b m i j i' j').symm))⟩
                      (fun β => ⟨[(0, pA bk), (1, iV (a : Int)), (2, iV (b : Int)), (3, iV m), (8, .bool false), (23, iV (i : Int)), (9, iV (i : Int)), (10, iV ((g i a) + m)), (45, iV (j : Int))], [(bk, cO (gc (g.mid a b m i (j + 1))) 70)]⟩) (fun β => by kernel_rfl) (fun β3 => ?_)
          refine run_auto [(72, iV ((j + 1 : Nat) : Int))] 5 [] [] [0, 1, 2, 3, 8, 23, 9, 10, 45] [0] (st' := ⟨[(0, pA bk), (1, iV (a : Int)), (2, iV (b : Int)), (3, iV m), (8, .bool false), (23, iV (i : Int)), (9, iV (i : Int)), (10, iV ((g i a) + m)), (45, iV ((j + 1 : Nat) : Int))], [(bk, cO (gc (g.mid a b m i (j + 1))) 70)]⟩) (acc := [(iV (IntKind.i64.wrap ((j : Int) + 1)), iV ((j + 1 : Nat) : Int))]) (by kernel_rfl) (by kernel_rfl) ⟨(wr (by omega) (by omega)), trivial⟩ ?_
          exact run_round (by kernel_rfl) (hJ1 (j + 1) (by omega) (by omega))
      | true =>
        have hp3 := of_decide_eq_true hd3
        refine run_auto [(44, .bool true), (73, iV ((i + 1 : Nat) : Int))] 8 [true] [] [0, 1, 2, 3, 8, 23] [0] (st' := ⟨[(0, pA bk), (1, iV (a : Int)), (2, iV (b : Int)), (3, iV m), (8, .bool false), (23, iV ((i + 1 : Nat) : Int))], [(bk, cO (gc (g.mid a b m i 0)) 70)]⟩) (acc := [(iV (IntKind.i64.wrap ((i : Int) + 1)), iV ((i + 1 : Nat) : Int)), (.bool true, .bool true), (.bool (decide ((g i b) ≤ ((g i a) + m))), .bool true)]) (by kernel_rfl) (by kernel_rfl) ⟨(wr (by omega) (by omega)), rfl, (bo hd3), trivial⟩ ?_
        rw [show gc (g.mid a b m i 0) = gc (g.mid a b m (i + 1) 0) from gc_congr fun i' j' _ h2 => (Gp.mid_over hd hb (by omega) (by omega) h2).symm]
        exact run_round (by kernel_rfl) (hJ0 (i + 1) (by omega) (by omega))
  | true =>
    have hp1 := of_decide_eq_true hd1
    refine run_auto [(22, .bool true)] 7 [true] [] [0, 1, 2, 3, 8] [1] (st' := ⟨[(0, pA bk), (1, iV (a : Int)), (2, iV (b : Int)), (3, iV m), (8, .bool false)], [(bk, cO (gc g) 70)]⟩) (acc := [(.bool true, .bool true), (.bool (decide ((m + (g b a)) < 0)), .bool true)]) (by kernel_rfl) (by kernel_rfl) ⟨rfl, (bo hd1), trivial⟩ ?_
    refine run_end (fn := f109) rfl (Nat.le_refl _) (by kernel_rfl) [] [.bool false] (e := []) (by kernel_rfl) trivial (fun w1 k1 h1 => ?_)
    rw [if_pos (by omega)]
    exact ⟨by simp [resVal], k1, h1 (bk, _) (List.mem_of_getElem? (i := 0) rfl)⟩

end Go.Proofs.Ythnhcacoegmdfaa

namespace Go.Proofs.Ythnhcacoegmdfaa
open Go.RowKit Go.Proofs.Try

set_option maxRecDepth 100000 in
theorem between_any (a b lo hi : Int) (w : World)  : Calls Try.prog 127 #[.agg #[.int .i64 a, .int .i64 b, .int .i64 lo, .int .i64 hi]] w (Ret (.agg #[.int .i64 a, .int .i64 b]) w) := by
  refine calls_run (fn := f127) (c := (f127.body).getD .skip) [.agg #[.int .i64 a, .int .i64 b, .int .i64 lo, .int .i64 hi]] func127 (by kernel_rfl) (fun _ => False) [] (fun _ h => by cases h) (List.Pairwise.nil) 5 (by kernel_rfl) (by simp) ?_
  refine run_auto [] 2 [] [] [0] [] (st' := ⟨[(0, .agg #[iV a, iV b, iV lo, iV hi])], []⟩) (acc := []) (by kernel_rfl) (by kernel_rfl) trivial ?_
  refine run_new (aO #[iV a, iV b, iV lo, iV hi] 145) (fun b1 => pA b1) (some 1) (fun _ => by kernel_rfl) (fun b1 hb1 => ?_)
  refine run_new (aO #[iV 0, iV 0] 72) (fun b2 => pA b2) (some 2) (fun _ => by kernel_rfl) (fun b2 hb2 => ?_)
  refine run_auto [] 7 [] [1, 0] [2] [0] (st' := ⟨[(2, pA b2)], [(b2, aO #[iV a, iV b] 72)]⟩) (acc := [(pA b2, pA b2), (pA b1, pA b1)]) (by kernel_rfl) (by kernel_rfl) ⟨rfl, rfl, trivial⟩ ?_
  refine run_end (fn := f127) rfl (Nat.le_refl _) (by kernel_rfl) [0] [.agg #[iV a, iV b]] (e := [(pA b2, pA b2)]) (by kernel_rfl) ⟨rfl, trivial⟩ (fun w1 k1 h1 => ?_)
  exact ⟨rfl, k1.keeps (fun _ h => h)⟩

set_option maxRecDepth 100000 in
theorem leaves_any (a b lo hi z r : Int) (w : World)  : Calls Try.prog 128 #[.agg #[.int .i64 a, .int .i64 b, .int .i64 lo, .int .i64 hi], .agg #[.int .i64 z, .int .i64 r]] w (Ret (.agg #[.int .i64 lo, .int .i64 hi]) w) := by
  refine calls_run (fn := f128) (c := (f128.body).getD .skip) [.agg #[.int .i64 a, .int .i64 b, .int .i64 lo, .int .i64 hi], .agg #[.int .i64 z, .int .i64 r]] func128 (by kernel_rfl) (fun _ => False) [] (fun _ h => by cases h) (List.Pairwise.nil) 7 (by kernel_rfl) (by simp) ?_
  refine run_auto [] 2 [] [] [0, 1] [] (st' := ⟨[(0, .agg #[iV a, iV b, iV lo, iV hi]), (1, .agg #[iV z, iV r])], []⟩) (acc := []) (by kernel_rfl) (by kernel_rfl) trivial ?_
  refine run_new (aO #[iV a, iV b, iV lo, iV hi] 145) (fun b1 => pA b1) (some 2) (fun _ => by kernel_rfl) (fun b1 hb1 => ?_)
  refine run_new (aO #[iV z, iV r] 79) (fun b2 => pA b2) (some 3) (fun _ => by kernel_rfl) (fun b2 hb2 => ?_)
  refine run_new (aO #[iV 0, iV 0] 23) (fun b3 => pA b3) (some 4) (fun _ => by kernel_rfl) (fun b3 hb3 => ?_)
  refine run_auto [] 7 [] [2, 0] [4] [0] (st' := ⟨[(4, pA b3)], [(b3, aO #[iV lo, iV hi] 23)]⟩) (acc := [(pA b3, pA b3), (pA b1, pA b1)]) (by kernel_rfl) (by kernel_rfl) ⟨rfl, rfl, trivial⟩ ?_
  refine run_end (fn := f128) rfl (Nat.le_refl _) (by kernel_rfl) [0] [.agg #[iV lo, iV hi]] (e := [(pA b3, pA b3)]) (by kernel_rfl) ⟨rfl, trivial⟩ (fun w1 k1 h1 => ?_)
  exact ⟨rfl, k1.keeps (fun _ h => h)⟩

set_option maxRecDepth 100000 in
theorem leaves2_any (a b lo hi m z r : Int) (z1 : -10 ≤ z) (z2 : z ≤ 10) (r1 : -5 ≤ r) (r2 : r ≤ 5) (m1 : 0 ≤ m) (m2 : m ≤ 60) (l1 : -80 ≤ lo) (l2 : lo ≤ 80) (h1 : -80 ≤ hi) (h2 : hi ≤ 80) (w : World)  : Calls Try.prog 129 #[.agg #[.int .i64 a, .int .i64 b, .int .i64 lo, .int .i64 hi, .int .i64 m], .agg #[.int .i64 z, .int .i64 r]] w (Ret (.agg #[.int .i64 (lo - shw (z, r) m), .int .i64 (hi - shw (z, r) m)]) w) := by
  obtain ⟨_, _, hb3, hb4⟩ := shw_in (c := (z, r)) z1 z2 r1 r2 m1 m2
  refine calls_run (fn := f129) (c := (f129.body).getD .skip) [.agg #[.int .i64 a, .int .i64 b, .int .i64 lo, .int .i64 hi, .int .i64 m], .agg #[.int .i64 z, .int .i64 r]] func129 (by kernel_rfl) (fun _ => False) [] (fun _ h => by cases h) (List.Pairwise.nil) 23 (by kernel_rfl) (by simp) ?_
  refine run_auto [] 2 [] [] [0, 1] [] (st' := ⟨[(0, .agg #[iV a, iV b, iV lo, iV hi, iV m]), (1, .agg #[iV z, iV r])], []⟩) (acc := []) (by kernel_rfl) (by kernel_rfl) trivial ?_
  refine run_new (aO #[iV a, iV b, iV lo, iV hi, iV m] 147) (fun b1 => pA b1) (some 2) (fun _ => by kernel_rfl) (fun b1 hb1 => ?_)
  refine run_new (aO #[iV z, iV r] 79) (fun b2 => pA b2) (some 3) (fun _ => by kernel_rfl) (fun b2 hb2 => ?_)
  refine run_new (aO #[iV 0, iV 0] 23) (fun b3 => pA b3) (some 4) (fun _ => by kernel_rfl) (fun b3 hb3 => ?_)
  refine run_auto [] 6 [] [1, 2] [2, 4, 6, 8] [0, 2] (st' := ⟨[(2, pA b1), (4, pA b3), (6, .agg #[iV z, iV r]), (8, iV m)], [(b3, aO #[iV 0, iV 0] 23), (b1, aO #[iV a, iV b, iV lo, iV hi, iV m] 147)]⟩) (acc := [(pA b1, pA b1), (pA b2, pA b2)]) (by kernel_rfl) (by kernel_rfl) ⟨rfl, rfl, trivial⟩ ?_
  refine run_ret1 80 #[.agg #[iV z, iV r], iV m] (some 9) (iV (shw (z, r) m)) (by kernel_rfl) (fun w1 k1 h1 => shows_any z r m (by omega) (by omega) (by omega) (by omega) (by omega) (by omega) w1) ?_
  refine run_auto [(15, iV (lo - (shw (z, r) m))), (21, iV (hi - (shw (z, r) m)))] 19 [] [1, 1, 0] [4] [0] (st' := ⟨[(4, pA b3)], [(b3, aO #[iV (lo - (shw (z, r) m)), iV (hi - (shw (z, r) m))] 23)]⟩) (acc := [(pA b3, pA b3), (iV (IntKind.i64.wrap (hi - (shw (z, r) m))), iV (hi - (shw (z, r) m))), (pA b1, pA b1), (iV (IntKind.i64.wrap (lo - (shw (z, r) m))), iV (lo - (shw (z, r) m))), (pA b1, pA b1)]) (by kernel_rfl) (by kernel_rfl) ⟨rfl, (wr (by omega) (by omega)), rfl, (wr (by omega) (by omega)), rfl, trivial⟩ ?_
  refine run_end (fn := f129) rfl (Nat.le_refl _) (by kernel_rfl) [0] [.agg #[iV (lo - (shw (z, r) m)), iV (hi - (shw (z, r) m))]] (e := [(pA b3, pA b3)]) (by kernel_rfl) ⟨rfl, trivial⟩ (fun w1 k1 h1 => ?_)
  exact ⟨rfl, k1.keeps (fun _ h => h)⟩


/-- What is written down where a bound is put. -/
def Gp.putr (g : Gp) (a b : Nat) (lo hi : Int) : Gp := if hi + g b a < 0 then g else if -lo + g.lim a b hi a b < 0 then g.lim a b hi else (g.lim a b hi).lim b a (-lo)
theorem Gp.putr_some {g g' : Gp} {a b : Nat} {lo hi : Int} (h : g.put a b lo hi = some g') : g.putr a b lo hi = g' := by
  unfold Gp.put at h
  unfold Gp.putr
  split at h
  · cases h
  · rename_i h1
    rw [if_neg h1]
    split at h
    · cases h
    · rename_i h2
      rw [if_neg h2]
      injection h
set_option maxRecDepth 100000 in
theorem narrow_s (bk : Nat) (g : Gp) (a b : Nat) (lo hi : Int) (z r : Int) (w : World) (ha : a < 6) (hb : b < 6) (hd : g.Done 6) (hs : g.Small 6 40) (l1 : -150 ≤ lo) (l2 : lo ≤ 150) (h1 : -150 ≤ hi) (h2 : hi ≤ 150) (hw : w.heap[bk]? = some (.cells (gc g).toArray 70 (0, 0))) : Calls Try.prog 101 #[.pointer (some ⟨bk, 0, none⟩), .iface 145 (.agg #[.int .i64 (a : Int), .int .i64 (b : Int), .int .i64 lo, .int .i64 hi]), .agg #[.int .i64 z, .int .i64 r]] w (Wr bk (.bool (g.put a b (lo) (hi)).isSome) (.cells (gc (g.putr a b (lo) (hi))).toArray 70 (0, 0)) w) := by
  refine calls_run (fn := f101) (c := (f101.body).getD .skip) [.pointer (some ⟨bk, 0, none⟩), .iface 145 (.agg #[.int .i64 (a : Int), .int .i64 (b : Int), .int .i64 lo, .int .i64 hi]), .agg #[.int .i64 z, .int .i64 r]] func101 (by kernel_rfl) (fun x => x = bk) [(bk, .cells (gc g).toArray 70 (0, 0))] (fun p hp => by rcases List.mem_singleton.1 hp with rfl; exact ⟨hw, rfl, rfl⟩) (List.pairwise_singleton _ _) 33 (by kernel_rfl) (by simp) ?_
  refine run_auto [] 2 [] [] [0, 1, 2] [0] (st' := ⟨[(0, pA bk), (1, .iface 145 (.agg #[iV (a : Int), iV (b : Int), iV lo, iV hi])), (2, .agg #[iV z, iV r])], [(bk, cO (gc g) 70)]⟩) (acc := []) (by kernel_rfl) (by kernel_rfl) trivial ?_
  refine run_new (aO #[iV z, iV r] 79) (fun b1 => pA b1) (some 5) (fun _ => by kernel_rfl) (fun b1 hb1 => ?_)
  refine run_auto [] 3 [] [] [0, 1, 5, 6] [0, 1] (st' := ⟨[(0, pA bk), (1, .iface 145 (.agg #[iV (a : Int), iV (b : Int), iV lo, iV hi])), (5, pA b1), (6, .bool false)], [(b1, aO #[iV z, iV r] 79), (bk, cO (gc g) 70)]⟩) (acc := []) (by kernel_rfl) (by kernel_rfl) trivial ?_
  refine draw 9 [{ val := fun _ => .iface 145 (.agg #[iV (a : Int), iV (b : Int), iV lo, iV hi]), slots := [1] },
      { val := fun _ => .agg #[iV (a : Int), iV (b : Int)], slots := [9] },
      { val := fun _ => .iface 145 (.agg #[iV (a : Int), iV (b : Int), iV lo, iV hi]), slots := [1] },
      { val := fun _ => .agg #[iV z, iV r], slots := [5], reads := [0] },
      { val := fun _ => .agg #[iV lo, iV hi], slots := [11, 12] },
      { names := [7], val := fun l => .pointer (some ⟨(l.getD 0 0), 0, none⟩), upd := [(7, fun l => aO #[iV 0, iV 0] 72)], news := [7] },
      { names := [8], val := fun l => .pointer (some ⟨(l.getD 0 0), 0, none⟩), upd := [(8, fun l => aO #[iV 0, iV 0] 23)], news := [8] },
      { upd := [(7, fun l => aO #[iV (a : Int), iV (b : Int)] 72)], slots := [7, 10], reads := [7] },
      { upd := [(8, fun l => aO #[iV lo, iV hi] 23)], slots := [8, 13], reads := [8] }] [[], [0], [], [], [0, 1, 2, 3], [], [], [0, 1, 2, 3, 4, 5, 6], [0, 1, 2, 3, 4, 5, 6, 7]] (by kernel_rfl) (by kernel_rfl) (by kernel_rfl) (by kernel_rfl) [0, 6, 7, 8] [1, 7, 8] (by kernel_rfl)
      ⟨⟨⟨⟨⟨⟨⟨⟨⟨trivial,
      tri_quiet (fun β => []) [] [] (fun β => []) (by kernel_rfl) (fun β extra => by kernel_rfl) (by kernel_rfl) (fun β => trivial)⟩,
      tri_call 127 (fun β => #[.agg #[iV (a : Int), iV (b : Int), iV lo, iV hi]]) (by kernel_rfl) (fun β extra => by kernel_rfl) (fun β => by kernel_rfl) (fun β w1 k1 h1 => between_any (a : Int) (b : Int) lo hi w1)⟩,
      tri_quiet (fun β => []) [] [] (fun β => []) (by kernel_rfl) (fun β extra => by kernel_rfl) (by kernel_rfl) (fun β => trivial)⟩,
      tri_quiet (fun β => []) [0] [0] (fun β => [(pA b1, pA b1)]) (by kernel_rfl) (fun β extra => by kernel_rfl) (by kernel_rfl) (fun β => ⟨rfl, trivial⟩)⟩,
      tri_call 128 (fun β => #[.agg #[iV (a : Int), iV (b : Int), iV lo, iV hi], .agg #[iV z, iV r]]) (by kernel_rfl) (fun β extra => by kernel_rfl) (fun β => by kernel_rfl) (fun β w1 k1 h1 => leaves_any (a : Int) (b : Int) lo hi z r w1)⟩,
      tri_new 7 (fun β => aO #[iV 0, iV 0] 72) (fun β b => pA b) [0] (by kernel_rfl) (fun β extra b => by kernel_rfl) (by kernel_rfl) (fun β b => by kernel_rfl) (fun β b => by kernel_rfl) (fun β b => by kernel_rfl)⟩,
      tri_new 8 (fun β => aO #[iV 0, iV 0] 23) (fun β b => pA b) [0] (by kernel_rfl) (fun β extra b => by kernel_rfl) (by kernel_rfl) (fun β b => by kernel_rfl) (fun β b => by kernel_rfl) (fun β b => by kernel_rfl)⟩,
      tri_quiet (fun β => []) [0] [0] (fun β => [(.pointer (some ⟨(β 7), 0, none⟩), .pointer (some ⟨(β 7), 0, none⟩))]) (by kernel_rfl) (fun β extra => by kernel_rfl) (by kernel_rfl) (fun β => ⟨rfl, trivial⟩)⟩,
      tri_quiet (fun β => []) [0] [0] (fun β => [(.pointer (some ⟨(β 8), 0, none⟩), .pointer (some ⟨(β 8), 0, none⟩))]) (by kernel_rfl) (fun β extra => by kernel_rfl) (by kernel_rfl) (fun β => ⟨rfl, trivial⟩)⟩
      (fun β => ⟨[(0, pA bk), (6, .bool false), (7, .pointer (some ⟨(β 7), 0, none⟩)), (8, .pointer (some ⟨(β 8), 0, none⟩))], [(bk, cO (gc g) 70), ((β 7), aO #[iV (a : Int), iV (b : Int)] 72), ((β 8), aO #[iV lo, iV hi] 23)]⟩) (fun β => by kernel_rfl) (fun β2 => ?_)
  refine run_auto [] 9 [] [1, 1, 2] [0, 6, 7, 8, 14, 16, 18, 20] [0, 1, 2] (st' := ⟨[(0, pA bk), (6, .bool false), (7, .pointer (some ⟨(β2 7), 0, none⟩)), (8, .pointer (some ⟨(β2 8), 0, none⟩)), (14, pA bk), (16, iV (a : Int)), (18, iV (b : Int)), (20, iV hi)], [(bk, cO (gc g) 70), ((β2 7), aO #[iV (a : Int), iV (b : Int)] 72), ((β2 8), aO #[iV lo, iV hi] 23)]⟩) (acc := [(.pointer (some ⟨(β2 8), 0, none⟩), .pointer (some ⟨(β2 8), 0, none⟩)), (.pointer (some ⟨(β2 7), 0, none⟩), .pointer (some ⟨(β2 7), 0, none⟩)), (.pointer (some ⟨(β2 7), 0, none⟩), .pointer (some ⟨(β2 7), 0, none⟩))]) (by kernel_rfl) (by kernel_rfl) ⟨rfl, rfl, rfl, trivial⟩ ?_
  cases hd1 : (decide (hi + g b a < 0)) with
  | false =>
    have hp1 := of_decide_eq_false hd1
    refine run_wr 109 #[pA bk, iV (a : Int), iV (b : Int), iV hi] (some 21) (.bool true) 0 bk (cO (gc g) 70) (cO (gc (g.lim a b hi)) 70) (by kernel_rfl) (by kernel_rfl) (by kernel_rfl) (fun w1 k1 h1 => (by have h := limit_any bk g a b hi w1 (by omega) (by omega) (hd) (hs) (by omega) (by omega) (h1 (bk, cO (gc g) 70) (List.mem_of_getElem? (i := 0) (by kernel_rfl))); rw [if_neg (of_decide_eq_false hd1), hd1] at h; exact h)) ?_
    refine run_auto [(30, iV (-lo))] 9 [] [1, 1, 2] [6, 22, 23, 25, 27, 30] [0] (st' := ⟨[(6, .bool false), (22, .bool true), (23, pA bk), (25, iV (b : Int)), (27, iV (a : Int)), (30, iV (-lo))], [(bk, cO (gc (g.lim a b hi)) 70)]⟩) (acc := [(iV (IntKind.i64.wrap (0 - lo)), iV (-lo)), (.pointer (some ⟨(β2 8), 0, none⟩), .pointer (some ⟨(β2 8), 0, none⟩)), (.pointer (some ⟨(β2 7), 0, none⟩), .pointer (some ⟨(β2 7), 0, none⟩)), (.pointer (some ⟨(β2 7), 0, none⟩), .pointer (some ⟨(β2 7), 0, none⟩))]) (by kernel_rfl) (by kernel_rfl) ⟨((wr (by omega) (by omega)).trans (io (by omega))), rfl, rfl, rfl, trivial⟩ ?_
    cases hd2 : (decide ((-lo) + (g.lim a b hi) a b < 0)) with
    | false =>
      have hp2 := of_decide_eq_false hd2
      refine run_wr 109 #[pA bk, iV (b : Int), iV (a : Int), iV (-lo)] (some 31) (.bool true) 0 bk (cO (gc (g.lim a b hi)) 70) (cO (gc ((g.lim a b hi).lim b a (-lo))) 70) (by kernel_rfl) (by kernel_rfl) (by kernel_rfl) (fun w1 k1 h1 => (by have h := limit_any bk (g.lim a b hi) b a (-lo) w1 (by omega) (by omega) (Gp.lim_done (hd) (a := a) (b := b) (by omega) (by omega) (m := hi) (by omega)) (Gp.Small.lim (hs) a b hi) (by omega) (by omega) (h1 (bk, cO (gc (g.lim a b hi)) 70) (List.mem_of_getElem? (i := 0) (by kernel_rfl))); rw [if_neg (of_decide_eq_false hd2), hd2] at h; exact h)) ?_
      refine run_auto [] 3 [] [] [6] [0] (st' := ⟨[(6, .bool true)], [(bk, cO (gc ((g.lim a b hi).lim b a (-lo))) 70)]⟩) (acc := []) (by kernel_rfl) (by kernel_rfl) trivial ?_
      refine run_end (fn := f101) rfl (Nat.le_refl _) (by kernel_rfl) [] [.bool true] (e := []) (by kernel_rfl) trivial (fun w1 k1 h1 => ?_)
      refine ⟨?_, k1, ?_⟩
      · unfold Gp.put
        rw [if_neg (of_decide_eq_false hd1), if_neg (of_decide_eq_false hd2)]
        rfl
      · unfold Gp.putr
        rw [if_neg (of_decide_eq_false hd1), if_neg (of_decide_eq_false hd2)]
        exact h1 (bk, _) (List.mem_of_getElem? (i := 0) rfl)
    | true =>
      have hp2 := of_decide_eq_true hd2
      refine run_wr 109 #[pA bk, iV (b : Int), iV (a : Int), iV (-lo)] (some 31) (.bool false) 0 bk (cO (gc (g.lim a b hi)) 70) (cO (gc (g.lim a b hi)) 70) (by kernel_rfl) (by kernel_rfl) (by kernel_rfl) (fun w1 k1 h1 => (by have h := limit_any bk (g.lim a b hi) b a (-lo) w1 (by omega) (by omega) (Gp.lim_done (hd) (a := a) (b := b) (by omega) (by omega) (m := hi) (by omega)) (Gp.Small.lim (hs) a b hi) (by omega) (by omega) (h1 (bk, cO (gc (g.lim a b hi)) 70) (List.mem_of_getElem? (i := 0) (by kernel_rfl))); rw [if_pos (of_decide_eq_true hd2), hd2] at h; exact h)) ?_
      refine run_auto [] 3 [] [] [6] [0] (st' := ⟨[(6, .bool false)], [(bk, cO (gc (g.lim a b hi)) 70)]⟩) (acc := []) (by kernel_rfl) (by kernel_rfl) trivial ?_
      refine run_end (fn := f101) rfl (Nat.le_refl _) (by kernel_rfl) [] [.bool false] (e := []) (by kernel_rfl) trivial (fun w1 k1 h1 => ?_)
      refine ⟨?_, k1, ?_⟩
      · unfold Gp.put
        rw [if_neg (of_decide_eq_false hd1), if_pos (of_decide_eq_true hd2)]
        rfl
      · unfold Gp.putr
        rw [if_neg (of_decide_eq_false hd1), if_pos (of_decide_eq_true hd2)]
        exact h1 (bk, _) (List.mem_of_getElem? (i := 0) rfl)
  | true =>
    have hp1 := of_decide_eq_true hd1
    refine run_wr 109 #[pA bk, iV (a : Int), iV (b : Int), iV hi] (some 21) (.bool false) 0 bk (cO (gc g) 70) (cO (gc g) 70) (by kernel_rfl) (by kernel_rfl) (by kernel_rfl) (fun w1 k1 h1 => (by have h := limit_any bk g a b hi w1 (by omega) (by omega) (hd) (hs) (by omega) (by omega) (h1 (bk, cO (gc g) 70) (List.mem_of_getElem? (i := 0) (by kernel_rfl))); rw [if_pos (of_decide_eq_true hd1), hd1] at h; exact h)) ?_
    refine run_auto [] 13 [] [] [6] [0] (st' := ⟨[(6, .bool false)], [(bk, cO (gc g) 70)]⟩) (acc := []) (by kernel_rfl) (by kernel_rfl) trivial ?_
    refine run_end (fn := f101) rfl (Nat.le_refl _) (by kernel_rfl) [] [.bool false] (e := []) (by kernel_rfl) trivial (fun w1 k1 h1 => ?_)
    refine ⟨?_, k1, ?_⟩
    · unfold Gp.put
      rw [if_pos (of_decide_eq_true hd1)]
      rfl
    · unfold Gp.putr
      rw [if_pos (of_decide_eq_true hd1)]
      exact h1 (bk, _) (List.mem_of_getElem? (i := 0) rfl)

set_option maxRecDepth 100000 in
theorem narrow_r (bk : Nat) (g : Gp) (a b : Nat) (lo hi : Int) (m z r : Int) (w : World) (ha : a < 6) (hb : b < 6) (hd : g.Done 6) (hs : g.Small 6 40) (z1 : -10 ≤ z) (z2 : z ≤ 10) (r1 : -5 ≤ r) (r2 : r ≤ 5) (m1 : 0 ≤ m) (m2 : m ≤ 60) (l1 : -80 ≤ lo) (l2 : lo ≤ 80) (h1 : -80 ≤ hi) (h2 : hi ≤ 80) (hw : w.heap[bk]? = some (.cells (gc g).toArray 70 (0, 0))) : Calls Try.prog 101 #[.pointer (some ⟨bk, 0, none⟩), .iface 147 (.agg #[.int .i64 (a : Int), .int .i64 (b : Int), .int .i64 lo, .int .i64 hi, .int .i64 m]), .agg #[.int .i64 z, .int .i64 r]] w (Wr bk (.bool (g.put a b (lo - shw (z, r) m) (hi - shw (z, r) m)).isSome) (.cells (gc (g.putr a b (lo - shw (z, r) m) (hi - shw (z, r) m))).toArray 70 (0, 0)) w) := by
  obtain ⟨_, _, hb3, hb4⟩ := shw_in (c := (z, r)) z1 z2 r1 r2 m1 m2
  refine calls_run (fn := f101) (c := (f101.body).getD .skip) [.pointer (some ⟨bk, 0, none⟩), .iface 147 (.agg #[.int .i64 (a : Int), .int .i64 (b : Int), .int .i64 lo, .int .i64 hi, .int .i64 m]), .agg #[.int .i64 z, .int .i64 r]] func101 (by kernel_rfl) (fun x => x = bk) [(bk, .cells (gc g).toArray 70 (0, 0))] (fun p hp => by rcases List.mem_singleton.1 hp with rfl; exact ⟨hw, rfl, rfl⟩) (List.pairwise_singleton _ _) 33 (by kernel_rfl) (by simp) ?_
  refine run_auto [] 2 [] [] [0, 1, 2] [0] (st' := ⟨[(0, pA bk), (1, .iface 147 (.agg #[iV (a : Int), iV (b : Int), iV lo, iV hi, iV m])), (2, .agg #[iV z, iV r])], [(bk, cO (gc g) 70)]⟩) (acc := []) (by kernel_rfl) (by kernel_rfl) trivial ?_
  refine run_new (aO #[iV z, iV r] 79) (fun b1 => pA b1) (some 5) (fun _ => by kernel_rfl) (fun b1 hb1 => ?_)
  refine run_auto [] 3 [] [] [0, 1, 5, 6] [0, 1] (st' := ⟨[(0, pA bk), (1, .iface 147 (.agg #[iV (a : Int), iV (b : Int), iV lo, iV hi, iV m])), (5, pA b1), (6, .bool false)], [(b1, aO #[iV z, iV r] 79), (bk, cO (gc g) 70)]⟩) (acc := []) (by kernel_rfl) (by kernel_rfl) trivial ?_
  refine draw 9 [{ val := fun _ => .iface 147 (.agg #[iV (a : Int), iV (b : Int), iV lo, iV hi, iV m]), slots := [1] },
      { val := fun _ => .agg #[iV (a : Int), iV (b : Int)], slots := [9] },
      { val := fun _ => .iface 147 (.agg #[iV (a : Int), iV (b : Int), iV lo, iV hi, iV m]), slots := [1] },
      { val := fun _ => .agg #[iV z, iV r], slots := [5], reads := [0] },
      { val := fun _ => .agg #[iV (lo - shw (z, r) m), iV (hi - shw (z, r) m)], slots := [11, 12] },
      { names := [7], val := fun l => .pointer (some ⟨(l.getD 0 0), 0, none⟩), upd := [(7, fun l => aO #[iV 0, iV 0] 72)], news := [7] },
      { names := [8], val := fun l => .pointer (some ⟨(l.getD 0 0), 0, none⟩), upd := [(8, fun l => aO #[iV 0, iV 0] 23)], news := [8] },
      { upd := [(7, fun l => aO #[iV (a : Int), iV (b : Int)] 72)], slots := [7, 10], reads := [7] },
      { upd := [(8, fun l => aO #[iV (lo - shw (z, r) m), iV (hi - shw (z, r) m)] 23)], slots := [8, 13], reads := [8] }] [[], [0], [], [], [0, 1, 2, 3], [], [], [0, 1, 2, 3, 4, 5, 6], [0, 1, 2, 3, 4, 5, 6, 7]] (by kernel_rfl) (by kernel_rfl) (by kernel_rfl) (by kernel_rfl) [0, 6, 7, 8] [1, 7, 8] (by kernel_rfl)
      ⟨⟨⟨⟨⟨⟨⟨⟨⟨trivial,
      tri_quiet (fun β => []) [] [] (fun β => []) (by kernel_rfl) (fun β extra => by kernel_rfl) (by kernel_rfl) (fun β => trivial)⟩,
      tri_call 127 (fun β => #[.agg #[iV (a : Int), iV (b : Int), iV lo, iV hi]]) (by kernel_rfl) (fun β extra => by kernel_rfl) (fun β => by kernel_rfl) (fun β w1 k1 h1 => between_any (a : Int) (b : Int) lo hi w1)⟩,
      tri_quiet (fun β => []) [] [] (fun β => []) (by kernel_rfl) (fun β extra => by kernel_rfl) (by kernel_rfl) (fun β => trivial)⟩,
      tri_quiet (fun β => []) [0] [0] (fun β => [(pA b1, pA b1)]) (by kernel_rfl) (fun β extra => by kernel_rfl) (by kernel_rfl) (fun β => ⟨rfl, trivial⟩)⟩,
      tri_call 129 (fun β => #[.agg #[iV (a : Int), iV (b : Int), iV lo, iV hi, iV m], .agg #[iV z, iV r]]) (by kernel_rfl) (fun β extra => by kernel_rfl) (fun β => by kernel_rfl) (fun β w1 k1 h1 => leaves2_any (a : Int) (b : Int) lo hi m z r (by omega) (by omega) (by omega) (by omega) (by omega) (by omega) (by omega) (by omega) (by omega) (by omega) w1)⟩,
      tri_new 7 (fun β => aO #[iV 0, iV 0] 72) (fun β b => pA b) [0] (by kernel_rfl) (fun β extra b => by kernel_rfl) (by kernel_rfl) (fun β b => by kernel_rfl) (fun β b => by kernel_rfl) (fun β b => by kernel_rfl)⟩,
      tri_new 8 (fun β => aO #[iV 0, iV 0] 23) (fun β b => pA b) [0] (by kernel_rfl) (fun β extra b => by kernel_rfl) (by kernel_rfl) (fun β b => by kernel_rfl) (fun β b => by kernel_rfl) (fun β b => by kernel_rfl)⟩,
      tri_quiet (fun β => []) [0] [0] (fun β => [(.pointer (some ⟨(β 7), 0, none⟩), .pointer (some ⟨(β 7), 0, none⟩))]) (by kernel_rfl) (fun β extra => by kernel_rfl) (by kernel_rfl) (fun β => ⟨rfl, trivial⟩)⟩,
      tri_quiet (fun β => []) [0] [0] (fun β => [(.pointer (some ⟨(β 8), 0, none⟩), .pointer (some ⟨(β 8), 0, none⟩))]) (by kernel_rfl) (fun β extra => by kernel_rfl) (by kernel_rfl) (fun β => ⟨rfl, trivial⟩)⟩
      (fun β => ⟨[(0, pA bk), (6, .bool false), (7, .pointer (some ⟨(β 7), 0, none⟩)), (8, .pointer (some ⟨(β 8), 0, none⟩))], [(bk, cO (gc g) 70), ((β 7), aO #[iV (a : Int), iV (b : Int)] 72), ((β 8), aO #[iV (lo - shw (z, r) m), iV (hi - shw (z, r) m)] 23)]⟩) (fun β => by kernel_rfl) (fun β2 => ?_)
  refine run_auto [] 9 [] [1, 1, 2] [0, 6, 7, 8, 14, 16, 18, 20] [0, 1, 2] (st' := ⟨[(0, pA bk), (6, .bool false), (7, .pointer (some ⟨(β2 7), 0, none⟩)), (8, .pointer (some ⟨(β2 8), 0, none⟩)), (14, pA bk), (16, iV (a : Int)), (18, iV (b : Int)), (20, iV (hi - shw (z, r) m))], [(bk, cO (gc g) 70), ((β2 7), aO #[iV (a : Int), iV (b : Int)] 72), ((β2 8), aO #[iV (lo - shw (z, r) m), iV (hi - shw (z, r) m)] 23)]⟩) (acc := [(.pointer (some ⟨(β2 8), 0, none⟩), .pointer (some ⟨(β2 8), 0, none⟩)), (.pointer (some ⟨(β2 7), 0, none⟩), .pointer (some ⟨(β2 7), 0, none⟩)), (.pointer (some ⟨(β2 7), 0, none⟩), .pointer (some ⟨(β2 7), 0, none⟩))]) (by kernel_rfl) (by kernel_rfl) ⟨rfl, rfl, rfl, trivial⟩ ?_
  cases hd1 : (decide ((hi - shw (z, r) m) + g b a < 0)) with
  | false =>
    have hp1 := of_decide_eq_false hd1
    refine run_wr 109 #[pA bk, iV (a : Int), iV (b : Int), iV (hi - shw (z, r) m)] (some 21) (.bool true) 0 bk (cO (gc g) 70) (cO (gc (g.lim a b (hi - shw (z, r) m))) 70) (by kernel_rfl) (by kernel_rfl) (by kernel_rfl) (fun w1 k1 h1 => (by have h := limit_any bk g a b (hi - shw (z, r) m) w1 (by omega) (by omega) (hd) (hs) (by omega) (by omega) (h1 (bk, cO (gc g) 70) (List.mem_of_getElem? (i := 0) (by kernel_rfl))); rw [if_neg (of_decide_eq_false hd1), hd1] at h; exact h)) ?_
    refine run_auto [(30, iV (-(lo - shw (z, r) m)))] 9 [] [1, 1, 2] [6, 22, 23, 25, 27, 30] [0] (st' := ⟨[(6, .bool false), (22, .bool true), (23, pA bk), (25, iV (b : Int)), (27, iV (a : Int)), (30, iV (-(lo - shw (z, r) m)))], [(bk, cO (gc (g.lim a b (hi - shw (z, r) m))) 70)]⟩) (acc := [(iV (IntKind.i64.wrap (0 - (lo - shw (z, r) m))), iV (-(lo - shw (z, r) m))), (.pointer (some ⟨(β2 8), 0, none⟩), .pointer (some ⟨(β2 8), 0, none⟩)), (.pointer (some ⟨(β2 7), 0, none⟩), .pointer (some ⟨(β2 7), 0, none⟩)), (.pointer (some ⟨(β2 7), 0, none⟩), .pointer (some ⟨(β2 7), 0, none⟩))]) (by kernel_rfl) (by kernel_rfl) ⟨((wr (by omega) (by omega)).trans (io (by omega))), rfl, rfl, rfl, trivial⟩ ?_
    cases hd2 : (decide ((-(lo - shw (z, r) m)) + (g.lim a b (hi - shw (z, r) m)) a b < 0)) with
    | false =>
      have hp2 := of_decide_eq_false hd2
      refine run_wr 109 #[pA bk, iV (b : Int), iV (a : Int), iV (-(lo - shw (z, r) m))] (some 31) (.bool true) 0 bk (cO (gc (g.lim a b (hi - shw (z, r) m))) 70) (cO (gc ((g.lim a b (hi - shw (z, r) m)).lim b a (-(lo - shw (z, r) m)))) 70) (by kernel_rfl) (by kernel_rfl) (by kernel_rfl) (fun w1 k1 h1 => (by have h := limit_any bk (g.lim a b (hi - shw (z, r) m)) b a (-(lo - shw (z, r) m)) w1 (by omega) (by omega) (Gp.lim_done (hd) (a := a) (b := b) (by omega) (by omega) (m := (hi - shw (z, r) m)) (by omega)) (Gp.Small.lim (hs) a b (hi - shw (z, r) m)) (by omega) (by omega) (h1 (bk, cO (gc (g.lim a b (hi - shw (z, r) m))) 70) (List.mem_of_getElem? (i := 0) (by kernel_rfl))); rw [if_neg (of_decide_eq_false hd2), hd2] at h; exact h)) ?_
      refine run_auto [] 3 [] [] [6] [0] (st' := ⟨[(6, .bool true)], [(bk, cO (gc ((g.lim a b (hi - shw (z, r) m)).lim b a (-(lo - shw (z, r) m)))) 70)]⟩) (acc := []) (by kernel_rfl) (by kernel_rfl) trivial ?_
      refine run_end (fn := f101) rfl (Nat.le_refl _) (by kernel_rfl) [] [.bool true] (e := []) (by kernel_rfl) trivial (fun w1 k1 h1 => ?_)
      refine ⟨?_, k1, ?_⟩
      · unfold Gp.put
        rw [if_neg (of_decide_eq_false hd1), if_neg (of_decide_eq_false hd2)]
        rfl
      · unfold Gp.putr
        rw [if_neg (of_decide_eq_false hd1), if_neg (of_decide_eq_false hd2)]
        exact h1 (bk, _) (List.mem_of_getElem? (i := 0) rfl)
    | true =>
      have hp2 := of_decide_eq_true hd2
      refine run_wr 109 #[pA bk, iV (b : Int), iV (a : Int), iV (-(lo - shw (z, r) m))] (some 31) (.bool false) 0 bk (cO (gc (g.lim a b (hi - shw (z, r) m))) 70) (cO (gc (g.lim a b (hi - shw (z, r) m))) 70) (by kernel_rfl) (by kernel_rfl) (by kernel_rfl) (fun w1 k1 h1 => (by have h := limit_any bk (g.lim a b (hi - shw (z, r) m)) b a (-(lo - shw (z, r) m)) w1 (by omega) (by omega) (Gp.lim_done (hd) (a := a) (b := b) (by omega) (by omega) (m := (hi - shw (z, r) m)) (by omega)) (Gp.Small.lim (hs) a b (hi - shw (z, r) m)) (by omega) (by omega) (h1 (bk, cO (gc (g.lim a b (hi - shw (z, r) m))) 70) (List.mem_of_getElem? (i := 0) (by kernel_rfl))); rw [if_pos (of_decide_eq_true hd2), hd2] at h; exact h)) ?_
      refine run_auto [] 3 [] [] [6] [0] (st' := ⟨[(6, .bool false)], [(bk, cO (gc (g.lim a b (hi - shw (z, r) m))) 70)]⟩) (acc := []) (by kernel_rfl) (by kernel_rfl) trivial ?_
      refine run_end (fn := f101) rfl (Nat.le_refl _) (by kernel_rfl) [] [.bool false] (e := []) (by kernel_rfl) trivial (fun w1 k1 h1 => ?_)
      refine ⟨?_, k1, ?_⟩
      · unfold Gp.put
        rw [if_neg (of_decide_eq_false hd1), if_pos (of_decide_eq_true hd2)]
        rfl
      · unfold Gp.putr
        rw [if_neg (of_decide_eq_false hd1), if_pos (of_decide_eq_true hd2)]
        exact h1 (bk, _) (List.mem_of_getElem? (i := 0) rfl)
  | true =>
    have hp1 := of_decide_eq_true hd1
    refine run_wr 109 #[pA bk, iV (a : Int), iV (b : Int), iV (hi - shw (z, r) m)] (some 21) (.bool false) 0 bk (cO (gc g) 70) (cO (gc g) 70) (by kernel_rfl) (by kernel_rfl) (by kernel_rfl) (fun w1 k1 h1 => (by have h := limit_any bk g a b (hi - shw (z, r) m) w1 (by omega) (by omega) (hd) (hs) (by omega) (by omega) (h1 (bk, cO (gc g) 70) (List.mem_of_getElem? (i := 0) (by kernel_rfl))); rw [if_pos (of_decide_eq_true hd1), hd1] at h; exact h)) ?_
    refine run_auto [] 13 [] [] [6] [0] (st' := ⟨[(6, .bool false)], [(bk, cO (gc g) 70)]⟩) (acc := []) (by kernel_rfl) (by kernel_rfl) trivial ?_
    refine run_end (fn := f101) rfl (Nat.le_refl _) (by kernel_rfl) [] [.bool false] (e := []) (by kernel_rfl) trivial (fun w1 k1 h1 => ?_)
    refine ⟨?_, k1, ?_⟩
    · unfold Gp.put
      rw [if_pos (of_decide_eq_true hd1)]
      rfl
    · unfold Gp.putr
      rw [if_pos (of_decide_eq_true hd1)]
      exact h1 (bk, _) (List.mem_of_getElem? (i := 0) rfl)

end Go.Proofs.Ythnhcacoegmdfaa
