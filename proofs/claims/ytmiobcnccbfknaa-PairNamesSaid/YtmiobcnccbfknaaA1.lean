/-
  PAIR: a pair in memory; within, wide, isBlock, isMinute, validBlocks, validReads.
-/
import Derived.Test.YtmiobcnccbfknaaXD
import Derived.Test.YtmiobcnccbfknaaRows
namespace Go.Proofs.Ytmiobcnccbfknaa
open Go.RowKit Go.Proofs.Try


/-- A reading: two blocks, a minute, and from where to where it is. -/
abbrev Rw := Int × Int × Int × Int × Int
def elB (bs : List (Int × Int)) (k : Nat) : Int × Int := bs[k]?.getD (0, 0)
def elR (rs : List Rw) (k : Nat) : Rw := rs[k]?.getD (0, 0, 0, 0, 0)
def inS (lo hi a b : Int) : Bool := decide (a ≤ lo ∧ lo ≤ hi ∧ hi ≤ b)
theorem inS_bd {lo hi a b : Int} (h : inS lo hi a b = true) : a ≤ lo ∧ lo ≤ hi ∧ hi ≤ b := by simpa [inS] using h
/-- The slice at a holds these spans. -/
def Bls (w : World) (a : Option Addr) (bs : List (Int × Int)) : Prop :=
  bs ≠ [] → ∃ b o, a = some ⟨b, o, none⟩ ∧ ∀ i, i < bs.length → w.cell? ⟨b, o + i * 2, none⟩ = some (.int .i64 (elB bs i).1) ∧ w.cell? ⟨b, o + i * 2 + 1, none⟩ = some (.int .i64 (elB bs i).2)
def Rds (w : World) (a : Option Addr) (rs : List Rw) : Prop :=
  rs ≠ [] → ∃ b o, a = some ⟨b, o, none⟩ ∧ ∀ i, i < rs.length → w.cell? ⟨b, o + i * 5, none⟩ = some (.int .i64 (elR rs i).1) ∧ w.cell? ⟨b, o + i * 5 + 1, none⟩ = some (.int .i64 (elR rs i).2.1) ∧
    w.cell? ⟨b, o + i * 5 + 2, none⟩ = some (.int .i64 (elR rs i).2.2.1) ∧ w.cell? ⟨b, o + i * 5 + 3, none⟩ = some (.int .i64 (elR rs i).2.2.2.1) ∧ w.cell? ⟨b, o + i * 5 + 4, none⟩ = some (.int .i64 (elR rs i).2.2.2.2)
theorem Bls.keep {w w' : World} {a : Option Addr} {xs : List (Int × Int)} (h : Bls w a xs) (k : Keeps w w') : Bls w' a xs := by
  intro hx
  obtain ⟨b, o, e, hc⟩ := h hx
  exact ⟨b, o, e, fun i hi => ⟨k.cell (hc i hi).1, k.cell (hc i hi).2⟩⟩
theorem Rds.keep {w w' : World} {a : Option Addr} {xs : List Rw} (h : Rds w a xs) (k : Keeps w w') : Rds w' a xs := by
  intro hx
  obtain ⟨b, o, e, hc⟩ := h hx
  exact ⟨b, o, e, fun i hi => ⟨k.cell (hc i hi).1, k.cell (hc i hi).2.1, k.cell (hc i hi).2.2.1, k.cell (hc i hi).2.2.2.1, k.cell (hc i hi).2.2.2.2⟩⟩
abbrev pe (k : Int) : List PanicEntry := [{ v := .iface 24 (.int .i64 k), recovered := false }]
def Pan (k : Int) (w : World) (e : Ending) (w' : World) : Prop := e = .panicked (pe k) ∧ Keeps w w'
/-- What must be so, or it panics with k. -/
def Need (b : Bool) (k : Int) (w : World) (e : Ending) (w' : World) : Prop := bif b then Ret (.tuple #[]) w e w' else Pan k w e w'
/-- A pair. -/
structure Pr where
  ba : Option Addr
  bc : Nat
  bs : List (Int × Int)
  zlo : Int
  zhi : Int
  rlo : Int
  rhi : Int
  ra : Option Addr
  rc : Nat
  rs : List Rw
def Pr.v (p : Pr) : Value := .agg #[.slice p.ba p.bs.length p.bc, .int .i64 p.zlo, .int .i64 p.zhi, .int .i64 p.rlo, .int .i64 p.rhi, .slice p.ra p.rs.length p.rc]
structure Pr.In (p : Pr) (w : World) : Prop where
  bl : Bls w p.ba p.bs
  rd : Rds w p.ra p.rs
  ln : p.bs.length ≤ maxLen
  lr : p.rs.length ≤ maxLen
theorem Pr.In.keep {p : Pr} {w w' : World} (h : p.In w) (k : Keeps w w') : p.In w' := ⟨h.bl.keep k, h.rd.keep k, h.ln, h.lr⟩
def blkB (n m : Int) : Bool := decide (0 ≤ n ∧ n < m)
def minB (n : Int) : Bool := decide (0 ≤ n ∧ n ≤ 60)
def vRd (n : Nat) (r : Rw) : Bool := blkB r.1 n && blkB r.2.1 n && !(r.1 == r.2.1) && minB r.2.2.1 && inS r.2.2.2.1 r.2.2.2.2 (-80) 80
def vBls (bs : List (Int × Int)) : Bool := decide (1 ≤ bs.length ∧ bs.length ≤ 5) && bs.all fun s => inS s.1 s.2 (-20) 20
def vRds (n : Nat) (rs : List Rw) : Bool := decide (rs.length ≤ 8) && rs.all (vRd n)
def Pr.ok (p : Pr) : Bool := vBls p.bs && inS p.zlo p.zhi (-10) 10 && decide (p.zhi - p.zlo ≤ 4) && inS p.rlo p.rhi (-5) 5 && decide (p.rhi - p.rlo ≤ 4) && vRds p.bs.length p.rs
theorem c2 {B : World} {b o : Nat} {u0 u1 : Value} (h0 : B.cell? ⟨b, o, none⟩ = some u0) (h1 : B.cell? ⟨b, o + 1, none⟩ = some u1) : ∀ i u, [u0, u1][i]? = some u → B.cell? ⟨b, o + i, none⟩ = some u := by
  intro i u hu
  match i, hu with
  | 0, hu => injection hu with hu; subst hu; exact h0
  | 1, hu => injection hu with hu; subst hu; exact h1
  | i + 2, hu => simp at hu
theorem c5 {B : World} {b o : Nat} {u0 u1 u2 u3 u4 : Value} (h0 : B.cell? ⟨b, o, none⟩ = some u0) (h1 : B.cell? ⟨b, o + 1, none⟩ = some u1) (h2 : B.cell? ⟨b, o + 2, none⟩ = some u2) (h3 : B.cell? ⟨b, o + 3, none⟩ = some u3) (h4 : B.cell? ⟨b, o + 4, none⟩ = some u4) : ∀ i u, [u0, u1, u2, u3, u4][i]? = some u → B.cell? ⟨b, o + i, none⟩ = some u := by
  intro i u hu
  match i, hu with
  | 0, hu => injection hu with hu; subst hu; exact h0
  | 1, hu => injection hu with hu; subst hu; exact h1
  | 2, hu => injection hu with hu; subst hu; exact h2
  | 3, hu => injection hu with hu; subst hu; exact h3
  | 4, hu => injection hu with hu; subst hu; exact h4
  | i + 5, hu => simp at hu
theorem all_no {α : Type} {p : α → Bool} {l : List α} {k : Nat} {d : α} (hk : k < l.length) (h : p (l[k]?.getD d) = false) : l.all p = false := by
  rw [List.all_eq_false]
  refine ⟨l[k], List.getElem_mem hk, ?_⟩
  rw [List.getElem?_eq_getElem hk] at h
  simpa using h
theorem all_yes {α : Type} {p : α → Bool} {l : List α} {d : α} (h : ∀ k, k < l.length → p (l[k]?.getD d) = true) : l.all p = true := by
  rw [List.all_eq_true]
  intro x hx
  obtain ⟨k, hk, rfl⟩ := List.getElem_of_mem hx
  have := h k hk
  rwa [List.getElem?_eq_getElem hk] at this
set_option maxRecDepth 100000 in
theorem within_any (lo hi a b : Int) (w : World)  : Calls Try.prog 72 #[.agg #[.int .i64 lo, .int .i64 hi], .int .i64 a, .int .i64 b] w (RetB (inS lo hi a b) w) := by
  refine calls_run (fn := f72) (c := (f72.body).getD .skip) [.agg #[.int .i64 lo, .int .i64 hi], .int .i64 a, .int .i64 b] func72 (by kernel_rfl) (fun _ => False) [] (fun _ h => by cases h) (List.Pairwise.nil) 24 (by kernel_rfl) (by simp) ?_
  refine run_auto [] 2 [] [] [0, 1, 2] [] (st' := ⟨[(0, .agg #[.int .i64 lo, .int .i64 hi]), (1, .int .i64 a), (2, .int .i64 b)], []⟩) (acc := []) (by kernel_rfl) (by kernel_rfl) trivial ?_
  refine run_new (.cells #[.int .i64 lo, .int .i64 hi] 23 (0, 0)) (fun b1 => .pointer (some ⟨b1, 0, none⟩)) (some 3) (fun _ => by kernel_rfl) (fun b1 hb1 => ?_)
  cases hd1 : (decide (a ≤ lo)) with
  | false =>
    have hp1 := of_decide_eq_false hd1
    refine run_auto [(10, .bool false)] 23 [] [0] [6] [] (st' := ⟨[(6, .bool false)], []⟩) (acc := [(.bool (decide (a ≤ lo)), .bool false), (.pointer (some ⟨b1, 0, none⟩), .pointer (some ⟨b1, 0, none⟩))]) (by kernel_rfl) (by kernel_rfl) ⟨(bo hd1), rfl, trivial⟩ ?_
    refine run_end (fn := f72) rfl (Nat.le_refl _) (by kernel_rfl) [] [.bool false] (e := []) (by kernel_rfl) trivial (fun w1 k1 h1 => ?_)
    exact ⟨by simp only [resVal]; congr 2; simp only [inS]; simp; omega, k1.keeps (fun _ h => h)⟩
  | true =>
    have hp1 := of_decide_eq_true hd1
    cases hd2 : (decide (lo ≤ hi)) with
    | false =>
      have hp2 := of_decide_eq_false hd2
      refine run_auto [(10, .bool true), (16, .bool false)] 23 [] [0, 0, 0] [6] [] (st' := ⟨[(6, .bool false)], []⟩) (acc := [(.bool (decide (lo ≤ hi)), .bool false), (.pointer (some ⟨b1, 0, none⟩), .pointer (some ⟨b1, 0, none⟩)), (.pointer (some ⟨b1, 0, none⟩), .pointer (some ⟨b1, 0, none⟩)), (.bool (decide (a ≤ lo)), .bool true), (.pointer (some ⟨b1, 0, none⟩), .pointer (some ⟨b1, 0, none⟩))]) (by kernel_rfl) (by kernel_rfl) ⟨(bo hd2), rfl, rfl, (bo hd1), rfl, trivial⟩ ?_
      refine run_end (fn := f72) rfl (Nat.le_refl _) (by kernel_rfl) [] [.bool false] (e := []) (by kernel_rfl) trivial (fun w1 k1 h1 => ?_)
      exact ⟨by simp only [resVal]; congr 2; simp only [inS]; simp; omega, k1.keeps (fun _ h => h)⟩
    | true =>
      have hp2 := of_decide_eq_true hd2
      cases hd3 : (decide (hi ≤ b)) with
      | false =>
        have hp3 := of_decide_eq_false hd3
        refine run_auto [(10, .bool true), (16, .bool true), (22, .bool false)] 23 [] [0, 0, 0, 0] [6] [] (st' := ⟨[(6, .bool false)], []⟩) (acc := [(.bool (decide (hi ≤ b)), .bool false), (.pointer (some ⟨b1, 0, none⟩), .pointer (some ⟨b1, 0, none⟩)), (.bool (decide (lo ≤ hi)), .bool true), (.pointer (some ⟨b1, 0, none⟩), .pointer (some ⟨b1, 0, none⟩)), (.pointer (some ⟨b1, 0, none⟩), .pointer (some ⟨b1, 0, none⟩)), (.bool (decide (a ≤ lo)), .bool true), (.pointer (some ⟨b1, 0, none⟩), .pointer (some ⟨b1, 0, none⟩))]) (by kernel_rfl) (by kernel_rfl) ⟨(bo hd3), rfl, (bo hd2), rfl, rfl, (bo hd1), rfl, trivial⟩ ?_
        refine run_end (fn := f72) rfl (Nat.le_refl _) (by kernel_rfl) [] [.bool false] (e := []) (by kernel_rfl) trivial (fun w1 k1 h1 => ?_)
        exact ⟨by simp only [resVal]; congr 2; simp only [inS]; simp; omega, k1.keeps (fun _ h => h)⟩
      | true =>
        have hp3 := of_decide_eq_true hd3
        refine run_auto [(10, .bool true), (16, .bool true), (22, .bool true)] 23 [] [0, 0, 0, 0] [6] [] (st' := ⟨[(6, .bool true)], []⟩) (acc := [(.bool (decide (hi ≤ b)), .bool true), (.pointer (some ⟨b1, 0, none⟩), .pointer (some ⟨b1, 0, none⟩)), (.bool (decide (lo ≤ hi)), .bool true), (.pointer (some ⟨b1, 0, none⟩), .pointer (some ⟨b1, 0, none⟩)), (.pointer (some ⟨b1, 0, none⟩), .pointer (some ⟨b1, 0, none⟩)), (.bool (decide (a ≤ lo)), .bool true), (.pointer (some ⟨b1, 0, none⟩), .pointer (some ⟨b1, 0, none⟩))]) (by kernel_rfl) (by kernel_rfl) ⟨(bo hd3), rfl, (bo hd2), rfl, rfl, (bo hd1), rfl, trivial⟩ ?_
        refine run_end (fn := f72) rfl (Nat.le_refl _) (by kernel_rfl) [] [.bool true] (e := []) (by kernel_rfl) trivial (fun w1 k1 h1 => ?_)
        exact ⟨by simp only [resVal]; congr 2; simp only [inS]; simp; omega, k1.keeps (fun _ h => h)⟩

set_option maxRecDepth 100000 in
theorem wide_any (lo hi : Int) (h1 : -100000 ≤ lo) (h2 : lo ≤ 100000) (h3 : -100000 ≤ hi) (h4 : hi ≤ 100000) (w : World)  : Calls Try.prog 73 #[.agg #[.int .i64 lo, .int .i64 hi]] w (RetI (hi - lo) w) := by
  refine calls_run (fn := f73) (c := (f73.body).getD .skip) [.agg #[.int .i64 lo, .int .i64 hi]] func73 (by kernel_rfl) (fun _ => False) [] (fun _ h => by cases h) (List.Pairwise.nil) 8 (by kernel_rfl) (by simp) ?_
  refine run_auto [] 2 [] [] [0] [] (st' := ⟨[(0, .agg #[.int .i64 lo, .int .i64 hi])], []⟩) (acc := []) (by kernel_rfl) (by kernel_rfl) trivial ?_
  refine run_new (.cells #[.int .i64 lo, .int .i64 hi] 23 (0, 0)) (fun b1 => .pointer (some ⟨b1, 0, none⟩)) (some 1) (fun _ => by kernel_rfl) (fun b1 hb1 => ?_)
  refine run_auto [(7, .int .i64 (hi - lo))] 11 [] [0, 0] [2] [] (st' := ⟨[(2, .int .i64 (hi - lo))], []⟩) (acc := [(.int .i64 (IntKind.i64.wrap (hi - lo)), .int .i64 (hi - lo)), (.pointer (some ⟨b1, 0, none⟩), .pointer (some ⟨b1, 0, none⟩)), (.pointer (some ⟨b1, 0, none⟩), .pointer (some ⟨b1, 0, none⟩))]) (by kernel_rfl) (by kernel_rfl) ⟨(wr (by omega) (by omega)), rfl, rfl, trivial⟩ ?_
  refine run_end (fn := f73) rfl (Nat.le_refl _) (by kernel_rfl) [] [.int .i64 (hi - lo)] (e := []) (by kernel_rfl) trivial (fun w1 k1 h1 => ?_)
  exact ⟨rfl, k1.keeps (fun _ h => h)⟩

set_option maxRecDepth 100000 in
theorem isBlock_any (n m : Int) (w : World)  : Calls Try.prog 75 #[.int .i64 n, .int .i64 m] w (RetB (blkB n m) w) := by
  refine calls_run (fn := f75) (c := (f75.body).getD .skip) [.int .i64 n, .int .i64 m] func75 (by kernel_rfl) (fun _ => False) [] (fun _ h => by cases h) (List.Pairwise.nil) 12 (by kernel_rfl) (by simp) ?_
  cases hd1 : (decide (0 ≤ n)) with
  | false =>
    have hp1 := of_decide_eq_false hd1
    refine run_auto [(6, .bool false)] 15 [] [] [4] [] (st' := ⟨[(4, .bool false)], []⟩) (acc := [(.bool (decide (0 ≤ n)), .bool false)]) (by kernel_rfl) (by kernel_rfl) ⟨(bo hd1), trivial⟩ ?_
    refine run_end (fn := f75) rfl (Nat.le_refl _) (by kernel_rfl) [] [.bool false] (e := []) (by kernel_rfl) trivial (fun w1 k1 h1 => ?_)
    exact ⟨by simp only [resVal]; congr 2; simp only [blkB]; simp; omega, k1.keeps (fun _ h => h)⟩
  | true =>
    have hp1 := of_decide_eq_true hd1
    cases hd2 : (decide (n < m)) with
    | false =>
      have hp2 := of_decide_eq_false hd2
      refine run_auto [(6, .bool true), (10, .bool false)] 15 [] [] [4] [] (st' := ⟨[(4, .bool false)], []⟩) (acc := [(.bool (decide (n < m)), .bool false), (.bool (decide (0 ≤ n)), .bool true)]) (by kernel_rfl) (by kernel_rfl) ⟨(bo hd2), (bo hd1), trivial⟩ ?_
      refine run_end (fn := f75) rfl (Nat.le_refl _) (by kernel_rfl) [] [.bool false] (e := []) (by kernel_rfl) trivial (fun w1 k1 h1 => ?_)
      exact ⟨by simp only [resVal]; congr 2; simp only [blkB]; simp; omega, k1.keeps (fun _ h => h)⟩
    | true =>
      have hp2 := of_decide_eq_true hd2
      refine run_auto [(6, .bool true), (10, .bool true)] 15 [] [] [4] [] (st' := ⟨[(4, .bool true)], []⟩) (acc := [(.bool (decide (n < m)), .bool true), (.bool (decide (0 ≤ n)), .bool true)]) (by kernel_rfl) (by kernel_rfl) ⟨(bo hd2), (bo hd1), trivial⟩ ?_
      refine run_end (fn := f75) rfl (Nat.le_refl _) (by kernel_rfl) [] [.bool true] (e := []) (by kernel_rfl) trivial (fun w1 k1 h1 => ?_)
      exact ⟨by simp only [resVal]; congr 2; simp only [blkB]; simp; omega, k1.keeps (fun _ h => h)⟩

set_option maxRecDepth 100000 in
theorem isMinute_any (n : Int) (w : World)  : Calls Try.prog 78 #[.int .i64 n] w (RetB (minB n) w) := by
  refine calls_run (fn := f78) (c := (f78.body).getD .skip) [.int .i64 n] func78 (by kernel_rfl) (fun _ => False) [] (fun _ h => by cases h) (List.Pairwise.nil) 9 (by kernel_rfl) (by simp) ?_
  cases hd1 : (decide (0 ≤ n)) with
  | false =>
    have hp1 := of_decide_eq_false hd1
    refine run_auto [(4, .bool false)] 14 [] [] [2] [] (st' := ⟨[(2, .bool false)], []⟩) (acc := [(.bool (decide (0 ≤ n)), .bool false)]) (by kernel_rfl) (by kernel_rfl) ⟨(bo hd1), trivial⟩ ?_
    refine run_end (fn := f78) rfl (Nat.le_refl _) (by kernel_rfl) [] [.bool false] (e := []) (by kernel_rfl) trivial (fun w1 k1 h1 => ?_)
    exact ⟨by simp only [resVal]; congr 2; simp only [minB]; simp; omega, k1.keeps (fun _ h => h)⟩
  | true =>
    have hp1 := of_decide_eq_true hd1
    cases hd2 : (decide (n ≤ 60)) with
    | false =>
      have hp2 := of_decide_eq_false hd2
      refine run_auto [(4, .bool true), (7, .bool false)] 14 [] [] [2] [] (st' := ⟨[(2, .bool false)], []⟩) (acc := [(.bool (decide (n ≤ 60)), .bool false), (.bool (decide (0 ≤ n)), .bool true)]) (by kernel_rfl) (by kernel_rfl) ⟨(bo hd2), (bo hd1), trivial⟩ ?_
      refine run_end (fn := f78) rfl (Nat.le_refl _) (by kernel_rfl) [] [.bool false] (e := []) (by kernel_rfl) trivial (fun w1 k1 h1 => ?_)
      exact ⟨by simp only [resVal]; congr 2; simp only [minB]; simp; omega, k1.keeps (fun _ h => h)⟩
    | true =>
      have hp2 := of_decide_eq_true hd2
      refine run_auto [(4, .bool true), (7, .bool true)] 14 [] [] [2] [] (st' := ⟨[(2, .bool true)], []⟩) (acc := [(.bool (decide (n ≤ 60)), .bool true), (.bool (decide (0 ≤ n)), .bool true)]) (by kernel_rfl) (by kernel_rfl) ⟨(bo hd2), (bo hd1), trivial⟩ ?_
      refine run_end (fn := f78) rfl (Nat.le_refl _) (by kernel_rfl) [] [.bool true] (e := []) (by kernel_rfl) trivial (fun w1 k1 h1 => ?_)
      exact ⟨by simp only [resVal]; congr 2; simp only [minB]; simp; omega, k1.keeps (fun _ h => h)⟩

set_option maxRecDepth 100000 in
theorem validBlocks_any (ba : Option Addr) (bc : Nat) (bs : List (Int × Int)) (w : World) (hb : Bls w ba bs) (hl : bs.length ≤ maxLen) : Calls Try.prog 71 #[.slice ba bs.length bc] w (RetB (vBls bs) w) := by
  simp only [maxLen] at hl
  refine calls_run (fn := f71) (c := (f71.body).getD .skip) [.slice ba bs.length bc] func71 (by kernel_rfl) (fun _ => False) [] (fun _ h => by cases h) (List.Pairwise.nil) 23 (by kernel_rfl) (by simp) ?_
  cases hd1 : (decide ((bs.length : Int) < 1)) with
  | false =>
    have hp1 := of_decide_eq_false hd1
    cases hd2 : (decide (5 < (bs.length : Int))) with
    | false =>
      have hp2 := of_decide_eq_false hd2
      refine run_auto [(7, .bool false), (11, .bool false)] 26 [false] [] [2, 13, 14, 15] [] (st' := ⟨[(2, .bool false), (13, .slice ba bs.length bc), (14, .int .i64 (bs.length : Int)), (15, .int .i64 0)], []⟩) (acc := [(.bool false, .bool false), (.bool (decide (5 < (bs.length : Int))), .bool false), (.bool (decide ((bs.length : Int) < 1)), .bool false)]) (by kernel_rfl) (by kernel_rfl) ⟨rfl, (bo hd2), (bo hd1), trivial⟩ ?_
      refine run_auto [] 0 [] [] [2, 13, 14, 15] [] (st' := ⟨[(2, .bool false), (13, .slice ba bs.length bc), (14, .int .i64 (bs.length : Int)), (15, .int .i64 0)], []⟩) (acc := []) (by kernel_rfl) (by kernel_rfl) trivial ?_
      refine run_loop (S := fun (k : Nat) => ⟨[(2, .bool false), (13, .slice ba bs.length bc), (14, .int .i64 (bs.length : Int)), (15, .int .i64 (k : Int))], []⟩) (fun k => k ≤ bs.length ∧ ∀ j, j < k → inS (elB bs j).1 (elB bs j).2 (-20) 20 = true) (fun k => bs.length - k) (0) (by kernel_rfl) (⟨Nat.zero_le _, fun _ h => by cases h⟩) (by kernel_rfl) (fun k hI0 J0 hJ0 => ?_)
      obtain ⟨hI1, hI2⟩ := hI0
      cases hd3 : (decide ((k : Int) < (bs.length : Int))) with
      | false =>
        have hp3 := of_decide_eq_false hd3
        refine run_auto [(16, .bool false)] 11 [false] [] [2] [] (st' := ⟨[(2, .bool true)], []⟩) (acc := [(.bool false, .bool false), (.bool (decide ((k : Int) < (bs.length : Int))), .bool false)]) (by kernel_rfl) (by kernel_rfl) ⟨rfl, (bo hd3), trivial⟩ ?_
        refine run_end (fn := f71) rfl (Nat.le_refl _) (by kernel_rfl) [] [.bool true] (e := []) (by kernel_rfl) trivial (fun w1 k1 h1 => ?_)
        have h : vBls bs = true := by
          unfold vBls
          rw [all_yes (p := fun s => inS s.1 s.2 (-20) 20) (d := (0, 0)) (fun j hj => hI2 j (by omega))]
          simp; omega
        exact ⟨by rw [h]; rfl, k1.keeps (fun _ h => h)⟩
      | true =>
        have hp3 := of_decide_eq_true hd3
        have hlt : k < bs.length := by omega
        obtain ⟨b, o, rfl, hc⟩ := hb (by intro h; rw [h] at hlt; cases hlt)
        have hc := hc k hlt
        refine run_auto [(16, .bool true)] 11 [true] [] [2, 13, 14, 15] [] (st' := ⟨[(2, .bool false), (13, .slice (some ⟨b, o, none⟩) bs.length bc), (14, .int .i64 (bs.length : Int)), (15, .int .i64 (k : Int))], []⟩) (acc := [(.bool true, .bool true), (.bool (decide ((k : Int) < (bs.length : Int))), .bool true)]) (by kernel_rfl) (by kernel_rfl) ⟨rfl, (bo hd3), trivial⟩ ?_
        refine run_v (Instr.indexAt 27 (.slice (some ⟨b, o, none⟩) bs.length bc) (.int .i64 (k : Int)) >>= fun v => pure (Next.value v)) (some 17) (.pointer (some ⟨b, o + k * 2, none⟩)) (by kernel_rfl) (fun w1 k1 h1 => idx_run (e := 23) (n := 2) (by kernel_rfl) (by kernel_rfl) b o bs.length bc .i64 k hlt w1) ?_
        refine run_v (Instr.loadAt 23 (.pointer (some ⟨b, o + k * 2, none⟩)) >>= fun v => pure (Next.value v)) (some 18) (.agg #[.int .i64 (elB bs k).1, .int .i64 (elB bs k).2]) (by kernel_rfl) (fun w1 k1 h1 => load_in (off := 0) k1 (fun h => h) [.int .i64 (elB bs k).1, .int .i64 (elB bs k).2] (c2 hc.1 hc.2) (by kernel_rfl)) ?_
        refine run_new (.cells #[.int .i64 0, .int .i64 0] 23 (0, 0)) (fun b1 => .pointer (some ⟨b1, 0, none⟩)) (some 4) (fun _ => by kernel_rfl) (fun b1 hb1 => ?_)
        refine run_auto [] 5 [] [0, 0] [2, 13, 14, 15, 19] [] (st' := ⟨[(2, .bool false), (13, .slice (some ⟨b, o, none⟩) bs.length bc), (14, .int .i64 (bs.length : Int)), (15, .int .i64 (k : Int)), (19, .agg #[.int .i64 (elB bs k).1, .int .i64 (elB bs k).2])], []⟩) (acc := [(.pointer (some ⟨b1, 0, none⟩), .pointer (some ⟨b1, 0, none⟩)), (.pointer (some ⟨b1, 0, none⟩), .pointer (some ⟨b1, 0, none⟩))]) (by kernel_rfl) (by kernel_rfl) ⟨rfl, rfl, trivial⟩ ?_
        cases hd4 : (inS (elB bs k).1 (elB bs k).2 (-20) 20) with
        | false =>
          refine run_ret1 72 #[.agg #[.int .i64 (elB bs k).1, .int .i64 (elB bs k).2], .int .i64 (-20), .int .i64 20] (some 20) (.bool false) (by kernel_rfl) (fun w1 k1 h1 => (by have h := within_any (elB bs k).1 (elB bs k).2 (-20) 20 w1; rw [hd4] at h; exact h)) ?_
          refine run_auto [(21, .bool true)] 7 [true] [] [2, 13, 14, 15] [] (st' := ⟨[(2, .bool false), (13, .slice (some ⟨b, o, none⟩) bs.length bc), (14, .int .i64 (bs.length : Int)), (15, .int .i64 (k : Int))], []⟩) (acc := [(.bool true, .bool true), (.bool true, .bool true)]) (by kernel_rfl) (by kernel_rfl) ⟨rfl, rfl, trivial⟩ ?_
          refine run_end (fn := f71) rfl (Nat.le_refl _) (by kernel_rfl) [] [.bool false] (e := []) (by kernel_rfl) trivial (fun w1 k1 h1 => ?_)
          have h : vBls bs = false := by
            unfold vBls
            rw [all_no (p := fun s => inS s.1 s.2 (-20) 20) (d := (0, 0)) hlt hd4]
            simp
          exact ⟨by rw [h]; rfl, k1.keeps (fun _ h => h)⟩
        | true =>
          refine run_ret1 72 #[.agg #[.int .i64 (elB bs k).1, .int .i64 (elB bs k).2], .int .i64 (-20), .int .i64 20] (some 20) (.bool true) (by kernel_rfl) (fun w1 k1 h1 => (by have h := within_any (elB bs k).1 (elB bs k).2 (-20) 20 w1; rw [hd4] at h; exact h)) ?_
          refine run_auto [(21, .bool false), (22, .int .i64 ((k + 1 : Nat) : Int))] 9 [false] [] [2, 13, 14, 15] [] (st' := ⟨[(2, .bool false), (13, .slice (some ⟨b, o, none⟩) bs.length bc), (14, .int .i64 (bs.length : Int)), (15, .int .i64 ((k + 1 : Nat) : Int))], []⟩) (acc := [(.int .i64 (IntKind.i64.wrap ((k : Int) + 1)), .int .i64 ((k + 1 : Nat) : Int)), (.bool false, .bool false), (.bool false, .bool false)]) (by kernel_rfl) (by kernel_rfl) ⟨(wr (by omega) (by omega)), rfl, rfl, trivial⟩ ?_
          exact run_round (by kernel_rfl) (hJ0 (k + 1) (⟨by omega, fun j hj => (Nat.lt_succ_iff_lt_or_eq.1 hj).elim (hI2 j) (fun h => h ▸ hd4)⟩) (by omega))
    | true =>
      have hp2 := of_decide_eq_true hd2
      refine run_auto [(7, .bool false), (11, .bool true)] 21 [true] [] [0, 2] [] (st' := ⟨[(0, .slice ba bs.length bc), (2, .bool false)], []⟩) (acc := [(.bool true, .bool true), (.bool (decide (5 < (bs.length : Int))), .bool true), (.bool (decide ((bs.length : Int) < 1)), .bool false)]) (by kernel_rfl) (by kernel_rfl) ⟨rfl, (bo hd2), (bo hd1), trivial⟩ ?_
      refine run_end (fn := f71) rfl (Nat.le_refl _) (by kernel_rfl) [] [.bool false] (e := []) (by kernel_rfl) trivial (fun w1 k1 h1 => ?_)
      have h : vBls bs = false := by
        simp [vBls]; omega
      exact ⟨by rw [h]; rfl, k1.keeps (fun _ h => h)⟩
  | true =>
    have hp1 := of_decide_eq_true hd1
    refine run_auto [(7, .bool true)] 21 [true] [] [0, 2] [] (st' := ⟨[(0, .slice ba bs.length bc), (2, .bool false)], []⟩) (acc := [(.bool true, .bool true), (.bool (decide ((bs.length : Int) < 1)), .bool true)]) (by kernel_rfl) (by kernel_rfl) ⟨rfl, (bo hd1), trivial⟩ ?_
    refine run_end (fn := f71) rfl (Nat.le_refl _) (by kernel_rfl) [] [.bool false] (e := []) (by kernel_rfl) trivial (fun w1 k1 h1 => ?_)
    have h : vBls bs = false := by
      simp [vBls]; omega
    exact ⟨by rw [h]; rfl, k1.keeps (fun _ h => h)⟩

set_option maxRecDepth 100000 in
theorem validReads_any (m : Nat) (ra : Option Addr) (rc : Nat) (rs : List Rw) (w : World) (hb : Rds w ra rs) (hl : rs.length ≤ maxLen) : Calls Try.prog 74 #[.slice ra rs.length rc, .int .i64 (m : Int)] w (RetB (vRds m rs) w) := by
  simp only [maxLen] at hl
  refine calls_run (fn := f74) (c := (f74.body).getD .skip) [.slice ra rs.length rc, .int .i64 (m : Int)] func74 (by kernel_rfl) (fun _ => False) [] (fun _ h => by cases h) (List.Pairwise.nil) 48 (by kernel_rfl) (by simp) ?_
  cases hd1 : (decide (8 < (rs.length : Int))) with
  | false =>
    have hp1 := of_decide_eq_false hd1
    refine run_auto [(9, .bool false)] 21 [false] [] [1, 4, 10, 11, 12] [] (st' := ⟨[(1, .int .i64 (m : Int)), (4, .bool false), (10, .slice ra rs.length rc), (11, .int .i64 (rs.length : Int)), (12, .int .i64 0)], []⟩) (acc := [(.bool false, .bool false), (.bool (decide (8 < (rs.length : Int))), .bool false)]) (by kernel_rfl) (by kernel_rfl) ⟨rfl, (bo hd1), trivial⟩ ?_
    refine run_auto [] 0 [] [] [1, 4, 10, 11, 12] [] (st' := ⟨[(1, .int .i64 (m : Int)), (4, .bool false), (10, .slice ra rs.length rc), (11, .int .i64 (rs.length : Int)), (12, .int .i64 0)], []⟩) (acc := []) (by kernel_rfl) (by kernel_rfl) trivial ?_
    refine run_loop (S := fun (k : Nat) => ⟨[(1, .int .i64 (m : Int)), (4, .bool false), (10, .slice ra rs.length rc), (11, .int .i64 (rs.length : Int)), (12, .int .i64 (k : Int))], []⟩) (fun k => k ≤ rs.length ∧ ∀ j, j < k → vRd m (elR rs j) = true) (fun k => rs.length - k) (0) (by kernel_rfl) (⟨Nat.zero_le _, fun _ h => by cases h⟩) (by kernel_rfl) (fun k hI0 J0 hJ0 => ?_)
    obtain ⟨hI1, hI2⟩ := hI0
    cases hd2 : (decide ((k : Int) < (rs.length : Int))) with
    | false =>
      have hp2 := of_decide_eq_false hd2
      refine run_auto [(13, .bool false)] 11 [false] [] [4] [] (st' := ⟨[(4, .bool true)], []⟩) (acc := [(.bool false, .bool false), (.bool (decide ((k : Int) < (rs.length : Int))), .bool false)]) (by kernel_rfl) (by kernel_rfl) ⟨rfl, (bo hd2), trivial⟩ ?_
      refine run_end (fn := f74) rfl (Nat.le_refl _) (by kernel_rfl) [] [.bool true] (e := []) (by kernel_rfl) trivial (fun w1 k1 h1 => ?_)
      have h : vRds m rs = true := by
        unfold vRds
        rw [all_yes (p := vRd m) (d := (0, 0, 0, 0, 0)) (fun j hj => hI2 j (by omega))]
        simp; omega
      exact ⟨by rw [h]; rfl, k1.keeps (fun _ h => h)⟩
    | true =>
      have hp2 := of_decide_eq_true hd2
      have hlt : k < rs.length := by omega
      obtain ⟨b, o, rfl, hc⟩ := hb (by intro h; rw [h] at hlt; cases hlt)
      have hc := hc k hlt
      refine run_auto [(13, .bool true)] 11 [true] [] [1, 4, 10, 11, 12] [] (st' := ⟨[(1, .int .i64 (m : Int)), (4, .bool false), (10, .slice (some ⟨b, o, none⟩) rs.length rc), (11, .int .i64 (rs.length : Int)), (12, .int .i64 (k : Int))], []⟩) (acc := [(.bool true, .bool true), (.bool (decide ((k : Int) < (rs.length : Int))), .bool true)]) (by kernel_rfl) (by kernel_rfl) ⟨rfl, (bo hd2), trivial⟩ ?_
      refine run_v (Instr.indexAt 28 (.slice (some ⟨b, o, none⟩) rs.length rc) (.int .i64 (k : Int)) >>= fun v => pure (Next.value v)) (some 14) (.pointer (some ⟨b, o + k * 5, none⟩)) (by kernel_rfl) (fun w1 k1 h1 => idx_run (e := 38) (n := 5) (by kernel_rfl) (by kernel_rfl) b o rs.length rc .i64 k hlt w1) ?_
      refine run_v (Instr.loadAt 38 (.pointer (some ⟨b, o + k * 5, none⟩)) >>= fun v => pure (Next.value v)) (some 15) (.agg #[.int .i64 (elR rs k).1, .int .i64 (elR rs k).2.1, .int .i64 (elR rs k).2.2.1, .int .i64 (elR rs k).2.2.2.1, .int .i64 (elR rs k).2.2.2.2]) (by kernel_rfl) (fun w1 k1 h1 => load_in (off := 0) k1 (fun h => h) [.int .i64 (elR rs k).1, .int .i64 (elR rs k).2.1, .int .i64 (elR rs k).2.2.1, .int .i64 (elR rs k).2.2.2.1, .int .i64 (elR rs k).2.2.2.2] (c5 hc.1 hc.2.1 hc.2.2.1 hc.2.2.2.1 hc.2.2.2.2) (by kernel_rfl)) ?_
      refine run_new (.cells #[.int .i64 0, .int .i64 0, .int .i64 0, .int .i64 0, .int .i64 0] 38 (0, 0)) (fun b1 => .pointer (some ⟨b1, 0, none⟩)) (some 6) (fun _ => by kernel_rfl) (fun b1 hb1 => ?_)
      refine run_auto [] 7 [] [0, 0] [1, 4, 10, 11, 12, 6, 17, 18] [0] (st' := ⟨[(1, .int .i64 (m : Int)), (4, .bool false), (10, .slice (some ⟨b, o, none⟩) rs.length rc), (11, .int .i64 (rs.length : Int)), (12, .int .i64 (k : Int)), (6, .pointer (some ⟨b1, 0, none⟩)), (17, .int .i64 (elR rs k).1), (18, .int .i64 (m : Int))], [(b1, .cells #[.int .i64 (elR rs k).1, .int .i64 (elR rs k).2.1, .int .i64 (elR rs k).2.2.1, .int .i64 (elR rs k).2.2.2.1, .int .i64 (elR rs k).2.2.2.2] 38 (0, 0))]⟩) (acc := [(.pointer (some ⟨b1, 0, none⟩), .pointer (some ⟨b1, 0, none⟩)), (.pointer (some ⟨b1, 0, none⟩), .pointer (some ⟨b1, 0, none⟩))]) (by kernel_rfl) (by kernel_rfl) ⟨rfl, rfl, trivial⟩ ?_
      cases hd3 : (blkB (elR rs k).1 (m : Int)) with
      | false =>
        refine run_ret1 75 #[.int .i64 (elR rs k).1, .int .i64 (m : Int)] (some 19) (.bool false) (by kernel_rfl) (fun w1 k1 h1 => (by have h := isBlock_any (elR rs k).1 (m : Int) w1; rw [hd3] at h; exact h)) ?_
        refine run_auto [(20, .bool true)] 33 [true] [] [1, 4, 10, 11, 12] [] (st' := ⟨[(1, .int .i64 (m : Int)), (4, .bool false), (10, .slice (some ⟨b, o, none⟩) rs.length rc), (11, .int .i64 (rs.length : Int)), (12, .int .i64 (k : Int))], []⟩) (acc := [(.bool true, .bool true), (.bool true, .bool true)]) (by kernel_rfl) (by kernel_rfl) ⟨rfl, rfl, trivial⟩ ?_
        refine run_end (fn := f74) rfl (Nat.le_refl _) (by kernel_rfl) [] [.bool false] (e := []) (by kernel_rfl) trivial (fun w1 k1 h1 => ?_)
        have h : vRds m rs = false := by
          unfold vRds
          rw [all_no (p := vRd m) (d := (0, 0, 0, 0, 0)) hlt (show vRd m (elR rs k) = false by simp [vRd, hd3])]
          simp
        exact ⟨by rw [h]; rfl, k1.keeps (fun _ h => h)⟩
      | true =>
        refine run_ret1 75 #[.int .i64 (elR rs k).1, .int .i64 (m : Int)] (some 19) (.bool true) (by kernel_rfl) (fun w1 k1 h1 => (by have h := isBlock_any (elR rs k).1 (m : Int) w1; rw [hd3] at h; exact h)) ?_
        refine run_auto [(20, .bool false)] 5 [] [0] [1, 4, 10, 11, 12, 6, 21, 23, 24] [0] (st' := ⟨[(1, .int .i64 (m : Int)), (4, .bool false), (10, .slice (some ⟨b, o, none⟩) rs.length rc), (11, .int .i64 (rs.length : Int)), (12, .int .i64 (k : Int)), (6, .pointer (some ⟨b1, 0, none⟩)), (21, .bool false), (23, .int .i64 (elR rs k).2.1), (24, .int .i64 (m : Int))], [(b1, .cells #[.int .i64 (elR rs k).1, .int .i64 (elR rs k).2.1, .int .i64 (elR rs k).2.2.1, .int .i64 (elR rs k).2.2.2.1, .int .i64 (elR rs k).2.2.2.2] 38 (0, 0))]⟩) (acc := [(.pointer (some ⟨b1, 0, none⟩), .pointer (some ⟨b1, 0, none⟩)), (.bool false, .bool false)]) (by kernel_rfl) (by kernel_rfl) ⟨rfl, rfl, trivial⟩ ?_
        cases hd4 : (blkB (elR rs k).2.1 (m : Int)) with
        | false =>
          refine run_ret1 75 #[.int .i64 (elR rs k).2.1, .int .i64 (m : Int)] (some 25) (.bool false) (by kernel_rfl) (fun w1 k1 h1 => (by have h := isBlock_any (elR rs k).2.1 (m : Int) w1; rw [hd4] at h; exact h)) ?_
          refine run_auto [(26, .bool true)] 27 [true] [] [1, 4, 10, 11, 12] [] (st' := ⟨[(1, .int .i64 (m : Int)), (4, .bool false), (10, .slice (some ⟨b, o, none⟩) rs.length rc), (11, .int .i64 (rs.length : Int)), (12, .int .i64 (k : Int))], []⟩) (acc := [(.bool true, .bool true), (.bool true, .bool true)]) (by kernel_rfl) (by kernel_rfl) ⟨rfl, rfl, trivial⟩ ?_
          refine run_end (fn := f74) rfl (Nat.le_refl _) (by kernel_rfl) [] [.bool false] (e := []) (by kernel_rfl) trivial (fun w1 k1 h1 => ?_)
          have h : vRds m rs = false := by
            unfold vRds
            rw [all_no (p := vRd m) (d := (0, 0, 0, 0, 0)) hlt (show vRd m (elR rs k) = false by simp [vRd, hd3, hd4])]
            simp
          exact ⟨by rw [h]; rfl, k1.keeps (fun _ h => h)⟩
        | true =>
          refine run_ret1 75 #[.int .i64 (elR rs k).2.1, .int .i64 (m : Int)] (some 25) (.bool true) (by kernel_rfl) (fun w1 k1 h1 => (by have h := isBlock_any (elR rs k).2.1 (m : Int) w1; rw [hd4] at h; exact h)) ?_
          cases hd5 : ((elR rs k).1 == (elR rs k).2.1) with
          | false =>
            have hp5 : ¬ (elR rs k).1 = (elR rs k).2.1 := by simpa using hd5
            refine run_auto [(26, .bool false), (33, .bool false)] 12 [] [0, 0, 0] [1, 4, 10, 11, 12, 6, 35, 37] [0] (st' := ⟨[(1, .int .i64 (m : Int)), (4, .bool false), (10, .slice (some ⟨b, o, none⟩) rs.length rc), (11, .int .i64 (rs.length : Int)), (12, .int .i64 (k : Int)), (6, .pointer (some ⟨b1, 0, none⟩)), (35, .bool false), (37, .int .i64 (elR rs k).2.2.1)], [(b1, .cells #[.int .i64 (elR rs k).1, .int .i64 (elR rs k).2.1, .int .i64 (elR rs k).2.2.1, .int .i64 (elR rs k).2.2.2.1, .int .i64 (elR rs k).2.2.2.2] 38 (0, 0))]⟩) (acc := [(.pointer (some ⟨b1, 0, none⟩), .pointer (some ⟨b1, 0, none⟩)), (.bool ((elR rs k).1 == (elR rs k).2.1), .bool false), (.pointer (some ⟨b1, 0, none⟩), .pointer (some ⟨b1, 0, none⟩)), (.pointer (some ⟨b1, 0, none⟩), .pointer (some ⟨b1, 0, none⟩)), (.bool false, .bool false)]) (by kernel_rfl) (by kernel_rfl) ⟨rfl, (bo hd5), rfl, rfl, rfl, trivial⟩ ?_
            cases hd6 : (minB (elR rs k).2.2.1) with
            | false =>
              refine run_ret1 78 #[.int .i64 (elR rs k).2.2.1] (some 38) (.bool false) (by kernel_rfl) (fun w1 k1 h1 => (by have h := isMinute_any (elR rs k).2.2.1 w1; rw [hd6] at h; exact h)) ?_
              refine run_auto [(39, .bool true)] 14 [true] [] [1, 4, 10, 11, 12] [] (st' := ⟨[(1, .int .i64 (m : Int)), (4, .bool false), (10, .slice (some ⟨b, o, none⟩) rs.length rc), (11, .int .i64 (rs.length : Int)), (12, .int .i64 (k : Int))], []⟩) (acc := [(.bool true, .bool true), (.bool true, .bool true)]) (by kernel_rfl) (by kernel_rfl) ⟨rfl, rfl, trivial⟩ ?_
              refine run_end (fn := f74) rfl (Nat.le_refl _) (by kernel_rfl) [] [.bool false] (e := []) (by kernel_rfl) trivial (fun w1 k1 h1 => ?_)
              have h : vRds m rs = false := by
                unfold vRds
                rw [all_no (p := vRd m) (d := (0, 0, 0, 0, 0)) hlt (show vRd m (elR rs k) = false by simp [vRd, hd3, hd4, hd5, hd6])]
                simp
              exact ⟨by rw [h]; rfl, k1.keeps (fun _ h => h)⟩
            | true =>
              refine run_ret1 78 #[.int .i64 (elR rs k).2.2.1] (some 38) (.bool true) (by kernel_rfl) (fun w1 k1 h1 => (by have h := isMinute_any (elR rs k).2.2.1 w1; rw [hd6] at h; exact h)) ?_
              refine run_auto [(39, .bool false)] 5 [] [0] [1, 4, 10, 11, 12, 41, 43] [] (st' := ⟨[(1, .int .i64 (m : Int)), (4, .bool false), (10, .slice (some ⟨b, o, none⟩) rs.length rc), (11, .int .i64 (rs.length : Int)), (12, .int .i64 (k : Int)), (41, .bool false), (43, .agg #[.int .i64 (elR rs k).2.2.2.1, .int .i64 (elR rs k).2.2.2.2])], []⟩) (acc := [(.pointer (some ⟨b1, 0, none⟩), .pointer (some ⟨b1, 0, none⟩)), (.bool false, .bool false)]) (by kernel_rfl) (by kernel_rfl) ⟨rfl, rfl, trivial⟩ ?_
              cases hd7 : (inS (elR rs k).2.2.2.1 (elR rs k).2.2.2.2 (-80) 80) with
              | false =>
                refine run_ret1 72 #[.agg #[.int .i64 (elR rs k).2.2.2.1, .int .i64 (elR rs k).2.2.2.2], .int .i64 (-80), .int .i64 80] (some 44) (.bool false) (by kernel_rfl) (fun w1 k1 h1 => (by have h := within_any (elR rs k).2.2.2.1 (elR rs k).2.2.2.2 (-80) 80 w1; rw [hd7] at h; exact h)) ?_
                refine run_auto [(45, .bool true)] 8 [true] [] [1, 4, 10, 11, 12] [] (st' := ⟨[(1, .int .i64 (m : Int)), (4, .bool false), (10, .slice (some ⟨b, o, none⟩) rs.length rc), (11, .int .i64 (rs.length : Int)), (12, .int .i64 (k : Int))], []⟩) (acc := [(.bool true, .bool true), (.bool true, .bool true)]) (by kernel_rfl) (by kernel_rfl) ⟨rfl, rfl, trivial⟩ ?_
                refine run_end (fn := f74) rfl (Nat.le_refl _) (by kernel_rfl) [] [.bool false] (e := []) (by kernel_rfl) trivial (fun w1 k1 h1 => ?_)
                have h : vRds m rs = false := by
                  unfold vRds
                  rw [all_no (p := vRd m) (d := (0, 0, 0, 0, 0)) hlt (show vRd m (elR rs k) = false by simp [vRd, hd3, hd4, hd5, hd6, hd7])]
                  simp
                exact ⟨by rw [h]; rfl, k1.keeps (fun _ h => h)⟩
              | true =>
                refine run_ret1 72 #[.agg #[.int .i64 (elR rs k).2.2.2.1, .int .i64 (elR rs k).2.2.2.2], .int .i64 (-80), .int .i64 80] (some 44) (.bool true) (by kernel_rfl) (fun w1 k1 h1 => (by have h := within_any (elR rs k).2.2.2.1 (elR rs k).2.2.2.2 (-80) 80 w1; rw [hd7] at h; exact h)) ?_
                refine run_auto [(45, .bool false), (47, .int .i64 ((k + 1 : Nat) : Int))] 10 [false] [] [1, 4, 10, 11, 12] [] (st' := ⟨[(1, .int .i64 (m : Int)), (4, .bool false), (10, .slice (some ⟨b, o, none⟩) rs.length rc), (11, .int .i64 (rs.length : Int)), (12, .int .i64 ((k + 1 : Nat) : Int))], []⟩) (acc := [(.int .i64 (IntKind.i64.wrap ((k : Int) + 1)), .int .i64 ((k + 1 : Nat) : Int)), (.bool false, .bool false), (.bool false, .bool false)]) (by kernel_rfl) (by kernel_rfl) ⟨(wr (by omega) (by omega)), rfl, rfl, trivial⟩ ?_
                exact run_round (by kernel_rfl) (hJ0 (k + 1) (⟨by omega, fun j hj => (Nat.lt_succ_iff_lt_or_eq.1 hj).elim (hI2 j) (fun h => h ▸ (by simp [vRd, hd3, hd4, hd5, hd6, hd7]))⟩) (by omega))
          | true =>
            have hp5 : (elR rs k).1 = (elR rs k).2.1 := by simpa using hd5
            refine run_auto [(26, .bool false), (33, .bool true)] 27 [true] [0, 0] [1, 4, 10, 11, 12] [] (st' := ⟨[(1, .int .i64 (m : Int)), (4, .bool false), (10, .slice (some ⟨b, o, none⟩) rs.length rc), (11, .int .i64 (rs.length : Int)), (12, .int .i64 (k : Int))], []⟩) (acc := [(.bool true, .bool true), (.bool ((elR rs k).1 == (elR rs k).2.1), .bool true), (.pointer (some ⟨b1, 0, none⟩), .pointer (some ⟨b1, 0, none⟩)), (.pointer (some ⟨b1, 0, none⟩), .pointer (some ⟨b1, 0, none⟩)), (.bool false, .bool false)]) (by kernel_rfl) (by kernel_rfl) ⟨rfl, (bo hd5), rfl, rfl, rfl, trivial⟩ ?_
            refine run_end (fn := f74) rfl (Nat.le_refl _) (by kernel_rfl) [] [.bool false] (e := []) (by kernel_rfl) trivial (fun w1 k1 h1 => ?_)
            have h : vRds m rs = false := by
              unfold vRds
              rw [all_no (p := vRd m) (d := (0, 0, 0, 0, 0)) hlt (show vRd m (elR rs k) = false by simp [vRd, hd3, hd4, hd5])]
              simp
            exact ⟨by rw [h]; rfl, k1.keeps (fun _ h => h)⟩
  | true =>
    have hp1 := of_decide_eq_true hd1
    refine run_auto [(9, .bool true)] 16 [true] [] [0, 1, 4] [] (st' := ⟨[(0, .slice ra rs.length rc), (1, .int .i64 (m : Int)), (4, .bool false)], []⟩) (acc := [(.bool true, .bool true), (.bool (decide (8 < (rs.length : Int))), .bool true)]) (by kernel_rfl) (by kernel_rfl) ⟨rfl, (bo hd1), trivial⟩ ?_
    refine run_end (fn := f74) rfl (Nat.le_refl _) (by kernel_rfl) [] [.bool false] (e := []) (by kernel_rfl) trivial (fun w1 k1 h1 => ?_)
    have h : vRds m rs = false := by
      simp [vRds]; omega
    exact ⟨by rw [h]; rfl, k1.keeps (fun _ h => h)⟩

set_option maxRecDepth 100000 in
theorem needPair_any (p : Pr) (w : World) (hp : p.In w) : Calls Try.prog 36 #[.agg #[.slice p.ba p.bs.length p.bc, .int .i64 p.zlo, .int .i64 p.zhi, .int .i64 p.rlo, .int .i64 p.rhi, .slice p.ra p.rs.length p.rc]] w (Need p.ok 1 w) := by
  refine calls_run (fn := f36) (c := (f36.body).getD .skip) [.agg #[.slice p.ba p.bs.length p.bc, .int .i64 p.zlo, .int .i64 p.zhi, .int .i64 p.rlo, .int .i64 p.rhi, .slice p.ra p.rs.length p.rc]] func36 (by kernel_rfl) (fun _ => False) [] (fun _ h => by cases h) (List.Pairwise.nil) 39 (by kernel_rfl) (by simp) ?_
  refine run_auto [] 2 [] [] [0] [] (st' := ⟨[(0, .agg #[.slice p.ba p.bs.length p.bc, .int .i64 p.zlo, .int .i64 p.zhi, .int .i64 p.rlo, .int .i64 p.rhi, .slice p.ra p.rs.length p.rc])], []⟩) (acc := []) (by kernel_rfl) (by kernel_rfl) trivial ?_
  refine run_new (.cells #[.slice p.ba p.bs.length p.bc, .int .i64 p.zlo, .int .i64 p.zhi, .int .i64 p.rlo, .int .i64 p.rhi, .slice p.ra p.rs.length p.rc] 30 (0, 0)) (fun b1 => .pointer (some ⟨b1, 0, none⟩)) (some 1) (fun _ => by kernel_rfl) (fun b1 hb1 => ?_)
  refine run_auto [] 5 [] [0] [1, 4] [0] (st' := ⟨[(1, .pointer (some ⟨b1, 0, none⟩)), (4, .slice p.ba p.bs.length p.bc)], [(b1, .cells #[.slice p.ba p.bs.length p.bc, .int .i64 p.zlo, .int .i64 p.zhi, .int .i64 p.rlo, .int .i64 p.rhi, .slice p.ra p.rs.length p.rc] 30 (0, 0))]⟩) (acc := [(.pointer (some ⟨b1, 0, none⟩), .pointer (some ⟨b1, 0, none⟩))]) (by kernel_rfl) (by kernel_rfl) ⟨rfl, trivial⟩ ?_
  cases hd1 : (vBls p.bs) with
  | false =>
    refine run_ret1 71 #[.slice p.ba p.bs.length p.bc] (some 5) (.bool false) (by kernel_rfl) (fun w1 k1 h1 => (by have h := validBlocks_any p.ba p.bc p.bs w1 (hp.keep (k1.keeps (fun _ h => h))).bl (hp.keep (k1.keeps (fun _ h => h))).ln; rw [hd1] at h; exact h)) ?_
    refine run_auto [(37, .bool true)] 40 [true] [] [38] [] (st' := ⟨[(38, .iface 24 (.int .i64 1))], []⟩) (acc := [(.bool true, .bool true), (.bool true, .bool true)]) (by kernel_rfl) (by kernel_rfl) ⟨rfl, rfl, trivial⟩ ?_
    have h : p.ok = false := by simp [Pr.ok, hd1]
    unfold Need
    try rw [h]
    exact run_panic rfl (Nat.le_refl _) (Instr.panic (.iface 24 (.int .i64 1)) >>= fun v => pure (Next.value v)) none (.iface 24 (.int .i64 1)) (by kernel_rfl) (fun w => by kernel_rfl) (fun w1 k1 h1 => ⟨rfl, k1.keeps (fun _ h => h)⟩)
  | true =>
    refine run_ret1 71 #[.slice p.ba p.bs.length p.bc] (some 5) (.bool true) (by kernel_rfl) (fun w1 k1 h1 => (by have h := validBlocks_any p.ba p.bc p.bs w1 (hp.keep (k1.keeps (fun _ h => h))).bl (hp.keep (k1.keeps (fun _ h => h))).ln; rw [hd1] at h; exact h)) ?_
    refine run_auto [] 3 [] [0] [1, 6, 8] [0] (st' := ⟨[(1, .pointer (some ⟨b1, 0, none⟩)), (6, .bool true), (8, .agg #[.int .i64 p.zlo, .int .i64 p.zhi])], [(b1, .cells #[.slice p.ba p.bs.length p.bc, .int .i64 p.zlo, .int .i64 p.zhi, .int .i64 p.rlo, .int .i64 p.rhi, .slice p.ra p.rs.length p.rc] 30 (0, 0))]⟩) (acc := [(.pointer (some ⟨b1, 0, none⟩), .pointer (some ⟨b1, 0, none⟩))]) (by kernel_rfl) (by kernel_rfl) ⟨rfl, trivial⟩ ?_
    cases hd2 : (inS p.zlo p.zhi (-10) 10) with
    | false =>
      refine run_ret1 72 #[.agg #[.int .i64 p.zlo, .int .i64 p.zhi], .int .i64 (-10), .int .i64 10] (some 9) (.bool false) (by kernel_rfl) (fun w1 k1 h1 => (by have h := within_any p.zlo p.zhi (-10) 10 w1; rw [hd2] at h; exact h)) ?_
      refine run_auto [(37, .bool true)] 36 [true] [] [38] [] (st' := ⟨[(38, .iface 24 (.int .i64 1))], []⟩) (acc := [(.bool true, .bool true), (.bool true, .bool true)]) (by kernel_rfl) (by kernel_rfl) ⟨rfl, rfl, trivial⟩ ?_
      have h : p.ok = false := by simp [Pr.ok, hd1, hd2]
      unfold Need
      try rw [h]
      exact run_panic rfl (Nat.le_refl _) (Instr.panic (.iface 24 (.int .i64 1)) >>= fun v => pure (Next.value v)) none (.iface 24 (.int .i64 1)) (by kernel_rfl) (fun w => by kernel_rfl) (fun w1 k1 h1 => ⟨rfl, k1.keeps (fun _ h => h)⟩)
    | true =>
      have hqhd2 := inS_bd hd2
      refine run_ret1 72 #[.agg #[.int .i64 p.zlo, .int .i64 p.zhi], .int .i64 (-10), .int .i64 10] (some 9) (.bool true) (by kernel_rfl) (fun w1 k1 h1 => (by have h := within_any p.zlo p.zhi (-10) 10 w1; rw [hd2] at h; exact h)) ?_
      refine run_auto [] 4 [] [0] [1, 11, 13] [0] (st' := ⟨[(1, .pointer (some ⟨b1, 0, none⟩)), (11, .bool true), (13, .agg #[.int .i64 p.zlo, .int .i64 p.zhi])], [(b1, .cells #[.slice p.ba p.bs.length p.bc, .int .i64 p.zlo, .int .i64 p.zhi, .int .i64 p.rlo, .int .i64 p.rhi, .slice p.ra p.rs.length p.rc] 30 (0, 0))]⟩) (acc := [(.pointer (some ⟨b1, 0, none⟩), .pointer (some ⟨b1, 0, none⟩))]) (by kernel_rfl) (by kernel_rfl) ⟨rfl, trivial⟩ ?_
      refine run_ret1 73 #[.agg #[.int .i64 p.zlo, .int .i64 p.zhi]] (some 14) (.int .i64 (p.zhi - p.zlo)) (by kernel_rfl) (fun w1 k1 h1 => wide_any p.zlo p.zhi (by omega) (by omega) (by omega) (by omega) w1) ?_
      cases hd3 : (decide ((p.zhi - p.zlo) ≤ 4)) with
      | false =>
        have hp3 := of_decide_eq_false hd3
        refine run_auto [(15, .bool false), (37, .bool true)] 31 [true] [] [38] [] (st' := ⟨[(38, .iface 24 (.int .i64 1))], []⟩) (acc := [(.bool true, .bool true), (.bool true, .bool true), (.bool (decide ((p.zhi - p.zlo) ≤ 4)), .bool false)]) (by kernel_rfl) (by kernel_rfl) ⟨rfl, rfl, (bo hd3), trivial⟩ ?_
        have h : p.ok = false := by simp [Pr.ok, hd1, hd2, hd3]
        unfold Need
        try rw [h]
        exact run_panic rfl (Nat.le_refl _) (Instr.panic (.iface 24 (.int .i64 1)) >>= fun v => pure (Next.value v)) none (.iface 24 (.int .i64 1)) (by kernel_rfl) (fun w => by kernel_rfl) (fun w1 k1 h1 => ⟨rfl, k1.keeps (fun _ h => h)⟩)
      | true =>
        have hp3 := of_decide_eq_true hd3
        refine run_auto [(15, .bool true)] 5 [] [0] [1, 17, 19] [0] (st' := ⟨[(1, .pointer (some ⟨b1, 0, none⟩)), (17, .bool true), (19, .agg #[.int .i64 p.rlo, .int .i64 p.rhi])], [(b1, .cells #[.slice p.ba p.bs.length p.bc, .int .i64 p.zlo, .int .i64 p.zhi, .int .i64 p.rlo, .int .i64 p.rhi, .slice p.ra p.rs.length p.rc] 30 (0, 0))]⟩) (acc := [(.pointer (some ⟨b1, 0, none⟩), .pointer (some ⟨b1, 0, none⟩)), (.bool (decide ((p.zhi - p.zlo) ≤ 4)), .bool true)]) (by kernel_rfl) (by kernel_rfl) ⟨rfl, (bo hd3), trivial⟩ ?_
        cases hd4 : (inS p.rlo p.rhi (-5) 5) with
        | false =>
          refine run_ret1 72 #[.agg #[.int .i64 p.rlo, .int .i64 p.rhi], .int .i64 (-5), .int .i64 5] (some 20) (.bool false) (by kernel_rfl) (fun w1 k1 h1 => (by have h := within_any p.rlo p.rhi (-5) 5 w1; rw [hd4] at h; exact h)) ?_
          refine run_auto [(37, .bool true)] 25 [true] [] [38] [] (st' := ⟨[(38, .iface 24 (.int .i64 1))], []⟩) (acc := [(.bool true, .bool true), (.bool true, .bool true)]) (by kernel_rfl) (by kernel_rfl) ⟨rfl, rfl, trivial⟩ ?_
          have h : p.ok = false := by simp [Pr.ok, hd1, hd2, hd3, hd4]
          unfold Need
          try rw [h]
          exact run_panic rfl (Nat.le_refl _) (Instr.panic (.iface 24 (.int .i64 1)) >>= fun v => pure (Next.value v)) none (.iface 24 (.int .i64 1)) (by kernel_rfl) (fun w => by kernel_rfl) (fun w1 k1 h1 => ⟨rfl, k1.keeps (fun _ h => h)⟩)
        | true =>
          have hqhd4 := inS_bd hd4
          refine run_ret1 72 #[.agg #[.int .i64 p.rlo, .int .i64 p.rhi], .int .i64 (-5), .int .i64 5] (some 20) (.bool true) (by kernel_rfl) (fun w1 k1 h1 => (by have h := within_any p.rlo p.rhi (-5) 5 w1; rw [hd4] at h; exact h)) ?_
          refine run_auto [] 4 [] [0] [1, 22, 24] [0] (st' := ⟨[(1, .pointer (some ⟨b1, 0, none⟩)), (22, .bool true), (24, .agg #[.int .i64 p.rlo, .int .i64 p.rhi])], [(b1, .cells #[.slice p.ba p.bs.length p.bc, .int .i64 p.zlo, .int .i64 p.zhi, .int .i64 p.rlo, .int .i64 p.rhi, .slice p.ra p.rs.length p.rc] 30 (0, 0))]⟩) (acc := [(.pointer (some ⟨b1, 0, none⟩), .pointer (some ⟨b1, 0, none⟩))]) (by kernel_rfl) (by kernel_rfl) ⟨rfl, trivial⟩ ?_
          refine run_ret1 73 #[.agg #[.int .i64 p.rlo, .int .i64 p.rhi]] (some 25) (.int .i64 (p.rhi - p.rlo)) (by kernel_rfl) (fun w1 k1 h1 => wide_any p.rlo p.rhi (by omega) (by omega) (by omega) (by omega) w1) ?_
          cases hd5 : (decide ((p.rhi - p.rlo) ≤ 4)) with
          | false =>
            have hp5 := of_decide_eq_false hd5
            refine run_auto [(26, .bool false), (37, .bool true)] 20 [true] [] [38] [] (st' := ⟨[(38, .iface 24 (.int .i64 1))], []⟩) (acc := [(.bool true, .bool true), (.bool true, .bool true), (.bool (decide ((p.rhi - p.rlo) ≤ 4)), .bool false)]) (by kernel_rfl) (by kernel_rfl) ⟨rfl, rfl, (bo hd5), trivial⟩ ?_
            have h : p.ok = false := by simp [Pr.ok, hd1, hd2, hd3, hd4, hd5]
            unfold Need
            try rw [h]
            exact run_panic rfl (Nat.le_refl _) (Instr.panic (.iface 24 (.int .i64 1)) >>= fun v => pure (Next.value v)) none (.iface 24 (.int .i64 1)) (by kernel_rfl) (fun w => by kernel_rfl) (fun w1 k1 h1 => ⟨rfl, k1.keeps (fun _ h => h)⟩)
          | true =>
            have hp5 := of_decide_eq_true hd5
            refine run_auto [(26, .bool true)] 8 [] [0, 0] [28, 30, 33] [] (st' := ⟨[(28, .bool true), (30, .slice p.ra p.rs.length p.rc), (33, .int .i64 (p.bs.length : Int))], []⟩) (acc := [(.pointer (some ⟨b1, 0, none⟩), .pointer (some ⟨b1, 0, none⟩)), (.pointer (some ⟨b1, 0, none⟩), .pointer (some ⟨b1, 0, none⟩)), (.bool (decide ((p.rhi - p.rlo) ≤ 4)), .bool true)]) (by kernel_rfl) (by kernel_rfl) ⟨rfl, rfl, (bo hd5), trivial⟩ ?_
            cases hd6 : (vRds p.bs.length p.rs) with
            | false =>
              refine run_ret1 74 #[.slice p.ra p.rs.length p.rc, .int .i64 (p.bs.length : Int)] (some 34) (.bool false) (by kernel_rfl) (fun w1 k1 h1 => (by have h := validReads_any p.bs.length p.ra p.rc p.rs w1 (hp.keep (k1.keeps (fun _ h => h))).rd (hp.keep (k1.keeps (fun _ h => h))).lr; rw [hd6] at h; exact h)) ?_
              refine run_auto [(37, .bool true)] 11 [true] [] [38] [] (st' := ⟨[(38, .iface 24 (.int .i64 1))], []⟩) (acc := [(.bool true, .bool true), (.bool true, .bool true)]) (by kernel_rfl) (by kernel_rfl) ⟨rfl, rfl, trivial⟩ ?_
              have h : p.ok = false := by simp [Pr.ok, hd1, hd2, hd3, hd4, hd5, hd6]
              unfold Need
              try rw [h]
              exact run_panic rfl (Nat.le_refl _) (Instr.panic (.iface 24 (.int .i64 1)) >>= fun v => pure (Next.value v)) none (.iface 24 (.int .i64 1)) (by kernel_rfl) (fun w => by kernel_rfl) (fun w1 k1 h1 => ⟨rfl, k1.keeps (fun _ h => h)⟩)
            | true =>
              refine run_ret1 74 #[.slice p.ra p.rs.length p.rc, .int .i64 (p.bs.length : Int)] (some 34) (.bool true) (by kernel_rfl) (fun w1 k1 h1 => (by have h := validReads_any p.bs.length p.ra p.rc p.rs w1 (hp.keep (k1.keeps (fun _ h => h))).rd (hp.keep (k1.keeps (fun _ h => h))).lr; rw [hd6] at h; exact h)) ?_
              refine run_auto [(37, .bool false)] 10 [false] [] [] [] (st' := ⟨[], []⟩) (acc := [(.bool false, .bool false), (.bool false, .bool false)]) (by kernel_rfl) (by kernel_rfl) ⟨rfl, rfl, trivial⟩ ?_
              refine run_end (fn := f36) rfl (Nat.le_refl _) (by kernel_rfl) [] [] (e := []) (by kernel_rfl) trivial (fun w1 k1 h1 => ?_)
              have h : p.ok = true := by simp [Pr.ok, hd1, hd2, hd3, hd4, hd5, hd6]
              unfold Need
              try rw [h]
              exact ⟨rfl, k1.keeps (fun _ h => h)⟩

set_option maxRecDepth 100000 in
theorem needBlock_any (p : Pr) (n : Int) (w : World)  : Calls Try.prog 37 #[.agg #[.slice p.ba p.bs.length p.bc, .int .i64 p.zlo, .int .i64 p.zhi, .int .i64 p.rlo, .int .i64 p.rhi, .slice p.ra p.rs.length p.rc], .int .i64 n] w (Need (blkB n p.bs.length) 2 w) := by
  refine calls_run (fn := f37) (c := (f37.body).getD .skip) [.agg #[.slice p.ba p.bs.length p.bc, .int .i64 p.zlo, .int .i64 p.zhi, .int .i64 p.rlo, .int .i64 p.rhi, .slice p.ra p.rs.length p.rc], .int .i64 n] func37 (by kernel_rfl) (fun _ => False) [] (fun _ h => by cases h) (List.Pairwise.nil) 11 (by kernel_rfl) (by simp) ?_
  refine run_auto [] 2 [] [] [0, 1] [] (st' := ⟨[(0, .agg #[.slice p.ba p.bs.length p.bc, .int .i64 p.zlo, .int .i64 p.zhi, .int .i64 p.rlo, .int .i64 p.rhi, .slice p.ra p.rs.length p.rc]), (1, .int .i64 n)], []⟩) (acc := []) (by kernel_rfl) (by kernel_rfl) trivial ?_
  refine run_new (.cells #[.slice p.ba p.bs.length p.bc, .int .i64 p.zlo, .int .i64 p.zhi, .int .i64 p.rlo, .int .i64 p.rhi, .slice p.ra p.rs.length p.rc] 30 (0, 0)) (fun b1 => .pointer (some ⟨b1, 0, none⟩)) (some 2) (fun _ => by kernel_rfl) (fun b1 hb1 => ?_)
  refine run_auto [] 7 [] [0] [4, 7] [] (st' := ⟨[(4, .int .i64 n), (7, .int .i64 (p.bs.length : Int))], []⟩) (acc := [(.pointer (some ⟨b1, 0, none⟩), .pointer (some ⟨b1, 0, none⟩))]) (by kernel_rfl) (by kernel_rfl) ⟨rfl, trivial⟩ ?_
  cases hd1 : (blkB n (p.bs.length : Int)) with
  | false =>
    refine run_ret1 75 #[.int .i64 n, .int .i64 (p.bs.length : Int)] (some 8) (.bool false) (by kernel_rfl) (fun w1 k1 h1 => (by have h := isBlock_any n (p.bs.length : Int) w1; rw [hd1] at h; exact h)) ?_
    refine run_auto [(9, .bool true)] 5 [true] [] [10] [] (st' := ⟨[(10, .iface 24 (.int .i64 2))], []⟩) (acc := [(.bool true, .bool true), (.bool true, .bool true)]) (by kernel_rfl) (by kernel_rfl) ⟨rfl, rfl, trivial⟩ ?_
    have h : blkB n p.bs.length = false := by simp [hd1]
    unfold Need
    try rw [h]
    exact run_panic rfl (Nat.le_refl _) (Instr.panic (.iface 24 (.int .i64 2)) >>= fun v => pure (Next.value v)) none (.iface 24 (.int .i64 2)) (by kernel_rfl) (fun w => by kernel_rfl) (fun w1 k1 h1 => ⟨rfl, k1.keeps (fun _ h => h)⟩)
  | true =>
    refine run_ret1 75 #[.int .i64 n, .int .i64 (p.bs.length : Int)] (some 8) (.bool true) (by kernel_rfl) (fun w1 k1 h1 => (by have h := isBlock_any n (p.bs.length : Int) w1; rw [hd1] at h; exact h)) ?_
    refine run_auto [(9, .bool false)] 4 [false] [] [] [] (st' := ⟨[], []⟩) (acc := [(.bool false, .bool false), (.bool false, .bool false)]) (by kernel_rfl) (by kernel_rfl) ⟨rfl, rfl, trivial⟩ ?_
    refine run_end (fn := f37) rfl (Nat.le_refl _) (by kernel_rfl) [] [] (e := []) (by kernel_rfl) trivial (fun w1 k1 h1 => ?_)
    have h : blkB n p.bs.length = true := by simp [hd1]
    unfold Need
    try rw [h]
    exact ⟨rfl, k1.keeps (fun _ h => h)⟩

set_option maxRecDepth 100000 in
theorem needMinute_any (n : Int) (w : World)  : Calls Try.prog 44 #[.int .i64 n] w (Need (minB n) 2 w) := by
  refine calls_run (fn := f44) (c := (f44.body).getD .skip) [.int .i64 n] func44 (by kernel_rfl) (fun _ => False) [] (fun _ h => by cases h) (List.Pairwise.nil) 6 (by kernel_rfl) (by simp) ?_
  refine run_auto [] 3 [] [] [2] [] (st' := ⟨[(2, .int .i64 n)], []⟩) (acc := []) (by kernel_rfl) (by kernel_rfl) trivial ?_
  cases hd1 : (minB n) with
  | false =>
    refine run_ret1 78 #[.int .i64 n] (some 3) (.bool false) (by kernel_rfl) (fun w1 k1 h1 => (by have h := isMinute_any n w1; rw [hd1] at h; exact h)) ?_
    refine run_auto [(4, .bool true)] 5 [true] [] [5] [] (st' := ⟨[(5, .iface 24 (.int .i64 2))], []⟩) (acc := [(.bool true, .bool true), (.bool true, .bool true)]) (by kernel_rfl) (by kernel_rfl) ⟨rfl, rfl, trivial⟩ ?_
    have h : minB n = false := by simp [hd1]
    unfold Need
    try rw [h]
    exact run_panic rfl (Nat.le_refl _) (Instr.panic (.iface 24 (.int .i64 2)) >>= fun v => pure (Next.value v)) none (.iface 24 (.int .i64 2)) (by kernel_rfl) (fun w => by kernel_rfl) (fun w1 k1 h1 => ⟨rfl, k1.keeps (fun _ h => h)⟩)
  | true =>
    refine run_ret1 78 #[.int .i64 n] (some 3) (.bool true) (by kernel_rfl) (fun w1 k1 h1 => (by have h := isMinute_any n w1; rw [hd1] at h; exact h)) ?_
    refine run_auto [(4, .bool false)] 4 [false] [] [] [] (st' := ⟨[], []⟩) (acc := [(.bool false, .bool false), (.bool false, .bool false)]) (by kernel_rfl) (by kernel_rfl) ⟨rfl, rfl, trivial⟩ ?_
    refine run_end (fn := f44) rfl (Nat.le_refl _) (by kernel_rfl) [] [] (e := []) (by kernel_rfl) trivial (fun w1 k1 h1 => ?_)
    have h : minB n = true := by simp [hd1]
    unfold Need
    try rw [h]
    exact ⟨rfl, k1.keeps (fun _ h => h)⟩

end Go.Proofs.Ytmiobcnccbfknaa
