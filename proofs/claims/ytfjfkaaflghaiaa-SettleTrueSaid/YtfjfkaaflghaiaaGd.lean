/-
  SETTLE: excesses, both ends of what they can be.
  SETTLE: a settle in memory; what is valid.
  SETTLE: heats; both ends of an excess in a moment.
  SETTLE: both ends in a moment, kept in a map.
-/
import Derived.Test.YtfjfkaaflghaiaaGb
import Derived.Test.YtfjfkaaflghaiaaRows
import Derived.Test.YtfjfkaaflghaiaaGc
namespace Go.Proofs.Ytfjfkaaflghaiaa
open Go.RowKit Go.Proofs.Try
attribute [local irreducible] Run wpK


abbrev pe (k : Int) : List PanicEntry := [{ v := .iface 27 (.int .i64 k), recovered := false }]
def Pan (k : Int) (w : World) (e : Ending) (w' : World) : Prop := e = .panicked (pe k) ∧ Keeps w w'
/-- What must be so, or it panics with k. -/
def Need (b : Bool) (k : Int) (w : World) (e : Ending) (w' : World) : Prop := bif b then Ret (.tuple #[]) w e w' else Pan k w e w'
def erA {α : Type} (r : Sum Int α) : Int := match r with
  | .inl k => k
  | .inr _ => 0

theorem quo_run {P : Program} {w : World} {t : TypeId} (x y : Int) (h0 : 0 ≤ x) (h1 : x ≤ 4611686018427387904) (hy : 0 < y) : (binOp .quo t (.int .i64 x) (.int .i64 y) >>= fun v => pure (Next.value v)).run P w = .ok (.value (.int .i64 (x / y))) w := by
  have hne : ¬ y = 0 := by omega
  have e : x.tdiv y = x / y := Int.tdiv_eq_ediv_of_nonneg h0
  have h3 : 0 ≤ x / y := Int.ediv_nonneg h0 (by omega)
  have h4 : x / y ≤ x := Int.ediv_le_self y h0
  have h5 : IntKind.i64.wrap (x.tdiv y) = x / y := by rw [e]; exact IntWalk.i64_in _ ⟨by omega, by omega⟩
  simp [binOp, Op.intDiv, hne, h5]
set_option maxRecDepth 100000 in
theorem up_any (x k : Int) (x0 : 0 ≤ x) (x1 : x ≤ 1000000) (ka : 1 ≤ k) (kb : k ≤ 1000) (w : World)  : Calls Try.prog 124 #[.int .i64 x, .int .i64 k] w (RetI ((x + k - 1) / k) w) := by
  refine calls_run (fn := f124) (c := (f124.body).getD .skip) [.int .i64 x, .int .i64 k] func124 (by kernel_rfl) (fun _ => False) [] (fun _ h => by cases h) (List.Pairwise.nil) 11 (by kernel_rfl) (by simp) ?_
  refine run_auto [(7, iV (x + k)), (8, iV ((x + k) - 1))] 11 [] [] [4, 8, 9] [] (st' := ⟨[(4, iV 0), (8, iV ((x + k) - 1)), (9, iV k)], []⟩) (acc := [(iV (IntKind.i64.wrap ((x + k) - 1)), iV ((x + k) - 1)), (iV (IntKind.i64.wrap (x + k)), iV (x + k))]) (by kernel_rfl) (by kernel_rfl) ⟨(wr (by omega) (by omega)), (wr (by omega) (by omega)), trivial⟩ ?_
  refine run_v (binOp .quo 68 (iV ((x + k) - 1)) (iV k) >>= fun v => pure (Next.value v)) (some 10) (iV (((x + k) - 1) / k)) (by kernel_rfl) (fun w1 k1 h1 => quo_run ((x + k) - 1) k (by omega) (by omega) (by omega)) ?_
  refine run_auto [] 2 [] [] [4] [] (st' := ⟨[(4, iV (((x + k) - 1) / k))], []⟩) (acc := []) (by kernel_rfl) (by kernel_rfl) trivial ?_
  refine run_end (fn := f124) rfl (Nat.le_refl _) (by kernel_rfl) [] [iV (((x + k) - 1) / k)] (e := []) (by kernel_rfl) trivial (fun w1 k1 h1 => ?_)
  exact ⟨rfl, k1.keeps (fun _ h => h)⟩

set_option maxRecDepth 100000 in
theorem fallen0_any (x k : Int) (x0 : 0 ≤ x) (x1 : x ≤ 1000000) (ka : 1 ≤ k) (kb : k ≤ 1000) (w : World)  : Calls Try.prog 123 #[.int .i64 x, .int .i64 k] w (RetI (fallP x k) w) := by
  have hub := up_bd x0 ka
  refine calls_run (fn := f123) (c := (f123.body).getD .skip) [.int .i64 x, .int .i64 k] func123 (by kernel_rfl) (fun _ => False) [] (fun _ h => by cases h) (List.Pairwise.nil) 17 (by kernel_rfl) (by simp) ?_
  cases hd1 : (decide (x < 0)) with
  | false =>
    have hp1 := of_decide_eq_false hd1
    refine run_auto [(6, .bool false)] 17 [false] [] [4, 12, 13, 14] [] (st' := ⟨[(4, iV 0), (12, iV x), (13, iV x), (14, iV k)], []⟩) (acc := [(.bool false, .bool false), (.bool (decide (x < 0)), .bool false)]) (by kernel_rfl) (by kernel_rfl) ⟨rfl, (bo hd1), trivial⟩ ?_
    refine run_ret1 124 #[iV x, iV k] (some 15) (iV ((x + k - 1) / k)) (by kernel_rfl) (fun w1 k1 h1 => up_any x k (by omega) (by omega) (by omega) (by omega) w1) ?_
    refine run_auto [(16, iV (x - ((x + k - 1) / k)))] 3 [] [] [4] [] (st' := ⟨[(4, iV (x - ((x + k - 1) / k)))], []⟩) (acc := [(iV (IntKind.i64.wrap (x - ((x + k - 1) / k))), iV (x - ((x + k - 1) / k)))]) (by kernel_rfl) (by kernel_rfl) ⟨(wr (by omega) (by omega)), trivial⟩ ?_
    refine run_end (fn := f123) rfl (Nat.le_refl _) (by kernel_rfl) [] [iV (x - ((x + k - 1) / k))] (e := []) (by kernel_rfl) trivial (fun w1 k1 h1 => ?_)
    exact ⟨rfl, k1.keeps (fun _ h => h)⟩
  | true =>
    have hp1 := of_decide_eq_true hd1
    exfalso
    omega

set_option maxRecDepth 100000 in
theorem fallen_any (x k : Int) (x0 : -1000000 ≤ x) (x1 : x ≤ 1000000) (ka : 1 ≤ k) (kb : k ≤ 1000) (w : World)  : Calls Try.prog 123 #[.int .i64 x, .int .i64 k] w (RetI (fall x k) w) := by
  refine calls_run (fn := f123) (c := (f123.body).getD .skip) [.int .i64 x, .int .i64 k] func123 (by kernel_rfl) (fun _ => False) [] (fun _ h => by cases h) (List.Pairwise.nil) 17 (by kernel_rfl) (by simp) ?_
  cases hd1 : (decide (x < 0)) with
  | false =>
    have hp1 := of_decide_eq_false hd1
    have hub := up_bd (x := x) (k := k) (by omega) ka
    refine run_auto [(6, .bool false)] 17 [false] [] [4, 12, 13, 14] [] (st' := ⟨[(4, iV 0), (12, iV x), (13, iV x), (14, iV k)], []⟩) (acc := [(.bool false, .bool false), (.bool (decide (x < 0)), .bool false)]) (by kernel_rfl) (by kernel_rfl) ⟨rfl, (bo hd1), trivial⟩ ?_
    refine run_ret1 124 #[iV x, iV k] (some 15) (iV ((x + k - 1) / k)) (by kernel_rfl) (fun w1 k1 h1 => up_any x k (by omega) (by omega) (by omega) (by omega) w1) ?_
    refine run_auto [(16, iV (x - ((x + k - 1) / k)))] 3 [] [] [4] [] (st' := ⟨[(4, iV (x - ((x + k - 1) / k)))], []⟩) (acc := [(iV (IntKind.i64.wrap (x - ((x + k - 1) / k))), iV (x - ((x + k - 1) / k)))]) (by kernel_rfl) (by kernel_rfl) ⟨(wr (by omega) (by omega)), trivial⟩ ?_
    refine run_end (fn := f123) rfl (Nat.le_refl _) (by kernel_rfl) [] [iV (x - ((x + k - 1) / k))] (e := []) (by kernel_rfl) trivial (fun w1 k1 h1 => ?_)
    exact ⟨by unfold fall; rw [if_neg (by omega)]; rfl, k1.keeps (fun _ h => h)⟩
  | true =>
    have hp1 := of_decide_eq_true hd1
    have hub := fallP_bd (x := -x) (k := k) (by omega) ka
    refine run_auto [(6, .bool true), (8, iV (-x))] 16 [true] [] [0, 1, 4, 8, 9] [] (st' := ⟨[(0, iV x), (1, iV k), (4, iV 0), (8, iV (-x)), (9, iV k)], []⟩) (acc := [(iV (IntKind.i64.wrap (0 - x)), iV (-x)), (.bool true, .bool true), (.bool (decide (x < 0)), .bool true)]) (by kernel_rfl) (by kernel_rfl) ⟨((wr (by omega) (by omega)).trans (io (by omega))), rfl, (bo hd1), trivial⟩ ?_
    refine run_ret1 123 #[iV (-x), iV k] (some 10) (iV (fallP (-x) k)) (by kernel_rfl) (fun w1 k1 h1 => fallen0_any (-x) k (by omega) (by omega) ka kb w1) ?_
    refine run_auto [(11, iV (-(fallP (-x) k)))] 3 [] [] [0, 1, 4] [] (st' := ⟨[(0, iV x), (1, iV k), (4, iV (-(fallP (-x) k)))], []⟩) (acc := [(iV (IntKind.i64.wrap (0 - (fallP (-x) k))), iV (-(fallP (-x) k)))]) (by kernel_rfl) (by kernel_rfl) ⟨((wr (by omega) (by omega)).trans (io (by omega))), trivial⟩ ?_
    refine run_end (fn := f123) rfl (Nat.le_refl _) (by kernel_rfl) [] [iV (-(fallP (-x) k))] (e := []) (by kernel_rfl) trivial (fun w1 k1 h1 => ?_)
    exact ⟨by unfold fall; rw [if_pos (by omega)]; rfl, k1.keeps (fun _ h => h)⟩

set_option maxRecDepth 100000 in
theorem cold_any (x n : Int) (n0 : 0 ≤ n) (n1 : n ≤ 1000000) (w : World)  : Calls Try.prog 98 #[.int .i64 x, .int .i64 n] w (RetB (decide (x < -n)) w) := by
  refine calls_run (fn := f98) (c := (f98.body).getD .skip) [.int .i64 x, .int .i64 n] func98 (by kernel_rfl) (fun _ => False) [] (fun _ h => by cases h) (List.Pairwise.nil) 9 (by kernel_rfl) (by simp) ?_
  refine run_auto [(7, iV (-n))] 12 [] [] [4] [] (st' := ⟨[(4, .bool (decide (x < (-n))))], []⟩) (acc := [(iV (IntKind.i64.wrap (0 - n)), iV (-n))]) (by kernel_rfl) (by kernel_rfl) ⟨((wr (by omega) (by omega)).trans (io (by omega))), trivial⟩ ?_
  refine run_end (fn := f98) rfl (Nat.le_refl _) (by kernel_rfl) [] [.bool (decide (x < (-n)))] (e := []) (by kernel_rfl) trivial (fun w1 k1 h1 => ?_)
  exact ⟨rfl, k1.keeps (fun _ h => h)⟩

set_option maxRecDepth 100000 in
theorem hot_any (x n : Int) (w : World)  : Calls Try.prog 99 #[.int .i64 x, .int .i64 n] w (RetB (decide (n < x)) w) := by
  refine calls_run (fn := f99) (c := (f99.body).getD .skip) [.int .i64 x, .int .i64 n] func99 (by kernel_rfl) (fun _ => False) [] (fun _ h => by cases h) (List.Pairwise.nil) 8 (by kernel_rfl) (by simp) ?_
  refine run_auto [] 11 [] [] [4] [] (st' := ⟨[(4, .bool (decide (n < x)))], []⟩) (acc := []) (by kernel_rfl) (by kernel_rfl) trivial ?_
  refine run_end (fn := f99) rfl (Nat.le_refl _) (by kernel_rfl) [] [.bool (decide (n < x))] (e := []) (by kernel_rfl) trivial (fun w1 k1 h1 => ?_)
  exact ⟨rfl, k1.keeps (fun _ h => h)⟩

set_option maxRecDepth 100000 in
theorem near_any (x n : Int) (n0 : 0 ≤ n) (n1 : n ≤ 1000000) (w : World)  : Calls Try.prog 97 #[.int .i64 x, .int .i64 n] w (RetB (decide (-n ≤ x ∧ x ≤ n)) w) := by
  refine calls_run (fn := f97) (c := (f97.body).getD .skip) [.int .i64 x, .int .i64 n] func97 (by kernel_rfl) (fun _ => False) [] (fun _ h => by cases h) (List.Pairwise.nil) 15 (by kernel_rfl) (by simp) ?_
  refine run_auto [] 8 [] [] [0, 1, 4, 5, 6] [] (st' := ⟨[(0, iV x), (1, iV n), (4, .bool false), (5, iV x), (6, iV n)], []⟩) (acc := []) (by kernel_rfl) (by kernel_rfl) trivial ?_
  cases hd1 : (decide (x < -n)) with
  | false =>
    have hp1 := of_decide_eq_false hd1
    refine run_ret1 98 #[iV x, iV n] (some 7) (.bool false) (by kernel_rfl) (fun w1 k1 h1 => (by have h := cold_any x n (by omega) (by omega) w1; rw [hd1] at h; exact h)) ?_
    refine run_auto [(8, .bool true)] 4 [] [] [4, 9, 10, 11] [] (st' := ⟨[(4, .bool false), (9, .bool true), (10, iV x), (11, iV n)], []⟩) (acc := [(.bool true, .bool true)]) (by kernel_rfl) (by kernel_rfl) ⟨rfl, trivial⟩ ?_
    cases hd2 : (decide (n < x)) with
    | false =>
      have hp2 := of_decide_eq_false hd2
      refine run_ret1 99 #[iV x, iV n] (some 12) (.bool false) (by kernel_rfl) (fun w1 k1 h1 => (by have h := hot_any x n w1; rw [hd2] at h; exact h)) ?_
      refine run_auto [(13, .bool true)] 4 [] [] [4] [] (st' := ⟨[(4, .bool true)], []⟩) (acc := [(.bool true, .bool true)]) (by kernel_rfl) (by kernel_rfl) ⟨rfl, trivial⟩ ?_
      refine run_end (fn := f97) rfl (Nat.le_refl _) (by kernel_rfl) [] [.bool true] (e := []) (by kernel_rfl) trivial (fun w1 k1 h1 => ?_)
      exact ⟨by rw [show decide (-n ≤ x ∧ x ≤ n) = true from decide_eq_true (by omega)]; rfl, k1.keeps (fun _ h => h)⟩
    | true =>
      have hp2 := of_decide_eq_true hd2
      refine run_ret1 99 #[iV x, iV n] (some 12) (.bool true) (by kernel_rfl) (fun w1 k1 h1 => (by have h := hot_any x n w1; rw [hd2] at h; exact h)) ?_
      refine run_auto [(13, .bool false)] 4 [] [] [4] [] (st' := ⟨[(4, .bool false)], []⟩) (acc := [(.bool false, .bool false)]) (by kernel_rfl) (by kernel_rfl) ⟨rfl, trivial⟩ ?_
      refine run_end (fn := f97) rfl (Nat.le_refl _) (by kernel_rfl) [] [.bool false] (e := []) (by kernel_rfl) trivial (fun w1 k1 h1 => ?_)
      exact ⟨by rw [show decide (-n ≤ x ∧ x ≤ n) = false from decide_eq_false (by omega)]; rfl, k1.keeps (fun _ h => h)⟩
  | true =>
    have hp1 := of_decide_eq_true hd1
    refine run_ret1 98 #[iV x, iV n] (some 7) (.bool true) (by kernel_rfl) (fun w1 k1 h1 => (by have h := cold_any x n (by omega) (by omega) w1; rw [hd1] at h; exact h)) ?_
    refine run_auto [(8, .bool false)] 9 [] [] [4] [] (st' := ⟨[(4, .bool false)], []⟩) (acc := [(.bool false, .bool false)]) (by kernel_rfl) (by kernel_rfl) ⟨rfl, trivial⟩ ?_
    refine run_end (fn := f97) rfl (Nat.le_refl _) (by kernel_rfl) [] [.bool false] (e := []) (by kernel_rfl) trivial (fun w1 k1 h1 => ?_)
    exact ⟨by rw [show decide (-n ≤ x ∧ x ≤ n) = false from decide_eq_false (by omega)]; rfl, k1.keeps (fun _ h => h)⟩


theorem tmod_bd (n : Int) : -10 < n.tmod 10 ∧ n.tmod 10 < 10 := by
  rcases Int.lt_or_le n 0 with h | h
  · have e : n.tmod 10 = -((-n) % 10) := by
      have := Int.neg_tmod (-n) 10
      rw [Int.neg_neg, Int.tmod_eq_emod_of_nonneg (a := -n) (by omega)] at this
      exact this
    omega
  · rw [Int.tmod_eq_emod_of_nonneg h]
    omega
theorem tdv {x : Int} (h1 : -1000000000000 ≤ x) (h2 : x ≤ 1000000000000) : Value.int .i64 (IntKind.i64.wrap (x.tdiv 10)) = .int .i64 (x.tdiv 10) := by
  have h3 := Int.mul_tdiv_add_tmod x 10
  have h4 := tmod_bd x
  exact wr (by omega) (by omega)
set_option maxRecDepth 100000 in
theorem down_any (n : Int) (n0 : -1000000000 ≤ n) (n1 : n ≤ 1000000000) (w : World)  : Calls Try.prog 95 #[.int .i64 n, .int .i64 10] w (RetI (dwn n) w) := by
  have htb := tmod_bd n
  have htc := tmod_bd (n.tmod 10 + 10)
  refine calls_run (fn := f95) (c := (f95.body).getD .skip) [.int .i64 n, .int .i64 10] func95 (by kernel_rfl) (fun _ => False) [] (fun _ h => by cases h) (List.Pairwise.nil) 18 (by kernel_rfl) (by simp) ?_
  refine run_auto [(10, iV ((Int.tmod n 10) + 10)), (15, iV (n - (Int.tmod ((Int.tmod n 10) + 10) 10))), (17, iV (Int.tdiv (n - (Int.tmod ((Int.tmod n 10) + 10) 10)) 10))] 24 [] [] [4] [] (st' := ⟨[(4, iV (Int.tdiv (n - (Int.tmod ((Int.tmod n 10) + 10) 10)) 10))], []⟩) (acc := [(iV (IntKind.i64.wrap (Int.tdiv (n - (Int.tmod ((Int.tmod n 10) + 10) 10)) 10)), iV (Int.tdiv (n - (Int.tmod ((Int.tmod n 10) + 10) 10)) 10)), (iV (IntKind.i64.wrap (n - (Int.tmod ((Int.tmod n 10) + 10) 10))), iV (n - (Int.tmod ((Int.tmod n 10) + 10) 10))), (iV (IntKind.i64.wrap ((Int.tmod n 10) + 10)), iV ((Int.tmod n 10) + 10))]) (by kernel_rfl) (by kernel_rfl) ⟨(tdv (by omega) (by omega)), (wr (by omega) (by omega)), (wr (by omega) (by omega)), trivial⟩ ?_
  refine run_end (fn := f95) rfl (Nat.le_refl _) (by kernel_rfl) [] [iV (Int.tdiv (n - (Int.tmod ((Int.tmod n 10) + 10) 10)) 10)] (e := []) (by kernel_rfl) trivial (fun w1 k1 h1 => ?_)
  exact ⟨by rw [← (dwn_is n).1]; rfl, k1.keeps (fun _ h => h)⟩

set_option maxRecDepth 100000 in
theorem xlonger_any (x g : Int) (h0 : -1000000000 ≤ g * x) (h1 : g * x ≤ 1000000000) (w : World)  : Calls Try.prog 84 #[.int .i64 x, .int .i64 g] w (RetI (dwn (g * x)) w) := by
  refine calls_run (fn := f84) (c := (f84.body).getD .skip) [.int .i64 x, .int .i64 g] func84 (by kernel_rfl) (fun _ => False) [] (fun _ h => by cases h) (List.Pairwise.nil) 9 (by kernel_rfl) (by simp) ?_
  refine run_auto [(7, iV (g * x))] 9 [] [] [4, 7] [] (st' := ⟨[(4, iV 0), (7, iV (g * x))], []⟩) (acc := [(iV (IntKind.i64.wrap (g * x)), iV (g * x))]) (by kernel_rfl) (by kernel_rfl) ⟨(wr (by omega) (by omega)), trivial⟩ ?_
  refine run_ret1 95 #[iV (g * x), iV 10] (some 8) (iV (dwn (g * x))) (by kernel_rfl) (fun w1 k1 h1 => down_any (g * x) (by omega) (by omega) w1) ?_
  refine run_auto [] 2 [] [] [4] [] (st' := ⟨[(4, iV (dwn (g * x)))], []⟩) (acc := []) (by kernel_rfl) (by kernel_rfl) trivial ?_
  refine run_end (fn := f84) rfl (Nat.le_refl _) (by kernel_rfl) [] [iV (dwn (g * x))] (e := []) (by kernel_rfl) trivial (fun w1 k1 h1 => ?_)
  exact ⟨rfl, k1.keeps (fun _ h => h)⟩

set_option maxRecDepth 100000 in
theorem start_c (b : Bk) (k : Int) (w : World)  : Calls Try.prog 122 #[.agg #[.int .i64 b.1, .int .i64 b.2.1, .int .i64 b.2.2.1, .int .i64 b.2.2.2.1, .int .i64 b.2.2.2.2.1, .int .i64 b.2.2.2.2.2, .int .i64 k]] w (RetI (b.1) w) := by
  refine calls_run (fn := f122) (c := (f122.body).getD .skip) [.agg #[.int .i64 b.1, .int .i64 b.2.1, .int .i64 b.2.2.1, .int .i64 b.2.2.2.1, .int .i64 b.2.2.2.2.1, .int .i64 b.2.2.2.2.2, .int .i64 k]] func122 (by kernel_rfl) (fun _ => False) [] (fun _ h => by cases h) (List.Pairwise.nil) 7 (by kernel_rfl) (by simp) ?_
  refine run_auto [] 2 [] [] [0] [] (st' := ⟨[(0, .agg #[iV b.1, iV b.2.1, iV b.2.2.1, iV b.2.2.2.1, iV b.2.2.2.2.1, iV b.2.2.2.2.2, iV k])], []⟩) (acc := []) (by kernel_rfl) (by kernel_rfl) trivial ?_
  refine run_new (aO #[iV b.1, iV b.2.1, iV b.2.2.1, iV b.2.2.2.1, iV b.2.2.2.2.1, iV b.2.2.2.2.2, iV k] 137) (fun b1 => pA b1) (some 1) (fun _ => by kernel_rfl) (fun b1 hb1 => ?_)
  refine run_auto [] 10 [] [0] [2] [] (st' := ⟨[(2, iV b.1)], []⟩) (acc := [(pA b1, pA b1)]) (by kernel_rfl) (by kernel_rfl) ⟨rfl, trivial⟩ ?_
  refine run_end (fn := f122) rfl (Nat.le_refl _) (by kernel_rfl) [] [iV b.1] (e := []) (by kernel_rfl) trivial (fun w1 k1 h1 => ?_)
  exact ⟨rfl, k1.keeps (fun _ h => h)⟩

set_option maxRecDepth 100000 in
theorem heat_c (b : Bk) (k : Int) (t : Tc) (w : World)  : Calls Try.prog 120 #[.agg #[.int .i64 b.1, .int .i64 b.2.1, .int .i64 b.2.2.1, .int .i64 b.2.2.2.1, .int .i64 b.2.2.2.2.1, .int .i64 b.2.2.2.2.2, .int .i64 k], .agg #[.int .i64 t.1, .int .i64 t.2.1, .int .i64 t.2.2.1, .int .i64 t.2.2.2]] w (RetI (hs false t) w) := by
  refine calls_run (fn := f120) (c := (f120.body).getD .skip) [.agg #[.int .i64 b.1, .int .i64 b.2.1, .int .i64 b.2.2.1, .int .i64 b.2.2.2.1, .int .i64 b.2.2.2.2.1, .int .i64 b.2.2.2.2.2, .int .i64 k], .agg #[.int .i64 t.1, .int .i64 t.2.1, .int .i64 t.2.2.1, .int .i64 t.2.2.2]] func120 (by kernel_rfl) (fun _ => False) [] (fun _ h => by cases h) (List.Pairwise.nil) 8 (by kernel_rfl) (by simp) ?_
  refine run_auto [] 2 [] [] [0, 1] [] (st' := ⟨[(0, .agg #[iV b.1, iV b.2.1, iV b.2.2.1, iV b.2.2.2.1, iV b.2.2.2.2.1, iV b.2.2.2.2.2, iV k]), (1, .agg #[iV t.1, iV t.2.1, iV t.2.2.1, iV t.2.2.2])], []⟩) (acc := []) (by kernel_rfl) (by kernel_rfl) trivial ?_
  refine run_new (aO #[iV b.1, iV b.2.1, iV b.2.2.1, iV b.2.2.2.1, iV b.2.2.2.2.1, iV b.2.2.2.2.2, iV k] 137) (fun b1 => pA b1) (some 2) (fun _ => by kernel_rfl) (fun b1 hb1 => ?_)
  refine run_new (aO #[iV t.1, iV t.2.1, iV t.2.2.1, iV t.2.2.2] 61) (fun b2 => pA b2) (some 3) (fun _ => by kernel_rfl) (fun b2 hb2 => ?_)
  refine run_auto [] 9 [] [0] [4] [] (st' := ⟨[(4, iV t.2.2.1)], []⟩) (acc := [(pA b2, pA b2)]) (by kernel_rfl) (by kernel_rfl) ⟨rfl, trivial⟩ ?_
  refine run_end (fn := f120) rfl (Nat.le_refl _) (by kernel_rfl) [] [iV t.2.2.1] (e := []) (by kernel_rfl) trivial (fun w1 k1 h1 => ?_)
  exact ⟨rfl, k1.keeps (fun _ h => h)⟩

set_option maxRecDepth 100000 in
theorem start_w (b : Bk) (k : Int) (w : World)  : Calls Try.prog 126 #[.agg #[.int .i64 b.1, .int .i64 b.2.1, .int .i64 b.2.2.1, .int .i64 b.2.2.2.1, .int .i64 b.2.2.2.2.1, .int .i64 b.2.2.2.2.2, .int .i64 k]] w (RetI (b.2.1) w) := by
  refine calls_run (fn := f126) (c := (f126.body).getD .skip) [.agg #[.int .i64 b.1, .int .i64 b.2.1, .int .i64 b.2.2.1, .int .i64 b.2.2.2.1, .int .i64 b.2.2.2.2.1, .int .i64 b.2.2.2.2.2, .int .i64 k]] func126 (by kernel_rfl) (fun _ => False) [] (fun _ h => by cases h) (List.Pairwise.nil) 8 (by kernel_rfl) (by simp) ?_
  refine run_auto [] 2 [] [] [0] [] (st' := ⟨[(0, .agg #[iV b.1, iV b.2.1, iV b.2.2.1, iV b.2.2.2.1, iV b.2.2.2.2.1, iV b.2.2.2.2.2, iV k])], []⟩) (acc := []) (by kernel_rfl) (by kernel_rfl) trivial ?_
  refine run_new (aO #[iV b.1, iV b.2.1, iV b.2.2.1, iV b.2.2.2.1, iV b.2.2.2.2.1, iV b.2.2.2.2.2, iV k] 139) (fun b1 => pA b1) (some 1) (fun _ => by kernel_rfl) (fun b1 hb1 => ?_)
  refine run_auto [] 11 [] [0] [2] [] (st' := ⟨[(2, iV b.2.1)], []⟩) (acc := [(pA b1, pA b1)]) (by kernel_rfl) (by kernel_rfl) ⟨rfl, trivial⟩ ?_
  refine run_end (fn := f126) rfl (Nat.le_refl _) (by kernel_rfl) [] [iV b.2.1] (e := []) (by kernel_rfl) trivial (fun w1 k1 h1 => ?_)
  exact ⟨rfl, k1.keeps (fun _ h => h)⟩

set_option maxRecDepth 100000 in
theorem heat_w (b : Bk) (k : Int) (t : Tc) (w : World)  : Calls Try.prog 125 #[.agg #[.int .i64 b.1, .int .i64 b.2.1, .int .i64 b.2.2.1, .int .i64 b.2.2.2.1, .int .i64 b.2.2.2.2.1, .int .i64 b.2.2.2.2.2, .int .i64 k], .agg #[.int .i64 t.1, .int .i64 t.2.1, .int .i64 t.2.2.1, .int .i64 t.2.2.2]] w (RetI (hs true t) w) := by
  refine calls_run (fn := f125) (c := (f125.body).getD .skip) [.agg #[.int .i64 b.1, .int .i64 b.2.1, .int .i64 b.2.2.1, .int .i64 b.2.2.2.1, .int .i64 b.2.2.2.2.1, .int .i64 b.2.2.2.2.2, .int .i64 k], .agg #[.int .i64 t.1, .int .i64 t.2.1, .int .i64 t.2.2.1, .int .i64 t.2.2.2]] func125 (by kernel_rfl) (fun _ => False) [] (fun _ h => by cases h) (List.Pairwise.nil) 8 (by kernel_rfl) (by simp) ?_
  refine run_auto [] 2 [] [] [0, 1] [] (st' := ⟨[(0, .agg #[iV b.1, iV b.2.1, iV b.2.2.1, iV b.2.2.2.1, iV b.2.2.2.2.1, iV b.2.2.2.2.2, iV k]), (1, .agg #[iV t.1, iV t.2.1, iV t.2.2.1, iV t.2.2.2])], []⟩) (acc := []) (by kernel_rfl) (by kernel_rfl) trivial ?_
  refine run_new (aO #[iV b.1, iV b.2.1, iV b.2.2.1, iV b.2.2.2.1, iV b.2.2.2.2.1, iV b.2.2.2.2.2, iV k] 139) (fun b1 => pA b1) (some 2) (fun _ => by kernel_rfl) (fun b1 hb1 => ?_)
  refine run_new (aO #[iV t.1, iV t.2.1, iV t.2.2.1, iV t.2.2.2] 61) (fun b2 => pA b2) (some 3) (fun _ => by kernel_rfl) (fun b2 hb2 => ?_)
  refine run_auto [] 9 [] [0] [4] [] (st' := ⟨[(4, iV t.2.2.2)], []⟩) (acc := [(pA b2, pA b2)]) (by kernel_rfl) (by kernel_rfl) ⟨rfl, trivial⟩ ?_
  refine run_end (fn := f125) rfl (Nat.le_refl _) (by kernel_rfl) [] [iV t.2.2.2] (e := []) (by kernel_rfl) trivial (fun w1 k1 h1 => ?_)
  exact ⟨rfl, k1.keeps (fun _ h => h)⟩

set_option maxRecDepth 100000 in
theorem next_any (b : Bk) (k x : Int) (x0 : -1000000 ≤ x) (x1 : x ≤ 1000000) (ka : 1 ≤ k) (kb : k ≤ 1000) (w : World)  : Calls Try.prog 121 #[.agg #[.int .i64 b.1, .int .i64 b.2.1, .int .i64 b.2.2.1, .int .i64 b.2.2.2.1, .int .i64 b.2.2.2.2.1, .int .i64 b.2.2.2.2.2, .int .i64 k], .int .i64 x] w (RetI (fall x k) w) := by
  refine calls_run (fn := f121) (c := (f121.body).getD .skip) [.agg #[.int .i64 b.1, .int .i64 b.2.1, .int .i64 b.2.2.1, .int .i64 b.2.2.2.1, .int .i64 b.2.2.2.2.1, .int .i64 b.2.2.2.2.2, .int .i64 k], .int .i64 x] func121 (by kernel_rfl) (fun _ => False) [] (fun _ h => by cases h) (List.Pairwise.nil) 9 (by kernel_rfl) (by simp) ?_
  refine run_auto [] 2 [] [] [0, 1] [] (st' := ⟨[(0, .agg #[iV b.1, iV b.2.1, iV b.2.2.1, iV b.2.2.2.1, iV b.2.2.2.2.1, iV b.2.2.2.2.2, iV k]), (1, iV x)], []⟩) (acc := []) (by kernel_rfl) (by kernel_rfl) trivial ?_
  refine run_new (aO #[iV b.1, iV b.2.1, iV b.2.2.1, iV b.2.2.2.1, iV b.2.2.2.2.1, iV b.2.2.2.2.2, iV k] 137) (fun b1 => pA b1) (some 2) (fun _ => by kernel_rfl) (fun b1 hb1 => ?_)
  refine run_auto [] 7 [] [0] [4, 5, 7] [] (st' := ⟨[(4, iV 0), (5, iV x), (7, iV k)], []⟩) (acc := [(pA b1, pA b1)]) (by kernel_rfl) (by kernel_rfl) ⟨rfl, trivial⟩ ?_
  refine run_ret1 123 #[iV x, iV k] (some 8) (iV (fall x k)) (by kernel_rfl) (fun w1 k1 h1 => fallen_any x k (by omega) (by omega) (by omega) (by omega) w1) ?_
  refine run_auto [] 2 [] [] [4] [] (st' := ⟨[(4, iV (fall x k))], []⟩) (acc := []) (by kernel_rfl) (by kernel_rfl) trivial ?_
  refine run_end (fn := f121) rfl (Nat.le_refl _) (by kernel_rfl) [] [iV (fall x k)] (e := []) (by kernel_rfl) trivial (fun w1 k1 h1 => ?_)
  exact ⟨rfl, k1.keeps (fun _ h => h)⟩

set_option maxRecDepth 100000 in
theorem endsOf_any (b : Bk) (k : Int) (w : World)  : Calls Try.prog 101 #[.agg #[.int .i64 b.1, .int .i64 b.2.1, .int .i64 b.2.2.1, .int .i64 b.2.2.2.1, .int .i64 b.2.2.2.2.1, .int .i64 b.2.2.2.2.2], .int .i64 k] w (Ret (.tuple #[.iface 137 (.agg #[.int .i64 b.1, .int .i64 b.2.1, .int .i64 b.2.2.1, .int .i64 b.2.2.2.1, .int .i64 b.2.2.2.2.1, .int .i64 b.2.2.2.2.2, .int .i64 k]), .iface 139 (.agg #[.int .i64 b.1, .int .i64 b.2.1, .int .i64 b.2.2.1, .int .i64 b.2.2.2.1, .int .i64 b.2.2.2.2.1, .int .i64 b.2.2.2.2.2, .int .i64 k])]) w) := by
  refine calls_run (fn := f101) (c := (f101.body).getD .skip) [.agg #[.int .i64 b.1, .int .i64 b.2.1, .int .i64 b.2.2.1, .int .i64 b.2.2.2.1, .int .i64 b.2.2.2.2.1, .int .i64 b.2.2.2.2.2], .int .i64 k] func101 (by kernel_rfl) (fun _ => False) [] (fun _ h => by cases h) (List.Pairwise.nil) 15 (by kernel_rfl) (by simp) ?_
  refine run_auto [] 2 [] [] [0, 1] [] (st' := ⟨[(0, .agg #[iV b.1, iV b.2.1, iV b.2.2.1, iV b.2.2.2.1, iV b.2.2.2.2.1, iV b.2.2.2.2.2]), (1, iV k)], []⟩) (acc := []) (by kernel_rfl) (by kernel_rfl) trivial ?_
  refine run_new (aO #[iV b.1, iV b.2.1, iV b.2.2.1, iV b.2.2.2.1, iV b.2.2.2.2.1, iV b.2.2.2.2.2] 54) (fun b1 => pA b1) (some 2) (fun _ => by kernel_rfl) (fun b1 hb1 => ?_)
  refine run_auto [] 8 [] [0] [4, 5, 9] [] (st' := ⟨[(4, .nilIface), (5, .nilIface), (9, .agg #[iV b.1, iV b.2.1, iV b.2.2.1, iV b.2.2.2.1, iV b.2.2.2.2.1, iV b.2.2.2.2.2, iV k])], []⟩) (acc := [(pA b1, pA b1)]) (by kernel_rfl) (by kernel_rfl) ⟨rfl, trivial⟩ ?_
  refine run_new (aO #[iV 0, iV 0, iV 0, iV 0, iV 0, iV 0, iV 0] 137) (fun b2 => pA b2) (some 6) (fun _ => by kernel_rfl) (fun b2 hb2 => ?_)
  refine run_auto [] 3 [] [0] [4, 5, 6] [0] (st' := ⟨[(4, .nilIface), (5, .nilIface), (6, pA b2)], [(b2, aO #[iV b.1, iV b.2.1, iV b.2.2.1, iV b.2.2.2.1, iV b.2.2.2.2.1, iV b.2.2.2.2.2, iV k] 137)]⟩) (acc := [(pA b2, pA b2)]) (by kernel_rfl) (by kernel_rfl) ⟨rfl, trivial⟩ ?_
  refine draw 7 [{ val := fun _ => .agg #[iV b.1, iV b.2.1, iV b.2.2.1, iV b.2.2.2.1, iV b.2.2.2.2.1, iV b.2.2.2.2.2, iV k], slots := [6], reads := [0] },
      { val := fun _ => .iface 137 (.agg #[iV b.1, iV b.2.1, iV b.2.2.1, iV b.2.2.2.1, iV b.2.2.2.2.1, iV b.2.2.2.2.2, iV k]), slots := [10] },
      { val := fun _ => .agg #[iV b.1, iV b.2.1, iV b.2.2.1, iV b.2.2.2.1, iV b.2.2.2.2.1, iV b.2.2.2.2.2, iV k], slots := [6], reads := [0] },
      { val := fun _ => .agg #[iV b.1, iV b.2.1, iV b.2.2.1, iV b.2.2.2.1, iV b.2.2.2.2.1, iV b.2.2.2.2.2, iV k], slots := [12] },
      { val := fun _ => .iface 139 (.agg #[iV b.1, iV b.2.1, iV b.2.2.1, iV b.2.2.2.1, iV b.2.2.2.2.1, iV b.2.2.2.2.2, iV k]), slots := [13] },
      { val := fun _ => .iface 137 (.agg #[iV b.1, iV b.2.1, iV b.2.2.1, iV b.2.2.2.1, iV b.2.2.2.2.1, iV b.2.2.2.2.2, iV k]), slots := [11] },
      { val := fun _ => .iface 139 (.agg #[iV b.1, iV b.2.1, iV b.2.2.1, iV b.2.2.2.1, iV b.2.2.2.2.1, iV b.2.2.2.2.2, iV k]), slots := [14] }] [[], [0], [], [2], [2, 3], [0, 1], [0, 1, 2, 3, 4, 5]] (by kernel_rfl) (by kernel_rfl) (by kernel_rfl) (by kernel_rfl) [4, 5] [] (by kernel_rfl)
      ⟨⟨⟨⟨⟨⟨⟨trivial,
      tri_quiet (fun β => []) [0] [0] (fun β => [(pA b2, pA b2)]) (by kernel_rfl) (fun β extra => by kernel_rfl) (by kernel_rfl) (fun β => ⟨rfl, trivial⟩)⟩,
      tri_quiet (fun β => []) [] [] (fun β => []) (by kernel_rfl) (fun β extra => by kernel_rfl) (by kernel_rfl) (fun β => trivial)⟩,
      tri_quiet (fun β => []) [0] [0] (fun β => [(pA b2, pA b2)]) (by kernel_rfl) (fun β extra => by kernel_rfl) (by kernel_rfl) (fun β => ⟨rfl, trivial⟩)⟩,
      tri_quiet (fun β => []) [] [] (fun β => []) (by kernel_rfl) (fun β extra => by kernel_rfl) (by kernel_rfl) (fun β => trivial)⟩,
      tri_quiet (fun β => []) [] [] (fun β => []) (by kernel_rfl) (fun β extra => by kernel_rfl) (by kernel_rfl) (fun β => trivial)⟩,
      tri_quiet (fun β => []) [] [] (fun β => []) (by kernel_rfl) (fun β extra => by kernel_rfl) (by kernel_rfl) (fun β => trivial)⟩,
      tri_quiet (fun β => []) [] [] (fun β => []) (by kernel_rfl) (fun β extra => by kernel_rfl) (by kernel_rfl) (fun β => trivial)⟩
      (fun β => ⟨[(4, .iface 137 (.agg #[iV b.1, iV b.2.1, iV b.2.2.1, iV b.2.2.2.1, iV b.2.2.2.2.1, iV b.2.2.2.2.2, iV k])), (5, .iface 139 (.agg #[iV b.1, iV b.2.1, iV b.2.2.1, iV b.2.2.2.1, iV b.2.2.2.2.1, iV b.2.2.2.2.2, iV k]))], []⟩) (fun β => by kernel_rfl) (fun β3 => ?_)
  refine run_end (fn := f101) rfl (Nat.le_refl _) (by kernel_rfl) [] [.iface 137 (.agg #[iV b.1, iV b.2.1, iV b.2.2.1, iV b.2.2.2.1, iV b.2.2.2.2.1, iV b.2.2.2.2.2, iV k]), .iface 139 (.agg #[iV b.1, iV b.2.1, iV b.2.2.1, iV b.2.2.2.1, iV b.2.2.2.2.1, iV b.2.2.2.2.2, iV k])] (e := []) (by kernel_rfl) trivial (fun w1 k1 h1 => ?_)
  exact ⟨rfl, k1.keeps (fun _ h => h)⟩

set_option maxRecDepth 100000 in
theorem before_any (b k : Int) (m : Nat) (hm : m ≤ 1000) (w : World)  : Calls Try.prog 102 #[.agg #[.int .i64 b, .int .i64 k, .int .i64 ((m + 1 : Nat) : Int)]] w (Ret (.agg #[.int .i64 b, .int .i64 k, .int .i64 (m : Int)]) w) := by
  refine calls_run (fn := f102) (c := (f102.body).getD .skip) [.agg #[.int .i64 b, .int .i64 k, .int .i64 ((m + 1 : Nat) : Int)]] func102 (by kernel_rfl) (fun _ => False) [] (fun _ h => by cases h) (List.Pairwise.nil) 11 (by kernel_rfl) (by simp) ?_
  refine run_auto [] 2 [] [] [0] [] (st' := ⟨[(0, .agg #[iV b, iV k, iV ((m + 1 : Nat) : Int)])], []⟩) (acc := []) (by kernel_rfl) (by kernel_rfl) trivial ?_
  refine run_new (aO #[iV b, iV k, iV ((m + 1 : Nat) : Int)] 122) (fun b1 => pA b1) (some 1) (fun _ => by kernel_rfl) (fun b1 hb1 => ?_)
  refine run_new (aO #[iV 0, iV 0, iV 0] 122) (fun b2 => pA b2) (some 2) (fun _ => by kernel_rfl) (fun b2 hb2 => ?_)
  refine run_auto [(9, iV (((m + 1 : Nat) : Int) - 1))] 13 [] [1, 1, 1, 0] [2] [0] (st' := ⟨[(2, pA b2)], [(b2, aO #[iV b, iV k, iV (((m + 1 : Nat) : Int) - 1)] 122)]⟩) (acc := [(pA b2, pA b2), (iV (IntKind.i64.wrap (((m + 1 : Nat) : Int) - 1)), iV (((m + 1 : Nat) : Int) - 1)), (pA b1, pA b1), (pA b1, pA b1), (pA b1, pA b1)]) (by kernel_rfl) (by kernel_rfl) ⟨rfl, (wr (by omega) (by omega)), rfl, rfl, rfl, trivial⟩ ?_
  refine run_end (fn := f102) rfl (Nat.le_refl _) (by kernel_rfl) [0] [.agg #[iV b, iV k, iV (((m + 1 : Nat) : Int) - 1)]] (e := [(pA b2, pA b2)]) (by kernel_rfl) ⟨rfl, trivial⟩ (fun w1 k1 h1 => ?_)
  exact ⟨by rw [show ((m + 1 : Nat) : Int) - 1 = (m : Int) by omega]; rfl, k1.keeps (fun _ h => h)⟩

set_option maxRecDepth 100000 in
theorem espan_any (a b : Int) (w : World)  : Calls Try.prog 37 #[.agg #[.int .i64 a, .int .i64 b]] w (Ret (.agg #[.int .i64 a, .int .i64 b]) w) := by
  refine calls_run (fn := f37) (c := (f37.body).getD .skip) [.agg #[.int .i64 a, .int .i64 b]] func37 (by kernel_rfl) (fun _ => False) [] (fun _ h => by cases h) (List.Pairwise.nil) 8 (by kernel_rfl) (by simp) ?_
  refine run_auto [] 2 [] [] [0] [] (st' := ⟨[(0, .agg #[iV a, iV b])], []⟩) (acc := []) (by kernel_rfl) (by kernel_rfl) trivial ?_
  refine run_new (aO #[iV a, iV b] 70) (fun b1 => pA b1) (some 1) (fun _ => by kernel_rfl) (fun b1 hb1 => ?_)
  refine run_new (aO #[iV 0, iV 0] 23) (fun b2 => pA b2) (some 2) (fun _ => by kernel_rfl) (fun b2 hb2 => ?_)
  refine run_auto [] 10 [] [1, 1, 0] [2] [0] (st' := ⟨[(2, pA b2)], [(b2, aO #[iV a, iV b] 23)]⟩) (acc := [(pA b2, pA b2), (pA b1, pA b1), (pA b1, pA b1)]) (by kernel_rfl) (by kernel_rfl) ⟨rfl, rfl, rfl, trivial⟩ ?_
  refine run_end (fn := f37) rfl (Nat.le_refl _) (by kernel_rfl) [0] [.agg #[iV a, iV b]] (e := [(pA b2, pA b2)]) (by kernel_rfl) ⟨rfl, trivial⟩ (fun w1 k1 h1 => ?_)
  exact ⟨rfl, k1.keeps (fun _ h => h)⟩

set_option maxRecDepth 100000 in
theorem are_near (a b n : Int) (n0 : 0 ≤ n) (n1 : n ≤ 1000000) (w : World)  : Calls Try.prog 96 #[.agg #[.int .i64 a, .int .i64 b], .func (.func 97) #[] #[], .int .i64 n] w (RetB (decide ((-n ≤ a ∧ a ≤ n) ∧ -n ≤ b ∧ b ≤ n)) w) := by
  refine calls_run (fn := f96) (c := (f96.body).getD .skip) [.agg #[.int .i64 a, .int .i64 b], .func (.func 97) #[] #[], .int .i64 n] func96 (by kernel_rfl) (fun _ => False) [] (fun _ h => by cases h) (List.Pairwise.nil) 19 (by kernel_rfl) (by simp) ?_
  refine run_auto [] 2 [] [] [0, 1, 2] [] (st' := ⟨[(0, .agg #[iV a, iV b]), (1, .func (.func 97) #[] #[]), (2, iV n)], []⟩) (acc := []) (by kernel_rfl) (by kernel_rfl) trivial ?_
  refine run_new (aO #[iV a, iV b] 70) (fun b1 => pA b1) (some 3) (fun _ => by kernel_rfl) (fun b1 hb1 => ?_)
  refine run_auto [] 8 [] [0] [1, 2, 3, 6, 7, 9, 10] [0] (st' := ⟨[(1, .func (.func 97) #[] #[]), (2, iV n), (3, pA b1), (6, .bool false), (7, .func (.func 97) #[] #[]), (9, iV a), (10, iV n)], [(b1, aO #[iV a, iV b] 70)]⟩) (acc := [(pA b1, pA b1)]) (by kernel_rfl) (by kernel_rfl) ⟨rfl, trivial⟩ ?_
  cases hd1 : (decide (-n ≤ a ∧ a ≤ n)) with
  | false =>
    have hp1 := of_decide_eq_false hd1
    refine run_ret1 97 #[iV a, iV n] (some 11) (.bool false) (by kernel_rfl) (fun w1 k1 h1 => (by have h := near_any a n (by omega) (by omega) w1; rw [hd1] at h; exact h)) ?_
    refine run_auto [] 9 [] [] [6] [] (st' := ⟨[(6, .bool false)], []⟩) (acc := []) (by kernel_rfl) (by kernel_rfl) trivial ?_
    refine run_end (fn := f96) rfl (Nat.le_refl _) (by kernel_rfl) [] [.bool false] (e := []) (by kernel_rfl) trivial (fun w1 k1 h1 => ?_)
    exact ⟨by rw [show decide ((-n ≤ a ∧ a ≤ n) ∧ -n ≤ b ∧ b ≤ n) = false from decide_eq_false (by omega)]; rfl, k1.keeps (fun _ h => h)⟩
  | true =>
    have hp1 := of_decide_eq_true hd1
    refine run_ret1 97 #[iV a, iV n] (some 11) (.bool true) (by kernel_rfl) (fun w1 k1 h1 => (by have h := near_any a n (by omega) (by omega) w1; rw [hd1] at h; exact h)) ?_
    refine run_auto [] 5 [] [0] [6, 12, 13, 15, 16] [] (st' := ⟨[(6, .bool false), (12, .bool true), (13, .func (.func 97) #[] #[]), (15, iV b), (16, iV n)], []⟩) (acc := [(pA b1, pA b1)]) (by kernel_rfl) (by kernel_rfl) ⟨rfl, trivial⟩ ?_
    cases hd2 : (decide (-n ≤ b ∧ b ≤ n)) with
    | false =>
      have hp2 := of_decide_eq_false hd2
      refine run_ret1 97 #[iV b, iV n] (some 17) (.bool false) (by kernel_rfl) (fun w1 k1 h1 => (by have h := near_any b n (by omega) (by omega) w1; rw [hd2] at h; exact h)) ?_
      refine run_auto [] 3 [] [] [6] [] (st' := ⟨[(6, .bool false)], []⟩) (acc := []) (by kernel_rfl) (by kernel_rfl) trivial ?_
      refine run_end (fn := f96) rfl (Nat.le_refl _) (by kernel_rfl) [] [.bool false] (e := []) (by kernel_rfl) trivial (fun w1 k1 h1 => ?_)
      exact ⟨by rw [show decide ((-n ≤ a ∧ a ≤ n) ∧ -n ≤ b ∧ b ≤ n) = false from decide_eq_false (by omega)]; rfl, k1.keeps (fun _ h => h)⟩
    | true =>
      have hp2 := of_decide_eq_true hd2
      refine run_ret1 97 #[iV b, iV n] (some 17) (.bool true) (by kernel_rfl) (fun w1 k1 h1 => (by have h := near_any b n (by omega) (by omega) w1; rw [hd2] at h; exact h)) ?_
      refine run_auto [] 3 [] [] [6] [] (st' := ⟨[(6, .bool true)], []⟩) (acc := []) (by kernel_rfl) (by kernel_rfl) trivial ?_
      refine run_end (fn := f96) rfl (Nat.le_refl _) (by kernel_rfl) [] [.bool true] (e := []) (by kernel_rfl) trivial (fun w1 k1 h1 => ?_)
      exact ⟨by rw [show decide ((-n ≤ a ∧ a ≤ n) ∧ -n ≤ b ∧ b ≤ n) = true from decide_eq_true (by omega)]; rfl, k1.keeps (fun _ h => h)⟩

set_option maxRecDepth 100000 in
theorem are_cold (a b n : Int) (n0 : 0 ≤ n) (n1 : n ≤ 1000000) (w : World)  : Calls Try.prog 96 #[.agg #[.int .i64 a, .int .i64 b], .func (.func 98) #[] #[], .int .i64 n] w (RetB (decide (a < -n ∧ b < -n)) w) := by
  refine calls_run (fn := f96) (c := (f96.body).getD .skip) [.agg #[.int .i64 a, .int .i64 b], .func (.func 98) #[] #[], .int .i64 n] func96 (by kernel_rfl) (fun _ => False) [] (fun _ h => by cases h) (List.Pairwise.nil) 19 (by kernel_rfl) (by simp) ?_
  refine run_auto [] 2 [] [] [0, 1, 2] [] (st' := ⟨[(0, .agg #[iV a, iV b]), (1, .func (.func 98) #[] #[]), (2, iV n)], []⟩) (acc := []) (by kernel_rfl) (by kernel_rfl) trivial ?_
  refine run_new (aO #[iV a, iV b] 70) (fun b1 => pA b1) (some 3) (fun _ => by kernel_rfl) (fun b1 hb1 => ?_)
  refine run_auto [] 8 [] [0] [1, 2, 3, 6, 7, 9, 10] [0] (st' := ⟨[(1, .func (.func 98) #[] #[]), (2, iV n), (3, pA b1), (6, .bool false), (7, .func (.func 98) #[] #[]), (9, iV a), (10, iV n)], [(b1, aO #[iV a, iV b] 70)]⟩) (acc := [(pA b1, pA b1)]) (by kernel_rfl) (by kernel_rfl) ⟨rfl, trivial⟩ ?_
  cases hd1 : (decide (a < -n)) with
  | false =>
    have hp1 := of_decide_eq_false hd1
    refine run_ret1 98 #[iV a, iV n] (some 11) (.bool false) (by kernel_rfl) (fun w1 k1 h1 => (by have h := cold_any a n (by omega) (by omega) w1; rw [hd1] at h; exact h)) ?_
    refine run_auto [] 9 [] [] [6] [] (st' := ⟨[(6, .bool false)], []⟩) (acc := []) (by kernel_rfl) (by kernel_rfl) trivial ?_
    refine run_end (fn := f96) rfl (Nat.le_refl _) (by kernel_rfl) [] [.bool false] (e := []) (by kernel_rfl) trivial (fun w1 k1 h1 => ?_)
    exact ⟨by rw [show decide (a < -n ∧ b < -n) = false from decide_eq_false (by omega)]; rfl, k1.keeps (fun _ h => h)⟩
  | true =>
    have hp1 := of_decide_eq_true hd1
    refine run_ret1 98 #[iV a, iV n] (some 11) (.bool true) (by kernel_rfl) (fun w1 k1 h1 => (by have h := cold_any a n (by omega) (by omega) w1; rw [hd1] at h; exact h)) ?_
    refine run_auto [] 5 [] [0] [6, 12, 13, 15, 16] [] (st' := ⟨[(6, .bool false), (12, .bool true), (13, .func (.func 98) #[] #[]), (15, iV b), (16, iV n)], []⟩) (acc := [(pA b1, pA b1)]) (by kernel_rfl) (by kernel_rfl) ⟨rfl, trivial⟩ ?_
    cases hd2 : (decide (b < -n)) with
    | false =>
      have hp2 := of_decide_eq_false hd2
      refine run_ret1 98 #[iV b, iV n] (some 17) (.bool false) (by kernel_rfl) (fun w1 k1 h1 => (by have h := cold_any b n (by omega) (by omega) w1; rw [hd2] at h; exact h)) ?_
      refine run_auto [] 3 [] [] [6] [] (st' := ⟨[(6, .bool false)], []⟩) (acc := []) (by kernel_rfl) (by kernel_rfl) trivial ?_
      refine run_end (fn := f96) rfl (Nat.le_refl _) (by kernel_rfl) [] [.bool false] (e := []) (by kernel_rfl) trivial (fun w1 k1 h1 => ?_)
      exact ⟨by rw [show decide (a < -n ∧ b < -n) = false from decide_eq_false (by omega)]; rfl, k1.keeps (fun _ h => h)⟩
    | true =>
      have hp2 := of_decide_eq_true hd2
      refine run_ret1 98 #[iV b, iV n] (some 17) (.bool true) (by kernel_rfl) (fun w1 k1 h1 => (by have h := cold_any b n (by omega) (by omega) w1; rw [hd2] at h; exact h)) ?_
      refine run_auto [] 3 [] [] [6] [] (st' := ⟨[(6, .bool true)], []⟩) (acc := []) (by kernel_rfl) (by kernel_rfl) trivial ?_
      refine run_end (fn := f96) rfl (Nat.le_refl _) (by kernel_rfl) [] [.bool true] (e := []) (by kernel_rfl) trivial (fun w1 k1 h1 => ?_)
      exact ⟨by rw [show decide (a < -n ∧ b < -n) = true from decide_eq_true (by omega)]; rfl, k1.keeps (fun _ h => h)⟩

set_option maxRecDepth 100000 in
theorem are_hot (a b n : Int) (_n0 : 0 ≤ n) (_n1 : n ≤ 1000000) (w : World)  : Calls Try.prog 96 #[.agg #[.int .i64 a, .int .i64 b], .func (.func 99) #[] #[], .int .i64 n] w (RetB (decide (n < a ∧ n < b)) w) := by
  refine calls_run (fn := f96) (c := (f96.body).getD .skip) [.agg #[.int .i64 a, .int .i64 b], .func (.func 99) #[] #[], .int .i64 n] func96 (by kernel_rfl) (fun _ => False) [] (fun _ h => by cases h) (List.Pairwise.nil) 19 (by kernel_rfl) (by simp) ?_
  refine run_auto [] 2 [] [] [0, 1, 2] [] (st' := ⟨[(0, .agg #[iV a, iV b]), (1, .func (.func 99) #[] #[]), (2, iV n)], []⟩) (acc := []) (by kernel_rfl) (by kernel_rfl) trivial ?_
  refine run_new (aO #[iV a, iV b] 70) (fun b1 => pA b1) (some 3) (fun _ => by kernel_rfl) (fun b1 hb1 => ?_)
  refine run_auto [] 8 [] [0] [1, 2, 3, 6, 7, 9, 10] [0] (st' := ⟨[(1, .func (.func 99) #[] #[]), (2, iV n), (3, pA b1), (6, .bool false), (7, .func (.func 99) #[] #[]), (9, iV a), (10, iV n)], [(b1, aO #[iV a, iV b] 70)]⟩) (acc := [(pA b1, pA b1)]) (by kernel_rfl) (by kernel_rfl) ⟨rfl, trivial⟩ ?_
  cases hd1 : (decide (n < a)) with
  | false =>
    have hp1 := of_decide_eq_false hd1
    refine run_ret1 99 #[iV a, iV n] (some 11) (.bool false) (by kernel_rfl) (fun w1 k1 h1 => (by have h := hot_any a n w1; rw [hd1] at h; exact h)) ?_
    refine run_auto [] 9 [] [] [6] [] (st' := ⟨[(6, .bool false)], []⟩) (acc := []) (by kernel_rfl) (by kernel_rfl) trivial ?_
    refine run_end (fn := f96) rfl (Nat.le_refl _) (by kernel_rfl) [] [.bool false] (e := []) (by kernel_rfl) trivial (fun w1 k1 h1 => ?_)
    exact ⟨by rw [show decide (n < a ∧ n < b) = false from decide_eq_false (by omega)]; rfl, k1.keeps (fun _ h => h)⟩
  | true =>
    have hp1 := of_decide_eq_true hd1
    refine run_ret1 99 #[iV a, iV n] (some 11) (.bool true) (by kernel_rfl) (fun w1 k1 h1 => (by have h := hot_any a n w1; rw [hd1] at h; exact h)) ?_
    refine run_auto [] 5 [] [0] [6, 12, 13, 15, 16] [] (st' := ⟨[(6, .bool false), (12, .bool true), (13, .func (.func 99) #[] #[]), (15, iV b), (16, iV n)], []⟩) (acc := [(pA b1, pA b1)]) (by kernel_rfl) (by kernel_rfl) ⟨rfl, trivial⟩ ?_
    cases hd2 : (decide (n < b)) with
    | false =>
      have hp2 := of_decide_eq_false hd2
      refine run_ret1 99 #[iV b, iV n] (some 17) (.bool false) (by kernel_rfl) (fun w1 k1 h1 => (by have h := hot_any b n w1; rw [hd2] at h; exact h)) ?_
      refine run_auto [] 3 [] [] [6] [] (st' := ⟨[(6, .bool false)], []⟩) (acc := []) (by kernel_rfl) (by kernel_rfl) trivial ?_
      refine run_end (fn := f96) rfl (Nat.le_refl _) (by kernel_rfl) [] [.bool false] (e := []) (by kernel_rfl) trivial (fun w1 k1 h1 => ?_)
      exact ⟨by rw [show decide (n < a ∧ n < b) = false from decide_eq_false (by omega)]; rfl, k1.keeps (fun _ h => h)⟩
    | true =>
      have hp2 := of_decide_eq_true hd2
      refine run_ret1 99 #[iV b, iV n] (some 17) (.bool true) (by kernel_rfl) (fun w1 k1 h1 => (by have h := hot_any b n w1; rw [hd2] at h; exact h)) ?_
      refine run_auto [] 3 [] [] [6] [] (st' := ⟨[(6, .bool true)], []⟩) (acc := []) (by kernel_rfl) (by kernel_rfl) trivial ?_
      refine run_end (fn := f96) rfl (Nat.le_refl _) (by kernel_rfl) [] [.bool true] (e := []) (by kernel_rfl) trivial (fun w1 k1 h1 => ?_)
      exact ⟨by rw [show decide (n < a ∧ n < b) = true from decide_eq_true (by omega)]; rfl, k1.keeps (fun _ h => h)⟩

set_option maxRecDepth 100000 in
theorem ejudge_any (a b n : Int) (n0 : 0 ≤ n) (n1 : n ≤ 1000000) (w : World)  : Calls Try.prog 86 #[.agg #[.int .i64 a, .int .i64 b], .int .i64 n] w (RetI (jdE n (a, b)) w) := by
  refine calls_run (fn := f86) (c := (f86.body).getD .skip) [.agg #[.int .i64 a, .int .i64 b], .int .i64 n] func86 (by kernel_rfl) (fun _ => False) [] (fun _ h => by cases h) (List.Pairwise.nil) 16 (by kernel_rfl) (by simp) ?_
  refine run_auto [] 2 [] [] [0, 1] [] (st' := ⟨[(0, .agg #[iV a, iV b]), (1, iV n)], []⟩) (acc := []) (by kernel_rfl) (by kernel_rfl) trivial ?_
  refine run_new (aO #[iV a, iV b] 70) (fun b1 => pA b1) (some 2) (fun _ => by kernel_rfl) (fun b1 hb1 => ?_)
  refine run_auto [] 8 [] [0] [1, 2, 4, 6, 7] [0] (st' := ⟨[(1, iV n), (2, pA b1), (4, iV 0), (6, .agg #[iV a, iV b]), (7, iV n)], [(b1, aO #[iV a, iV b] 70)]⟩) (acc := [(pA b1, pA b1)]) (by kernel_rfl) (by kernel_rfl) ⟨rfl, trivial⟩ ?_
  cases hd1 : (decide ((-n ≤ a ∧ a ≤ n) ∧ -n ≤ b ∧ b ≤ n)) with
  | false =>
    have hp1 := of_decide_eq_false hd1
    refine run_ret1 96 #[.agg #[iV a, iV b], .func (.func 97) #[] #[], iV n] (some 8) (.bool false) (by kernel_rfl) (fun w1 k1 h1 => (by have h := are_near a b n (by omega) (by omega) w1; rw [hd1] at h; exact h)) ?_
    refine run_auto [] 8 [false] [0] [1, 2, 4, 10, 11] [0] (st' := ⟨[(1, iV n), (2, pA b1), (4, iV 0), (10, .agg #[iV a, iV b]), (11, iV n)], [(b1, aO #[iV a, iV b] 70)]⟩) (acc := [(pA b1, pA b1), (.bool false, .bool false)]) (by kernel_rfl) (by kernel_rfl) ⟨rfl, rfl, trivial⟩ ?_
    cases hd2 : (decide (a < -n ∧ b < -n)) with
    | false =>
      have hp2 := of_decide_eq_false hd2
      refine run_ret1 96 #[.agg #[iV a, iV b], .func (.func 98) #[] #[], iV n] (some 12) (.bool false) (by kernel_rfl) (fun w1 k1 h1 => (by have h := are_cold a b n (by omega) (by omega) w1; rw [hd2] at h; exact h)) ?_
      refine run_auto [] 6 [false] [0] [4, 9, 13, 14] [] (st' := ⟨[(4, iV 0), (9, .bool false), (13, .agg #[iV a, iV b]), (14, iV n)], []⟩) (acc := [(pA b1, pA b1), (.bool false, .bool false)]) (by kernel_rfl) (by kernel_rfl) ⟨rfl, rfl, trivial⟩ ?_
      cases hd3 : (decide (n < a ∧ n < b)) with
      | false =>
        have hp3 := of_decide_eq_false hd3
        refine run_ret1 96 #[.agg #[iV a, iV b], .func (.func 99) #[] #[], iV n] (some 15) (.bool false) (by kernel_rfl) (fun w1 k1 h1 => (by have h := are_hot a b n (by omega) (by omega) w1; rw [hd3] at h; exact h)) ?_
        refine run_auto [] 9 [false] [] [4] [] (st' := ⟨[(4, iV 1)], []⟩) (acc := [(.bool false, .bool false)]) (by kernel_rfl) (by kernel_rfl) ⟨rfl, trivial⟩ ?_
        refine run_end (fn := f86) rfl (Nat.le_refl _) (by kernel_rfl) [] [iV 1] (e := []) (by kernel_rfl) trivial (fun w1 k1 h1 => ?_)
        exact ⟨by rw [show jdE n (a, b) = 1 from by unfold jdE; dsimp only; rw [if_neg (by omega), if_neg (by omega)]]; rfl, k1.keeps (fun _ h => h)⟩
      | true =>
        have hp3 := of_decide_eq_true hd3
        refine run_ret1 96 #[.agg #[iV a, iV b], .func (.func 99) #[] #[], iV n] (some 15) (.bool true) (by kernel_rfl) (fun w1 k1 h1 => (by have h := are_hot a b n (by omega) (by omega) w1; rw [hd3] at h; exact h)) ?_
        refine run_auto [] 7 [true] [] [4] [] (st' := ⟨[(4, iV 0)], []⟩) (acc := [(.bool true, .bool true)]) (by kernel_rfl) (by kernel_rfl) ⟨rfl, trivial⟩ ?_
        refine run_end (fn := f86) rfl (Nat.le_refl _) (by kernel_rfl) [] [iV 0] (e := []) (by kernel_rfl) trivial (fun w1 k1 h1 => ?_)
        exact ⟨by rw [show jdE n (a, b) = 0 from by unfold jdE; dsimp only; rw [if_neg (by omega), if_pos (by omega)]]; rfl, k1.keeps (fun _ h => h)⟩
    | true =>
      have hp2 := of_decide_eq_true hd2
      refine run_ret1 96 #[.agg #[iV a, iV b], .func (.func 98) #[] #[], iV n] (some 12) (.bool true) (by kernel_rfl) (fun w1 k1 h1 => (by have h := are_cold a b n (by omega) (by omega) w1; rw [hd2] at h; exact h)) ?_
      refine run_auto [] 9 [true, true] [] [4] [] (st' := ⟨[(4, iV 0)], []⟩) (acc := [(.bool true, .bool true), (.bool true, .bool true)]) (by kernel_rfl) (by kernel_rfl) ⟨rfl, rfl, trivial⟩ ?_
      refine run_end (fn := f86) rfl (Nat.le_refl _) (by kernel_rfl) [] [iV 0] (e := []) (by kernel_rfl) trivial (fun w1 k1 h1 => ?_)
      exact ⟨by rw [show jdE n (a, b) = 0 from by unfold jdE; dsimp only; rw [if_neg (by omega), if_pos (by omega)]]; rfl, k1.keeps (fun _ h => h)⟩
  | true =>
    have hp1 := of_decide_eq_true hd1
    refine run_ret1 96 #[.agg #[iV a, iV b], .func (.func 97) #[] #[], iV n] (some 8) (.bool true) (by kernel_rfl) (fun w1 k1 h1 => (by have h := are_near a b n (by omega) (by omega) w1; rw [hd1] at h; exact h)) ?_
    refine run_auto [] 7 [true] [] [4] [] (st' := ⟨[(4, iV 2)], []⟩) (acc := [(.bool true, .bool true)]) (by kernel_rfl) (by kernel_rfl) ⟨rfl, trivial⟩ ?_
    refine run_end (fn := f86) rfl (Nat.le_refl _) (by kernel_rfl) [] [iV 2] (e := []) (by kernel_rfl) trivial (fun w1 k1 h1 => ?_)
    exact ⟨by rw [show jdE n (a, b) = 2 from by unfold jdE; dsimp only; rw [if_pos (by omega)]]; rfl, k1.keeps (fun _ h => h)⟩

end Go.Proofs.Ytfjfkaaflghaiaa

namespace Go.Proofs.Ytfjfkaaflghaiaa
open Go.RowKit Go.Proofs.Try
attribute [local irreducible] Run wpK


theorem all_no {α : Type} {p : α → Bool} {l : List α} {k : Nat} {d : α} (hk : k < l.length) (h : p (l[k]?.getD d) = false) : l.all p = false := by
  rw [List.all_eq_false]
  refine ⟨l[k], List.getElem_mem hk, ?_⟩
  rw [List.getElem?_eq_getElem hk] at h
  simpa using h
theorem all_yes {α : Type} {p : α → Bool} {l : List α} {d : α} (h : ∀ k, k < l.length → p (l[k]?.getD d) = true) : l.all p = true := by
  rw [List.all_eq_true]
  intro x hx
  obtain ⟨k, hk, rfl⟩ := List.getElem_of_mem hx
  have := h k hk
  rwa [List.getElem?_eq_getElem hk] at this
theorem c2 {B : World} {b o : Nat} {u0 u1 : Value} (h0 : B.cell? ⟨b, o, none⟩ = some u0) (h1 : B.cell? ⟨b, o + 1, none⟩ = some u1) : ∀ i u, [u0, u1][i]? = some u → B.cell? ⟨b, o + i, none⟩ = some u := by
  intro i u hu
  match i, hu with
  | 0, hu => injection hu with hu; subst hu; exact h0
  | 1, hu => injection hu with hu; subst hu; exact h1
  | i + 2, hu => simp at hu
theorem c4 {B : World} {b o : Nat} {u0 u1 u2 u3 : Value} (h0 : B.cell? ⟨b, o, none⟩ = some u0) (h1 : B.cell? ⟨b, o + 1, none⟩ = some u1) (h2 : B.cell? ⟨b, o + 2, none⟩ = some u2) (h3 : B.cell? ⟨b, o + 3, none⟩ = some u3) : ∀ i u, [u0, u1, u2, u3][i]? = some u → B.cell? ⟨b, o + i, none⟩ = some u := by
  intro i u hu
  match i, hu with
  | 0, hu => injection hu with hu; subst hu; exact h0
  | 1, hu => injection hu with hu; subst hu; exact h1
  | 2, hu => injection hu with hu; subst hu; exact h2
  | 3, hu => injection hu with hu; subst hu; exact h3
  | i + 4, hu => simp at hu
theorem c6 {B : World} {b o : Nat} {u0 u1 u2 u3 u4 u5 : Value} (h0 : B.cell? ⟨b, o, none⟩ = some u0) (h1 : B.cell? ⟨b, o + 1, none⟩ = some u1) (h2 : B.cell? ⟨b, o + 2, none⟩ = some u2) (h3 : B.cell? ⟨b, o + 3, none⟩ = some u3) (h4 : B.cell? ⟨b, o + 4, none⟩ = some u4) (h5 : B.cell? ⟨b, o + 5, none⟩ = some u5) : ∀ i u, [u0, u1, u2, u3, u4, u5][i]? = some u → B.cell? ⟨b, o + i, none⟩ = some u := by
  intro i u hu
  match i, hu with
  | 0, hu => injection hu with hu; subst hu; exact h0
  | 1, hu => injection hu with hu; subst hu; exact h1
  | 2, hu => injection hu with hu; subst hu; exact h2
  | 3, hu => injection hu with hu; subst hu; exact h3
  | 4, hu => injection hu with hu; subst hu; exact h4
  | 5, hu => injection hu with hu; subst hu; exact h5
  | i + 6, hu => simp at hu

def bkR (x : Bk) : List Value := [.int .i64 x.1, .int .i64 x.2.1, .int .i64 x.2.2.1, .int .i64 x.2.2.2.1, .int .i64 x.2.2.2.2.1, .int .i64 x.2.2.2.2.2]
theorem bkR_len (x : Bk) : (bkR x).length = 6 := rfl
theorem bkR_at {L : List Bk} {i : Nat} (h : i < L.length) : bkR L[i] = bkR (elB L i) := by unfold elB; rw [List.getElem?_eq_getElem h]; rfl
def Bks (w : World) (a : Option Addr) (L : List Bk) : Prop :=
  L ≠ [] → ∃ b o, a = some ⟨b, o, none⟩ ∧ ∀ i, i < L.length → w.cell? ⟨b, o + i * 6, none⟩ = some (.int .i64 (elB L i).1) ∧ w.cell? ⟨b, o + i * 6 + 1, none⟩ = some (.int .i64 (elB L i).2.1) ∧ w.cell? ⟨b, o + i * 6 + 2, none⟩ = some (.int .i64 (elB L i).2.2.1) ∧ w.cell? ⟨b, o + i * 6 + 3, none⟩ = some (.int .i64 (elB L i).2.2.2.1) ∧ w.cell? ⟨b, o + i * 6 + 4, none⟩ = some (.int .i64 (elB L i).2.2.2.2.1) ∧ w.cell? ⟨b, o + i * 6 + 5, none⟩ = some (.int .i64 (elB L i).2.2.2.2.2)
theorem Bks.keep {w w' : World} {a : Option Addr} {L : List Bk} (h : Bks w a L) (k : Keeps w w') : Bks w' a L := by
  intro hx
  obtain ⟨b, o, e, hc⟩ := h hx
  exact ⟨b, o, e, fun i hi => ⟨k.cell (hc i hi).1, k.cell (hc i hi).2.1, k.cell (hc i hi).2.2.1, k.cell (hc i hi).2.2.2.1, k.cell (hc i hi).2.2.2.2.1, k.cell (hc i hi).2.2.2.2.2⟩⟩
theorem Bks.flat {w : World} {a : Option Addr} {L : List Bk} (h : Bks w a L) : L ≠ [] → ∃ b o, a = some ⟨b, o, none⟩ ∧ ∀ j u, (L.flatMap bkR)[j]? = some u → w.cell? ((⟨b, o, none⟩ : Addr).add j) = some u := by
  intro hx
  obtain ⟨b, o, e, hc⟩ := h hx
  refine ⟨b, o, e, flat_cells bkR_len fun i x hi k u hk => ?_⟩
  have hl := (List.getElem?_eq_some_iff.1 hi).1
  have h5 := hc i hl
  have e2 : elB L i = x := by unfold elB; rw [hi]; rfl
  rw [e2] at h5
  exact c6 h5.1 h5.2.1 h5.2.2.1 h5.2.2.2.1 h5.2.2.2.2.1 h5.2.2.2.2.2 k u hk
theorem Bks.of_flat {w : World} {b : Nat} {L : List Bk} {sp : List Value} {t : TypeId} {fr : Nat × Nat} (h : w.heap[b]? = some (.cells (L.flatMap bkR ++ sp).toArray t fr)) : Bks w (some ⟨b, 0, none⟩) L := by
  intro _
  refine ⟨b, 0, rfl, fun i hi => ?_⟩
  have key : ∀ k u, (bkR (elB L i))[k]? = some u → w.cell? ⟨b, 0 + i * 6 + k, none⟩ = some u := by
    intro k u hk
    refine cells_of_heap h _ _ ?_
    have hk5 : k < 6 := (List.getElem?_eq_some_iff.1 hk).1
    have e1 : L.flatMap bkR ++ sp = (L.take i).flatMap bkR ++ ((L.drop i).flatMap bkR ++ sp) := by rw [← List.append_assoc, ← List.flatMap_append, List.take_append_drop]
    have hl : ((L.take i).flatMap bkR).length = i * 6 := by rw [flat_len bkR_len, List.length_take, Nat.min_eq_left (Nat.le_of_lt hi)]
    rw [e1, List.getElem?_append_right (by omega), hl, show 0 + i * 6 + k - i * 6 = k by omega, List.drop_eq_getElem_cons hi, List.flatMap_cons, List.append_assoc, List.getElem?_append_left (by show k < 6; exact hk5)]
    rw [bkR_at hi]
    exact hk
  exact ⟨key 0 _ rfl, key 1 _ rfl, key 2 _ rfl, key 3 _ rfl, key 4 _ rfl, key 5 _ rfl⟩

def tcR (x : Tc) : List Value := [.int .i64 x.1, .int .i64 x.2.1, .int .i64 x.2.2.1, .int .i64 x.2.2.2]
theorem tcR_len (x : Tc) : (tcR x).length = 4 := rfl
theorem tcR_one (x : Tc) : ∀ u ∈ tcR x, u.oneCell' = true := by
  intro u hu
  simp only [tcR, List.mem_cons, List.not_mem_nil, or_false] at hu
  rcases hu with rfl | rfl | rfl | rfl <;> rfl
theorem tcR_at {L : List Tc} {i : Nat} (h : i < L.length) : tcR L[i] = tcR (elT L i) := by unfold elT; rw [List.getElem?_eq_getElem h]; rfl
def Tcs (w : World) (a : Option Addr) (L : List Tc) : Prop :=
  L ≠ [] → ∃ b o, a = some ⟨b, o, none⟩ ∧ ∀ i, i < L.length → w.cell? ⟨b, o + i * 4, none⟩ = some (.int .i64 (elT L i).1) ∧ w.cell? ⟨b, o + i * 4 + 1, none⟩ = some (.int .i64 (elT L i).2.1) ∧ w.cell? ⟨b, o + i * 4 + 2, none⟩ = some (.int .i64 (elT L i).2.2.1) ∧ w.cell? ⟨b, o + i * 4 + 3, none⟩ = some (.int .i64 (elT L i).2.2.2)
theorem Tcs.keep {w w' : World} {a : Option Addr} {L : List Tc} (h : Tcs w a L) (k : Keeps w w') : Tcs w' a L := by
  intro hx
  obtain ⟨b, o, e, hc⟩ := h hx
  exact ⟨b, o, e, fun i hi => ⟨k.cell (hc i hi).1, k.cell (hc i hi).2.1, k.cell (hc i hi).2.2.1, k.cell (hc i hi).2.2.2⟩⟩
theorem Tcs.flat {w : World} {a : Option Addr} {L : List Tc} (h : Tcs w a L) : L ≠ [] → ∃ b o, a = some ⟨b, o, none⟩ ∧ ∀ j u, (L.flatMap tcR)[j]? = some u → w.cell? ((⟨b, o, none⟩ : Addr).add j) = some u := by
  intro hx
  obtain ⟨b, o, e, hc⟩ := h hx
  refine ⟨b, o, e, flat_cells tcR_len fun i x hi k u hk => ?_⟩
  have hl := (List.getElem?_eq_some_iff.1 hi).1
  have h5 := hc i hl
  have e2 : elT L i = x := by unfold elT; rw [hi]; rfl
  rw [e2] at h5
  exact c4 h5.1 h5.2.1 h5.2.2.1 h5.2.2.2 k u hk
theorem Tcs.of_flat {w : World} {b : Nat} {L : List Tc} {sp : List Value} {t : TypeId} {fr : Nat × Nat} (h : w.heap[b]? = some (.cells (L.flatMap tcR ++ sp).toArray t fr)) : Tcs w (some ⟨b, 0, none⟩) L := by
  intro _
  refine ⟨b, 0, rfl, fun i hi => ?_⟩
  have key : ∀ k u, (tcR (elT L i))[k]? = some u → w.cell? ⟨b, 0 + i * 4 + k, none⟩ = some u := by
    intro k u hk
    refine cells_of_heap h _ _ ?_
    have hk5 : k < 4 := (List.getElem?_eq_some_iff.1 hk).1
    have e1 : L.flatMap tcR ++ sp = (L.take i).flatMap tcR ++ ((L.drop i).flatMap tcR ++ sp) := by rw [← List.append_assoc, ← List.flatMap_append, List.take_append_drop]
    have hl : ((L.take i).flatMap tcR).length = i * 4 := by rw [flat_len tcR_len, List.length_take, Nat.min_eq_left (Nat.le_of_lt hi)]
    rw [e1, List.getElem?_append_right (by omega), hl, show 0 + i * 4 + k - i * 4 = k by omega, List.drop_eq_getElem_cons hi, List.flatMap_cons, List.append_assoc, List.getElem?_append_left (by show k < 4; exact hk5)]
    rw [tcR_at hi]
    exact hk
  exact ⟨key 0 _ rfl, key 1 _ rfl, key 2 _ rfl, key 3 _ rfl⟩

/-- A settle as it lies in memory. -/
structure Sb where
  ba : Option Addr
  bc : Nat
  bs : List Bk
  near : Int
  last : Int
  ta : Option Addr
  tc : Nat
  ts : List Tc
def Sb.n (p : Sb) : Sn := ⟨p.bs, p.near, p.last, p.ts⟩
def Sb.v (p : Sb) : Value := .agg #[.slice p.ba p.bs.length p.bc, .int .i64 p.near, .int .i64 p.last, .slice p.ta p.ts.length p.tc]
structure Sb.In (p : Sb) (w : World) : Prop where
  bk : Bks w p.ba p.bs
  tk : Tcs w p.ta p.ts
  lb : p.bs.length ≤ maxLen
  lt : p.ts.length ≤ maxLen
theorem Sb.In.keep {p : Sb} {w w' : World} (h : p.In w) (k : Keeps w w') : p.In w' := ⟨h.bk.keep k, h.tk.keep k, h.lb, h.lt⟩
/-- The first element that is not valid; none: -1. -/
def idxP {α : Type} (v : α → Bool) (L : List α) : Int := match L.findIdx? (fun x => !v x) with
  | some i => i
  | none => -1
theorem idxP_at {α : Type} {v : α → Bool} {L : List α} {i : Nat} {d : α} (hi : i < L.length) (h : ∀ j, j < i → v (L[j]?.getD d) = true) (hn : v (L[i]?.getD d) = false) : idxP v L = (i : Int) := by
  have at' : ∀ {j : Nat} (hj : j < L.length), L[j]?.getD d = L[j] := fun hj => by rw [List.getElem?_eq_getElem hj]; rfl
  unfold idxP
  have : L.findIdx? (fun x => !v x) = some i := by
    rw [List.findIdx?_eq_some_iff_getElem]
    refine ⟨hi, by rw [← at' hi, hn]; rfl, fun j hj => ?_⟩
    rw [← at' (by omega), h j hj]
    simp
  rw [this]
theorem idxP_no {α : Type} {v : α → Bool} {L : List α} {d : α} (h : ∀ j, j < L.length → v (L[j]?.getD d) = true) : idxP v L = -1 := by
  have at' : ∀ {j : Nat} (hj : j < L.length), L[j]?.getD d = L[j] := fun hj => by rw [List.getElem?_eq_getElem hj]; rfl
  unfold idxP
  have : L.findIdx? (fun x => !v x) = none := by
    rw [List.findIdx?_eq_none_iff]
    intro x hx
    obtain ⟨j, hj, rfl⟩ := List.getElem_of_mem hx
    rw [← at' hj, h j hj]
    rfl
  rw [this]
theorem idxP_ge {α : Type} (v : α → Bool) (L : List α) : decide (0 ≤ idxP v L) = !L.all v := by
  unfold idxP
  cases h : L.findIdx? (fun x => !v x) with
  | none =>
    rw [List.findIdx?_eq_none_iff] at h
    have h2 : L.all v = true := List.all_eq_true.2 fun x hx => by have := h x hx; simpa using this
    rw [h2]
    rfl
  | some i =>
    rw [List.findIdx?_eq_some_iff_getElem] at h
    obtain ⟨hi, h1, _⟩ := h
    have h2 : L.all v = false := List.all_eq_false.2 ⟨L[i], List.getElem_mem hi, by simpa using h1⟩
    rw [h2]
    simp
set_option maxRecDepth 100000 in
theorem within_any (n lo hi : Int) (w : World)  : Calls Try.prog 76 #[.int .i64 n, .int .i64 lo, .int .i64 hi] w (RetB (inI n lo hi) w) := by
  refine calls_run (fn := f76) (c := (f76.body).getD .skip) [.int .i64 n, .int .i64 lo, .int .i64 hi] func76 (by kernel_rfl) (fun _ => False) [] (fun _ h => by cases h) (List.Pairwise.nil) 15 (by kernel_rfl) (by simp) ?_
  cases hd1 : (decide (lo ≤ n)) with
  | false =>
    have hp1 := of_decide_eq_false hd1
    refine run_auto [(9, .bool false)] 16 [] [] [6] [] (st' := ⟨[(6, .bool false)], []⟩) (acc := [(.bool (decide (lo ≤ n)), .bool false)]) (by kernel_rfl) (by kernel_rfl) ⟨(bo hd1), trivial⟩ ?_
    refine run_end (fn := f76) rfl (Nat.le_refl _) (by kernel_rfl) [] [.bool false] (e := []) (by kernel_rfl) trivial (fun w1 k1 h1 => ?_)
    exact ⟨by simp only [resVal]; congr 2; simp only [inI]; simp; omega, k1.keeps (fun _ h => h)⟩
  | true =>
    have hp1 := of_decide_eq_true hd1
    cases hd2 : (decide (n ≤ hi)) with
    | false =>
      have hp2 := of_decide_eq_false hd2
      refine run_auto [(9, .bool true), (13, .bool false)] 16 [] [] [6] [] (st' := ⟨[(6, .bool false)], []⟩) (acc := [(.bool (decide (n ≤ hi)), .bool false), (.bool (decide (lo ≤ n)), .bool true)]) (by kernel_rfl) (by kernel_rfl) ⟨(bo hd2), (bo hd1), trivial⟩ ?_
      refine run_end (fn := f76) rfl (Nat.le_refl _) (by kernel_rfl) [] [.bool false] (e := []) (by kernel_rfl) trivial (fun w1 k1 h1 => ?_)
      exact ⟨by simp only [resVal]; congr 2; simp only [inI]; simp; omega, k1.keeps (fun _ h => h)⟩
    | true =>
      have hp2 := of_decide_eq_true hd2
      refine run_auto [(9, .bool true), (13, .bool true)] 16 [] [] [6] [] (st' := ⟨[(6, .bool true)], []⟩) (acc := [(.bool (decide (n ≤ hi)), .bool true), (.bool (decide (lo ≤ n)), .bool true)]) (by kernel_rfl) (by kernel_rfl) ⟨(bo hd2), (bo hd1), trivial⟩ ?_
      refine run_end (fn := f76) rfl (Nat.le_refl _) (by kernel_rfl) [] [.bool true] (e := []) (by kernel_rfl) trivial (fun w1 k1 h1 => ?_)
      exact ⟨by simp only [resVal]; congr 2; simp only [inI]; simp; omega, k1.keeps (fun _ h => h)⟩

set_option maxRecDepth 100000 in
theorem lies_any (a b lo hi : Int) (w : World)  : Calls Try.prog 90 #[.agg #[.int .i64 a, .int .i64 b], .int .i64 lo, .int .i64 hi] w (RetB (spI (a, b) lo hi) w) := by
  refine calls_run (fn := f90) (c := (f90.body).getD .skip) [.agg #[.int .i64 a, .int .i64 b], .int .i64 lo, .int .i64 hi] func90 (by kernel_rfl) (fun _ => False) [] (fun _ h => by cases h) (List.Pairwise.nil) 24 (by kernel_rfl) (by simp) ?_
  refine run_auto [] 2 [] [] [0, 1, 2] [] (st' := ⟨[(0, .agg #[iV a, iV b]), (1, iV lo), (2, iV hi)], []⟩) (acc := []) (by kernel_rfl) (by kernel_rfl) trivial ?_
  refine run_new (aO #[iV a, iV b] 23) (fun b1 => pA b1) (some 3) (fun _ => by kernel_rfl) (fun b1 hb1 => ?_)
  cases hd1 : (decide (lo ≤ a)) with
  | false =>
    have hp1 := of_decide_eq_false hd1
    refine run_auto [(10, .bool false)] 23 [] [0] [6] [] (st' := ⟨[(6, .bool false)], []⟩) (acc := [(.bool (decide (lo ≤ a)), .bool false), (pA b1, pA b1)]) (by kernel_rfl) (by kernel_rfl) ⟨(bo hd1), rfl, trivial⟩ ?_
    refine run_end (fn := f90) rfl (Nat.le_refl _) (by kernel_rfl) [] [.bool false] (e := []) (by kernel_rfl) trivial (fun w1 k1 h1 => ?_)
    exact ⟨by simp only [resVal]; congr 2; simp only [spI]; simp; omega, k1.keeps (fun _ h => h)⟩
  | true =>
    have hp1 := of_decide_eq_true hd1
    cases hd2 : (decide (a ≤ b)) with
    | false =>
      have hp2 := of_decide_eq_false hd2
      refine run_auto [(10, .bool true), (16, .bool false)] 23 [] [0, 0, 0] [6] [] (st' := ⟨[(6, .bool false)], []⟩) (acc := [(.bool (decide (a ≤ b)), .bool false), (pA b1, pA b1), (pA b1, pA b1), (.bool (decide (lo ≤ a)), .bool true), (pA b1, pA b1)]) (by kernel_rfl) (by kernel_rfl) ⟨(bo hd2), rfl, rfl, (bo hd1), rfl, trivial⟩ ?_
      refine run_end (fn := f90) rfl (Nat.le_refl _) (by kernel_rfl) [] [.bool false] (e := []) (by kernel_rfl) trivial (fun w1 k1 h1 => ?_)
      exact ⟨by simp only [resVal]; congr 2; simp only [spI]; simp; omega, k1.keeps (fun _ h => h)⟩
    | true =>
      have hp2 := of_decide_eq_true hd2
      cases hd3 : (decide (b ≤ hi)) with
      | false =>
        have hp3 := of_decide_eq_false hd3
        refine run_auto [(10, .bool true), (16, .bool true), (22, .bool false)] 23 [] [0, 0, 0, 0] [6] [] (st' := ⟨[(6, .bool false)], []⟩) (acc := [(.bool (decide (b ≤ hi)), .bool false), (pA b1, pA b1), (.bool (decide (a ≤ b)), .bool true), (pA b1, pA b1), (pA b1, pA b1), (.bool (decide (lo ≤ a)), .bool true), (pA b1, pA b1)]) (by kernel_rfl) (by kernel_rfl) ⟨(bo hd3), rfl, (bo hd2), rfl, rfl, (bo hd1), rfl, trivial⟩ ?_
        refine run_end (fn := f90) rfl (Nat.le_refl _) (by kernel_rfl) [] [.bool false] (e := []) (by kernel_rfl) trivial (fun w1 k1 h1 => ?_)
        exact ⟨by simp only [resVal]; congr 2; simp only [spI]; simp; omega, k1.keeps (fun _ h => h)⟩
      | true =>
        have hp3 := of_decide_eq_true hd3
        refine run_auto [(10, .bool true), (16, .bool true), (22, .bool true)] 23 [] [0, 0, 0, 0] [6] [] (st' := ⟨[(6, .bool true)], []⟩) (acc := [(.bool (decide (b ≤ hi)), .bool true), (pA b1, pA b1), (.bool (decide (a ≤ b)), .bool true), (pA b1, pA b1), (pA b1, pA b1), (.bool (decide (lo ≤ a)), .bool true), (pA b1, pA b1)]) (by kernel_rfl) (by kernel_rfl) ⟨(bo hd3), rfl, (bo hd2), rfl, rfl, (bo hd1), rfl, trivial⟩ ?_
        refine run_end (fn := f90) rfl (Nat.le_refl _) (by kernel_rfl) [] [.bool true] (e := []) (by kernel_rfl) trivial (fun w1 k1 h1 => ?_)
        exact ⟨by simp only [resVal]; congr 2; simp only [spI]; simp; omega, k1.keeps (fun _ h => h)⟩

set_option maxRecDepth 100000 in
theorem invB_any (b : Bk) (w : World)  : Calls Try.prog 75 #[.agg #[.int .i64 b.1, .int .i64 b.2.1, .int .i64 b.2.2.1, .int .i64 b.2.2.2.1, .int .i64 b.2.2.2.2.1, .int .i64 b.2.2.2.2.2]] w (RetB (!vBk b) w) := by
  refine calls_run (fn := f75) (c := (f75.body).getD .skip) [.agg #[.int .i64 b.1, .int .i64 b.2.1, .int .i64 b.2.2.1, .int .i64 b.2.2.2.1, .int .i64 b.2.2.2.2.1, .int .i64 b.2.2.2.2.2]] func75 (by kernel_rfl) (fun _ => False) [] (fun _ h => by cases h) (List.Pairwise.nil) 19 (by kernel_rfl) (by simp) ?_
  refine run_auto [] 2 [] [] [0] [] (st' := ⟨[(0, .agg #[iV b.1, iV b.2.1, iV b.2.2.1, iV b.2.2.2.1, iV b.2.2.2.2.1, iV b.2.2.2.2.2])], []⟩) (acc := []) (by kernel_rfl) (by kernel_rfl) trivial ?_
  refine run_new (aO #[iV b.1, iV b.2.1, iV b.2.2.1, iV b.2.2.2.1, iV b.2.2.2.2.1, iV b.2.2.2.2.2] 54) (fun b1 => pA b1) (some 1) (fun _ => by kernel_rfl) (fun b1 hb1 => ?_)
  refine run_auto [] 6 [] [0] [1, 2, 5] [0] (st' := ⟨[(1, pA b1), (2, .bool false), (5, .agg #[iV b.1, iV b.2.1])], [(b1, aO #[iV b.1, iV b.2.1, iV b.2.2.1, iV b.2.2.2.1, iV b.2.2.2.2.1, iV b.2.2.2.2.2] 54)]⟩) (acc := [(pA b1, pA b1)]) (by kernel_rfl) (by kernel_rfl) ⟨rfl, trivial⟩ ?_
  cases hd1 : (spI (b.1, b.2.1) (-100) 100) with
  | false =>
    refine run_ret1 90 #[.agg #[iV b.1, iV b.2.1], iV (-100), iV 100] (some 6) (.bool false) (by kernel_rfl) (fun w1 k1 h1 => (by have h := lies_any b.1 b.2.1 (-100) 100 w1; rw [hd1] at h; exact h)) ?_
    refine run_auto [(18, .bool true)] 18 [] [] [2] [] (st' := ⟨[(2, .bool true)], []⟩) (acc := [(.bool true, .bool true)]) (by kernel_rfl) (by kernel_rfl) ⟨rfl, trivial⟩ ?_
    refine run_end (fn := f75) rfl (Nat.le_refl _) (by kernel_rfl) [] [.bool true] (e := []) (by kernel_rfl) trivial (fun w1 k1 h1 => ?_)
    exact ⟨by rw [show vBk b = false from by unfold vBk; rw [hd1]; rfl]; rfl, k1.keeps (fun _ h => h)⟩
  | true =>
    refine run_ret1 90 #[.agg #[iV b.1, iV b.2.1], iV (-100), iV 100] (some 6) (.bool true) (by kernel_rfl) (fun w1 k1 h1 => (by have h := lies_any b.1 b.2.1 (-100) 100 w1; rw [hd1] at h; exact h)) ?_
    refine run_auto [] 3 [] [0] [1, 2, 7, 9] [0] (st' := ⟨[(1, pA b1), (2, .bool false), (7, .bool true), (9, .agg #[iV b.2.2.1, iV b.2.2.2.1])], [(b1, aO #[iV b.1, iV b.2.1, iV b.2.2.1, iV b.2.2.2.1, iV b.2.2.2.2.1, iV b.2.2.2.2.2] 54)]⟩) (acc := [(pA b1, pA b1)]) (by kernel_rfl) (by kernel_rfl) ⟨rfl, trivial⟩ ?_
    cases hd2 : (spI (b.2.2.1, b.2.2.2.1) 2 8) with
    | false =>
      refine run_ret1 90 #[.agg #[iV b.2.2.1, iV b.2.2.2.1], iV 2, iV 8] (some 10) (.bool false) (by kernel_rfl) (fun w1 k1 h1 => (by have h := lies_any b.2.2.1 b.2.2.2.1 2 8 w1; rw [hd2] at h; exact h)) ?_
      refine run_auto [(18, .bool true)] 14 [] [] [2] [] (st' := ⟨[(2, .bool true)], []⟩) (acc := [(.bool true, .bool true)]) (by kernel_rfl) (by kernel_rfl) ⟨rfl, trivial⟩ ?_
      refine run_end (fn := f75) rfl (Nat.le_refl _) (by kernel_rfl) [] [.bool true] (e := []) (by kernel_rfl) trivial (fun w1 k1 h1 => ?_)
      exact ⟨by rw [show vBk b = false from by unfold vBk; rw [hd1, hd2]; rfl]; rfl, k1.keeps (fun _ h => h)⟩
    | true =>
      refine run_ret1 90 #[.agg #[iV b.2.2.1, iV b.2.2.2.1], iV 2, iV 8] (some 10) (.bool true) (by kernel_rfl) (fun w1 k1 h1 => (by have h := lies_any b.2.2.1 b.2.2.2.1 2 8 w1; rw [hd2] at h; exact h)) ?_
      refine run_auto [] 4 [] [0] [2, 12, 14] [] (st' := ⟨[(2, .bool false), (12, .bool true), (14, .agg #[iV b.2.2.2.2.1, iV b.2.2.2.2.2])], []⟩) (acc := [(pA b1, pA b1)]) (by kernel_rfl) (by kernel_rfl) ⟨rfl, trivial⟩ ?_
      cases hd3 : (spI b.2.2.2.2 0 20) with
      | false =>
        refine run_ret1 90 #[.agg #[iV b.2.2.2.2.1, iV b.2.2.2.2.2], iV 0, iV 20] (some 15) (.bool false) (by kernel_rfl) (fun w1 k1 h1 => (by have h := lies_any b.2.2.2.2.1 b.2.2.2.2.2 0 20 w1; rw [hd3] at h; exact h)) ?_
        refine run_auto [(18, .bool true)] 9 [] [] [2] [] (st' := ⟨[(2, .bool true)], []⟩) (acc := [(.bool true, .bool true)]) (by kernel_rfl) (by kernel_rfl) ⟨rfl, trivial⟩ ?_
        refine run_end (fn := f75) rfl (Nat.le_refl _) (by kernel_rfl) [] [.bool true] (e := []) (by kernel_rfl) trivial (fun w1 k1 h1 => ?_)
        exact ⟨by rw [show vBk b = false from by unfold vBk; rw [hd1, hd2, hd3]; rfl]; rfl, k1.keeps (fun _ h => h)⟩
      | true =>
        refine run_ret1 90 #[.agg #[iV b.2.2.2.2.1, iV b.2.2.2.2.2], iV 0, iV 20] (some 15) (.bool true) (by kernel_rfl) (fun w1 k1 h1 => (by have h := lies_any b.2.2.2.2.1 b.2.2.2.2.2 0 20 w1; rw [hd3] at h; exact h)) ?_
        refine run_auto [(18, .bool false)] 9 [] [] [2] [] (st' := ⟨[(2, .bool false)], []⟩) (acc := [(.bool false, .bool false)]) (by kernel_rfl) (by kernel_rfl) ⟨rfl, trivial⟩ ?_
        refine run_end (fn := f75) rfl (Nat.le_refl _) (by kernel_rfl) [] [.bool false] (e := []) (by kernel_rfl) trivial (fun w1 k1 h1 => ?_)
        exact ⟨by rw [show vBk b = true from by unfold vBk; rw [hd1, hd2, hd3]; rfl]; rfl, k1.keeps (fun _ h => h)⟩

set_option maxRecDepth 100000 in
theorem isBlock_any (p : Sb) (n : Int) (w : World) (hl : p.bs.length ≤ maxLen) : Calls Try.prog 79 #[.agg #[.slice p.ba p.bs.length p.bc, .int .i64 p.near, .int .i64 p.last, .slice p.ta p.ts.length p.tc], .int .i64 n] w (RetB (inI n 0 ((p.bs.length : Int) - 1)) w) := by
  simp only [maxLen] at hl
  refine calls_run (fn := f79) (c := (f79.body).getD .skip) [.agg #[.slice p.ba p.bs.length p.bc, .int .i64 p.near, .int .i64 p.last, .slice p.ta p.ts.length p.tc], .int .i64 n] func79 (by kernel_rfl) (fun _ => False) [] (fun _ h => by cases h) (List.Pairwise.nil) 11 (by kernel_rfl) (by simp) ?_
  refine run_auto [] 2 [] [] [0, 1] [] (st' := ⟨[(0, .agg #[.slice p.ba p.bs.length p.bc, iV p.near, iV p.last, .slice p.ta p.ts.length p.tc]), (1, iV n)], []⟩) (acc := []) (by kernel_rfl) (by kernel_rfl) trivial ?_
  refine run_new (aO #[.slice p.ba p.bs.length p.bc, iV p.near, iV p.last, .slice p.ta p.ts.length p.tc] 33) (fun b1 => pA b1) (some 2) (fun _ => by kernel_rfl) (fun b1 hb1 => ?_)
  refine run_auto [(9, iV ((p.bs.length : Int) - 1))] 9 [] [0] [4, 5, 9] [] (st' := ⟨[(4, .bool false), (5, iV n), (9, iV ((p.bs.length : Int) - 1))], []⟩) (acc := [(iV (IntKind.i64.wrap ((p.bs.length : Int) - 1)), iV ((p.bs.length : Int) - 1)), (pA b1, pA b1)]) (by kernel_rfl) (by kernel_rfl) ⟨(wr (by omega) (by omega)), rfl, trivial⟩ ?_
  cases hd1 : (inI n 0 ((p.bs.length : Int) - 1)) with
  | false =>
    refine run_ret1 76 #[iV n, iV 0, iV ((p.bs.length : Int) - 1)] (some 10) (.bool false) (by kernel_rfl) (fun w1 k1 h1 => (by have h := within_any n 0 ((p.bs.length : Int) - 1) w1; rw [hd1] at h; exact h)) ?_
    refine run_auto [] 2 [] [] [4] [] (st' := ⟨[(4, .bool false)], []⟩) (acc := []) (by kernel_rfl) (by kernel_rfl) trivial ?_
    refine run_end (fn := f79) rfl (Nat.le_refl _) (by kernel_rfl) [] [.bool false] (e := []) (by kernel_rfl) trivial (fun w1 k1 h1 => ?_)
    exact ⟨rfl, k1.keeps (fun _ h => h)⟩
  | true =>
    refine run_ret1 76 #[iV n, iV 0, iV ((p.bs.length : Int) - 1)] (some 10) (.bool true) (by kernel_rfl) (fun w1 k1 h1 => (by have h := within_any n 0 ((p.bs.length : Int) - 1) w1; rw [hd1] at h; exact h)) ?_
    refine run_auto [] 2 [] [] [4] [] (st' := ⟨[(4, .bool true)], []⟩) (acc := []) (by kernel_rfl) (by kernel_rfl) trivial ?_
    refine run_end (fn := f79) rfl (Nat.le_refl _) (by kernel_rfl) [] [.bool true] (e := []) (by kernel_rfl) trivial (fun w1 k1 h1 => ?_)
    exact ⟨rfl, k1.keeps (fun _ h => h)⟩

set_option maxRecDepth 100000 in
theorem isMinute_any (p : Sb) (n : Int) (w : World)  : Calls Try.prog 80 #[.agg #[.slice p.ba p.bs.length p.bc, .int .i64 p.near, .int .i64 p.last, .slice p.ta p.ts.length p.tc], .int .i64 n] w (RetB (inI n 0 p.last) w) := by
  refine calls_run (fn := f80) (c := (f80.body).getD .skip) [.agg #[.slice p.ba p.bs.length p.bc, .int .i64 p.near, .int .i64 p.last, .slice p.ta p.ts.length p.tc], .int .i64 n] func80 (by kernel_rfl) (fun _ => False) [] (fun _ h => by cases h) (List.Pairwise.nil) 9 (by kernel_rfl) (by simp) ?_
  refine run_auto [] 2 [] [] [0, 1] [] (st' := ⟨[(0, .agg #[.slice p.ba p.bs.length p.bc, iV p.near, iV p.last, .slice p.ta p.ts.length p.tc]), (1, iV n)], []⟩) (acc := []) (by kernel_rfl) (by kernel_rfl) trivial ?_
  refine run_new (aO #[.slice p.ba p.bs.length p.bc, iV p.near, iV p.last, .slice p.ta p.ts.length p.tc] 33) (fun b1 => pA b1) (some 2) (fun _ => by kernel_rfl) (fun b1 hb1 => ?_)
  refine run_auto [] 7 [] [0] [4, 5, 7] [] (st' := ⟨[(4, .bool false), (5, iV n), (7, iV p.last)], []⟩) (acc := [(pA b1, pA b1)]) (by kernel_rfl) (by kernel_rfl) ⟨rfl, trivial⟩ ?_
  cases hd1 : (inI n 0 p.last) with
  | false =>
    refine run_ret1 76 #[iV n, iV 0, iV p.last] (some 8) (.bool false) (by kernel_rfl) (fun w1 k1 h1 => (by have h := within_any n 0 p.last w1; rw [hd1] at h; exact h)) ?_
    refine run_auto [] 2 [] [] [4] [] (st' := ⟨[(4, .bool false)], []⟩) (acc := []) (by kernel_rfl) (by kernel_rfl) trivial ?_
    refine run_end (fn := f80) rfl (Nat.le_refl _) (by kernel_rfl) [] [.bool false] (e := []) (by kernel_rfl) trivial (fun w1 k1 h1 => ?_)
    exact ⟨rfl, k1.keeps (fun _ h => h)⟩
  | true =>
    refine run_ret1 76 #[iV n, iV 0, iV p.last] (some 8) (.bool true) (by kernel_rfl) (fun w1 k1 h1 => (by have h := within_any n 0 p.last w1; rw [hd1] at h; exact h)) ?_
    refine run_auto [] 2 [] [] [4] [] (st' := ⟨[(4, .bool true)], []⟩) (acc := []) (by kernel_rfl) (by kernel_rfl) trivial ?_
    refine run_end (fn := f80) rfl (Nat.le_refl _) (by kernel_rfl) [] [.bool true] (e := []) (by kernel_rfl) trivial (fun w1 k1 h1 => ?_)
    exact ⟨rfl, k1.keeps (fun _ h => h)⟩

set_option maxRecDepth 100000 in
theorem validTouch_any (p : Sb) (t : Tc) (w : World) (hl : p.bs.length ≤ maxLen) : Calls Try.prog 73 #[.agg #[.slice p.ba p.bs.length p.bc, .int .i64 p.near, .int .i64 p.last, .slice p.ta p.ts.length p.tc], .agg #[.int .i64 t.1, .int .i64 t.2.1, .int .i64 t.2.2.1, .int .i64 t.2.2.2]] w (RetB (vTc p.bs.length p.last t) w) := by
  refine calls_run (fn := f73) (c := (f73.body).getD .skip) [.agg #[.slice p.ba p.bs.length p.bc, .int .i64 p.near, .int .i64 p.last, .slice p.ta p.ts.length p.tc], .agg #[.int .i64 t.1, .int .i64 t.2.1, .int .i64 t.2.2.1, .int .i64 t.2.2.2]] func73 (by kernel_rfl) (fun _ => False) [] (fun _ h => by cases h) (List.Pairwise.nil) 20 (by kernel_rfl) (by simp) ?_
  refine run_auto [] 2 [] [] [0, 1] [] (st' := ⟨[(0, .agg #[.slice p.ba p.bs.length p.bc, iV p.near, iV p.last, .slice p.ta p.ts.length p.tc]), (1, .agg #[iV t.1, iV t.2.1, iV t.2.2.1, iV t.2.2.2])], []⟩) (acc := []) (by kernel_rfl) (by kernel_rfl) trivial ?_
  refine run_new (aO #[.slice p.ba p.bs.length p.bc, iV p.near, iV p.last, .slice p.ta p.ts.length p.tc] 33) (fun b1 => pA b1) (some 2) (fun _ => by kernel_rfl) (fun b1 hb1 => ?_)
  refine run_new (aO #[iV t.1, iV t.2.1, iV t.2.2.1, iV t.2.2.2] 61) (fun b2 => pA b2) (some 3) (fun _ => by kernel_rfl) (fun b2 hb2 => ?_)
  refine run_auto [] 7 [] [1, 0] [2, 3, 4, 5, 7] [0, 1] (st' := ⟨[(2, pA b1), (3, pA b2), (4, .bool false), (5, .agg #[.slice p.ba p.bs.length p.bc, iV p.near, iV p.last, .slice p.ta p.ts.length p.tc]), (7, iV t.1)], [(b2, aO #[iV t.1, iV t.2.1, iV t.2.2.1, iV t.2.2.2] 61), (b1, aO #[.slice p.ba p.bs.length p.bc, iV p.near, iV p.last, .slice p.ta p.ts.length p.tc] 33)]⟩) (acc := [(pA b2, pA b2), (pA b1, pA b1)]) (by kernel_rfl) (by kernel_rfl) ⟨rfl, rfl, trivial⟩ ?_
  cases hd1 : (inI t.1 0 ((p.bs.length : Int) - 1)) with
  | false =>
    refine run_ret1 79 #[.agg #[.slice p.ba p.bs.length p.bc, iV p.near, iV p.last, .slice p.ta p.ts.length p.tc], iV t.1] (some 8) (.bool false) (by kernel_rfl) (fun w1 k1 h1 => (by have h := isBlock_any p t.1 w1 hl; rw [hd1] at h; exact h)) ?_
    refine run_auto [] 13 [] [] [4] [] (st' := ⟨[(4, .bool false)], []⟩) (acc := []) (by kernel_rfl) (by kernel_rfl) trivial ?_
    refine run_end (fn := f73) rfl (Nat.le_refl _) (by kernel_rfl) [] [.bool false] (e := []) (by kernel_rfl) trivial (fun w1 k1 h1 => ?_)
    exact ⟨by rw [show vTc p.bs.length p.last t = false from by unfold vTc; rw [hd1]; rfl]; rfl, k1.keeps (fun _ h => h)⟩
  | true =>
    refine run_ret1 79 #[.agg #[.slice p.ba p.bs.length p.bc, iV p.near, iV p.last, .slice p.ta p.ts.length p.tc], iV t.1] (some 8) (.bool true) (by kernel_rfl) (fun w1 k1 h1 => (by have h := isBlock_any p t.1 w1 hl; rw [hd1] at h; exact h)) ?_
    refine run_auto [] 4 [] [1, 0] [3, 4, 9, 10, 12] [0] (st' := ⟨[(3, pA b2), (4, .bool false), (9, .bool true), (10, .agg #[.slice p.ba p.bs.length p.bc, iV p.near, iV p.last, .slice p.ta p.ts.length p.tc]), (12, iV t.2.1)], [(b2, aO #[iV t.1, iV t.2.1, iV t.2.2.1, iV t.2.2.2] 61)]⟩) (acc := [(pA b2, pA b2), (pA b1, pA b1)]) (by kernel_rfl) (by kernel_rfl) ⟨rfl, rfl, trivial⟩ ?_
    cases hd2 : (inI t.2.1 0 p.last) with
    | false =>
      refine run_ret1 80 #[.agg #[.slice p.ba p.bs.length p.bc, iV p.near, iV p.last, .slice p.ta p.ts.length p.tc], iV t.2.1] (some 13) (.bool false) (by kernel_rfl) (fun w1 k1 h1 => (by have h := isMinute_any p t.2.1 w1; rw [hd2] at h; exact h)) ?_
      refine run_auto [] 8 [] [] [4] [] (st' := ⟨[(4, .bool false)], []⟩) (acc := []) (by kernel_rfl) (by kernel_rfl) trivial ?_
      refine run_end (fn := f73) rfl (Nat.le_refl _) (by kernel_rfl) [] [.bool false] (e := []) (by kernel_rfl) trivial (fun w1 k1 h1 => ?_)
      exact ⟨by rw [show vTc p.bs.length p.last t = false from by unfold vTc; rw [hd1, hd2]; rfl]; rfl, k1.keeps (fun _ h => h)⟩
    | true =>
      refine run_ret1 80 #[.agg #[.slice p.ba p.bs.length p.bc, iV p.near, iV p.last, .slice p.ta p.ts.length p.tc], iV t.2.1] (some 13) (.bool true) (by kernel_rfl) (fun w1 k1 h1 => (by have h := isMinute_any p t.2.1 w1; rw [hd2] at h; exact h)) ?_
      refine run_auto [] 4 [] [0] [4, 15, 17] [] (st' := ⟨[(4, .bool false), (15, .bool true), (17, .agg #[iV t.2.2.1, iV t.2.2.2])], []⟩) (acc := [(pA b2, pA b2)]) (by kernel_rfl) (by kernel_rfl) ⟨rfl, trivial⟩ ?_
      cases hd3 : (spI t.2.2 (-100) 100) with
      | false =>
        refine run_ret1 90 #[.agg #[iV t.2.2.1, iV t.2.2.2], iV (-100), iV 100] (some 18) (.bool false) (by kernel_rfl) (fun w1 k1 h1 => (by have h := lies_any t.2.2.1 t.2.2.2 (-100) 100 w1; rw [hd3] at h; exact h)) ?_
        refine run_auto [] 3 [] [] [4] [] (st' := ⟨[(4, .bool false)], []⟩) (acc := []) (by kernel_rfl) (by kernel_rfl) trivial ?_
        refine run_end (fn := f73) rfl (Nat.le_refl _) (by kernel_rfl) [] [.bool false] (e := []) (by kernel_rfl) trivial (fun w1 k1 h1 => ?_)
        exact ⟨by rw [show vTc p.bs.length p.last t = false from by unfold vTc; rw [hd1, hd2, hd3]; rfl]; rfl, k1.keeps (fun _ h => h)⟩
      | true =>
        refine run_ret1 90 #[.agg #[iV t.2.2.1, iV t.2.2.2], iV (-100), iV 100] (some 18) (.bool true) (by kernel_rfl) (fun w1 k1 h1 => (by have h := lies_any t.2.2.1 t.2.2.2 (-100) 100 w1; rw [hd3] at h; exact h)) ?_
        refine run_auto [] 3 [] [] [4] [] (st' := ⟨[(4, .bool true)], []⟩) (acc := []) (by kernel_rfl) (by kernel_rfl) trivial ?_
        refine run_end (fn := f73) rfl (Nat.le_refl _) (by kernel_rfl) [] [.bool true] (e := []) (by kernel_rfl) trivial (fun w1 k1 h1 => ?_)
        exact ⟨by rw [show vTc p.bs.length p.last t = true from by unfold vTc; rw [hd1, hd2, hd3]; rfl]; rfl, k1.keeps (fun _ h => h)⟩

set_option maxRecDepth 100000 in
theorem invT_any (p : Sb) (t : Tc) (b : Nat) (w : World) (hb : w.heap[b]? = some (.cells #[.slice p.ba p.bs.length p.bc, .int .i64 p.near, .int .i64 p.last, .slice p.ta p.ts.length p.tc] 33 (0, 0))) (hl : p.bs.length ≤ maxLen) : Calls Try.prog 72 #[.agg #[.int .i64 t.1, .int .i64 t.2.1, .int .i64 t.2.2.1, .int .i64 t.2.2.2], .pointer (some ⟨b, 0, none⟩)] w (RetB (!vTc p.bs.length p.last t) w) := by
  refine calls_run (fn := f72) (c := (f72.body).getD .skip) [.agg #[.int .i64 t.1, .int .i64 t.2.1, .int .i64 t.2.2.1, .int .i64 t.2.2.2], .pointer (some ⟨b, 0, none⟩)] func72 (by kernel_rfl) (fun _ => False) [] (fun _ h => by cases h) (List.Pairwise.nil) 8 (by kernel_rfl) (by simp) ?_
  refine run_auto [] 2 [] [] [0, 1] [] (st' := ⟨[(0, .agg #[iV t.1, iV t.2.1, iV t.2.2.1, iV t.2.2.2]), (1, pA b)], []⟩) (acc := []) (by kernel_rfl) (by kernel_rfl) trivial ?_
  refine run_new (aO #[iV t.1, iV t.2.1, iV t.2.2.1, iV t.2.2.2] 61) (fun b1 => pA b1) (some 2) (fun _ => by kernel_rfl) (fun b1 hb1 => ?_)
  refine run_auto [] 4 [] [] [1, 2, 3] [0] (st' := ⟨[(1, pA b), (2, pA b1), (3, .bool false)], [(b1, aO #[iV t.1, iV t.2.1, iV t.2.2.1, iV t.2.2.2] 61)]⟩) (acc := []) (by kernel_rfl) (by kernel_rfl) trivial ?_
  refine run_v (Instr.loadAt 33 (pA b) >>= fun v => pure (Next.value v)) (some 4) (.agg #[.slice p.ba p.bs.length p.bc, iV p.near, iV p.last, .slice p.ta p.ts.length p.tc]) (by kernel_rfl) (fun w1 k1 h1 => load_in (base := 0) (off := 0) k1 (fun h => h) [.slice p.ba p.bs.length p.bc, iV p.near, iV p.last, .slice p.ta p.ts.length p.tc] (fun i u hi => by rw [Nat.zero_add]; exact cells_of_heap hb i u hi) (by kernel_rfl)) ?_
  refine run_auto [] 1 [] [0] [3, 4, 5] [] (st' := ⟨[(3, .bool false), (4, .agg #[.slice p.ba p.bs.length p.bc, iV p.near, iV p.last, .slice p.ta p.ts.length p.tc]), (5, .agg #[iV t.1, iV t.2.1, iV t.2.2.1, iV t.2.2.2])], []⟩) (acc := [(pA b1, pA b1)]) (by kernel_rfl) (by kernel_rfl) ⟨rfl, trivial⟩ ?_
  cases hd1 : (vTc p.bs.length p.last t) with
  | false =>
    refine run_ret1 73 #[.agg #[.slice p.ba p.bs.length p.bc, iV p.near, iV p.last, .slice p.ta p.ts.length p.tc], .agg #[iV t.1, iV t.2.1, iV t.2.2.1, iV t.2.2.2]] (some 6) (.bool false) (by kernel_rfl) (fun w1 k1 h1 => (by have h := validTouch_any p t w1 hl; rw [hd1] at h; exact h)) ?_
    refine run_auto [(7, .bool true)] 3 [] [] [3] [] (st' := ⟨[(3, .bool true)], []⟩) (acc := [(.bool true, .bool true)]) (by kernel_rfl) (by kernel_rfl) ⟨rfl, trivial⟩ ?_
    refine run_end (fn := f72) rfl (Nat.le_refl _) (by kernel_rfl) [] [.bool true] (e := []) (by kernel_rfl) trivial (fun w1 k1 h1 => ?_)
    exact ⟨rfl, k1.keeps (fun _ h => h)⟩
  | true =>
    refine run_ret1 73 #[.agg #[.slice p.ba p.bs.length p.bc, iV p.near, iV p.last, .slice p.ta p.ts.length p.tc], .agg #[iV t.1, iV t.2.1, iV t.2.2.1, iV t.2.2.2]] (some 6) (.bool true) (by kernel_rfl) (fun w1 k1 h1 => (by have h := validTouch_any p t w1 hl; rw [hd1] at h; exact h)) ?_
    refine run_auto [(7, .bool false)] 3 [] [] [3] [] (st' := ⟨[(3, .bool false)], []⟩) (acc := [(.bool false, .bool false)]) (by kernel_rfl) (by kernel_rfl) ⟨rfl, trivial⟩ ?_
    refine run_end (fn := f72) rfl (Nat.le_refl _) (by kernel_rfl) [] [.bool false] (e := []) (by kernel_rfl) trivial (fun w1 k1 h1 => ?_)
    exact ⟨rfl, k1.keeps (fun _ h => h)⟩

set_option maxRecDepth 100000 in
theorem idxB_any (L : List Bk) (a : Option Addr) (c : Nat) (w : World) (hL : Bks w a L) (hll : L.length ≤ maxLen)  : Calls Try.prog 91 #[.slice a L.length c, .func (.func 75) #[] #[]] w (RetI (idxP vBk L) w) := by
  simp only [maxLen] at hll
  refine calls_run (fn := f91) (c := (f91.body).getD .skip) [.slice a L.length c, .func (.func 75) #[] #[]] func91 (by kernel_rfl) (fun _ => False) [] (fun _ h => by cases h) (List.Pairwise.nil) 19 (by kernel_rfl) (by simp) ?_
  refine run_auto [] 12 [] [] [0, 1, 4, 7, 8] [] (st' := ⟨[(0, .slice a L.length c), (1, .func (.func 75) #[] #[]), (4, iV 0), (7, iV (L.length : Int)), (8, iV 0)], []⟩) (acc := []) (by kernel_rfl) (by kernel_rfl) trivial ?_
  refine run_auto [] 0 [] [] [0, 1, 4, 7, 8] [] (st' := ⟨[(0, .slice a L.length c), (1, .func (.func 75) #[] #[]), (4, iV 0), (7, iV (L.length : Int)), (8, iV 0)], []⟩) (acc := []) (by kernel_rfl) (by kernel_rfl) trivial ?_
  refine run_loop (S := fun (k : Nat) => ⟨[(0, .slice a L.length c), (1, .func (.func 75) #[] #[]), (4, iV 0), (7, iV (L.length : Int)), (8, iV (k : Int))], []⟩) (fun k => k ≤ L.length ∧ ∀ j, j < k → vBk (elB L j) = true) (fun k => L.length - k) (0) (by kernel_rfl) (⟨Nat.zero_le _, fun _ h => by cases h⟩) (by kernel_rfl) (fun k hI0 J0 hJ0 => ?_)
  obtain ⟨hI1, hI2⟩ := hI0
  cases hd1 : (decide ((k : Int) < (L.length : Int))) with
  | false =>
    have hp1 := of_decide_eq_false hd1
    refine run_auto [(9, .bool false)] 11 [false] [] [4] [] (st' := ⟨[(4, iV (-1))], []⟩) (acc := [(.bool false, .bool false), (.bool (decide ((k : Int) < (L.length : Int))), .bool false)]) (by kernel_rfl) (by kernel_rfl) ⟨rfl, (bo hd1), trivial⟩ ?_
    refine run_end (fn := f91) rfl (Nat.le_refl _) (by kernel_rfl) [] [iV (-1)] (e := []) (by kernel_rfl) trivial (fun w1 k1 h1 => ?_)
    exact ⟨by rw [idxP_no (v := vBk) (d := (0, 0, 0, 0, 0, 0)) (fun j hj => hI2 j (by omega))]; rfl, k1.keeps (fun _ h => h)⟩
  | true =>
    have hp1 := of_decide_eq_true hd1
    have hlt : k < L.length := by omega
    obtain ⟨be, oe, hbe, hc⟩ := hL (by intro h; rw [h] at hlt; cases hlt)
    have hc := hc k hlt
    refine run_auto [(9, .bool true)] 19 [true] [] [0, 1, 4, 7, 8, 5, 11, 12, 13] [] (st' := ⟨[(0, .slice a L.length c), (1, .func (.func 75) #[] #[]), (4, iV 0), (7, iV (L.length : Int)), (8, iV (k : Int)), (5, iV (k : Int)), (11, .func (.func 75) #[] #[]), (12, .slice a L.length c), (13, iV (k : Int))], []⟩) (acc := [(.bool true, .bool true), (.bool (decide ((k : Int) < (L.length : Int))), .bool true)]) (by kernel_rfl) (by kernel_rfl) ⟨rfl, (bo hd1), trivial⟩ ?_
    refine run_v (Instr.indexAt 30 (.slice a L.length c) (iV (k : Int)) >>= fun v => pure (Next.value v)) (some 14) (.pointer (some ⟨be, oe + k * 6, none⟩)) (by kernel_rfl) (fun w1 k1 h1 => (by rw [hbe]; exact idx_off (e := 54) (n := 6) (by kernel_rfl) (by kernel_rfl) be oe L.length c .i64 k hlt (oe + k * 6) (by omega) w1)) ?_
    refine run_v (Instr.loadAt 54 (.pointer (some ⟨be, oe + k * 6, none⟩)) >>= fun v => pure (Next.value v)) (some 15) (.agg #[iV (elB L k).1, iV (elB L k).2.1, iV (elB L k).2.2.1, iV (elB L k).2.2.2.1, iV (elB L k).2.2.2.2.1, iV (elB L k).2.2.2.2.2]) (by kernel_rfl) (fun w1 k1 h1 => load_in (off := 0) k1 (fun h => h) [iV (elB L k).1, iV (elB L k).2.1, iV (elB L k).2.2.1, iV (elB L k).2.2.2.1, iV (elB L k).2.2.2.2.1, iV (elB L k).2.2.2.2.2] (c6 hc.1 hc.2.1 hc.2.2.1 hc.2.2.2.1 hc.2.2.2.2.1 hc.2.2.2.2.2) (by kernel_rfl)) ?_
    cases hd2 : (!vBk (elB L k)) with
    | false =>
      refine run_ret1 75 #[.agg #[iV (elB L k).1, iV (elB L k).2.1, iV (elB L k).2.2.1, iV (elB L k).2.2.2.1, iV (elB L k).2.2.2.2.1, iV (elB L k).2.2.2.2.2]] (some 16) (.bool false) (by kernel_rfl) (fun w1 k1 h1 => (by have h := invB_any (elB L k) w1; rw [hd2] at h; exact h)) ?_
      refine run_auto [(18, iV ((k + 1 : Nat) : Int))] 8 [false] [] [0, 1, 4, 7, 8] [] (st' := ⟨[(0, .slice a L.length c), (1, .func (.func 75) #[] #[]), (4, iV 0), (7, iV (L.length : Int)), (8, iV ((k + 1 : Nat) : Int))], []⟩) (acc := [(iV (IntKind.i64.wrap ((k : Int) + 1)), iV ((k + 1 : Nat) : Int)), (.bool false, .bool false)]) (by kernel_rfl) (by kernel_rfl) ⟨(wr (by omega) (by omega)), rfl, trivial⟩ ?_
      exact run_round (by kernel_rfl) (hJ0 (k + 1) (⟨by omega, fun j hj => (Nat.lt_succ_iff_lt_or_eq.1 hj).elim (hI2 j) (fun h => h ▸ (by simpa using hd2))⟩) (by omega))
    | true =>
      refine run_ret1 75 #[.agg #[iV (elB L k).1, iV (elB L k).2.1, iV (elB L k).2.2.1, iV (elB L k).2.2.2.1, iV (elB L k).2.2.2.2.1, iV (elB L k).2.2.2.2.2]] (some 16) (.bool true) (by kernel_rfl) (fun w1 k1 h1 => (by have h := invB_any (elB L k) w1; rw [hd2] at h; exact h)) ?_
      refine run_auto [] 7 [true] [] [0, 1, 4, 7, 8] [] (st' := ⟨[(0, .slice a L.length c), (1, .func (.func 75) #[] #[]), (4, iV (k : Int)), (7, iV (L.length : Int)), (8, iV (k : Int))], []⟩) (acc := [(.bool true, .bool true)]) (by kernel_rfl) (by kernel_rfl) ⟨rfl, trivial⟩ ?_
      refine run_end (fn := f91) rfl (Nat.le_refl _) (by kernel_rfl) [] [iV (k : Int)] (e := []) (by kernel_rfl) trivial (fun w1 k1 h1 => ?_)
      exact ⟨by rw [idxP_at (v := vBk) (d := (0, 0, 0, 0, 0, 0)) hlt hI2 (show vBk (elB L k) = false by simpa using hd2)]; rfl, k1.keeps (fun _ h => h)⟩

set_option maxRecDepth 100000 in
theorem contB_any (L : List Bk) (a : Option Addr) (c : Nat) (w : World) (hL : Bks w a L) (hll : L.length ≤ maxLen)  : Calls Try.prog 74 #[.slice a L.length c, .func (.func 75) #[] #[]] w (RetB (!L.all vBk) w) := by
  refine calls_run (fn := f74) (c := (f74.body).getD .skip) [.slice a L.length c, .func (.func 75) #[] #[]] func74 (by kernel_rfl) (fun _ => False) [] (fun _ h => by cases h) (List.Pairwise.nil) 9 (by kernel_rfl) (by simp) ?_
  refine run_auto [] 8 [] [] [4, 5, 6] [] (st' := ⟨[(4, .bool false), (5, .slice a L.length c), (6, .func (.func 75) #[] #[])], []⟩) (acc := []) (by kernel_rfl) (by kernel_rfl) trivial ?_
  refine run_ret1 91 #[.slice a L.length c, .func (.func 75) #[] #[]] (some 7) (iV (idxP vBk L)) (by kernel_rfl) (fun w1 k1 h1 => idxB_any L a c w1 (hL.keep (k1.keeps (fun _ h => h))) hll) ?_
  refine run_auto [] 3 [] [] [4] [] (st' := ⟨[(4, .bool (decide (0 ≤ (idxP vBk L))))], []⟩) (acc := []) (by kernel_rfl) (by kernel_rfl) trivial ?_
  refine run_end (fn := f74) rfl (Nat.le_refl _) (by kernel_rfl) [] [.bool (decide (0 ≤ (idxP vBk L)))] (e := []) (by kernel_rfl) trivial (fun w1 k1 h1 => ?_)
  exact ⟨by rw [← idxP_ge]; rfl, k1.keeps (fun _ h => h)⟩

set_option maxRecDepth 100000 in
theorem idxT_any (p : Sb) (b : Nat) (L : List Tc) (a : Option Addr) (c : Nat) (w : World) (hL : Tcs w a L) (hll : L.length ≤ maxLen) (hb : w.heap[b]? = some (.cells #[.slice p.ba p.bs.length p.bc, .int .i64 p.near, .int .i64 p.last, .slice p.ta p.ts.length p.tc] 33 (0, 0))) (hl : p.bs.length ≤ maxLen) : Calls Try.prog 92 #[.slice a L.length c, .func (.func 72) #[] #[.pointer (some ⟨b, 0, none⟩)]] w (RetI (idxP (vTc p.bs.length p.last) L) w) := by
  simp only [maxLen] at hll
  refine calls_run (fn := f92) (c := (f92.body).getD .skip) [.slice a L.length c, .func (.func 72) #[] #[.pointer (some ⟨b, 0, none⟩)]] func92 (by kernel_rfl) (fun _ => False) [] (fun _ h => by cases h) (List.Pairwise.nil) 19 (by kernel_rfl) (by simp) ?_
  refine run_auto [] 12 [] [] [0, 1, 4, 7, 8] [] (st' := ⟨[(0, .slice a L.length c), (1, .func (.func 72) #[] #[pA b]), (4, iV 0), (7, iV (L.length : Int)), (8, iV 0)], []⟩) (acc := []) (by kernel_rfl) (by kernel_rfl) trivial ?_
  refine run_auto [] 0 [] [] [0, 1, 4, 7, 8] [] (st' := ⟨[(0, .slice a L.length c), (1, .func (.func 72) #[] #[pA b]), (4, iV 0), (7, iV (L.length : Int)), (8, iV 0)], []⟩) (acc := []) (by kernel_rfl) (by kernel_rfl) trivial ?_
  refine run_loop (S := fun (k : Nat) => ⟨[(0, .slice a L.length c), (1, .func (.func 72) #[] #[pA b]), (4, iV 0), (7, iV (L.length : Int)), (8, iV (k : Int))], []⟩) (fun k => k ≤ L.length ∧ ∀ j, j < k → (vTc p.bs.length p.last) (elT L j) = true) (fun k => L.length - k) (0) (by kernel_rfl) (⟨Nat.zero_le _, fun _ h => by cases h⟩) (by kernel_rfl) (fun k hI0 J0 hJ0 => ?_)
  obtain ⟨hI1, hI2⟩ := hI0
  cases hd1 : (decide ((k : Int) < (L.length : Int))) with
  | false =>
    have hp1 := of_decide_eq_false hd1
    refine run_auto [(9, .bool false)] 11 [false] [] [4] [] (st' := ⟨[(4, iV (-1))], []⟩) (acc := [(.bool false, .bool false), (.bool (decide ((k : Int) < (L.length : Int))), .bool false)]) (by kernel_rfl) (by kernel_rfl) ⟨rfl, (bo hd1), trivial⟩ ?_
    refine run_end (fn := f92) rfl (Nat.le_refl _) (by kernel_rfl) [] [iV (-1)] (e := []) (by kernel_rfl) trivial (fun w1 k1 h1 => ?_)
    exact ⟨by rw [idxP_no (v := (vTc p.bs.length p.last)) (d := (0, 0, 0, 0)) (fun j hj => hI2 j (by omega))]; rfl, k1.keeps (fun _ h => h)⟩
  | true =>
    have hp1 := of_decide_eq_true hd1
    have hlt : k < L.length := by omega
    obtain ⟨be, oe, hbe, hc⟩ := hL (by intro h; rw [h] at hlt; cases hlt)
    have hc := hc k hlt
    refine run_auto [(9, .bool true)] 19 [true] [] [0, 1, 4, 7, 8, 5, 11, 12, 13] [] (st' := ⟨[(0, .slice a L.length c), (1, .func (.func 72) #[] #[pA b]), (4, iV 0), (7, iV (L.length : Int)), (8, iV (k : Int)), (5, iV (k : Int)), (11, .func (.func 72) #[] #[pA b]), (12, .slice a L.length c), (13, iV (k : Int))], []⟩) (acc := [(.bool true, .bool true), (.bool (decide ((k : Int) < (L.length : Int))), .bool true)]) (by kernel_rfl) (by kernel_rfl) ⟨rfl, (bo hd1), trivial⟩ ?_
    refine run_v (Instr.indexAt 31 (.slice a L.length c) (iV (k : Int)) >>= fun v => pure (Next.value v)) (some 14) (.pointer (some ⟨be, oe + k * 4, none⟩)) (by kernel_rfl) (fun w1 k1 h1 => (by rw [hbe]; exact idx_off (e := 61) (n := 4) (by kernel_rfl) (by kernel_rfl) be oe L.length c .i64 k hlt (oe + k * 4) (by omega) w1)) ?_
    refine run_v (Instr.loadAt 61 (.pointer (some ⟨be, oe + k * 4, none⟩)) >>= fun v => pure (Next.value v)) (some 15) (.agg #[iV (elT L k).1, iV (elT L k).2.1, iV (elT L k).2.2.1, iV (elT L k).2.2.2]) (by kernel_rfl) (fun w1 k1 h1 => load_in (off := 0) k1 (fun h => h) [iV (elT L k).1, iV (elT L k).2.1, iV (elT L k).2.2.1, iV (elT L k).2.2.2] (c4 hc.1 hc.2.1 hc.2.2.1 hc.2.2.2) (by kernel_rfl)) ?_
    cases hd2 : (!vTc p.bs.length p.last (elT L k)) with
    | false =>
      refine run_ret1 72 #[.agg #[iV (elT L k).1, iV (elT L k).2.1, iV (elT L k).2.2.1, iV (elT L k).2.2.2], pA b] (some 16) (.bool false) (by kernel_rfl) (fun w1 k1 h1 => (by have h := invT_any p (elT L k) b w1 ((k1.block _ (Array.getElem?_eq_some_iff.1 hb).1 (fun h => h)).trans hb) hl; rw [hd2] at h; exact h)) ?_
      refine run_auto [(18, iV ((k + 1 : Nat) : Int))] 8 [false] [] [0, 1, 4, 7, 8] [] (st' := ⟨[(0, .slice a L.length c), (1, .func (.func 72) #[] #[pA b]), (4, iV 0), (7, iV (L.length : Int)), (8, iV ((k + 1 : Nat) : Int))], []⟩) (acc := [(iV (IntKind.i64.wrap ((k : Int) + 1)), iV ((k + 1 : Nat) : Int)), (.bool false, .bool false)]) (by kernel_rfl) (by kernel_rfl) ⟨(wr (by omega) (by omega)), rfl, trivial⟩ ?_
      exact run_round (by kernel_rfl) (hJ0 (k + 1) (⟨by omega, fun j hj => (Nat.lt_succ_iff_lt_or_eq.1 hj).elim (hI2 j) (fun h => h ▸ (by simpa using hd2))⟩) (by omega))
    | true =>
      refine run_ret1 72 #[.agg #[iV (elT L k).1, iV (elT L k).2.1, iV (elT L k).2.2.1, iV (elT L k).2.2.2], pA b] (some 16) (.bool true) (by kernel_rfl) (fun w1 k1 h1 => (by have h := invT_any p (elT L k) b w1 ((k1.block _ (Array.getElem?_eq_some_iff.1 hb).1 (fun h => h)).trans hb) hl; rw [hd2] at h; exact h)) ?_
      refine run_auto [] 7 [true] [] [0, 1, 4, 7, 8] [] (st' := ⟨[(0, .slice a L.length c), (1, .func (.func 72) #[] #[pA b]), (4, iV (k : Int)), (7, iV (L.length : Int)), (8, iV (k : Int))], []⟩) (acc := [(.bool true, .bool true)]) (by kernel_rfl) (by kernel_rfl) ⟨rfl, trivial⟩ ?_
      refine run_end (fn := f92) rfl (Nat.le_refl _) (by kernel_rfl) [] [iV (k : Int)] (e := []) (by kernel_rfl) trivial (fun w1 k1 h1 => ?_)
      exact ⟨by rw [idxP_at (v := (vTc p.bs.length p.last)) (d := (0, 0, 0, 0)) hlt hI2 (show (vTc p.bs.length p.last) (elT L k) = false by simpa using hd2)]; rfl, k1.keeps (fun _ h => h)⟩

set_option maxRecDepth 100000 in
theorem contT_any (p : Sb) (b : Nat) (L : List Tc) (a : Option Addr) (c : Nat) (w : World) (hL : Tcs w a L) (hll : L.length ≤ maxLen) (hb : w.heap[b]? = some (.cells #[.slice p.ba p.bs.length p.bc, .int .i64 p.near, .int .i64 p.last, .slice p.ta p.ts.length p.tc] 33 (0, 0))) (hl : p.bs.length ≤ maxLen) : Calls Try.prog 77 #[.slice a L.length c, .func (.func 72) #[] #[.pointer (some ⟨b, 0, none⟩)]] w (RetB (!L.all (vTc p.bs.length p.last)) w) := by
  refine calls_run (fn := f77) (c := (f77.body).getD .skip) [.slice a L.length c, .func (.func 72) #[] #[.pointer (some ⟨b, 0, none⟩)]] func77 (by kernel_rfl) (fun _ => False) [] (fun _ h => by cases h) (List.Pairwise.nil) 9 (by kernel_rfl) (by simp) ?_
  refine run_auto [] 8 [] [] [4, 5, 6] [] (st' := ⟨[(4, .bool false), (5, .slice a L.length c), (6, .func (.func 72) #[] #[pA b])], []⟩) (acc := []) (by kernel_rfl) (by kernel_rfl) trivial ?_
  refine run_ret1 92 #[.slice a L.length c, .func (.func 72) #[] #[pA b]] (some 7) (iV (idxP (vTc p.bs.length p.last) L)) (by kernel_rfl) (fun w1 k1 h1 => idxT_any p b L a c w1 (hL.keep (k1.keeps (fun _ h => h))) hll ((k1.block _ (Array.getElem?_eq_some_iff.1 hb).1 (fun h => h)).trans hb) hl) ?_
  refine run_auto [] 3 [] [] [4] [] (st' := ⟨[(4, .bool (decide (0 ≤ (idxP (vTc p.bs.length p.last) L))))], []⟩) (acc := []) (by kernel_rfl) (by kernel_rfl) trivial ?_
  refine run_end (fn := f77) rfl (Nat.le_refl _) (by kernel_rfl) [] [.bool (decide (0 ≤ (idxP (vTc p.bs.length p.last) L)))] (e := []) (by kernel_rfl) trivial (fun w1 k1 h1 => ?_)
  exact ⟨by rw [← idxP_ge]; rfl, k1.keeps (fun _ h => h)⟩

set_option maxRecDepth 100000 in
theorem needSettle_any (p : Sb) (w : World) (hp : p.In w) : Calls Try.prog 32 #[.agg #[.slice p.ba p.bs.length p.bc, .int .i64 p.near, .int .i64 p.last, .slice p.ta p.ts.length p.tc]] w (Need p.n.ok 1 w) := by
  refine calls_run (fn := f32) (c := (f32.body).getD .skip) [.agg #[.slice p.ba p.bs.length p.bc, .int .i64 p.near, .int .i64 p.last, .slice p.ta p.ts.length p.tc]] func32 (by kernel_rfl) (fun _ => False) [] (fun _ h => by cases h) (List.Pairwise.nil) 47 (by kernel_rfl) (by simp) ?_
  refine run_auto [] 2 [] [] [0] [] (st' := ⟨[(0, .agg #[.slice p.ba p.bs.length p.bc, iV p.near, iV p.last, .slice p.ta p.ts.length p.tc])], []⟩) (acc := []) (by kernel_rfl) (by kernel_rfl) trivial ?_
  refine run_new (aO #[.slice p.ba p.bs.length p.bc, iV p.near, iV p.last, .slice p.ta p.ts.length p.tc] 33) (fun b1 => pA b1) (some 1) (fun _ => by kernel_rfl) (fun b1 hb1 => ?_)
  cases hd1 : (decide (1 ≤ (p.bs.length : Int))) with
  | false =>
    have hp1 := of_decide_eq_false hd1
    refine run_auto [(8, .bool false), (45, .bool true)] 57 [true] [0] [46] [] (st' := ⟨[(46, .iface 27 (iV 1))], []⟩) (acc := [(.bool true, .bool true), (.bool true, .bool true), (.bool (decide (1 ≤ (p.bs.length : Int))), .bool false), (pA b1, pA b1)]) (by kernel_rfl) (by kernel_rfl) ⟨rfl, rfl, (bo hd1), rfl, trivial⟩ ?_
    have h : p.n.ok = false := by
      unfold Sn.ok Sb.n
      dsimp only
      rw [hd1]
      try rfl
    unfold Need
    rw [h]
    exact run_panic rfl (Nat.le_refl _) (Instr.panic (.iface 27 (iV 1)) >>= fun v => pure (Next.value v)) none (.iface 27 (iV 1)) (by kernel_rfl) (fun w => by kernel_rfl) (fun w1 k1 h1 => ⟨rfl, k1.keeps (fun _ h => h)⟩)
  | true =>
    have hp1 := of_decide_eq_true hd1
    cases hd2 : (decide ((p.bs.length : Int) ≤ 4)) with
    | false =>
      have hp2 := of_decide_eq_false hd2
      refine run_auto [(8, .bool true), (13, .bool false), (45, .bool true)] 57 [true] [0, 0] [46] [] (st' := ⟨[(46, .iface 27 (iV 1))], []⟩) (acc := [(.bool true, .bool true), (.bool true, .bool true), (.bool (decide ((p.bs.length : Int) ≤ 4)), .bool false), (pA b1, pA b1), (.bool (decide (1 ≤ (p.bs.length : Int))), .bool true), (pA b1, pA b1)]) (by kernel_rfl) (by kernel_rfl) ⟨rfl, rfl, (bo hd2), rfl, (bo hd1), rfl, trivial⟩ ?_
      have h : p.n.ok = false := by
        unfold Sn.ok Sb.n
        dsimp only
        rw [hd1, hd2]
        try rfl
      unfold Need
      rw [h]
      exact run_panic rfl (Nat.le_refl _) (Instr.panic (.iface 27 (iV 1)) >>= fun v => pure (Next.value v)) none (.iface 27 (iV 1)) (by kernel_rfl) (fun w => by kernel_rfl) (fun w1 k1 h1 => ⟨rfl, k1.keeps (fun _ h => h)⟩)
    | true =>
      have hp2 := of_decide_eq_true hd2
      refine run_auto [(8, .bool true), (13, .bool true)] 21 [] [0, 0, 0] [1, 2, 15, 17] [0] (st' := ⟨[(1, pA b1), (2, .func (.func 72) #[] #[pA b1]), (15, .bool true), (17, .slice p.ba p.bs.length p.bc)], [(b1, aO #[.slice p.ba p.bs.length p.bc, iV p.near, iV p.last, .slice p.ta p.ts.length p.tc] 33)]⟩) (acc := [(pA b1, pA b1), (.bool (decide ((p.bs.length : Int) ≤ 4)), .bool true), (pA b1, pA b1), (.bool (decide (1 ≤ (p.bs.length : Int))), .bool true), (pA b1, pA b1)]) (by kernel_rfl) (by kernel_rfl) ⟨rfl, (bo hd2), rfl, (bo hd1), rfl, trivial⟩ ?_
      cases hd3 : (!p.bs.all vBk) with
      | false =>
        refine run_ret1 74 #[.slice p.ba p.bs.length p.bc, .func (.func 75) #[] #[]] (some 18) (.bool false) (by kernel_rfl) (fun w1 k1 h1 => (by have h := contB_any p.bs p.ba p.bc w1 (hp.keep (k1.keeps (fun _ h => h))).bk hp.lb; rw [hd3] at h; exact h)) ?_
        refine run_auto [(19, .bool true)] 5 [] [0] [1, 2, 21, 23] [0] (st' := ⟨[(1, pA b1), (2, .func (.func 72) #[] #[pA b1]), (21, .bool true), (23, iV p.near)], [(b1, aO #[.slice p.ba p.bs.length p.bc, iV p.near, iV p.last, .slice p.ta p.ts.length p.tc] 33)]⟩) (acc := [(pA b1, pA b1), (.bool true, .bool true)]) (by kernel_rfl) (by kernel_rfl) ⟨rfl, rfl, trivial⟩ ?_
        cases hd4 : (inI p.near 0 20) with
        | false =>
          refine run_ret1 76 #[iV p.near, iV 0, iV 20] (some 24) (.bool false) (by kernel_rfl) (fun w1 k1 h1 => (by have h := within_any p.near 0 20 w1; rw [hd4] at h; exact h)) ?_
          refine run_auto [(45, .bool true)] 29 [true] [] [46] [] (st' := ⟨[(46, .iface 27 (iV 1))], []⟩) (acc := [(.bool true, .bool true), (.bool true, .bool true)]) (by kernel_rfl) (by kernel_rfl) ⟨rfl, rfl, trivial⟩ ?_
          have h : p.n.ok = false := by
            unfold Sn.ok Sb.n
            dsimp only
            rw [hd1, hd2, (show p.bs.all vBk = true by simpa using hd3), hd4]
            try rfl
          unfold Need
          rw [h]
          exact run_panic rfl (Nat.le_refl _) (Instr.panic (.iface 27 (iV 1)) >>= fun v => pure (Next.value v)) none (.iface 27 (iV 1)) (by kernel_rfl) (fun w => by kernel_rfl) (fun w1 k1 h1 => ⟨rfl, k1.keeps (fun _ h => h)⟩)
        | true =>
          refine run_ret1 76 #[iV p.near, iV 0, iV 20] (some 24) (.bool true) (by kernel_rfl) (fun w1 k1 h1 => (by have h := within_any p.near 0 20 w1; rw [hd4] at h; exact h)) ?_
          refine run_auto [] 4 [] [0] [1, 2, 26, 28] [0] (st' := ⟨[(1, pA b1), (2, .func (.func 72) #[] #[pA b1]), (26, .bool true), (28, iV p.last)], [(b1, aO #[.slice p.ba p.bs.length p.bc, iV p.near, iV p.last, .slice p.ta p.ts.length p.tc] 33)]⟩) (acc := [(pA b1, pA b1)]) (by kernel_rfl) (by kernel_rfl) ⟨rfl, trivial⟩ ?_
          cases hd5 : (inI p.last 1 60) with
          | false =>
            refine run_ret1 76 #[iV p.last, iV 1, iV 60] (some 29) (.bool false) (by kernel_rfl) (fun w1 k1 h1 => (by have h := within_any p.last 1 60 w1; rw [hd5] at h; exact h)) ?_
            refine run_auto [(45, .bool true)] 24 [true] [] [46] [] (st' := ⟨[(46, .iface 27 (iV 1))], []⟩) (acc := [(.bool true, .bool true), (.bool true, .bool true)]) (by kernel_rfl) (by kernel_rfl) ⟨rfl, rfl, trivial⟩ ?_
            have h : p.n.ok = false := by
              unfold Sn.ok Sb.n
              dsimp only
              rw [hd1, hd2, (show p.bs.all vBk = true by simpa using hd3), hd4, hd5]
              try rfl
            unfold Need
            rw [h]
            exact run_panic rfl (Nat.le_refl _) (Instr.panic (.iface 27 (iV 1)) >>= fun v => pure (Next.value v)) none (.iface 27 (iV 1)) (by kernel_rfl) (fun w => by kernel_rfl) (fun w1 k1 h1 => ⟨rfl, k1.keeps (fun _ h => h)⟩)
          | true =>
            refine run_ret1 76 #[iV p.last, iV 1, iV 60] (some 29) (.bool true) (by kernel_rfl) (fun w1 k1 h1 => (by have h := within_any p.last 1 60 w1; rw [hd5] at h; exact h)) ?_
            cases hd6 : (decide ((p.ts.length : Int) ≤ 6)) with
            | false =>
              have hp6 := of_decide_eq_false hd6
              refine run_auto [(35, .bool false), (45, .bool true)] 24 [true] [0] [46] [] (st' := ⟨[(46, .iface 27 (iV 1))], []⟩) (acc := [(.bool true, .bool true), (.bool true, .bool true), (.bool (decide ((p.ts.length : Int) ≤ 6)), .bool false), (pA b1, pA b1)]) (by kernel_rfl) (by kernel_rfl) ⟨rfl, rfl, (bo hd6), rfl, trivial⟩ ?_
              have h : p.n.ok = false := by
                unfold Sn.ok Sb.n
                dsimp only
                rw [hd1, hd2, (show p.bs.all vBk = true by simpa using hd3), hd4, hd5, hd6]
                try rfl
              unfold Need
              rw [h]
              exact run_panic rfl (Nat.le_refl _) (Instr.panic (.iface 27 (iV 1)) >>= fun v => pure (Next.value v)) none (.iface 27 (iV 1)) (by kernel_rfl) (fun w => by kernel_rfl) (fun w1 k1 h1 => ⟨rfl, k1.keeps (fun _ h => h)⟩)
            | true =>
              have hp6 := of_decide_eq_true hd6
              refine run_auto [(35, .bool true)] 11 [] [0, 0] [37, 39, 40] [0] (st' := ⟨[(37, .bool true), (39, .slice p.ta p.ts.length p.tc), (40, .func (.func 72) #[] #[pA b1])], [(b1, aO #[.slice p.ba p.bs.length p.bc, iV p.near, iV p.last, .slice p.ta p.ts.length p.tc] 33)]⟩) (acc := [(pA b1, pA b1), (.bool (decide ((p.ts.length : Int) ≤ 6)), .bool true), (pA b1, pA b1)]) (by kernel_rfl) (by kernel_rfl) ⟨rfl, (bo hd6), rfl, trivial⟩ ?_
              cases hd7 : (!p.ts.all (vTc p.bs.length p.last)) with
              | false =>
                refine run_ret1 77 #[.slice p.ta p.ts.length p.tc, .func (.func 72) #[] #[pA b1]] (some 41) (.bool false) (by kernel_rfl) (fun w1 k1 h1 => (by have h := contT_any p b1 p.ts p.ta p.tc w1 (hp.keep (k1.keeps (fun _ h => h))).tk hp.lt (h1 (b1, aO #[.slice p.ba p.bs.length p.bc, iV p.near, iV p.last, .slice p.ta p.ts.length p.tc] 33) (List.mem_of_getElem? (i := 0) (by kernel_rfl))) hp.lb; rw [hd7] at h; exact h)) ?_
                refine run_auto [(42, .bool true), (45, .bool false)] 11 [false] [] [] [] (st' := ⟨[], []⟩) (acc := [(.bool false, .bool false), (.bool false, .bool false), (.bool true, .bool true)]) (by kernel_rfl) (by kernel_rfl) ⟨rfl, rfl, rfl, trivial⟩ ?_
                refine run_end (fn := f32) rfl (Nat.le_refl _) (by kernel_rfl) [] [] (e := []) (by kernel_rfl) trivial (fun w1 k1 h1 => ?_)
                have h : p.n.ok = true := by
                  unfold Sn.ok Sb.n
                  dsimp only
                  rw [hd1, hd2, (show p.bs.all vBk = true by simpa using hd3), hd4, hd5, hd6, (show p.ts.all (vTc p.bs.length p.last) = true by simpa using hd7)]
                  try rfl
                unfold Need
                rw [h]
                exact ⟨rfl, k1.keeps (fun _ h => h)⟩
              | true =>
                refine run_ret1 77 #[.slice p.ta p.ts.length p.tc, .func (.func 72) #[] #[pA b1]] (some 41) (.bool true) (by kernel_rfl) (fun w1 k1 h1 => (by have h := contT_any p b1 p.ts p.ta p.tc w1 (hp.keep (k1.keeps (fun _ h => h))).tk hp.lt (h1 (b1, aO #[.slice p.ba p.bs.length p.bc, iV p.near, iV p.last, .slice p.ta p.ts.length p.tc] 33) (List.mem_of_getElem? (i := 0) (by kernel_rfl))) hp.lb; rw [hd7] at h; exact h)) ?_
                refine run_auto [(42, .bool false), (45, .bool true)] 12 [true] [] [46] [] (st' := ⟨[(46, .iface 27 (iV 1))], []⟩) (acc := [(.bool true, .bool true), (.bool true, .bool true), (.bool false, .bool false)]) (by kernel_rfl) (by kernel_rfl) ⟨rfl, rfl, rfl, trivial⟩ ?_
                have h : p.n.ok = false := by
                  unfold Sn.ok Sb.n
                  dsimp only
                  rw [hd1, hd2, (show p.bs.all vBk = true by simpa using hd3), hd4, hd5, hd6, (show p.ts.all (vTc p.bs.length p.last) = false by simpa using hd7)]
                  try rfl
                unfold Need
                rw [h]
                exact run_panic rfl (Nat.le_refl _) (Instr.panic (.iface 27 (iV 1)) >>= fun v => pure (Next.value v)) none (.iface 27 (iV 1)) (by kernel_rfl) (fun w => by kernel_rfl) (fun w1 k1 h1 => ⟨rfl, k1.keeps (fun _ h => h)⟩)
      | true =>
        refine run_ret1 74 #[.slice p.ba p.bs.length p.bc, .func (.func 75) #[] #[]] (some 18) (.bool true) (by kernel_rfl) (fun w1 k1 h1 => (by have h := contB_any p.bs p.ba p.bc w1 (hp.keep (k1.keeps (fun _ h => h))).bk hp.lb; rw [hd3] at h; exact h)) ?_
        refine run_auto [(19, .bool false), (45, .bool true)] 35 [true] [] [46] [] (st' := ⟨[(46, .iface 27 (iV 1))], []⟩) (acc := [(.bool true, .bool true), (.bool true, .bool true), (.bool false, .bool false)]) (by kernel_rfl) (by kernel_rfl) ⟨rfl, rfl, rfl, trivial⟩ ?_
        have h : p.n.ok = false := by
          unfold Sn.ok Sb.n
          dsimp only
          rw [hd1, hd2, (show p.bs.all vBk = false by simpa using hd3)]
          try rfl
        unfold Need
        rw [h]
        exact run_panic rfl (Nat.le_refl _) (Instr.panic (.iface 27 (iV 1)) >>= fun v => pure (Next.value v)) none (.iface 27 (iV 1)) (by kernel_rfl) (fun w => by kernel_rfl) (fun w1 k1 h1 => ⟨rfl, k1.keeps (fun _ h => h)⟩)

set_option maxRecDepth 100000 in
theorem needRange_any (b : Bool) (w : World)  : Calls Try.prog 78 #[.bool b] w (Need b 2 w) := by
  refine calls_run (fn := f78) (c := (f78.body).getD .skip) [.bool b] func78 (by kernel_rfl) (fun _ => False) [] (fun _ h => by cases h) (List.Pairwise.nil) 5 (by kernel_rfl) (by simp) ?_
  cases hd1 : b with
  | false =>
    refine run_auto [(3, .bool true)] 8 [true] [] [4] [] (st' := ⟨[(4, .iface 27 (iV 2))], []⟩) (acc := [(.bool true, .bool true), (.bool true, .bool true)]) (by kernel_rfl) (by kernel_rfl) ⟨rfl, rfl, trivial⟩ ?_
    unfold Need
    exact run_panic rfl (Nat.le_refl _) (Instr.panic (.iface 27 (iV 2)) >>= fun v => pure (Next.value v)) none (.iface 27 (iV 2)) (by kernel_rfl) (fun w => by kernel_rfl) (fun w1 k1 h1 => ⟨rfl, k1.keeps (fun _ h => h)⟩)
  | true =>
    refine run_auto [(3, .bool false)] 7 [false] [] [] [] (st' := ⟨[], []⟩) (acc := [(.bool false, .bool false), (.bool false, .bool false)]) (by kernel_rfl) (by kernel_rfl) ⟨rfl, rfl, trivial⟩ ?_
    refine run_end (fn := f78) rfl (Nat.le_refl _) (by kernel_rfl) [] [] (e := []) (by kernel_rfl) trivial (fun w1 k1 h1 => ?_)
    unfold Need
    exact ⟨rfl, k1.keeps (fun _ h => h)⟩

set_option maxRecDepth 100000 in
theorem needBlock_any (p : Sb) (n : Int) (w : World) (hl : p.bs.length ≤ maxLen) : Calls Try.prog 33 #[.agg #[.slice p.ba p.bs.length p.bc, .int .i64 p.near, .int .i64 p.last, .slice p.ta p.ts.length p.tc], .int .i64 n] w (Need (inI n 0 ((p.bs.length : Int) - 1)) 2 w) := by
  refine calls_run (fn := f33) (c := (f33.body).getD .skip) [.agg #[.slice p.ba p.bs.length p.bc, .int .i64 p.near, .int .i64 p.last, .slice p.ta p.ts.length p.tc], .int .i64 n] func33 (by kernel_rfl) (fun _ => False) [] (fun _ h => by cases h) (List.Pairwise.nil) 8 (by kernel_rfl) (by simp) ?_
  refine run_auto [] 2 [] [] [0, 1] [] (st' := ⟨[(0, .agg #[.slice p.ba p.bs.length p.bc, iV p.near, iV p.last, .slice p.ta p.ts.length p.tc]), (1, iV n)], []⟩) (acc := []) (by kernel_rfl) (by kernel_rfl) trivial ?_
  refine run_new (aO #[.slice p.ba p.bs.length p.bc, iV p.near, iV p.last, .slice p.ta p.ts.length p.tc] 33) (fun b1 => pA b1) (some 2) (fun _ => by kernel_rfl) (fun b1 hb1 => ?_)
  refine run_auto [] 4 [] [0] [4, 5] [] (st' := ⟨[(4, .agg #[.slice p.ba p.bs.length p.bc, iV p.near, iV p.last, .slice p.ta p.ts.length p.tc]), (5, iV n)], []⟩) (acc := [(pA b1, pA b1)]) (by kernel_rfl) (by kernel_rfl) ⟨rfl, trivial⟩ ?_
  cases hd1 : (inI n 0 ((p.bs.length : Int) - 1)) with
  | false =>
    refine run_ret1 79 #[.agg #[.slice p.ba p.bs.length p.bc, iV p.near, iV p.last, .slice p.ta p.ts.length p.tc], iV n] (some 6) (.bool false) (by kernel_rfl) (fun w1 k1 h1 => (by have h := isBlock_any p n w1 hl; rw [hd1] at h; exact h)) ?_
    unfold Need
    exact run_panics rfl (Nat.le_refl _) 78 #[.bool false] (some 7) (pe 2) (by kernel_rfl) (fun w1 k1 h1 => needRange_any false w1) (fun w1 k1 h1 => ⟨rfl, k1.keeps (fun _ h => h)⟩)
  | true =>
    refine run_ret1 79 #[.agg #[.slice p.ba p.bs.length p.bc, iV p.near, iV p.last, .slice p.ta p.ts.length p.tc], iV n] (some 6) (.bool true) (by kernel_rfl) (fun w1 k1 h1 => (by have h := isBlock_any p n w1 hl; rw [hd1] at h; exact h)) ?_
    refine run_ret1 78 #[.bool true] (some 7) (.tuple #[]) (by kernel_rfl) (fun w1 k1 h1 => needRange_any true w1) ?_
    refine run_auto [] 1 [] [] [] [] (st' := ⟨[], []⟩) (acc := []) (by kernel_rfl) (by kernel_rfl) trivial ?_
    refine run_end (fn := f33) rfl (Nat.le_refl _) (by kernel_rfl) [] [] (e := []) (by kernel_rfl) trivial (fun w1 k1 h1 => ?_)
    unfold Need
    exact ⟨rfl, k1.keeps (fun _ h => h)⟩

set_option maxRecDepth 100000 in
theorem needMinute_any (p : Sb) (n : Int) (w : World)  : Calls Try.prog 34 #[.agg #[.slice p.ba p.bs.length p.bc, .int .i64 p.near, .int .i64 p.last, .slice p.ta p.ts.length p.tc], .int .i64 n] w (Need (inI n 0 p.last) 2 w) := by
  refine calls_run (fn := f34) (c := (f34.body).getD .skip) [.agg #[.slice p.ba p.bs.length p.bc, .int .i64 p.near, .int .i64 p.last, .slice p.ta p.ts.length p.tc], .int .i64 n] func34 (by kernel_rfl) (fun _ => False) [] (fun _ h => by cases h) (List.Pairwise.nil) 8 (by kernel_rfl) (by simp) ?_
  refine run_auto [] 2 [] [] [0, 1] [] (st' := ⟨[(0, .agg #[.slice p.ba p.bs.length p.bc, iV p.near, iV p.last, .slice p.ta p.ts.length p.tc]), (1, iV n)], []⟩) (acc := []) (by kernel_rfl) (by kernel_rfl) trivial ?_
  refine run_new (aO #[.slice p.ba p.bs.length p.bc, iV p.near, iV p.last, .slice p.ta p.ts.length p.tc] 33) (fun b1 => pA b1) (some 2) (fun _ => by kernel_rfl) (fun b1 hb1 => ?_)
  refine run_auto [] 4 [] [0] [4, 5] [] (st' := ⟨[(4, .agg #[.slice p.ba p.bs.length p.bc, iV p.near, iV p.last, .slice p.ta p.ts.length p.tc]), (5, iV n)], []⟩) (acc := [(pA b1, pA b1)]) (by kernel_rfl) (by kernel_rfl) ⟨rfl, trivial⟩ ?_
  cases hd1 : (inI n 0 p.last) with
  | false =>
    refine run_ret1 80 #[.agg #[.slice p.ba p.bs.length p.bc, iV p.near, iV p.last, .slice p.ta p.ts.length p.tc], iV n] (some 6) (.bool false) (by kernel_rfl) (fun w1 k1 h1 => (by have h := isMinute_any p n w1; rw [hd1] at h; exact h)) ?_
    unfold Need
    exact run_panics rfl (Nat.le_refl _) 78 #[.bool false] (some 7) (pe 2) (by kernel_rfl) (fun w1 k1 h1 => needRange_any false w1) (fun w1 k1 h1 => ⟨rfl, k1.keeps (fun _ h => h)⟩)
  | true =>
    refine run_ret1 80 #[.agg #[.slice p.ba p.bs.length p.bc, iV p.near, iV p.last, .slice p.ta p.ts.length p.tc], iV n] (some 6) (.bool true) (by kernel_rfl) (fun w1 k1 h1 => (by have h := isMinute_any p n w1; rw [hd1] at h; exact h)) ?_
    refine run_ret1 78 #[.bool true] (some 7) (.tuple #[]) (by kernel_rfl) (fun w1 k1 h1 => needRange_any true w1) ?_
    refine run_auto [] 1 [] [] [] [] (st' := ⟨[], []⟩) (acc := []) (by kernel_rfl) (by kernel_rfl) trivial ?_
    refine run_end (fn := f34) rfl (Nat.le_refl _) (by kernel_rfl) [] [] (e := []) (by kernel_rfl) trivial (fun w1 k1 h1 => ?_)
    unfold Need
    exact ⟨rfl, k1.keeps (fun _ h => h)⟩

set_option maxRecDepth 100000 in
theorem needWarmth_any (n : Int) (w : World)  : Calls Try.prog 50 #[.int .i64 n] w (Need (inI n (-100) 100) 2 w) := by
  refine calls_run (fn := f50) (c := (f50.body).getD .skip) [.int .i64 n] func50 (by kernel_rfl) (fun _ => False) [] (fun _ h => by cases h) (List.Pairwise.nil) 5 (by kernel_rfl) (by simp) ?_
  refine run_auto [] 2 [] [] [2] [] (st' := ⟨[(2, iV n)], []⟩) (acc := []) (by kernel_rfl) (by kernel_rfl) trivial ?_
  cases hd1 : (inI n (-100) 100) with
  | false =>
    refine run_ret1 76 #[iV n, iV (-100), iV 100] (some 3) (.bool false) (by kernel_rfl) (fun w1 k1 h1 => (by have h := within_any n (-100) 100 w1; rw [hd1] at h; exact h)) ?_
    unfold Need
    exact run_panics rfl (Nat.le_refl _) 78 #[.bool false] (some 4) (pe 2) (by kernel_rfl) (fun w1 k1 h1 => needRange_any false w1) (fun w1 k1 h1 => ⟨rfl, k1.keeps (fun _ h => h)⟩)
  | true =>
    refine run_ret1 76 #[iV n, iV (-100), iV 100] (some 3) (.bool true) (by kernel_rfl) (fun w1 k1 h1 => (by have h := within_any n (-100) 100 w1; rw [hd1] at h; exact h)) ?_
    refine run_ret1 78 #[.bool true] (some 4) (.tuple #[]) (by kernel_rfl) (fun w1 k1 h1 => needRange_any true w1) ?_
    refine run_auto [] 1 [] [] [] [] (st' := ⟨[], []⟩) (acc := []) (by kernel_rfl) (by kernel_rfl) trivial ?_
    refine run_end (fn := f50) rfl (Nat.le_refl _) (by kernel_rfl) [] [] (e := []) (by kernel_rfl) trivial (fun w1 k1 h1 => ?_)
    unfold Need
    exact ⟨rfl, k1.keeps (fun _ h => h)⟩

end Go.Proofs.Ytfjfkaaflghaiaa

namespace Go.Proofs.Ytfjfkaaflghaiaa
open Go.RowKit Go.Proofs.Try
attribute [local irreducible] Run wpK


def inR (x : Int) : List Value := [.int .i64 x]
theorem inR_len (x : Int) : (inR x).length = 1 := rfl
theorem inR_one (x : Int) : ∀ u ∈ inR x, u.oneCell' = true := by
  intro u hu
  simp only [inR, List.mem_cons, List.not_mem_nil, or_false] at hu
  subst hu
  rfl
def elI (L : List Int) (i : Nat) : Int := (L[i]?).getD 0
theorem inR_at {L : List Int} {i : Nat} (h : i < L.length) : inR L[i] = inR (elI L i) := by unfold elI; rw [List.getElem?_eq_getElem h]; rfl
/-- The heats of the first so many touches. -/
def hT (ts : List Tc) (b m : Int) (hi : Bool) (i : Nat) : List Int := hL (ts.take i) b m hi
theorem hT_all (ts : List Tc) (b m : Int) (hi : Bool) {i : Nat} (h : i = ts.length) : hT ts b m hi i = hL ts b m hi := by unfold hT; rw [h, List.take_length]
theorem hT_yes {ts : List Tc} {b m : Int} {hi : Bool} {i : Nat} (h : i < ts.length) (ha : isAt b m (elT ts i) = true) : hT ts b m hi (i + 1) = hT ts b m hi i ++ [hs hi (elT ts i)] := by
  unfold hT hL
  rw [List.take_succ_eq_append_getElem h, List.filter_append, List.map_append, ← elT_at h]
  simp [ha]
theorem hT_no {ts : List Tc} {b m : Int} {hi : Bool} {i : Nat} (h : i < ts.length) (ha : isAt b m (elT ts i) = false) : hT ts b m hi (i + 1) = hT ts b m hi i := by
  unfold hT hL
  rw [List.take_succ_eq_append_getElem h, List.filter_append, List.map_append, ← elT_at h]
  simp [ha]
/-- A row of heats: nil, or a new block. -/
def HtR (L : List Int) (w : World) (e : Ending) (w' : World) : Prop :=
  (L.isEmpty = true ∧ Ret (.slice none 0 0) w e w') ∨ (L.isEmpty = false ∧ NwL (α := Nat × Nat × Nat) (fun a => .slice (some ⟨a.1, 0, none⟩) L.length (L.length + a.2.1)) (fun a => [(a.1, .cells (L.flatMap inR ++ zR a.2.1).toArray 68 (0, 0))]) (fun _ => True) w e w')
theorem HtR.nil {L : List Int} (h : L.isEmpty = true) {w : World} {e : Ending} {w' : World} (hr : HtR L w e w') : Ret (.slice none 0 0) w e w' := by
  rcases hr with ⟨_, h2⟩ | ⟨h1, _⟩
  · exact h2
  · rw [h] at h1; cases h1
theorem HtR.some {L : List Int} (h : L.isEmpty = false) {w : World} {e : Ending} {w' : World} (hr : HtR L w e w') : NwL (α := Nat × Nat × Nat) (fun a => .slice (some ⟨a.1, 0, none⟩) L.length (L.length + a.2.1)) (fun a => [(a.1, .cells (L.flatMap inR ++ zR a.2.1).toArray 68 (0, 0))]) (fun _ => True) w e w' := by
  rcases hr with ⟨h1, _⟩ | ⟨_, h2⟩
  · rw [h] at h1; cases h1
  · exact h2
theorem hL_emp (ts : List Tc) (b m : Int) (hi hj : Bool) : (hL ts b m hi).isEmpty = (hL ts b m hj).isEmpty := by
  unfold hL
  rw [List.isEmpty_map, List.isEmpty_map]

theorem heat_next {x : Int} {L : List Int} {i : Nat} (h : i < L.length) : heat x (L.take (i + 1)) = heat x (L.take i) + elI L i := by
  unfold heat elI
  rw [List.take_succ_eq_append_getElem h, List.foldl_append, List.getElem?_eq_getElem h]
  rfl
theorem elI_bd {L : List Int} (h : ∀ y ∈ L, -100 ≤ y ∧ y ≤ 100) {i : Nat} (hi : i < L.length) : -100 ≤ elI L i ∧ elI L i ≤ 100 := by
  unfold elI
  rw [List.getElem?_eq_getElem hi]
  exact h _ (List.getElem_mem hi)
theorem heat_take_bd {x : Int} {L : List Int} (h : ∀ y ∈ L, -100 ≤ y ∧ y ≤ 100) (h6 : L.length ≤ 8) (hx : -900000 ≤ x ∧ x ≤ 900000) (i : Nat) : -901000 ≤ heat x (L.take i) ∧ heat x (L.take i) ≤ 901000 := by
  have h1 := heat_bd 100 (L.take i) x 900000 (fun y hy => h y (List.mem_of_mem_take hy)) hx
  have h2 : (L.take i).length ≤ 8 := by rw [List.length_take]; omega
  omega

theorem c1 {B : World} {b o : Nat} {u0 : Value} (h0 : B.cell? ⟨b, o, none⟩ = some u0) : ∀ i u, [u0][i]? = some u → B.cell? ⟨b, o + i, none⟩ = some u := by
  intro i u hu
  match i, hu with
  | 0, hu => injection hu with hu; subst hu; exact h0
  | i + 1, hu => simp at hu

theorem row_cells {w : World} {b : Nat} {L : List Int} {sp : List Value} {t : TypeId} {fr : Nat × Nat} (h : w.heap[b]? = some (.cells (L.flatMap inR ++ sp).toArray t fr)) : ∀ i, i < L.length → w.cell? ⟨b, i, none⟩ = some (.int .i64 (elI L i)) := by
  intro i hi
  refine cells_of_heap h _ _ ?_
  have e1 : ∀ l : List Int, l.flatMap inR = l.map fun x => Value.int .i64 x := by
    intro l
    induction l with
    | nil => rfl
    | cons x l ih => rw [List.flatMap_cons, ih]; rfl
  rw [e1, List.getElem?_append_left (by rw [List.length_map]; exact hi), List.getElem?_map, List.getElem?_eq_getElem hi]
  unfold elI
  rw [List.getElem?_eq_getElem hi]
  rfl
set_option maxRecDepth 100000 in
theorem heated_any (x : Int) (L : List Int) (b cap : Nat) (w : World) (hx : -900000 ≤ x ∧ x ≤ 900000) (hLb : ∀ y ∈ L, -100 ≤ y ∧ y ≤ 100) (h6 : L.length ≤ 8) (hc : ∀ i, i < L.length → w.cell? ⟨b, i, none⟩ = some (.int .i64 (elI L i))) : Calls Try.prog 103 #[.int .i64 x, .slice (some ⟨b, 0, none⟩) L.length cap] w (RetI (heat x L) w) := by
  refine calls_run (fn := f103) (c := (f103.body).getD .skip) [.int .i64 x, .slice (some ⟨b, 0, none⟩) L.length cap] func103 (by kernel_rfl) (fun _ => False) [] (fun _ h => by cases h) (List.Pairwise.nil) 18 (by kernel_rfl) (by simp) ?_
  refine run_auto [] 12 [] [] [0, 4, 7, 8, 9] [] (st' := ⟨[(0, iV x), (4, iV 0), (7, sV b L.length cap), (8, iV (L.length : Int)), (9, iV 0)], []⟩) (acc := []) (by kernel_rfl) (by kernel_rfl) trivial ?_
  refine run_auto [] 0 [] [] [0, 4, 7, 8, 9] [] (st' := ⟨[(0, iV x), (4, iV 0), (7, sV b L.length cap), (8, iV (L.length : Int)), (9, iV 0)], []⟩) (acc := []) (by kernel_rfl) (by kernel_rfl) trivial ?_
  refine run_loop (S := fun (i : Nat) => ⟨[(0, iV (heat x (L.take i))), (4, iV 0), (7, sV b L.length cap), (8, iV (L.length : Int)), (9, iV (i : Int))], []⟩) (fun i => i ≤ L.length) (fun i => L.length - i) (0) (by kernel_rfl) (Nat.zero_le _) (by simp [heat]) (fun i hI0 J0 hJ0 => ?_)
  cases hd1 : (decide ((i : Int) < (L.length : Int))) with
  | false =>
    have hp1 := of_decide_eq_false hd1
    refine run_auto [(10, .bool false)] 12 [false] [] [4] [] (st' := ⟨[(4, iV (heat x (L.take i)))], []⟩) (acc := [(.bool false, .bool false), (.bool (decide ((i : Int) < (L.length : Int))), .bool false)]) (by kernel_rfl) (by kernel_rfl) ⟨rfl, (bo hd1), trivial⟩ ?_
    refine run_end (fn := f103) rfl (Nat.le_refl _) (by kernel_rfl) [] [iV (heat x (L.take i))] (e := []) (by kernel_rfl) trivial (fun w1 k1 h1 => ?_)
    exact ⟨by rw [show L.take i = L from by rw [List.take_of_length_le (by omega)]]; rfl, k1.keeps (fun _ h => h)⟩
  | true =>
    have hp1 := of_decide_eq_true hd1
    have hil : i < L.length := by omega
    have hb1 := heat_take_bd hLb h6 hx i
    have hb2 := elI_bd hLb hil
    have hci := hc i hil
    refine run_auto [(10, .bool true)] 11 [true] [] [0, 4, 7, 8, 9] [] (st' := ⟨[(0, iV (heat x (L.take i))), (4, iV 0), (7, sV b L.length cap), (8, iV (L.length : Int)), (9, iV (i : Int))], []⟩) (acc := [(.bool true, .bool true), (.bool (decide ((i : Int) < (L.length : Int))), .bool true)]) (by kernel_rfl) (by kernel_rfl) ⟨rfl, (bo hd1), trivial⟩ ?_
    refine run_v (Instr.indexAt 134 (sV b L.length cap) (iV (i : Int)) >>= fun v => pure (Next.value v)) (some 11) (.pointer (some ⟨b, i, none⟩)) (by kernel_rfl) (fun w1 k1 h1 => idx_off (e := 68) (n := 1) (by kernel_rfl) (by kernel_rfl) b (0) L.length cap .i64 i (by omega) (i) (by omega) w1) ?_
    refine run_v (Instr.loadAt 68 (.pointer (some ⟨b, i, none⟩)) >>= fun v => pure (Next.value v)) (some 12) (iV (elI L i)) (by kernel_rfl) (fun w1 k1 h1 => load_in (off := 0) k1 (fun h => h) [iV (elI L i)] (c1 hci) (by kernel_rfl)) ?_
    refine run_auto [(15, iV ((heat x (L.take i)) + (elI L i))), (16, iV ((i + 1 : Nat) : Int))] 13 [] [] [0, 4, 7, 8, 9] [] (st' := ⟨[(0, iV ((heat x (L.take i)) + (elI L i))), (4, iV 0), (7, sV b L.length cap), (8, iV (L.length : Int)), (9, iV ((i + 1 : Nat) : Int))], []⟩) (acc := [(iV (IntKind.i64.wrap ((i : Int) + 1)), iV ((i + 1 : Nat) : Int)), (iV (IntKind.i64.wrap ((heat x (L.take i)) + (elI L i))), iV ((heat x (L.take i)) + (elI L i)))]) (by kernel_rfl) (by kernel_rfl) ⟨(wr (by omega) (by omega)), (wr (by omega) (by omega)), trivial⟩ ?_
    have hj := hJ0 (i + 1) (by omega) (by omega)
    rw [heat_next (show i < L.length by omega)] at hj
    exact run_round (by kernel_rfl) hj

set_option maxRecDepth 100000 in
theorem heated_nil (x : Int) (w : World)  : Calls Try.prog 103 #[.int .i64 x, .slice none 0 0] w (RetI x w) := by
  refine calls_run (fn := f103) (c := (f103.body).getD .skip) [.int .i64 x, .slice none 0 0] func103 (by kernel_rfl) (fun _ => False) [] (fun _ h => by cases h) (List.Pairwise.nil) 18 (by kernel_rfl) (by simp) ?_
  refine run_auto [] 12 [] [] [0, 4, 7, 8, 9] [] (st' := ⟨[(0, iV x), (4, iV 0), (7, .slice none 0 0), (8, iV 0), (9, iV 0)], []⟩) (acc := []) (by kernel_rfl) (by kernel_rfl) trivial ?_
  refine run_auto [] 0 [] [] [0, 4, 7, 8, 9] [] (st' := ⟨[(0, iV x), (4, iV 0), (7, .slice none 0 0), (8, iV 0), (9, iV 0)], []⟩) (acc := []) (by kernel_rfl) (by kernel_rfl) trivial ?_
  refine run_loop (S := fun (i : Nat) => ⟨[(0, iV x), (4, iV 0), (7, .slice none 0 0), (8, iV 0), (9, iV 0)], []⟩) (fun i => True) (fun i => 0) (0) (by kernel_rfl) (trivial) (by kernel_rfl) (fun i hI0 J0 hJ0 => ?_)
  refine run_auto [(10, .bool false)] 12 [false] [] [4] [] (st' := ⟨[(4, iV x)], []⟩) (acc := [(.bool false, .bool false), (.bool false, .bool false)]) (by kernel_rfl) (by kernel_rfl) ⟨rfl, rfl, trivial⟩ ?_
  refine run_end (fn := f103) rfl (Nat.le_refl _) (by kernel_rfl) [] [iV x] (e := []) (by kernel_rfl) trivial (fun w1 k1 h1 => ?_)
  exact ⟨rfl, k1.keeps (fun _ h => h)⟩

set_option maxRecDepth 100000 in
theorem heats_lo (p : Sb) (bm b m : Nat) (k : Int) (w : World) (hp : p.In w) (h6 : p.ts.length ≤ 8) : Calls Try.prog 104 #[.agg #[.slice p.ba p.bs.length p.bc, .int .i64 p.near, .int .i64 p.last, .slice p.ta p.ts.length p.tc, .map (some bm)], .agg #[.int .i64 (b : Int), .int .i64 k, .int .i64 (m : Int)], .iface 137 (.agg #[.int .i64 (elB p.bs b).1, .int .i64 (elB p.bs b).2.1, .int .i64 (elB p.bs b).2.2.1, .int .i64 (elB p.bs b).2.2.2.1, .int .i64 (elB p.bs b).2.2.2.2.1, .int .i64 (elB p.bs b).2.2.2.2.2, .int .i64 k])] w (HtR (hL p.ts b m false) w) := by
  refine calls_run (fn := f104) (c := (f104.body).getD .skip) [.agg #[.slice p.ba p.bs.length p.bc, .int .i64 p.near, .int .i64 p.last, .slice p.ta p.ts.length p.tc, .map (some bm)], .agg #[.int .i64 (b : Int), .int .i64 k, .int .i64 (m : Int)], .iface 137 (.agg #[.int .i64 (elB p.bs b).1, .int .i64 (elB p.bs b).2.1, .int .i64 (elB p.bs b).2.2.1, .int .i64 (elB p.bs b).2.2.2.1, .int .i64 (elB p.bs b).2.2.2.2.1, .int .i64 (elB p.bs b).2.2.2.2.2, .int .i64 k])] func104 (by kernel_rfl) (fun _ => False) [] (fun _ h => by cases h) (List.Pairwise.nil) 38 (by kernel_rfl) (by simp) ?_
  refine run_auto [] 2 [] [] [0, 1, 2] [] (st' := ⟨[(0, .agg #[.slice p.ba p.bs.length p.bc, iV p.near, iV p.last, .slice p.ta p.ts.length p.tc, .map (some bm)]), (1, .agg #[iV (b : Int), iV k, iV (m : Int)]), (2, .iface 137 (.agg #[iV (elB p.bs b).1, iV (elB p.bs b).2.1, iV (elB p.bs b).2.2.1, iV (elB p.bs b).2.2.2.1, iV (elB p.bs b).2.2.2.2.1, iV (elB p.bs b).2.2.2.2.2, iV k]))], []⟩) (acc := []) (by kernel_rfl) (by kernel_rfl) trivial ?_
  refine run_new (aO #[.slice p.ba p.bs.length p.bc, iV p.near, iV p.last, .slice p.ta p.ts.length p.tc, .map (some bm)] 73) (fun b1 => pA b1) (some 3) (fun _ => by kernel_rfl) (fun b1 hb1 => ?_)
  refine run_new (aO #[iV (b : Int), iV k, iV (m : Int)] 122) (fun b2 => pA b2) (some 4) (fun _ => by kernel_rfl) (fun b2 hb2 => ?_)
  refine run_auto [] 16 [] [1] [2, 4, 6, 7, 12, 13, 14] [0] (st' := ⟨[(2, .iface 137 (.agg #[iV (elB p.bs b).1, iV (elB p.bs b).2.1, iV (elB p.bs b).2.2.1, iV (elB p.bs b).2.2.2.1, iV (elB p.bs b).2.2.2.2.1, iV (elB p.bs b).2.2.2.2.2, iV k])), (4, pA b2), (6, .slice none 0 0), (7, .slice none 0 0), (12, .slice p.ta p.ts.length p.tc), (13, iV (p.ts.length : Int)), (14, iV 0)], [(b2, aO #[iV (b : Int), iV k, iV (m : Int)] 122)]⟩) (acc := [(pA b1, pA b1)]) (by kernel_rfl) (by kernel_rfl) ⟨rfl, trivial⟩ ?_
  refine run_auto [] 0 [] [] [2, 4, 6, 7, 12, 13, 14] [0] (st' := ⟨[(2, .iface 137 (.agg #[iV (elB p.bs b).1, iV (elB p.bs b).2.1, iV (elB p.bs b).2.2.1, iV (elB p.bs b).2.2.2.1, iV (elB p.bs b).2.2.2.2.1, iV (elB p.bs b).2.2.2.2.2, iV k])), (4, pA b2), (6, .slice none 0 0), (7, .slice none 0 0), (12, .slice p.ta p.ts.length p.tc), (13, iV (p.ts.length : Int)), (14, iV 0)], [(b2, aO #[iV (b : Int), iV k, iV (m : Int)] 122)]⟩) (acc := []) (by kernel_rfl) (by kernel_rfl) trivial ?_
  refine run_loop (S := fun (v : Nat × Nat × Option (Nat × Nat)) => match v with | (i, _, none) => ⟨[(2, .iface 137 (.agg #[iV (elB p.bs b).1, iV (elB p.bs b).2.1, iV (elB p.bs b).2.2.1, iV (elB p.bs b).2.2.2.1, iV (elB p.bs b).2.2.2.2.1, iV (elB p.bs b).2.2.2.2.2, iV k])), (4, pA b2), (6, .slice none 0 0), (7, .slice none 0 0), (12, .slice p.ta p.ts.length p.tc), (13, iV (p.ts.length : Int)), (14, iV (i : Int))], [(b2, aO #[iV (b : Int), iV k, iV (m : Int)] 122)]⟩ | (i, k_, some (g, x)) => ⟨[(2, .iface 137 (.agg #[iV (elB p.bs b).1, iV (elB p.bs b).2.1, iV (elB p.bs b).2.2.1, iV (elB p.bs b).2.2.2.1, iV (elB p.bs b).2.2.2.2.1, iV (elB p.bs b).2.2.2.2.2, iV k])), (4, pA b2), (6, .slice none 0 0), (7, sV g k_ (k_ + x)), (12, .slice p.ta p.ts.length p.tc), (13, iV (p.ts.length : Int)), (14, iV (i : Int))], [(g, cO ((hT p.ts b m false i).flatMap inR ++ zR x) 68), (b2, aO #[iV (b : Int), iV k, iV (m : Int)] 122)]⟩) (fun v => v.1 ≤ p.ts.length ∧ (hT p.ts b m false v.1).length = v.2.1 ∧ match v.2.2 with | none => v.2.1 = 0 | some (g, x) => 1 ≤ v.2.1 ∧ w.heap.size ≤ g) (fun v => p.ts.length - v.1) ((0, 0, none)) (by kernel_rfl) (⟨Nat.zero_le _, rfl, rfl⟩) (by simp) (fun v hI0 J0 hJ0 => ?_)
  obtain ⟨i, k_, _ | ⟨g, x⟩⟩ := v
  · skip
    obtain ⟨hz1, hz2, hz3⟩ := hI0
    dsimp only at hz1 hz2 hz3
    have hzl := Nat.le_trans (hL_len (p.ts.take i) b m false) (List.length_take_le _ _)
    have hzl2 : (hT p.ts b m false i).length ≤ i := hzl
    cases hd1 : (decide ((i : Int) < (p.ts.length : Int))) with
    | false =>
      have hp1 := of_decide_eq_false hd1
      refine run_auto [(15, .bool false)] 12 [false] [] [6] [] (st' := ⟨[(6, .slice none 0 0)], []⟩) (acc := [(.bool false, .bool false), (.bool (decide ((i : Int) < (p.ts.length : Int))), .bool false)]) (by kernel_rfl) (by kernel_rfl) ⟨rfl, (bo hd1), trivial⟩ ?_
      refine run_end (fn := f104) rfl (Nat.le_refl _) (by kernel_rfl) [] [.slice none 0 0] (e := []) (by kernel_rfl) trivial (fun w1 k1 h1 => ?_)
      have hall : hT p.ts b m false i = hL p.ts b m false := hT_all _ _ _ _ (by omega)
      rw [hall] at hz2
      exact .inl ⟨by rw [List.eq_nil_of_length_eq_zero (hz2.trans hz3)]; rfl, rfl, k1.keeps (fun _ h => h)⟩
    | true =>
      have hp1 := of_decide_eq_true hd1
      have hlt : i < p.ts.length := by omega
      obtain ⟨be, oe, hbe, hc⟩ := hp.tk (by intro h; rw [h] at hlt; cases hlt)
      have hc := hc i hlt
      refine run_auto [(15, .bool true)] 11 [true] [] [2, 4, 6, 7, 12, 13, 14] [0] (st' := ⟨[(2, .iface 137 (.agg #[iV (elB p.bs b).1, iV (elB p.bs b).2.1, iV (elB p.bs b).2.2.1, iV (elB p.bs b).2.2.2.1, iV (elB p.bs b).2.2.2.2.1, iV (elB p.bs b).2.2.2.2.2, iV k])), (4, pA b2), (6, .slice none 0 0), (7, .slice none 0 0), (12, .slice p.ta p.ts.length p.tc), (13, iV (p.ts.length : Int)), (14, iV (i : Int))], [(b2, aO #[iV (b : Int), iV k, iV (m : Int)] 122)]⟩) (acc := [(.bool true, .bool true), (.bool (decide ((i : Int) < (p.ts.length : Int))), .bool true)]) (by kernel_rfl) (by kernel_rfl) ⟨rfl, (bo hd1), trivial⟩ ?_
      refine run_v (Instr.indexAt 31 (.slice p.ta p.ts.length p.tc) (iV (i : Int)) >>= fun v => pure (Next.value v)) (some 16) (.pointer (some ⟨be, oe + i * 4, none⟩)) (by kernel_rfl) (fun w1 k1 h1 => (by rw [hbe]; exact idx_off (e := 61) (n := 4) (by kernel_rfl) (by kernel_rfl) be oe p.ts.length p.tc .i64 i hlt (oe + i * 4) (by omega) w1)) ?_
      refine run_v (Instr.loadAt 61 (.pointer (some ⟨be, oe + i * 4, none⟩)) >>= fun v => pure (Next.value v)) (some 17) (.agg #[iV (elT p.ts i).1, iV (elT p.ts i).2.1, iV (elT p.ts i).2.2.1, iV (elT p.ts i).2.2.2]) (by kernel_rfl) (fun w1 k1 h1 => load_in (off := 0) k1 (fun h => h) [iV (elT p.ts i).1, iV (elT p.ts i).2.1, iV (elT p.ts i).2.2.1, iV (elT p.ts i).2.2.2] (c4 hc.1 hc.2.1 hc.2.2.1 hc.2.2.2) (by kernel_rfl)) ?_
      refine run_new (aO #[iV 0, iV 0, iV 0, iV 0] 61) (fun b3 => pA b3) (some 9) (fun _ => by kernel_rfl) (fun b3 hb3 => ?_)
      cases hd2 : ((elT p.ts i).1 == (b : Int)) with
      | false =>
        have hp2 : ¬ (elT p.ts i).1 = (b : Int) := by simpa using hd2
        refine run_auto [(22, .bool false), (36, iV ((i + 1 : Nat) : Int))] 24 [false] [0, 0, 1] [2, 4, 6, 7, 12, 13, 14] [1] (st' := ⟨[(2, .iface 137 (.agg #[iV (elB p.bs b).1, iV (elB p.bs b).2.1, iV (elB p.bs b).2.2.1, iV (elB p.bs b).2.2.2.1, iV (elB p.bs b).2.2.2.2.1, iV (elB p.bs b).2.2.2.2.2, iV k])), (4, pA b2), (6, .slice none 0 0), (7, .slice none 0 0), (12, .slice p.ta p.ts.length p.tc), (13, iV (p.ts.length : Int)), (14, iV ((i + 1 : Nat) : Int))], [(b2, aO #[iV (b : Int), iV k, iV (m : Int)] 122)]⟩) (acc := [(iV (IntKind.i64.wrap ((i : Int) + 1)), iV ((i + 1 : Nat) : Int)), (.bool false, .bool false), (.bool ((elT p.ts i).1 == (b : Int)), .bool false), (pA b2, pA b2), (pA b3, pA b3), (pA b3, pA b3)]) (by kernel_rfl) (by kernel_rfl) ⟨(wr (by omega) (by omega)), rfl, (bo hd2), rfl, rfl, rfl, trivial⟩ ?_
        have hat : isAt b m (elT p.ts i) = false := by unfold isAt; rw [hd2]; rfl
        have hst := hT_no (hi := false) hlt hat
        have hj := hJ0 ((i + 1, 0, none)) (⟨by dsimp only; omega, by rw [hst, hz2, hz3], rfl⟩) (by dsimp only; omega)
        dsimp only at hj
        exact run_round (by kernel_rfl) hj
      | true =>
        have hp2 : (elT p.ts i).1 = (b : Int) := by simpa using hd2
        cases hd3 : ((elT p.ts i).2.1 == (m : Int)) with
        | false =>
          have hp3 : ¬ (elT p.ts i).2.1 = (m : Int) := by simpa using hd3
          refine run_auto [(22, .bool true), (28, .bool false), (36, iV ((i + 1 : Nat) : Int))] 24 [false] [0, 0, 1, 0, 1] [2, 4, 6, 7, 12, 13, 14] [1] (st' := ⟨[(2, .iface 137 (.agg #[iV (elB p.bs b).1, iV (elB p.bs b).2.1, iV (elB p.bs b).2.2.1, iV (elB p.bs b).2.2.2.1, iV (elB p.bs b).2.2.2.2.1, iV (elB p.bs b).2.2.2.2.2, iV k])), (4, pA b2), (6, .slice none 0 0), (7, .slice none 0 0), (12, .slice p.ta p.ts.length p.tc), (13, iV (p.ts.length : Int)), (14, iV ((i + 1 : Nat) : Int))], [(b2, aO #[iV (b : Int), iV k, iV (m : Int)] 122)]⟩) (acc := [(iV (IntKind.i64.wrap ((i : Int) + 1)), iV ((i + 1 : Nat) : Int)), (.bool false, .bool false), (.bool ((elT p.ts i).2.1 == (m : Int)), .bool false), (pA b2, pA b2), (pA b3, pA b3), (.bool ((elT p.ts i).1 == (b : Int)), .bool true), (pA b2, pA b2), (pA b3, pA b3), (pA b3, pA b3)]) (by kernel_rfl) (by kernel_rfl) ⟨(wr (by omega) (by omega)), rfl, (bo hd3), rfl, rfl, (bo hd2), rfl, rfl, rfl, trivial⟩ ?_
          have hat : isAt b m (elT p.ts i) = false := by unfold isAt; rw [hd2, hd3]; rfl
          have hst := hT_no (hi := false) hlt hat
          have hj := hJ0 ((i + 1, 0, none)) (⟨by dsimp only; omega, by rw [hst, hz2, hz3], rfl⟩) (by dsimp only; omega)
          dsimp only at hj
          exact run_round (by kernel_rfl) hj
        | true =>
          have hp3 : (elT p.ts i).2.1 = (m : Int) := by simpa using hd3
          refine run_auto [(22, .bool true), (28, .bool true)] 22 [true] [0, 0, 1, 0, 1, 0] [2, 4, 6, 7, 12, 13, 14, 30, 31, 32] [1] (st' := ⟨[(2, .iface 137 (.agg #[iV (elB p.bs b).1, iV (elB p.bs b).2.1, iV (elB p.bs b).2.2.1, iV (elB p.bs b).2.2.2.1, iV (elB p.bs b).2.2.2.2.1, iV (elB p.bs b).2.2.2.2.2, iV k])), (4, pA b2), (6, .slice none 0 0), (7, .slice none 0 0), (12, .slice p.ta p.ts.length p.tc), (13, iV (p.ts.length : Int)), (14, iV (i : Int)), (30, .slice none 0 0), (31, .iface 137 (.agg #[iV (elB p.bs b).1, iV (elB p.bs b).2.1, iV (elB p.bs b).2.2.1, iV (elB p.bs b).2.2.2.1, iV (elB p.bs b).2.2.2.2.1, iV (elB p.bs b).2.2.2.2.2, iV k])), (32, .agg #[iV (elT p.ts i).1, iV (elT p.ts i).2.1, iV (elT p.ts i).2.2.1, iV (elT p.ts i).2.2.2])], [(b2, aO #[iV (b : Int), iV k, iV (m : Int)] 122)]⟩) (acc := [(pA b3, pA b3), (.bool true, .bool true), (.bool ((elT p.ts i).2.1 == (m : Int)), .bool true), (pA b2, pA b2), (pA b3, pA b3), (.bool ((elT p.ts i).1 == (b : Int)), .bool true), (pA b2, pA b2), (pA b3, pA b3), (pA b3, pA b3)]) (by kernel_rfl) (by kernel_rfl) ⟨rfl, rfl, (bo hd3), rfl, rfl, (bo hd2), rfl, rfl, rfl, trivial⟩ ?_
          refine run_ret1 120 #[.agg #[iV (elB p.bs b).1, iV (elB p.bs b).2.1, iV (elB p.bs b).2.2.1, iV (elB p.bs b).2.2.2.1, iV (elB p.bs b).2.2.2.2.1, iV (elB p.bs b).2.2.2.2.2, iV k], .agg #[iV (elT p.ts i).1, iV (elT p.ts i).2.1, iV (elT p.ts i).2.2.1, iV (elT p.ts i).2.2.2]] (some 33) (iV (hs false (elT p.ts i))) (by kernel_rfl) (fun w1 k1 h1 => heat_c (elB p.bs b) k (elT p.ts i) w1) ?_
          refine run_new (aO #[iV (hs false (elT p.ts i))] 68) (fun b4 => sV b4 1 1) (some 34) (fun _ => by kernel_rfl) (fun b4 hb4 => ?_)
          refine run_appZ_none (t := 134) (ty := 134) (e := 68) (by kernel_rfl) (by kernel_rfl) (by kernel_rfl) (by kernel_rfl) inR inR_len (some 35) 1 1 ([(hs false (elT p.ts i))] : List Int) ⟨b4, 0, none⟩ (by first | rfl | omega | (simp; done) | (simp; omega)) (by omega) (by kernel_rfl) (fun w1 k1 h1 jq uq hu => by rw [add_none, Nat.zero_add]; exact cells_of_heap (h1 (b4, aO #[iV (hs false (elT p.ts i))] 68) (List.mem_of_getElem? (i := 0) (by kernel_rfl))) jq uq hu) (by omega) (fun b5 x5 hb5 => ?_)
          refine run_auto [(36, iV ((i + 1 : Nat) : Int))] 7 [] [] [2, 4, 6, 7, 12, 13, 14] [0, 2] (st' := ⟨[(2, .iface 137 (.agg #[iV (elB p.bs b).1, iV (elB p.bs b).2.1, iV (elB p.bs b).2.2.1, iV (elB p.bs b).2.2.2.1, iV (elB p.bs b).2.2.2.2.1, iV (elB p.bs b).2.2.2.2.2, iV k])), (4, pA b2), (6, .slice none 0 0), (7, sV b5 1 (1 + x5)), (12, .slice p.ta p.ts.length p.tc), (13, iV (p.ts.length : Int)), (14, iV ((i + 1 : Nat) : Int))], [(b5, cO ((([(hs false (elT p.ts i))] : List Int)).flatMap inR ++ zR x5) 68), (b2, aO #[iV (b : Int), iV k, iV (m : Int)] 122)]⟩) (acc := [(iV (IntKind.i64.wrap ((i : Int) + 1)), iV ((i + 1 : Nat) : Int))]) (by kernel_rfl) (by kernel_rfl) ⟨(wr (by omega) (by omega)), trivial⟩ ?_
          have hat : isAt b m (elT p.ts i) = true := by unfold isAt; rw [hd2, hd3]; rfl
          have hst := hT_yes (hi := false) hlt hat
          have e0 : hT p.ts b m false i = [] := List.eq_nil_of_length_eq_zero (by rw [hz2, hz3])
          rw [e0, List.nil_append] at hst
          have hj := hJ0 ((i + 1, 1, some (b5, x5))) (⟨by dsimp only; omega, by rw [hst]; rfl, by dsimp only; omega, hb5⟩) (by dsimp only; omega)
          dsimp only at hj
          rw [hst] at hj
          exact run_round (by kernel_rfl) hj
  · skip
    obtain ⟨hz1, hz2, hz3⟩ := hI0
    dsimp only at hz1 hz2 hz3
    have hzl := Nat.le_trans (hL_len (p.ts.take i) b m false) (List.length_take_le _ _)
    have hzl2 : (hT p.ts b m false i).length ≤ i := hzl
    obtain ⟨hz4, hz5⟩ := hz3
    cases hd1 : (decide ((i : Int) < (p.ts.length : Int))) with
    | false =>
      have hp1 := of_decide_eq_false hd1
      refine run_auto [(15, .bool false)] 12 [false] [] [6] [0] (st' := ⟨[(6, sV g k_ (k_ + x))], [(g, cO ((hT p.ts b m false i).flatMap inR ++ zR x) 68)]⟩) (acc := [(.bool false, .bool false), (.bool (decide ((i : Int) < (p.ts.length : Int))), .bool false)]) (by kernel_rfl) (by kernel_rfl) ⟨rfl, (bo hd1), trivial⟩ ?_
      refine run_end (fn := f104) rfl (Nat.le_refl _) (by kernel_rfl) [] [sV g k_ (k_ + x)] (e := []) (by kernel_rfl) trivial (fun w1 k1 h1 => ?_)
      have hall : hT p.ts b m false i = hL p.ts b m false := hT_all _ _ _ _ (by omega)
      rw [hall] at hz2 h1
      refine .inr ⟨by cases hL2 : hL p.ts b m false with | nil => rw [hL2] at hz2; simp at hz2; omega | cons a l => rfl, (g, x, 0), trivial, by rw [hz2]; rfl, k1.keeps (fun _ h => h), fun q hq => ?_, List.pairwise_singleton _ _⟩
      rw [List.mem_singleton] at hq
      subst hq
      exact ⟨h1 (g, _) (List.mem_of_getElem? (i := 0) rfl), hz5⟩
    | true =>
      have hp1 := of_decide_eq_true hd1
      have hlt : i < p.ts.length := by omega
      obtain ⟨be, oe, hbe, hc⟩ := hp.tk (by intro h; rw [h] at hlt; cases hlt)
      have hc := hc i hlt
      refine run_auto [(15, .bool true)] 11 [true] [] [2, 4, 6, 7, 12, 13, 14] [0, 1] (st' := ⟨[(2, .iface 137 (.agg #[iV (elB p.bs b).1, iV (elB p.bs b).2.1, iV (elB p.bs b).2.2.1, iV (elB p.bs b).2.2.2.1, iV (elB p.bs b).2.2.2.2.1, iV (elB p.bs b).2.2.2.2.2, iV k])), (4, pA b2), (6, .slice none 0 0), (7, sV g k_ (k_ + x)), (12, .slice p.ta p.ts.length p.tc), (13, iV (p.ts.length : Int)), (14, iV (i : Int))], [(g, cO ((hT p.ts b m false i).flatMap inR ++ zR x) 68), (b2, aO #[iV (b : Int), iV k, iV (m : Int)] 122)]⟩) (acc := [(.bool true, .bool true), (.bool (decide ((i : Int) < (p.ts.length : Int))), .bool true)]) (by kernel_rfl) (by kernel_rfl) ⟨rfl, (bo hd1), trivial⟩ ?_
      refine run_v (Instr.indexAt 31 (.slice p.ta p.ts.length p.tc) (iV (i : Int)) >>= fun v => pure (Next.value v)) (some 16) (.pointer (some ⟨be, oe + i * 4, none⟩)) (by kernel_rfl) (fun w1 k1 h1 => (by rw [hbe]; exact idx_off (e := 61) (n := 4) (by kernel_rfl) (by kernel_rfl) be oe p.ts.length p.tc .i64 i hlt (oe + i * 4) (by omega) w1)) ?_
      refine run_v (Instr.loadAt 61 (.pointer (some ⟨be, oe + i * 4, none⟩)) >>= fun v => pure (Next.value v)) (some 17) (.agg #[iV (elT p.ts i).1, iV (elT p.ts i).2.1, iV (elT p.ts i).2.2.1, iV (elT p.ts i).2.2.2]) (by kernel_rfl) (fun w1 k1 h1 => load_in (off := 0) k1 (fun h => h) [iV (elT p.ts i).1, iV (elT p.ts i).2.1, iV (elT p.ts i).2.2.1, iV (elT p.ts i).2.2.2] (c4 hc.1 hc.2.1 hc.2.2.1 hc.2.2.2) (by kernel_rfl)) ?_
      refine run_new (aO #[iV 0, iV 0, iV 0, iV 0] 61) (fun b3 => pA b3) (some 9) (fun _ => by kernel_rfl) (fun b3 hb3 => ?_)
      cases hd2 : ((elT p.ts i).1 == (b : Int)) with
      | false =>
        have hp2 : ¬ (elT p.ts i).1 = (b : Int) := by simpa using hd2
        refine run_auto [(22, .bool false), (36, iV ((i + 1 : Nat) : Int))] 24 [false] [0, 0, 2] [2, 4, 6, 7, 12, 13, 14] [1, 2] (st' := ⟨[(2, .iface 137 (.agg #[iV (elB p.bs b).1, iV (elB p.bs b).2.1, iV (elB p.bs b).2.2.1, iV (elB p.bs b).2.2.2.1, iV (elB p.bs b).2.2.2.2.1, iV (elB p.bs b).2.2.2.2.2, iV k])), (4, pA b2), (6, .slice none 0 0), (7, sV g k_ (k_ + x)), (12, .slice p.ta p.ts.length p.tc), (13, iV (p.ts.length : Int)), (14, iV ((i + 1 : Nat) : Int))], [(g, cO ((hT p.ts b m false i).flatMap inR ++ zR x) 68), (b2, aO #[iV (b : Int), iV k, iV (m : Int)] 122)]⟩) (acc := [(iV (IntKind.i64.wrap ((i : Int) + 1)), iV ((i + 1 : Nat) : Int)), (.bool false, .bool false), (.bool ((elT p.ts i).1 == (b : Int)), .bool false), (pA b2, pA b2), (pA b3, pA b3), (pA b3, pA b3)]) (by kernel_rfl) (by kernel_rfl) ⟨(wr (by omega) (by omega)), rfl, (bo hd2), rfl, rfl, rfl, trivial⟩ ?_
        have hat : isAt b m (elT p.ts i) = false := by unfold isAt; rw [hd2]; rfl
        have hst := hT_no (hi := false) hlt hat
        have hj := hJ0 ((i + 1, k_, some (g, x))) (⟨by dsimp only; omega, by rw [hst]; exact hz2, hz4, hz5⟩) (by dsimp only; omega)
        dsimp only at hj
        rw [hst] at hj
        exact run_round (by kernel_rfl) hj
      | true =>
        have hp2 : (elT p.ts i).1 = (b : Int) := by simpa using hd2
        cases hd3 : ((elT p.ts i).2.1 == (m : Int)) with
        | false =>
          have hp3 : ¬ (elT p.ts i).2.1 = (m : Int) := by simpa using hd3
          refine run_auto [(22, .bool true), (28, .bool false), (36, iV ((i + 1 : Nat) : Int))] 24 [false] [0, 0, 2, 0, 2] [2, 4, 6, 7, 12, 13, 14] [1, 2] (st' := ⟨[(2, .iface 137 (.agg #[iV (elB p.bs b).1, iV (elB p.bs b).2.1, iV (elB p.bs b).2.2.1, iV (elB p.bs b).2.2.2.1, iV (elB p.bs b).2.2.2.2.1, iV (elB p.bs b).2.2.2.2.2, iV k])), (4, pA b2), (6, .slice none 0 0), (7, sV g k_ (k_ + x)), (12, .slice p.ta p.ts.length p.tc), (13, iV (p.ts.length : Int)), (14, iV ((i + 1 : Nat) : Int))], [(g, cO ((hT p.ts b m false i).flatMap inR ++ zR x) 68), (b2, aO #[iV (b : Int), iV k, iV (m : Int)] 122)]⟩) (acc := [(iV (IntKind.i64.wrap ((i : Int) + 1)), iV ((i + 1 : Nat) : Int)), (.bool false, .bool false), (.bool ((elT p.ts i).2.1 == (m : Int)), .bool false), (pA b2, pA b2), (pA b3, pA b3), (.bool ((elT p.ts i).1 == (b : Int)), .bool true), (pA b2, pA b2), (pA b3, pA b3), (pA b3, pA b3)]) (by kernel_rfl) (by kernel_rfl) ⟨(wr (by omega) (by omega)), rfl, (bo hd3), rfl, rfl, (bo hd2), rfl, rfl, rfl, trivial⟩ ?_
          have hat : isAt b m (elT p.ts i) = false := by unfold isAt; rw [hd2, hd3]; rfl
          have hst := hT_no (hi := false) hlt hat
          have hj := hJ0 ((i + 1, k_, some (g, x))) (⟨by dsimp only; omega, by rw [hst]; exact hz2, hz4, hz5⟩) (by dsimp only; omega)
          dsimp only at hj
          rw [hst] at hj
          exact run_round (by kernel_rfl) hj
        | true =>
          have hp3 : (elT p.ts i).2.1 = (m : Int) := by simpa using hd3
          refine run_auto [(22, .bool true), (28, .bool true)] 22 [true] [0, 0, 2, 0, 2, 0] [2, 4, 6, 7, 12, 13, 14, 30, 31, 32] [1, 2] (st' := ⟨[(2, .iface 137 (.agg #[iV (elB p.bs b).1, iV (elB p.bs b).2.1, iV (elB p.bs b).2.2.1, iV (elB p.bs b).2.2.2.1, iV (elB p.bs b).2.2.2.2.1, iV (elB p.bs b).2.2.2.2.2, iV k])), (4, pA b2), (6, .slice none 0 0), (7, sV g k_ (k_ + x)), (12, .slice p.ta p.ts.length p.tc), (13, iV (p.ts.length : Int)), (14, iV (i : Int)), (30, sV g k_ (k_ + x)), (31, .iface 137 (.agg #[iV (elB p.bs b).1, iV (elB p.bs b).2.1, iV (elB p.bs b).2.2.1, iV (elB p.bs b).2.2.2.1, iV (elB p.bs b).2.2.2.2.1, iV (elB p.bs b).2.2.2.2.2, iV k])), (32, .agg #[iV (elT p.ts i).1, iV (elT p.ts i).2.1, iV (elT p.ts i).2.2.1, iV (elT p.ts i).2.2.2])], [(g, cO ((hT p.ts b m false i).flatMap inR ++ zR x) 68), (b2, aO #[iV (b : Int), iV k, iV (m : Int)] 122)]⟩) (acc := [(pA b3, pA b3), (.bool true, .bool true), (.bool ((elT p.ts i).2.1 == (m : Int)), .bool true), (pA b2, pA b2), (pA b3, pA b3), (.bool ((elT p.ts i).1 == (b : Int)), .bool true), (pA b2, pA b2), (pA b3, pA b3), (pA b3, pA b3)]) (by kernel_rfl) (by kernel_rfl) ⟨rfl, rfl, (bo hd3), rfl, rfl, (bo hd2), rfl, rfl, rfl, trivial⟩ ?_
          refine run_ret1 120 #[.agg #[iV (elB p.bs b).1, iV (elB p.bs b).2.1, iV (elB p.bs b).2.2.1, iV (elB p.bs b).2.2.2.1, iV (elB p.bs b).2.2.2.2.1, iV (elB p.bs b).2.2.2.2.2, iV k], .agg #[iV (elT p.ts i).1, iV (elT p.ts i).2.1, iV (elT p.ts i).2.2.1, iV (elT p.ts i).2.2.2]] (some 33) (iV (hs false (elT p.ts i))) (by kernel_rfl) (fun w1 k1 h1 => heat_c (elB p.bs b) k (elT p.ts i) w1) ?_
          refine run_new (aO #[iV (hs false (elT p.ts i))] 68) (fun b4 => sV b4 1 1) (some 34) (fun _ => by kernel_rfl) (fun b4 hb4 => ?_)
          refine run_appZ (t := 134) (ty := 134) (e := 68) (by kernel_rfl) (by kernel_rfl) (by kernel_rfl) (by kernel_rfl) inR inR_len inR_one (some 35) 1 g k_ x 1 1 (hT p.ts b m false i) ([(hs false (elT p.ts i))] : List Int) ⟨b4, 0, none⟩ (by first | rfl | omega | (simp; done) | (simp; omega)) (by first | rfl | omega | (simp; done) | (simp; omega)) (by kernel_rfl) (by kernel_rfl) (fun w1 k1 h1 jq uq hu => by rw [add_none, Nat.zero_add]; exact cells_of_heap (h1 (b4, aO #[iV (hs false (elT p.ts i))] 68) (List.mem_of_getElem? (i := 0) (by kernel_rfl))) jq uq hu) (by omega) hz5 (fun b5 x5 hb5 => ?_)
          refine run_auto [(36, iV ((i + 1 : Nat) : Int))] 7 [] [] [2, 4, 6, 7, 12, 13, 14] [0, 2] (st' := ⟨[(2, .iface 137 (.agg #[iV (elB p.bs b).1, iV (elB p.bs b).2.1, iV (elB p.bs b).2.2.1, iV (elB p.bs b).2.2.2.1, iV (elB p.bs b).2.2.2.2.1, iV (elB p.bs b).2.2.2.2.2, iV k])), (4, pA b2), (6, .slice none 0 0), (7, sV b5 (k_ + 1) (k_ + 1 + x5)), (12, .slice p.ta p.ts.length p.tc), (13, iV (p.ts.length : Int)), (14, iV ((i + 1 : Nat) : Int))], [(b5, cO ((hT p.ts b m false i ++ ([(hs false (elT p.ts i))] : List Int)).flatMap inR ++ zR x5) 68), (b2, aO #[iV (b : Int), iV k, iV (m : Int)] 122)]⟩) (acc := [(iV (IntKind.i64.wrap ((i : Int) + 1)), iV ((i + 1 : Nat) : Int))]) (by kernel_rfl) (by kernel_rfl) ⟨(wr (by omega) (by omega)), trivial⟩ ?_
          have hat : isAt b m (elT p.ts i) = true := by unfold isAt; rw [hd2, hd3]; rfl
          have hst := hT_yes (hi := false) hlt hat
          have hj := hJ0 ((i + 1, k_ + 1, some (b5, x5))) (⟨by dsimp only; omega, by rw [hst]; rw [List.length_append, hz2]; rfl, by dsimp only; omega, hb5⟩) (by dsimp only; omega)
          dsimp only at hj
          rw [hst] at hj
          exact run_round (by kernel_rfl) hj

set_option maxRecDepth 100000 in
theorem heats_hi (p : Sb) (bm b m : Nat) (k : Int) (w : World) (hp : p.In w) (h6 : p.ts.length ≤ 8) : Calls Try.prog 104 #[.agg #[.slice p.ba p.bs.length p.bc, .int .i64 p.near, .int .i64 p.last, .slice p.ta p.ts.length p.tc, .map (some bm)], .agg #[.int .i64 (b : Int), .int .i64 k, .int .i64 (m : Int)], .iface 139 (.agg #[.int .i64 (elB p.bs b).1, .int .i64 (elB p.bs b).2.1, .int .i64 (elB p.bs b).2.2.1, .int .i64 (elB p.bs b).2.2.2.1, .int .i64 (elB p.bs b).2.2.2.2.1, .int .i64 (elB p.bs b).2.2.2.2.2, .int .i64 k])] w (HtR (hL p.ts b m true) w) := by
  refine calls_run (fn := f104) (c := (f104.body).getD .skip) [.agg #[.slice p.ba p.bs.length p.bc, .int .i64 p.near, .int .i64 p.last, .slice p.ta p.ts.length p.tc, .map (some bm)], .agg #[.int .i64 (b : Int), .int .i64 k, .int .i64 (m : Int)], .iface 139 (.agg #[.int .i64 (elB p.bs b).1, .int .i64 (elB p.bs b).2.1, .int .i64 (elB p.bs b).2.2.1, .int .i64 (elB p.bs b).2.2.2.1, .int .i64 (elB p.bs b).2.2.2.2.1, .int .i64 (elB p.bs b).2.2.2.2.2, .int .i64 k])] func104 (by kernel_rfl) (fun _ => False) [] (fun _ h => by cases h) (List.Pairwise.nil) 38 (by kernel_rfl) (by simp) ?_
  refine run_auto [] 2 [] [] [0, 1, 2] [] (st' := ⟨[(0, .agg #[.slice p.ba p.bs.length p.bc, iV p.near, iV p.last, .slice p.ta p.ts.length p.tc, .map (some bm)]), (1, .agg #[iV (b : Int), iV k, iV (m : Int)]), (2, .iface 139 (.agg #[iV (elB p.bs b).1, iV (elB p.bs b).2.1, iV (elB p.bs b).2.2.1, iV (elB p.bs b).2.2.2.1, iV (elB p.bs b).2.2.2.2.1, iV (elB p.bs b).2.2.2.2.2, iV k]))], []⟩) (acc := []) (by kernel_rfl) (by kernel_rfl) trivial ?_
  refine run_new (aO #[.slice p.ba p.bs.length p.bc, iV p.near, iV p.last, .slice p.ta p.ts.length p.tc, .map (some bm)] 73) (fun b1 => pA b1) (some 3) (fun _ => by kernel_rfl) (fun b1 hb1 => ?_)
  refine run_new (aO #[iV (b : Int), iV k, iV (m : Int)] 122) (fun b2 => pA b2) (some 4) (fun _ => by kernel_rfl) (fun b2 hb2 => ?_)
  refine run_auto [] 16 [] [1] [2, 4, 6, 7, 12, 13, 14] [0] (st' := ⟨[(2, .iface 139 (.agg #[iV (elB p.bs b).1, iV (elB p.bs b).2.1, iV (elB p.bs b).2.2.1, iV (elB p.bs b).2.2.2.1, iV (elB p.bs b).2.2.2.2.1, iV (elB p.bs b).2.2.2.2.2, iV k])), (4, pA b2), (6, .slice none 0 0), (7, .slice none 0 0), (12, .slice p.ta p.ts.length p.tc), (13, iV (p.ts.length : Int)), (14, iV 0)], [(b2, aO #[iV (b : Int), iV k, iV (m : Int)] 122)]⟩) (acc := [(pA b1, pA b1)]) (by kernel_rfl) (by kernel_rfl) ⟨rfl, trivial⟩ ?_
  refine run_auto [] 0 [] [] [2, 4, 6, 7, 12, 13, 14] [0] (st' := ⟨[(2, .iface 139 (.agg #[iV (elB p.bs b).1, iV (elB p.bs b).2.1, iV (elB p.bs b).2.2.1, iV (elB p.bs b).2.2.2.1, iV (elB p.bs b).2.2.2.2.1, iV (elB p.bs b).2.2.2.2.2, iV k])), (4, pA b2), (6, .slice none 0 0), (7, .slice none 0 0), (12, .slice p.ta p.ts.length p.tc), (13, iV (p.ts.length : Int)), (14, iV 0)], [(b2, aO #[iV (b : Int), iV k, iV (m : Int)] 122)]⟩) (acc := []) (by kernel_rfl) (by kernel_rfl) trivial ?_
  refine run_loop (S := fun (v : Nat × Nat × Option (Nat × Nat)) => match v with | (i, _, none) => ⟨[(2, .iface 139 (.agg #[iV (elB p.bs b).1, iV (elB p.bs b).2.1, iV (elB p.bs b).2.2.1, iV (elB p.bs b).2.2.2.1, iV (elB p.bs b).2.2.2.2.1, iV (elB p.bs b).2.2.2.2.2, iV k])), (4, pA b2), (6, .slice none 0 0), (7, .slice none 0 0), (12, .slice p.ta p.ts.length p.tc), (13, iV (p.ts.length : Int)), (14, iV (i : Int))], [(b2, aO #[iV (b : Int), iV k, iV (m : Int)] 122)]⟩ | (i, k_, some (g, x)) => ⟨[(2, .iface 139 (.agg #[iV (elB p.bs b).1, iV (elB p.bs b).2.1, iV (elB p.bs b).2.2.1, iV (elB p.bs b).2.2.2.1, iV (elB p.bs b).2.2.2.2.1, iV (elB p.bs b).2.2.2.2.2, iV k])), (4, pA b2), (6, .slice none 0 0), (7, sV g k_ (k_ + x)), (12, .slice p.ta p.ts.length p.tc), (13, iV (p.ts.length : Int)), (14, iV (i : Int))], [(g, cO ((hT p.ts b m true i).flatMap inR ++ zR x) 68), (b2, aO #[iV (b : Int), iV k, iV (m : Int)] 122)]⟩) (fun v => v.1 ≤ p.ts.length ∧ (hT p.ts b m true v.1).length = v.2.1 ∧ match v.2.2 with | none => v.2.1 = 0 | some (g, x) => 1 ≤ v.2.1 ∧ w.heap.size ≤ g) (fun v => p.ts.length - v.1) ((0, 0, none)) (by kernel_rfl) (⟨Nat.zero_le _, rfl, rfl⟩) (by simp) (fun v hI0 J0 hJ0 => ?_)
  obtain ⟨i, k_, _ | ⟨g, x⟩⟩ := v
  · skip
    obtain ⟨hz1, hz2, hz3⟩ := hI0
    dsimp only at hz1 hz2 hz3
    have hzl := Nat.le_trans (hL_len (p.ts.take i) b m true) (List.length_take_le _ _)
    have hzl2 : (hT p.ts b m true i).length ≤ i := hzl
    cases hd1 : (decide ((i : Int) < (p.ts.length : Int))) with
    | false =>
      have hp1 := of_decide_eq_false hd1
      refine run_auto [(15, .bool false)] 12 [false] [] [6] [] (st' := ⟨[(6, .slice none 0 0)], []⟩) (acc := [(.bool false, .bool false), (.bool (decide ((i : Int) < (p.ts.length : Int))), .bool false)]) (by kernel_rfl) (by kernel_rfl) ⟨rfl, (bo hd1), trivial⟩ ?_
      refine run_end (fn := f104) rfl (Nat.le_refl _) (by kernel_rfl) [] [.slice none 0 0] (e := []) (by kernel_rfl) trivial (fun w1 k1 h1 => ?_)
      have hall : hT p.ts b m true i = hL p.ts b m true := hT_all _ _ _ _ (by omega)
      rw [hall] at hz2
      exact .inl ⟨by rw [List.eq_nil_of_length_eq_zero (hz2.trans hz3)]; rfl, rfl, k1.keeps (fun _ h => h)⟩
    | true =>
      have hp1 := of_decide_eq_true hd1
      have hlt : i < p.ts.length := by omega
      obtain ⟨be, oe, hbe, hc⟩ := hp.tk (by intro h; rw [h] at hlt; cases hlt)
      have hc := hc i hlt
      refine run_auto [(15, .bool true)] 11 [true] [] [2, 4, 6, 7, 12, 13, 14] [0] (st' := ⟨[(2, .iface 139 (.agg #[iV (elB p.bs b).1, iV (elB p.bs b).2.1, iV (elB p.bs b).2.2.1, iV (elB p.bs b).2.2.2.1, iV (elB p.bs b).2.2.2.2.1, iV (elB p.bs b).2.2.2.2.2, iV k])), (4, pA b2), (6, .slice none 0 0), (7, .slice none 0 0), (12, .slice p.ta p.ts.length p.tc), (13, iV (p.ts.length : Int)), (14, iV (i : Int))], [(b2, aO #[iV (b : Int), iV k, iV (m : Int)] 122)]⟩) (acc := [(.bool true, .bool true), (.bool (decide ((i : Int) < (p.ts.length : Int))), .bool true)]) (by kernel_rfl) (by kernel_rfl) ⟨rfl, (bo hd1), trivial⟩ ?_
      refine run_v (Instr.indexAt 31 (.slice p.ta p.ts.length p.tc) (iV (i : Int)) >>= fun v => pure (Next.value v)) (some 16) (.pointer (some ⟨be, oe + i * 4, none⟩)) (by kernel_rfl) (fun w1 k1 h1 => (by rw [hbe]; exact idx_off (e := 61) (n := 4) (by kernel_rfl) (by kernel_rfl) be oe p.ts.length p.tc .i64 i hlt (oe + i * 4) (by omega) w1)) ?_
      refine run_v (Instr.loadAt 61 (.pointer (some ⟨be, oe + i * 4, none⟩)) >>= fun v => pure (Next.value v)) (some 17) (.agg #[iV (elT p.ts i).1, iV (elT p.ts i).2.1, iV (elT p.ts i).2.2.1, iV (elT p.ts i).2.2.2]) (by kernel_rfl) (fun w1 k1 h1 => load_in (off := 0) k1 (fun h => h) [iV (elT p.ts i).1, iV (elT p.ts i).2.1, iV (elT p.ts i).2.2.1, iV (elT p.ts i).2.2.2] (c4 hc.1 hc.2.1 hc.2.2.1 hc.2.2.2) (by kernel_rfl)) ?_
      refine run_new (aO #[iV 0, iV 0, iV 0, iV 0] 61) (fun b3 => pA b3) (some 9) (fun _ => by kernel_rfl) (fun b3 hb3 => ?_)
      cases hd2 : ((elT p.ts i).1 == (b : Int)) with
      | false =>
        have hp2 : ¬ (elT p.ts i).1 = (b : Int) := by simpa using hd2
        refine run_auto [(22, .bool false), (36, iV ((i + 1 : Nat) : Int))] 24 [false] [0, 0, 1] [2, 4, 6, 7, 12, 13, 14] [1] (st' := ⟨[(2, .iface 139 (.agg #[iV (elB p.bs b).1, iV (elB p.bs b).2.1, iV (elB p.bs b).2.2.1, iV (elB p.bs b).2.2.2.1, iV (elB p.bs b).2.2.2.2.1, iV (elB p.bs b).2.2.2.2.2, iV k])), (4, pA b2), (6, .slice none 0 0), (7, .slice none 0 0), (12, .slice p.ta p.ts.length p.tc), (13, iV (p.ts.length : Int)), (14, iV ((i + 1 : Nat) : Int))], [(b2, aO #[iV (b : Int), iV k, iV (m : Int)] 122)]⟩) (acc := [(iV (IntKind.i64.wrap ((i : Int) + 1)), iV ((i + 1 : Nat) : Int)), (.bool false, .bool false), (.bool ((elT p.ts i).1 == (b : Int)), .bool false), (pA b2, pA b2), (pA b3, pA b3), (pA b3, pA b3)]) (by kernel_rfl) (by kernel_rfl) ⟨(wr (by omega) (by omega)), rfl, (bo hd2), rfl, rfl, rfl, trivial⟩ ?_
        have hat : isAt b m (elT p.ts i) = false := by unfold isAt; rw [hd2]; rfl
        have hst := hT_no (hi := true) hlt hat
        have hj := hJ0 ((i + 1, 0, none)) (⟨by dsimp only; omega, by rw [hst, hz2, hz3], rfl⟩) (by dsimp only; omega)
        dsimp only at hj
        exact run_round (by kernel_rfl) hj
      | true =>
        have hp2 : (elT p.ts i).1 = (b : Int) := by simpa using hd2
        cases hd3 : ((elT p.ts i).2.1 == (m : Int)) with
        | false =>
          have hp3 : ¬ (elT p.ts i).2.1 = (m : Int) := by simpa using hd3
          refine run_auto [(22, .bool true), (28, .bool false), (36, iV ((i + 1 : Nat) : Int))] 24 [false] [0, 0, 1, 0, 1] [2, 4, 6, 7, 12, 13, 14] [1] (st' := ⟨[(2, .iface 139 (.agg #[iV (elB p.bs b).1, iV (elB p.bs b).2.1, iV (elB p.bs b).2.2.1, iV (elB p.bs b).2.2.2.1, iV (elB p.bs b).2.2.2.2.1, iV (elB p.bs b).2.2.2.2.2, iV k])), (4, pA b2), (6, .slice none 0 0), (7, .slice none 0 0), (12, .slice p.ta p.ts.length p.tc), (13, iV (p.ts.length : Int)), (14, iV ((i + 1 : Nat) : Int))], [(b2, aO #[iV (b : Int), iV k, iV (m : Int)] 122)]⟩) (acc := [(iV (IntKind.i64.wrap ((i : Int) + 1)), iV ((i + 1 : Nat) : Int)), (.bool false, .bool false), (.bool ((elT p.ts i).2.1 == (m : Int)), .bool false), (pA b2, pA b2), (pA b3, pA b3), (.bool ((elT p.ts i).1 == (b : Int)), .bool true), (pA b2, pA b2), (pA b3, pA b3), (pA b3, pA b3)]) (by kernel_rfl) (by kernel_rfl) ⟨(wr (by omega) (by omega)), rfl, (bo hd3), rfl, rfl, (bo hd2), rfl, rfl, rfl, trivial⟩ ?_
          have hat : isAt b m (elT p.ts i) = false := by unfold isAt; rw [hd2, hd3]; rfl
          have hst := hT_no (hi := true) hlt hat
          have hj := hJ0 ((i + 1, 0, none)) (⟨by dsimp only; omega, by rw [hst, hz2, hz3], rfl⟩) (by dsimp only; omega)
          dsimp only at hj
          exact run_round (by kernel_rfl) hj
        | true =>
          have hp3 : (elT p.ts i).2.1 = (m : Int) := by simpa using hd3
          refine run_auto [(22, .bool true), (28, .bool true)] 22 [true] [0, 0, 1, 0, 1, 0] [2, 4, 6, 7, 12, 13, 14, 30, 31, 32] [1] (st' := ⟨[(2, .iface 139 (.agg #[iV (elB p.bs b).1, iV (elB p.bs b).2.1, iV (elB p.bs b).2.2.1, iV (elB p.bs b).2.2.2.1, iV (elB p.bs b).2.2.2.2.1, iV (elB p.bs b).2.2.2.2.2, iV k])), (4, pA b2), (6, .slice none 0 0), (7, .slice none 0 0), (12, .slice p.ta p.ts.length p.tc), (13, iV (p.ts.length : Int)), (14, iV (i : Int)), (30, .slice none 0 0), (31, .iface 139 (.agg #[iV (elB p.bs b).1, iV (elB p.bs b).2.1, iV (elB p.bs b).2.2.1, iV (elB p.bs b).2.2.2.1, iV (elB p.bs b).2.2.2.2.1, iV (elB p.bs b).2.2.2.2.2, iV k])), (32, .agg #[iV (elT p.ts i).1, iV (elT p.ts i).2.1, iV (elT p.ts i).2.2.1, iV (elT p.ts i).2.2.2])], [(b2, aO #[iV (b : Int), iV k, iV (m : Int)] 122)]⟩) (acc := [(pA b3, pA b3), (.bool true, .bool true), (.bool ((elT p.ts i).2.1 == (m : Int)), .bool true), (pA b2, pA b2), (pA b3, pA b3), (.bool ((elT p.ts i).1 == (b : Int)), .bool true), (pA b2, pA b2), (pA b3, pA b3), (pA b3, pA b3)]) (by kernel_rfl) (by kernel_rfl) ⟨rfl, rfl, (bo hd3), rfl, rfl, (bo hd2), rfl, rfl, rfl, trivial⟩ ?_
          refine run_ret1 125 #[.agg #[iV (elB p.bs b).1, iV (elB p.bs b).2.1, iV (elB p.bs b).2.2.1, iV (elB p.bs b).2.2.2.1, iV (elB p.bs b).2.2.2.2.1, iV (elB p.bs b).2.2.2.2.2, iV k], .agg #[iV (elT p.ts i).1, iV (elT p.ts i).2.1, iV (elT p.ts i).2.2.1, iV (elT p.ts i).2.2.2]] (some 33) (iV (hs true (elT p.ts i))) (by kernel_rfl) (fun w1 k1 h1 => heat_w (elB p.bs b) k (elT p.ts i) w1) ?_
          refine run_new (aO #[iV (hs true (elT p.ts i))] 68) (fun b4 => sV b4 1 1) (some 34) (fun _ => by kernel_rfl) (fun b4 hb4 => ?_)
          refine run_appZ_none (t := 134) (ty := 134) (e := 68) (by kernel_rfl) (by kernel_rfl) (by kernel_rfl) (by kernel_rfl) inR inR_len (some 35) 1 1 ([(hs true (elT p.ts i))] : List Int) ⟨b4, 0, none⟩ (by first | rfl | omega | (simp; done) | (simp; omega)) (by omega) (by kernel_rfl) (fun w1 k1 h1 jq uq hu => by rw [add_none, Nat.zero_add]; exact cells_of_heap (h1 (b4, aO #[iV (hs true (elT p.ts i))] 68) (List.mem_of_getElem? (i := 0) (by kernel_rfl))) jq uq hu) (by omega) (fun b5 x5 hb5 => ?_)
          refine run_auto [(36, iV ((i + 1 : Nat) : Int))] 7 [] [] [2, 4, 6, 7, 12, 13, 14] [0, 2] (st' := ⟨[(2, .iface 139 (.agg #[iV (elB p.bs b).1, iV (elB p.bs b).2.1, iV (elB p.bs b).2.2.1, iV (elB p.bs b).2.2.2.1, iV (elB p.bs b).2.2.2.2.1, iV (elB p.bs b).2.2.2.2.2, iV k])), (4, pA b2), (6, .slice none 0 0), (7, sV b5 1 (1 + x5)), (12, .slice p.ta p.ts.length p.tc), (13, iV (p.ts.length : Int)), (14, iV ((i + 1 : Nat) : Int))], [(b5, cO ((([(hs true (elT p.ts i))] : List Int)).flatMap inR ++ zR x5) 68), (b2, aO #[iV (b : Int), iV k, iV (m : Int)] 122)]⟩) (acc := [(iV (IntKind.i64.wrap ((i : Int) + 1)), iV ((i + 1 : Nat) : Int))]) (by kernel_rfl) (by kernel_rfl) ⟨(wr (by omega) (by omega)), trivial⟩ ?_
          have hat : isAt b m (elT p.ts i) = true := by unfold isAt; rw [hd2, hd3]; rfl
          have hst := hT_yes (hi := true) hlt hat
          have e0 : hT p.ts b m true i = [] := List.eq_nil_of_length_eq_zero (by rw [hz2, hz3])
          rw [e0, List.nil_append] at hst
          have hj := hJ0 ((i + 1, 1, some (b5, x5))) (⟨by dsimp only; omega, by rw [hst]; rfl, by dsimp only; omega, hb5⟩) (by dsimp only; omega)
          dsimp only at hj
          rw [hst] at hj
          exact run_round (by kernel_rfl) hj
  · skip
    obtain ⟨hz1, hz2, hz3⟩ := hI0
    dsimp only at hz1 hz2 hz3
    have hzl := Nat.le_trans (hL_len (p.ts.take i) b m true) (List.length_take_le _ _)
    have hzl2 : (hT p.ts b m true i).length ≤ i := hzl
    obtain ⟨hz4, hz5⟩ := hz3
    cases hd1 : (decide ((i : Int) < (p.ts.length : Int))) with
    | false =>
      have hp1 := of_decide_eq_false hd1
      refine run_auto [(15, .bool false)] 12 [false] [] [6] [0] (st' := ⟨[(6, sV g k_ (k_ + x))], [(g, cO ((hT p.ts b m true i).flatMap inR ++ zR x) 68)]⟩) (acc := [(.bool false, .bool false), (.bool (decide ((i : Int) < (p.ts.length : Int))), .bool false)]) (by kernel_rfl) (by kernel_rfl) ⟨rfl, (bo hd1), trivial⟩ ?_
      refine run_end (fn := f104) rfl (Nat.le_refl _) (by kernel_rfl) [] [sV g k_ (k_ + x)] (e := []) (by kernel_rfl) trivial (fun w1 k1 h1 => ?_)
      have hall : hT p.ts b m true i = hL p.ts b m true := hT_all _ _ _ _ (by omega)
      rw [hall] at hz2 h1
      refine .inr ⟨by cases hL2 : hL p.ts b m true with | nil => rw [hL2] at hz2; simp at hz2; omega | cons a l => rfl, (g, x, 0), trivial, by rw [hz2]; rfl, k1.keeps (fun _ h => h), fun q hq => ?_, List.pairwise_singleton _ _⟩
      rw [List.mem_singleton] at hq
      subst hq
      exact ⟨h1 (g, _) (List.mem_of_getElem? (i := 0) rfl), hz5⟩
    | true =>
      have hp1 := of_decide_eq_true hd1
      have hlt : i < p.ts.length := by omega
      obtain ⟨be, oe, hbe, hc⟩ := hp.tk (by intro h; rw [h] at hlt; cases hlt)
      have hc := hc i hlt
      refine run_auto [(15, .bool true)] 11 [true] [] [2, 4, 6, 7, 12, 13, 14] [0, 1] (st' := ⟨[(2, .iface 139 (.agg #[iV (elB p.bs b).1, iV (elB p.bs b).2.1, iV (elB p.bs b).2.2.1, iV (elB p.bs b).2.2.2.1, iV (elB p.bs b).2.2.2.2.1, iV (elB p.bs b).2.2.2.2.2, iV k])), (4, pA b2), (6, .slice none 0 0), (7, sV g k_ (k_ + x)), (12, .slice p.ta p.ts.length p.tc), (13, iV (p.ts.length : Int)), (14, iV (i : Int))], [(g, cO ((hT p.ts b m true i).flatMap inR ++ zR x) 68), (b2, aO #[iV (b : Int), iV k, iV (m : Int)] 122)]⟩) (acc := [(.bool true, .bool true), (.bool (decide ((i : Int) < (p.ts.length : Int))), .bool true)]) (by kernel_rfl) (by kernel_rfl) ⟨rfl, (bo hd1), trivial⟩ ?_
      refine run_v (Instr.indexAt 31 (.slice p.ta p.ts.length p.tc) (iV (i : Int)) >>= fun v => pure (Next.value v)) (some 16) (.pointer (some ⟨be, oe + i * 4, none⟩)) (by kernel_rfl) (fun w1 k1 h1 => (by rw [hbe]; exact idx_off (e := 61) (n := 4) (by kernel_rfl) (by kernel_rfl) be oe p.ts.length p.tc .i64 i hlt (oe + i * 4) (by omega) w1)) ?_
      refine run_v (Instr.loadAt 61 (.pointer (some ⟨be, oe + i * 4, none⟩)) >>= fun v => pure (Next.value v)) (some 17) (.agg #[iV (elT p.ts i).1, iV (elT p.ts i).2.1, iV (elT p.ts i).2.2.1, iV (elT p.ts i).2.2.2]) (by kernel_rfl) (fun w1 k1 h1 => load_in (off := 0) k1 (fun h => h) [iV (elT p.ts i).1, iV (elT p.ts i).2.1, iV (elT p.ts i).2.2.1, iV (elT p.ts i).2.2.2] (c4 hc.1 hc.2.1 hc.2.2.1 hc.2.2.2) (by kernel_rfl)) ?_
      refine run_new (aO #[iV 0, iV 0, iV 0, iV 0] 61) (fun b3 => pA b3) (some 9) (fun _ => by kernel_rfl) (fun b3 hb3 => ?_)
      cases hd2 : ((elT p.ts i).1 == (b : Int)) with
      | false =>
        have hp2 : ¬ (elT p.ts i).1 = (b : Int) := by simpa using hd2
        refine run_auto [(22, .bool false), (36, iV ((i + 1 : Nat) : Int))] 24 [false] [0, 0, 2] [2, 4, 6, 7, 12, 13, 14] [1, 2] (st' := ⟨[(2, .iface 139 (.agg #[iV (elB p.bs b).1, iV (elB p.bs b).2.1, iV (elB p.bs b).2.2.1, iV (elB p.bs b).2.2.2.1, iV (elB p.bs b).2.2.2.2.1, iV (elB p.bs b).2.2.2.2.2, iV k])), (4, pA b2), (6, .slice none 0 0), (7, sV g k_ (k_ + x)), (12, .slice p.ta p.ts.length p.tc), (13, iV (p.ts.length : Int)), (14, iV ((i + 1 : Nat) : Int))], [(g, cO ((hT p.ts b m true i).flatMap inR ++ zR x) 68), (b2, aO #[iV (b : Int), iV k, iV (m : Int)] 122)]⟩) (acc := [(iV (IntKind.i64.wrap ((i : Int) + 1)), iV ((i + 1 : Nat) : Int)), (.bool false, .bool false), (.bool ((elT p.ts i).1 == (b : Int)), .bool false), (pA b2, pA b2), (pA b3, pA b3), (pA b3, pA b3)]) (by kernel_rfl) (by kernel_rfl) ⟨(wr (by omega) (by omega)), rfl, (bo hd2), rfl, rfl, rfl, trivial⟩ ?_
        have hat : isAt b m (elT p.ts i) = false := by unfold isAt; rw [hd2]; rfl
        have hst := hT_no (hi := true) hlt hat
        have hj := hJ0 ((i + 1, k_, some (g, x))) (⟨by dsimp only; omega, by rw [hst]; exact hz2, hz4, hz5⟩) (by dsimp only; omega)
        dsimp only at hj
        rw [hst] at hj
        exact run_round (by kernel_rfl) hj
      | true =>
        have hp2 : (elT p.ts i).1 = (b : Int) := by simpa using hd2
        cases hd3 : ((elT p.ts i).2.1 == (m : Int)) with
        | false =>
          have hp3 : ¬ (elT p.ts i).2.1 = (m : Int) := by simpa using hd3
          refine run_auto [(22, .bool true), (28, .bool false), (36, iV ((i + 1 : Nat) : Int))] 24 [false] [0, 0, 2, 0, 2] [2, 4, 6, 7, 12, 13, 14] [1, 2] (st' := ⟨[(2, .iface 139 (.agg #[iV (elB p.bs b).1, iV (elB p.bs b).2.1, iV (elB p.bs b).2.2.1, iV (elB p.bs b).2.2.2.1, iV (elB p.bs b).2.2.2.2.1, iV (elB p.bs b).2.2.2.2.2, iV k])), (4, pA b2), (6, .slice none 0 0), (7, sV g k_ (k_ + x)), (12, .slice p.ta p.ts.length p.tc), (13, iV (p.ts.length : Int)), (14, iV ((i + 1 : Nat) : Int))], [(g, cO ((hT p.ts b m true i).flatMap inR ++ zR x) 68), (b2, aO #[iV (b : Int), iV k, iV (m : Int)] 122)]⟩) (acc := [(iV (IntKind.i64.wrap ((i : Int) + 1)), iV ((i + 1 : Nat) : Int)), (.bool false, .bool false), (.bool ((elT p.ts i).2.1 == (m : Int)), .bool false), (pA b2, pA b2), (pA b3, pA b3), (.bool ((elT p.ts i).1 == (b : Int)), .bool true), (pA b2, pA b2), (pA b3, pA b3), (pA b3, pA b3)]) (by kernel_rfl) (by kernel_rfl) ⟨(wr (by omega) (by omega)), rfl, (bo hd3), rfl, rfl, (bo hd2), rfl, rfl, rfl, trivial⟩ ?_
          have hat : isAt b m (elT p.ts i) = false := by unfold isAt; rw [hd2, hd3]; rfl
          have hst := hT_no (hi := true) hlt hat
          have hj := hJ0 ((i + 1, k_, some (g, x))) (⟨by dsimp only; omega, by rw [hst]; exact hz2, hz4, hz5⟩) (by dsimp only; omega)
          dsimp only at hj
          rw [hst] at hj
          exact run_round (by kernel_rfl) hj
        | true =>
          have hp3 : (elT p.ts i).2.1 = (m : Int) := by simpa using hd3
          refine run_auto [(22, .bool true), (28, .bool true)] 22 [true] [0, 0, 2, 0, 2, 0] [2, 4, 6, 7, 12, 13, 14, 30, 31, 32] [1, 2] (st' := ⟨[(2, .iface 139 (.agg #[iV (elB p.bs b).1, iV (elB p.bs b).2.1, iV (elB p.bs b).2.2.1, iV (elB p.bs b).2.2.2.1, iV (elB p.bs b).2.2.2.2.1, iV (elB p.bs b).2.2.2.2.2, iV k])), (4, pA b2), (6, .slice none 0 0), (7, sV g k_ (k_ + x)), (12, .slice p.ta p.ts.length p.tc), (13, iV (p.ts.length : Int)), (14, iV (i : Int)), (30, sV g k_ (k_ + x)), (31, .iface 139 (.agg #[iV (elB p.bs b).1, iV (elB p.bs b).2.1, iV (elB p.bs b).2.2.1, iV (elB p.bs b).2.2.2.1, iV (elB p.bs b).2.2.2.2.1, iV (elB p.bs b).2.2.2.2.2, iV k])), (32, .agg #[iV (elT p.ts i).1, iV (elT p.ts i).2.1, iV (elT p.ts i).2.2.1, iV (elT p.ts i).2.2.2])], [(g, cO ((hT p.ts b m true i).flatMap inR ++ zR x) 68), (b2, aO #[iV (b : Int), iV k, iV (m : Int)] 122)]⟩) (acc := [(pA b3, pA b3), (.bool true, .bool true), (.bool ((elT p.ts i).2.1 == (m : Int)), .bool true), (pA b2, pA b2), (pA b3, pA b3), (.bool ((elT p.ts i).1 == (b : Int)), .bool true), (pA b2, pA b2), (pA b3, pA b3), (pA b3, pA b3)]) (by kernel_rfl) (by kernel_rfl) ⟨rfl, rfl, (bo hd3), rfl, rfl, (bo hd2), rfl, rfl, rfl, trivial⟩ ?_
          refine run_ret1 125 #[.agg #[iV (elB p.bs b).1, iV (elB p.bs b).2.1, iV (elB p.bs b).2.2.1, iV (elB p.bs b).2.2.2.1, iV (elB p.bs b).2.2.2.2.1, iV (elB p.bs b).2.2.2.2.2, iV k], .agg #[iV (elT p.ts i).1, iV (elT p.ts i).2.1, iV (elT p.ts i).2.2.1, iV (elT p.ts i).2.2.2]] (some 33) (iV (hs true (elT p.ts i))) (by kernel_rfl) (fun w1 k1 h1 => heat_w (elB p.bs b) k (elT p.ts i) w1) ?_
          refine run_new (aO #[iV (hs true (elT p.ts i))] 68) (fun b4 => sV b4 1 1) (some 34) (fun _ => by kernel_rfl) (fun b4 hb4 => ?_)
          refine run_appZ (t := 134) (ty := 134) (e := 68) (by kernel_rfl) (by kernel_rfl) (by kernel_rfl) (by kernel_rfl) inR inR_len inR_one (some 35) 1 g k_ x 1 1 (hT p.ts b m true i) ([(hs true (elT p.ts i))] : List Int) ⟨b4, 0, none⟩ (by first | rfl | omega | (simp; done) | (simp; omega)) (by first | rfl | omega | (simp; done) | (simp; omega)) (by kernel_rfl) (by kernel_rfl) (fun w1 k1 h1 jq uq hu => by rw [add_none, Nat.zero_add]; exact cells_of_heap (h1 (b4, aO #[iV (hs true (elT p.ts i))] 68) (List.mem_of_getElem? (i := 0) (by kernel_rfl))) jq uq hu) (by omega) hz5 (fun b5 x5 hb5 => ?_)
          refine run_auto [(36, iV ((i + 1 : Nat) : Int))] 7 [] [] [2, 4, 6, 7, 12, 13, 14] [0, 2] (st' := ⟨[(2, .iface 139 (.agg #[iV (elB p.bs b).1, iV (elB p.bs b).2.1, iV (elB p.bs b).2.2.1, iV (elB p.bs b).2.2.2.1, iV (elB p.bs b).2.2.2.2.1, iV (elB p.bs b).2.2.2.2.2, iV k])), (4, pA b2), (6, .slice none 0 0), (7, sV b5 (k_ + 1) (k_ + 1 + x5)), (12, .slice p.ta p.ts.length p.tc), (13, iV (p.ts.length : Int)), (14, iV ((i + 1 : Nat) : Int))], [(b5, cO ((hT p.ts b m true i ++ ([(hs true (elT p.ts i))] : List Int)).flatMap inR ++ zR x5) 68), (b2, aO #[iV (b : Int), iV k, iV (m : Int)] 122)]⟩) (acc := [(iV (IntKind.i64.wrap ((i : Int) + 1)), iV ((i + 1 : Nat) : Int))]) (by kernel_rfl) (by kernel_rfl) ⟨(wr (by omega) (by omega)), trivial⟩ ?_
          have hat : isAt b m (elT p.ts i) = true := by unfold isAt; rw [hd2, hd3]; rfl
          have hst := hT_yes (hi := true) hlt hat
          have hj := hJ0 ((i + 1, k_ + 1, some (b5, x5))) (⟨by dsimp only; omega, by rw [hst]; rw [List.length_append, hz2]; rfl, by dsimp only; omega, hb5⟩) (by dsimp only; omega)
          dsimp only at hj
          rw [hst] at hj
          exact run_round (by kernel_rfl) hj

end Go.Proofs.Ytfjfkaaflghaiaa

namespace Go.Proofs.Ytfjfkaaflghaiaa
open Go.RowKit Go.Proofs.Try
attribute [local irreducible] Run wpK

theorem moment_fields : Try.prog.underlying 122 = some (.struct (Try.prog.fieldsOf 122)) := by kernel_rfl
theorem moment_held : Try.prog.stoodInHeld 122 = false := by kernel_rfl
theorem moment_list : (Try.prog.fieldsOf 122).toList.map (fun f => (f.name, f.type, f.offset)) = [("block", 3, 0), ("slow", 3, 1), ("minute", 3, 2)] := by kernel_rfl
theorem moment_eq (x0 x1 x2 y0 y1 y2 : Int) (w : World) : (Op.equal 122 (.agg #[.int .i64 x0, .int .i64 x1, .int .i64 x2]) (.agg #[.int .i64 y0, .int .i64 y1, .int .i64 y2])).run Try.prog w = .ok (x0 == y0 && x1 == y1 && x2 == y2) w := by
  have key : (Op.equalIn 10000 122 (.agg #[.int .i64 x0, .int .i64 x1, .int .i64 x2]) (.agg #[.int .i64 y0, .int .i64 y1, .int .i64 y2])).run Try.prog w = .ok (x0 == y0 && x1 == y1 && x2 == y2) w := by
    rw [run_equalIn_agg w 9999 _ _ _ moment_fields moment_held]
    have h := moment_list
    match hf : (Try.prog.fieldsOf 122).toList, h with
    | [f0, f1, f2], h =>
      simp only [List.map_cons, List.map_nil, List.cons.injEq, Prod.mk.injEq, and_true] at h
      obtain ⟨⟨q0a, q0b, q0c⟩, ⟨q1a, q1b, q1c⟩, q2a, q2b, q2c⟩ := h
      simp [Op.eqFields, q0a, q0b, q0c, q1a, q1b, q1c, q2a, q2b, q2c, go_sem]
      by_cases e0 : x0 = y0 <;> by_cases e1 : x1 = y1 <;> by_cases e2 : x2 = y2 <;> simp [e0, e1, e2]
    | [], h => simp at h
    | [_], h => simp at h
    | [_, _], h => simp at h
    | _ :: _ :: _ :: _ :: _, h => simp at h
  simp only [Op.equal, Op.maxDepth]
  exact key
abbrev Mo := Int × Int × Int
def kvM (x : Mo) : Value := .agg #[.int .i64 x.1, .int .i64 x.2.1, .int .i64 x.2.2]
def enI (s : Sn) (x : Mo) : Sp := s.en x.1.toNat x.2.1 x.2.2.toNat
def vvM (s : Sn) (x : Mo) : Value := .agg #[.int .i64 (enI s x).1, .int .i64 (enI s x).2]
theorem eq_kvM (a b : Mo) (w : World) : (Op.equal 122 (kvM a) (kvM b)).run Try.prog w = .ok (decide (a = b)) w := by
  unfold kvM
  rw [moment_eq]
  congr 1
  obtain ⟨a1, a2, a3⟩ := a
  obtain ⟨b1, b2, b3⟩ := b
  by_cases e : (a1, a2, a3) = (b1, b2, b3)
  · rw [decide_eq_true e]
    simp only [Prod.mk.injEq] at e
    simp [e.1, e.2.1, e.2.2]
  · rw [decide_eq_false e]
    simp only [Prod.mk.injEq] at e
    by_cases e1 : a1 = b1
    · by_cases e2 : a2 = b2
      · have e3 : ¬ a3 = b3 := fun h => e ⟨e1, e2, h⟩
        simp [e3]
      · simp [e2]
    · simp [e1]
theorem ck_kvM (e : Bool) (x : Mo) (w : World) : (Instr.checkKey e 10000 122 (kvM x)).run Try.prog w = .ok () w := by cases e <;> kernel_rfl
theorem lookM {w : World} {b : Nat} {s : Sn} {L : List Mo} (hb : w.heap[b]? = some (memO kvM (vvM s) L)) (x : Mo) {v : Bool} (hv : decide (x ∈ L) = v) : (Instr.lookup 71 (.map (some b)) (kvM x) true >>= fun v => pure (Next.value v)).run Try.prog w = .ok (.value (.tuple #[bif v then vvM s x else .agg #[.int .i64 0, .int .i64 0], .bool v])) w := by
  have h := look_mem (P := Try.prog) (t := 71) (kt := 122) (et := 70) (z := .agg #[.int .i64 0, .int .i64 0]) (by kernel_rfl) (by kernel_rfl) eq_kvM ck_kvM (fun w => by kernel_rfl) hb x
  rw [h]
  cases v with
  | false =>
    have hx := of_decide_eq_false hv
    simp [hx]
  | true =>
    have hx := of_decide_eq_true hv
    simp [hx]
/-- The moments that have been kept when one has been asked for. -/
def insM (L : List Mo) (b : Nat) (k : Int) : Nat → List Mo
  | 0 => if ((b : Int), k, ((0 : Nat) : Int)) ∈ L then L else L ++ [((b : Int), k, ((0 : Nat) : Int))]
  | m + 1 => if ((b : Int), k, ((m + 1 : Nat) : Int)) ∈ L then L else insM L b k m ++ [((b : Int), k, ((m + 1 : Nat) : Int))]
def preM (L : List Mo) (b : Nat) (k : Int) : Nat → List Mo
  | 0 => L
  | m + 1 => insM L b k m
theorem insM_yes {L : List Mo} {b : Nat} {k : Int} {m : Nat} (h : ((b : Int), k, (m : Int)) ∈ L) : insM L b k m = L := by
  cases m with
  | zero => exact if_pos h
  | succ m => exact if_pos h
theorem insM_no {L : List Mo} {b : Nat} {k : Int} {m : Nat} (h : ¬ ((b : Int), k, (m : Int)) ∈ L) : insM L b k m = preM L b k m ++ [((b : Int), k, (m : Int))] := by
  cases m with
  | zero => exact if_neg h
  | succ m => exact if_neg h
theorem insM_mem {L : List Mo} {b : Nat} {k : Int} {x : Mo} : ∀ {m : Nat}, x ∈ insM L b k m → x ∈ L ∨ x.2.2 ≤ (m : Int)
  | 0, h => by
    unfold insM at h
    split at h
    · exact .inl h
    · rcases List.mem_append.1 h with h | h
      · exact .inl h
      · rw [List.mem_singleton] at h; subst h; exact .inr (Int.le_refl _)
  | m + 1, h => by
    unfold insM at h
    split at h
    · exact .inl h
    · rcases List.mem_append.1 h with h | h
      · rcases insM_mem h with h | h
        · exact .inl h
        · exact .inr (by omega)
      · rw [List.mem_singleton] at h; subst h; exact .inr (Int.le_refl _)
theorem preM_no {L : List Mo} {b : Nat} {k : Int} {m : Nat} (h : ¬ ((b : Int), k, (m : Int)) ∈ L) : ¬ ((b : Int), k, (m : Int)) ∈ preM L b k m := by
  intro hx
  cases m with
  | zero => exact h hx
  | succ m =>
    rcases insM_mem (show _ ∈ insM L b k m from hx) with h2 | h2
    · exact h h2
    · have : ((m + 1 : Nat) : Int) ≤ (m : Int) := h2
      omega
/-- Rows that lie where nobody else writes. -/
def BksD (L : List Bk) (a : Option Addr) (D : Nat → Prop) (w : World) : Prop := Bks w a L ∧ (L ≠ [] → ∀ b o, a = some ⟨b, o, none⟩ → ¬ D b)
def TcsD (L : List Tc) (a : Option Addr) (D : Nat → Prop) (w : World) : Prop := Tcs w a L ∧ (L ≠ [] → ∀ b o, a = some ⟨b, o, none⟩ → ¬ D b)
structure Sb.InD (p : Sb) (D : Nat → Prop) (w : World) : Prop where
  bk : BksD p.bs p.ba D w
  tk : TcsD p.ts p.ta D w
  lb : p.bs.length ≤ maxLen
  lt : p.ts.length ≤ maxLen
theorem BksD.lt {L : List Bk} {a : Option Addr} {D : Nat → Prop} {w : World} (h : BksD L a D w) (hx : L ≠ []) : ∃ b o, a = some ⟨b, o, none⟩ ∧ b < w.heap.size := by
  obtain ⟨b, o, e, hc⟩ := h.1 hx
  exact ⟨b, o, e, lt_of_cell (hc 0 (List.length_pos_iff.2 hx)).1⟩
theorem TcsD.lt {L : List Tc} {a : Option Addr} {D : Nat → Prop} {w : World} (h : TcsD L a D w) (hx : L ≠ []) : ∃ b o, a = some ⟨b, o, none⟩ ∧ b < w.heap.size := by
  obtain ⟨b, o, e, hc⟩ := h.1 hx
  exact ⟨b, o, e, lt_of_cell (hc 0 (List.length_pos_iff.2 hx)).1⟩
theorem BksD.kept {L : List Bk} {a : Option Addr} {D D' : Nat → Prop} {w w' : World} (h : BksD L a D w) (k : Kept D w w') (hD : ∀ b, b < w.heap.size → D' b → D b) : BksD L a D' w' := by
  refine ⟨fun hx => ?_, fun hx b o e hd => ?_⟩
  · obtain ⟨b, o, e, hc⟩ := h.1 hx
    have hn := h.2 hx b o e
    exact ⟨b, o, e, fun i hi => ⟨k.cell (hc i hi).1 hn, k.cell (hc i hi).2.1 hn, k.cell (hc i hi).2.2.1 hn, k.cell (hc i hi).2.2.2.1 hn, k.cell (hc i hi).2.2.2.2.1 hn, k.cell (hc i hi).2.2.2.2.2 hn⟩⟩
  · obtain ⟨b', o', e', hl⟩ := h.lt hx
    rw [e] at e'
    injection e' with e'
    injection e' with e1
    subst e1
    exact h.2 hx b o e (hD b hl hd)
theorem TcsD.kept {L : List Tc} {a : Option Addr} {D D' : Nat → Prop} {w w' : World} (h : TcsD L a D w) (k : Kept D w w') (hD : ∀ b, b < w.heap.size → D' b → D b) : TcsD L a D' w' := by
  refine ⟨fun hx => ?_, fun hx b o e hd => ?_⟩
  · obtain ⟨b, o, e, hc⟩ := h.1 hx
    have hn := h.2 hx b o e
    exact ⟨b, o, e, fun i hi => ⟨k.cell (hc i hi).1 hn, k.cell (hc i hi).2.1 hn, k.cell (hc i hi).2.2.1 hn, k.cell (hc i hi).2.2.2 hn⟩⟩
  · obtain ⟨b', o', e', hl⟩ := h.lt hx
    rw [e] at e'
    injection e' with e'
    injection e' with e1
    subst e1
    exact h.2 hx b o e (hD b hl hd)
theorem Sb.InD.kept {p : Sb} {D D' : Nat → Prop} {w w' : World} (h : p.InD D w) (k : Kept D w w') (hD : ∀ b, b < w.heap.size → D' b → D b) : p.InD D' w' := ⟨h.bk.kept k hD, h.tk.kept k hD, h.lb, h.lt⟩
theorem Sb.InD.at {p : Sb} {D : Nat → Prop} {w w' : World} (h : p.InD D w) (k : Kept D w w') : p.In w' := by
  have h2 := h.kept (D' := fun _ => False) k fun _ _ h => h.elim
  exact ⟨h2.bk.1, h2.tk.1, h.lb, h.lt⟩
/-- No row lies in a map. -/
theorem Sb.In.map {p : Sb} {w : World} {b c : Nat} {es : Array MapEntry} (h : p.In w) (hb : w.heap[b]? = some (.map es c)) : p.InD (fun x => x = b) w := by
  refine ⟨⟨h.bk, fun hx b' o e hbb => ?_⟩, ⟨h.tk, fun hx b' o e hbb => ?_⟩, h.lb, h.lt⟩
  · obtain ⟨b2, o2, e2, hc⟩ := h.bk hx
    rw [e] at e2
    injection e2 with e2
    injection e2 with e3 e4
    have h0 := (hc 0 (List.length_pos_iff.2 hx)).1
    subst e3 hbb
    simp [World.cell?, hb] at h0
  · obtain ⟨b2, o2, e2, hc⟩ := h.tk hx
    rw [e] at e2
    injection e2 with e2
    injection e2 with e3 e4
    have h0 := (hc 0 (List.length_pos_iff.2 hx)).1
    subst e3 hbb
    simp [World.cell?, hb] at h0
set_option maxRecDepth 100000 in
theorem workOut0 (p : Sb) (bm b : Nat) (k : Int) (L : List Mo) (w : World) (hin : p.InD (fun x => x = bm) w) (hF : p.n.Fine) (hb : b < p.bs.length) (hmap : w.heap[bm]? = some (memO kvM (vvM p.n) L)) : Calls Try.prog 100 #[.agg #[.slice p.ba p.bs.length p.bc, .int .i64 p.near, .int .i64 p.last, .slice p.ta p.ts.length p.tc, .map (some bm)], .agg #[.int .i64 (b : Int), .int .i64 k, .int .i64 0]] w (Wr bm (.agg #[.int .i64 (p.n.en b k 0).1, .int .i64 (p.n.en b k 0).2]) (memO kvM (vvM p.n) L) w) := by
  have hpin := hin.at (Kept.refl _ w)
  obtain ⟨bq, oq, hbq, hcq⟩ := hpin.bk (by intro h; rw [h] at hb; cases hb)
  have hcq := hcq b hb
  have hbD : ¬ bq = bm := hin.bk.2 (by intro h; rw [h] at hb; cases hb) bq oq hbq
  have hbx : -100 ≤ (elB p.bs b).1 ∧ (elB p.bs b).1 ≤ (elB p.bs b).2.1 ∧ (elB p.bs b).2.1 ≤ 100 := (hF.bkF hb).x
  have hlb := hin.lb
  simp only [maxLen] at hlb
  refine calls_run (fn := f100) (c := (f100.body).getD .skip) [.agg #[.slice p.ba p.bs.length p.bc, .int .i64 p.near, .int .i64 p.last, .slice p.ta p.ts.length p.tc, .map (some bm)], .agg #[.int .i64 (b : Int), .int .i64 k, .int .i64 0]] func100 (by kernel_rfl) (fun x => x = bm) [(bm, memO kvM (vvM p.n) L)] (fun q hq => by rcases List.mem_singleton.1 hq with rfl; exact ⟨hmap, rfl, rfl⟩) (List.pairwise_singleton _ _) 58 (by kernel_rfl) (by simp) ?_
  refine run_auto [] 2 [] [] [0, 1] [0] (st' := ⟨[(0, .agg #[.slice p.ba p.bs.length p.bc, iV p.near, iV p.last, .slice p.ta p.ts.length p.tc, .map (some bm)]), (1, .agg #[iV (b : Int), iV k, iV 0])], [(bm, memO kvM (vvM p.n) L)]⟩) (acc := []) (by kernel_rfl) (by kernel_rfl) trivial ?_
  refine run_new (aO #[.slice p.ba p.bs.length p.bc, iV p.near, iV p.last, .slice p.ta p.ts.length p.tc, .map (some bm)] 73) (fun b1 => pA b1) (some 2) (fun _ => by kernel_rfl) (fun b1 hb1 => ?_)
  refine run_new (aO #[iV (b : Int), iV k, iV 0] 122) (fun b2 => pA b2) (some 3) (fun _ => by kernel_rfl) (fun b2 hb2 => ?_)
  refine run_new (aO #[iV 0, iV 0] 70) (fun b3 => pA b3) (some 4) (fun _ => by kernel_rfl) (fun b3 hb3 => ?_)
  refine run_auto [] 2 [] [] [2, 3, 4] [0, 1, 2, 3] (st' := ⟨[(2, pA b1), (3, pA b2), (4, pA b3)], [(b3, aO #[iV 0, iV 0] 70), (b2, aO #[iV (b : Int), iV k, iV 0] 122), (b1, aO #[.slice p.ba p.bs.length p.bc, iV p.near, iV p.last, .slice p.ta p.ts.length p.tc, .map (some bm)] 73), (bm, memO kvM (vvM p.n) L)]⟩) (acc := []) (by kernel_rfl) (by kernel_rfl) trivial ?_
  refine drawW 15 [{ val := fun _ => pA b1, slots := [2] },
      { val := fun _ => pA b1, slots := [10] },
      { val := fun _ => .slice p.ba p.bs.length p.bc, slots := [11], reads := [2] },
      { val := fun _ => pA b2, slots := [3] },
      { val := fun _ => iV (b : Int), slots := [13], reads := [1] },
      { val := fun _ => .pointer (some ⟨bq, oq + b * 6, none⟩), slots := [12, 14] },
      { val := fun _ => .agg #[iV (elB p.bs b).1, iV (elB p.bs b).2.1, iV (elB p.bs b).2.2.1, iV (elB p.bs b).2.2.2.1, iV (elB p.bs b).2.2.2.2.1, iV (elB p.bs b).2.2.2.2.2], slots := [15] },
      { val := fun _ => .pointer (some ⟨b2, 1, none⟩), slots := [3] },
      { val := fun _ => iV k, slots := [17], reads := [1] },
      { val := fun _ => .tuple #[.iface 137 (.agg #[iV (elB p.bs b).1, iV (elB p.bs b).2.1, iV (elB p.bs b).2.2.1, iV (elB p.bs b).2.2.2.1, iV (elB p.bs b).2.2.2.2.1, iV (elB p.bs b).2.2.2.2.2, iV k]), .iface 139 (.agg #[iV (elB p.bs b).1, iV (elB p.bs b).2.1, iV (elB p.bs b).2.2.1, iV (elB p.bs b).2.2.2.1, iV (elB p.bs b).2.2.2.2.1, iV (elB p.bs b).2.2.2.2.2, iV k])], slots := [16, 18] },
      { val := fun _ => .tuple #[.iface 137 (.agg #[iV (elB p.bs b).1, iV (elB p.bs b).2.1, iV (elB p.bs b).2.2.1, iV (elB p.bs b).2.2.2.1, iV (elB p.bs b).2.2.2.2.1, iV (elB p.bs b).2.2.2.2.2, iV k]), .iface 139 (.agg #[iV (elB p.bs b).1, iV (elB p.bs b).2.1, iV (elB p.bs b).2.2.1, iV (elB p.bs b).2.2.2.1, iV (elB p.bs b).2.2.2.2.1, iV (elB p.bs b).2.2.2.2.2, iV k])], slots := [19] },
      { val := fun _ => .iface 137 (.agg #[iV (elB p.bs b).1, iV (elB p.bs b).2.1, iV (elB p.bs b).2.2.1, iV (elB p.bs b).2.2.2.1, iV (elB p.bs b).2.2.2.2.1, iV (elB p.bs b).2.2.2.2.2, iV k]), slots := [9] },
      { val := fun _ => .iface 139 (.agg #[iV (elB p.bs b).1, iV (elB p.bs b).2.1, iV (elB p.bs b).2.2.1, iV (elB p.bs b).2.2.2.1, iV (elB p.bs b).2.2.2.2.1, iV (elB p.bs b).2.2.2.2.2, iV k]), slots := [9] },
      { val := fun _ => .iface 137 (.agg #[iV (elB p.bs b).1, iV (elB p.bs b).2.1, iV (elB p.bs b).2.2.1, iV (elB p.bs b).2.2.2.1, iV (elB p.bs b).2.2.2.2.1, iV (elB p.bs b).2.2.2.2.2, iV k]), slots := [20] },
      { val := fun _ => .iface 139 (.agg #[iV (elB p.bs b).1, iV (elB p.bs b).2.1, iV (elB p.bs b).2.2.1, iV (elB p.bs b).2.2.2.1, iV (elB p.bs b).2.2.2.2.1, iV (elB p.bs b).2.2.2.2.2, iV k]), slots := [21] }] [[], [0], [0, 1], [], [3], [0, 1, 2, 3, 4], [0, 1, 2, 3, 4, 5], [], [7], [0, 1, 2, 3, 4, 5, 6, 7, 8], [0, 1, 2, 3, 4, 5, 6, 7, 8, 9], [0, 1, 2, 3, 4, 5, 6, 7, 8, 9, 10], [0, 1, 2, 3, 4, 5, 6, 7, 8, 9, 10], [0, 1, 2, 3, 4, 5, 6, 7, 8, 9, 10, 11], [0, 1, 2, 3, 4, 5, 6, 7, 8, 9, 10, 11, 12, 13]] (by kernel_rfl) (by kernel_rfl) (by kernel_rfl) (by kernel_rfl) [2, 3, 4, 5, 6] [0, 1, 2, 3] (by kernel_rfl)
      ⟨⟨⟨⟨⟨⟨⟨⟨⟨⟨⟨⟨⟨⟨⟨trivial,
      tri_quietW (fun β => []) [] [] (fun β => []) (by kernel_rfl) (fun β extra => by kernel_rfl) (by kernel_rfl) (fun β => trivial)⟩,
      tri_quietW (fun β => []) [] [] (fun β => []) (by kernel_rfl) (fun β extra => by kernel_rfl) (by kernel_rfl) (fun β => trivial)⟩,
      tri_quietW (fun β => []) [0] [0] (fun β => [(pA b1, pA b1)]) (by kernel_rfl) (fun β extra => by kernel_rfl) (by kernel_rfl) (fun β => ⟨rfl, trivial⟩)⟩,
      tri_quietW (fun β => []) [] [] (fun β => []) (by kernel_rfl) (fun β extra => by kernel_rfl) (by kernel_rfl) (fun β => trivial)⟩,
      tri_quietW (fun β => []) [0] [0] (fun β => [(pA b2, pA b2)]) (by kernel_rfl) (fun β extra => by kernel_rfl) (by kernel_rfl) (fun β => ⟨rfl, trivial⟩)⟩,
      tri_vVW (fun β => .pointer (some ⟨bq, oq + b * 6, none⟩)) (fun β => by kernel_rfl) (fun β => (Instr.indexAt 30 (.slice p.ba p.bs.length p.bc) (iV (b : Int)) >>= fun v => pure (Next.value v))) (by kernel_rfl) (fun β extra => by kernel_rfl) (fun β => by kernel_rfl) (fun β w1 k1 h1 => (by rw [hbq]; exact idx_off (e := 54) (n := 6) (by kernel_rfl) (by kernel_rfl) bq oq p.bs.length p.bc .i64 b hb (oq + b * 6) (by omega) w1))⟩,
      tri_vVW (fun β => .agg #[iV (elB p.bs b).1, iV (elB p.bs b).2.1, iV (elB p.bs b).2.2.1, iV (elB p.bs b).2.2.2.1, iV (elB p.bs b).2.2.2.2.1, iV (elB p.bs b).2.2.2.2.2]) (fun β => by kernel_rfl) (fun β => (Instr.loadAt 54 (.pointer (some ⟨bq, oq + b * 6, none⟩)) >>= fun v => pure (Next.value v))) (by kernel_rfl) (fun β extra => by kernel_rfl) (fun β => by kernel_rfl) (fun β w1 k1 h1 => load_in (off := 0) k1 hbD [iV (elB p.bs b).1, iV (elB p.bs b).2.1, iV (elB p.bs b).2.2.1, iV (elB p.bs b).2.2.2.1, iV (elB p.bs b).2.2.2.2.1, iV (elB p.bs b).2.2.2.2.2] (c6 hcq.1 hcq.2.1 hcq.2.2.1 hcq.2.2.2.1 hcq.2.2.2.2.1 hcq.2.2.2.2.2) (by kernel_rfl))⟩,
      tri_quietW (fun β => []) [] [] (fun β => []) (by kernel_rfl) (fun β extra => by kernel_rfl) (by kernel_rfl) (fun β => trivial)⟩,
      tri_quietW (fun β => []) [0] [0] (fun β => [(pA b2, pA b2)]) (by kernel_rfl) (fun β extra => by kernel_rfl) (by kernel_rfl) (fun β => ⟨rfl, trivial⟩)⟩,
      tri_callVW (fun β => .tuple #[.iface 137 (.agg #[iV (elB p.bs b).1, iV (elB p.bs b).2.1, iV (elB p.bs b).2.2.1, iV (elB p.bs b).2.2.2.1, iV (elB p.bs b).2.2.2.2.1, iV (elB p.bs b).2.2.2.2.2, iV k]), .iface 139 (.agg #[iV (elB p.bs b).1, iV (elB p.bs b).2.1, iV (elB p.bs b).2.2.1, iV (elB p.bs b).2.2.2.1, iV (elB p.bs b).2.2.2.2.1, iV (elB p.bs b).2.2.2.2.2, iV k])]) (fun β => by kernel_rfl) 101 (fun β => #[.agg #[iV (elB p.bs b).1, iV (elB p.bs b).2.1, iV (elB p.bs b).2.2.1, iV (elB p.bs b).2.2.2.1, iV (elB p.bs b).2.2.2.2.1, iV (elB p.bs b).2.2.2.2.2], iV k]) (by kernel_rfl) (fun β extra => by kernel_rfl) (fun β => by kernel_rfl) (fun β w1 k1 h1 => endsOf_any (elB p.bs b) k w1)⟩,
      tri_quietW (fun β => []) [] [] (fun β => []) (by kernel_rfl) (fun β extra => by kernel_rfl) (by kernel_rfl) (fun β => trivial)⟩,
      tri_quietW (fun β => []) [] [] (fun β => []) (by kernel_rfl) (fun β extra => by kernel_rfl) (by kernel_rfl) (fun β => trivial)⟩,
      tri_quietW (fun β => []) [] [] (fun β => []) (by kernel_rfl) (fun β extra => by kernel_rfl) (by kernel_rfl) (fun β => trivial)⟩,
      tri_quietW (fun β => []) [] [] (fun β => []) (by kernel_rfl) (fun β extra => by kernel_rfl) (by kernel_rfl) (fun β => trivial)⟩,
      tri_quietW (fun β => []) [] [] (fun β => []) (by kernel_rfl) (fun β extra => by kernel_rfl) (by kernel_rfl) (fun β => trivial)⟩
      (fun β => ⟨[(2, pA b1), (3, pA b2), (4, pA b3), (5, .iface 137 (.agg #[iV (elB p.bs b).1, iV (elB p.bs b).2.1, iV (elB p.bs b).2.2.1, iV (elB p.bs b).2.2.2.1, iV (elB p.bs b).2.2.2.2.1, iV (elB p.bs b).2.2.2.2.2, iV k])), (6, .iface 139 (.agg #[iV (elB p.bs b).1, iV (elB p.bs b).2.1, iV (elB p.bs b).2.2.1, iV (elB p.bs b).2.2.2.1, iV (elB p.bs b).2.2.2.2.1, iV (elB p.bs b).2.2.2.2.2, iV k]))], [(b3, aO #[iV 0, iV 0] 70), (b2, aO #[iV (b : Int), iV k, iV 0] 122), (b1, aO #[.slice p.ba p.bs.length p.bc, iV p.near, iV p.last, .slice p.ta p.ts.length p.tc, .map (some bm)] 73), (bm, memO kvM (vvM p.n) L)]⟩) (fun β => by kernel_rfl) (fun β4 => ?_)
  refine run_auto [] 3 [] [] [2, 3, 4, 5, 6, 22] [0, 1, 2, 3] (st' := ⟨[(2, pA b1), (3, pA b2), (4, pA b3), (5, .iface 137 (.agg #[iV (elB p.bs b).1, iV (elB p.bs b).2.1, iV (elB p.bs b).2.2.1, iV (elB p.bs b).2.2.2.1, iV (elB p.bs b).2.2.2.2.1, iV (elB p.bs b).2.2.2.2.2, iV k])), (6, .iface 139 (.agg #[iV (elB p.bs b).1, iV (elB p.bs b).2.1, iV (elB p.bs b).2.2.1, iV (elB p.bs b).2.2.2.1, iV (elB p.bs b).2.2.2.2.1, iV (elB p.bs b).2.2.2.2.2, iV k])), (22, .iface 137 (.agg #[iV (elB p.bs b).1, iV (elB p.bs b).2.1, iV (elB p.bs b).2.2.1, iV (elB p.bs b).2.2.2.1, iV (elB p.bs b).2.2.2.2.1, iV (elB p.bs b).2.2.2.2.2, iV k]))], [(b3, aO #[iV 0, iV 0] 70), (b2, aO #[iV (b : Int), iV k, iV 0] 122), (b1, aO #[.slice p.ba p.bs.length p.bc, iV p.near, iV p.last, .slice p.ta p.ts.length p.tc, .map (some bm)] 73), (bm, memO kvM (vvM p.n) L)]⟩) (acc := []) (by kernel_rfl) (by kernel_rfl) trivial ?_
  refine run_ret1 122 #[.agg #[iV (elB p.bs b).1, iV (elB p.bs b).2.1, iV (elB p.bs b).2.2.1, iV (elB p.bs b).2.2.2.1, iV (elB p.bs b).2.2.2.2.1, iV (elB p.bs b).2.2.2.2.2, iV k]] (some 23) (iV (elB p.bs b).1) (by kernel_rfl) (fun w1 k1 h1 => start_c (elB p.bs b) k w1) ?_
  refine run_auto [] 1 [] [] [2, 3, 4, 5, 6, 23, 24] [0, 1, 2, 3] (st' := ⟨[(2, pA b1), (3, pA b2), (4, pA b3), (5, .iface 137 (.agg #[iV (elB p.bs b).1, iV (elB p.bs b).2.1, iV (elB p.bs b).2.2.1, iV (elB p.bs b).2.2.2.1, iV (elB p.bs b).2.2.2.2.1, iV (elB p.bs b).2.2.2.2.2, iV k])), (6, .iface 139 (.agg #[iV (elB p.bs b).1, iV (elB p.bs b).2.1, iV (elB p.bs b).2.2.1, iV (elB p.bs b).2.2.2.1, iV (elB p.bs b).2.2.2.2.1, iV (elB p.bs b).2.2.2.2.2, iV k])), (23, iV (elB p.bs b).1), (24, .iface 139 (.agg #[iV (elB p.bs b).1, iV (elB p.bs b).2.1, iV (elB p.bs b).2.2.1, iV (elB p.bs b).2.2.2.1, iV (elB p.bs b).2.2.2.2.1, iV (elB p.bs b).2.2.2.2.2, iV k]))], [(b3, aO #[iV 0, iV 0] 70), (b2, aO #[iV (b : Int), iV k, iV 0] 122), (b1, aO #[.slice p.ba p.bs.length p.bc, iV p.near, iV p.last, .slice p.ta p.ts.length p.tc, .map (some bm)] 73), (bm, memO kvM (vvM p.n) L)]⟩) (acc := []) (by kernel_rfl) (by kernel_rfl) trivial ?_
  refine run_ret1 126 #[.agg #[iV (elB p.bs b).1, iV (elB p.bs b).2.1, iV (elB p.bs b).2.2.1, iV (elB p.bs b).2.2.2.1, iV (elB p.bs b).2.2.2.2.1, iV (elB p.bs b).2.2.2.2.2, iV k]] (some 25) (iV (elB p.bs b).2.1) (by kernel_rfl) (fun w1 k1 h1 => start_w (elB p.bs b) k w1) ?_
  refine run_auto [] 1 [] [] [2, 3, 4, 5, 6, 26] [0, 1, 2, 3] (st' := ⟨[(2, pA b1), (3, pA b2), (4, pA b3), (5, .iface 137 (.agg #[iV (elB p.bs b).1, iV (elB p.bs b).2.1, iV (elB p.bs b).2.2.1, iV (elB p.bs b).2.2.2.1, iV (elB p.bs b).2.2.2.2.1, iV (elB p.bs b).2.2.2.2.2, iV k])), (6, .iface 139 (.agg #[iV (elB p.bs b).1, iV (elB p.bs b).2.1, iV (elB p.bs b).2.2.1, iV (elB p.bs b).2.2.2.1, iV (elB p.bs b).2.2.2.2.1, iV (elB p.bs b).2.2.2.2.2, iV k])), (26, .agg #[iV (elB p.bs b).1, iV (elB p.bs b).2.1])], [(b3, aO #[iV 0, iV 0] 70), (b2, aO #[iV (b : Int), iV k, iV 0] 122), (b1, aO #[.slice p.ba p.bs.length p.bc, iV p.near, iV p.last, .slice p.ta p.ts.length p.tc, .map (some bm)] 73), (bm, memO kvM (vvM p.n) L)]⟩) (acc := []) (by kernel_rfl) (by kernel_rfl) trivial ?_
  refine run_new (aO #[iV 0, iV 0] 70) (fun b5 => pA b5) (some 7) (fun _ => by kernel_rfl) (fun b5 hb5 => ?_)
  refine run_auto [(29, .bool false)] 12 [false] [0, 2] [2, 3, 4, 5, 6, 7] [0, 1, 2, 3, 4] (st' := ⟨[(2, pA b1), (3, pA b2), (4, pA b3), (5, .iface 137 (.agg #[iV (elB p.bs b).1, iV (elB p.bs b).2.1, iV (elB p.bs b).2.2.1, iV (elB p.bs b).2.2.2.1, iV (elB p.bs b).2.2.2.2.1, iV (elB p.bs b).2.2.2.2.2, iV k])), (6, .iface 139 (.agg #[iV (elB p.bs b).1, iV (elB p.bs b).2.1, iV (elB p.bs b).2.2.1, iV (elB p.bs b).2.2.2.1, iV (elB p.bs b).2.2.2.2.1, iV (elB p.bs b).2.2.2.2.2, iV k])), (7, pA b5)], [(b5, aO #[iV (elB p.bs b).1, iV (elB p.bs b).2.1] 70), (b3, aO #[iV 0, iV 0] 70), (b2, aO #[iV (b : Int), iV k, iV 0] 122), (b1, aO #[.slice p.ba p.bs.length p.bc, iV p.near, iV p.last, .slice p.ta p.ts.length p.tc, .map (some bm)] 73), (bm, memO kvM (vvM p.n) L)]⟩) (acc := [(.bool false, .bool false), (.bool false, .bool false), (pA b2, pA b2), (pA b5, pA b5)]) (by kernel_rfl) (by kernel_rfl) ⟨rfl, rfl, rfl, rfl, trivial⟩ ?_
  cases hd1 : ((hL p.ts (b : Int) ((0 : Nat) : Int) false).isEmpty) with
  | false =>
    refine drawW 16 [{ val := fun _ => pA b5, slots := [7] },
          { val := fun _ => iV (elB p.bs b).1, slots := [43], reads := [0] },
          { val := fun _ => .agg #[.slice p.ba p.bs.length p.bc, iV p.near, iV p.last, .slice p.ta p.ts.length p.tc, .map (some bm)], slots := [2], reads := [3] },
          { val := fun _ => .agg #[iV (b : Int), iV k, iV 0], slots := [3], reads := [2] },
          { val := fun _ => .iface 137 (.agg #[iV (elB p.bs b).1, iV (elB p.bs b).2.1, iV (elB p.bs b).2.2.1, iV (elB p.bs b).2.2.2.1, iV (elB p.bs b).2.2.2.2.1, iV (elB p.bs b).2.2.2.2.2, iV k]), slots := [5] },
          { names := [10, 1000010, 2000010], val := fun l => .slice (some ⟨(l.getD 0 0), 0, none⟩) ((hL p.ts b ((0 : Nat) : Int) false).length) ((hL p.ts b ((0 : Nat) : Int) false).length + (l.getD 1 0)), upd := [(10, fun l => cO ((hL p.ts b ((0 : Nat) : Int) false).flatMap inR ++ zR (l.getD 1 0)) 68)], news := [10, 1000010, 2000010], slots := [45, 46, 47] },
          { val := fun _ => iV (heat (elB p.bs b).1 (hL p.ts b ((0 : Nat) : Int) false)), slots := [44, 48], reads := [10] },
          { val := fun _ => .pointer (some ⟨b5, 1, none⟩), slots := [7] },
          { val := fun _ => iV (elB p.bs b).2.1, slots := [50], reads := [0] },
          { val := fun _ => .agg #[.slice p.ba p.bs.length p.bc, iV p.near, iV p.last, .slice p.ta p.ts.length p.tc, .map (some bm)], slots := [2], reads := [3] },
          { val := fun _ => .agg #[iV (b : Int), iV k, iV 0], slots := [3], reads := [2] },
          { val := fun _ => .iface 139 (.agg #[iV (elB p.bs b).1, iV (elB p.bs b).2.1, iV (elB p.bs b).2.2.1, iV (elB p.bs b).2.2.2.1, iV (elB p.bs b).2.2.2.2.1, iV (elB p.bs b).2.2.2.2.2, iV k]), slots := [6] },
          { names := [17, 1000017, 2000017], val := fun l => .slice (some ⟨(l.getD 0 0), 0, none⟩) ((hL p.ts b ((0 : Nat) : Int) true).length) ((hL p.ts b ((0 : Nat) : Int) true).length + (l.getD 1 0)), upd := [(17, fun l => cO ((hL p.ts b ((0 : Nat) : Int) true).flatMap inR ++ zR (l.getD 1 0)) 68)], news := [17, 1000017, 2000017], slots := [52, 53, 54] },
          { val := fun _ => iV (heat (elB p.bs b).2.1 (hL p.ts b ((0 : Nat) : Int) true)), slots := [51, 55], reads := [17] },
          { val := fun _ => .agg #[iV (heat (elB p.bs b).1 (hL p.ts b ((0 : Nat) : Int) false)), iV (heat (elB p.bs b).2.1 (hL p.ts b ((0 : Nat) : Int) true))], slots := [49, 56] },
          { upd := [(1, fun l => aO #[iV (heat (elB p.bs b).1 (hL p.ts b ((0 : Nat) : Int) false)), iV (heat (elB p.bs b).2.1 (hL p.ts b ((0 : Nat) : Int) true))] 70)], slots := [4, 57], reads := [1] }] [[], [0], [], [], [], [2, 3, 4], [0, 1, 2, 3, 4, 5], [], [7], [], [], [], [0, 1, 2, 3, 4, 5, 6, 9, 10, 11], [0, 1, 2, 3, 4, 5, 6, 7, 8, 9, 10, 11, 12], [0, 1, 2, 3, 4, 5, 6, 7, 8, 9, 10, 11, 12, 13], [0, 1, 2, 3, 4, 5, 6, 7, 8, 9, 10, 11, 12, 13, 14]] (by kernel_rfl) (by kernel_rfl) (by kernel_rfl) (by kernel_rfl) [4] [1, 4] (by kernel_rfl)
          ⟨⟨⟨⟨⟨⟨⟨⟨⟨⟨⟨⟨⟨⟨⟨⟨trivial,
          tri_quietW (fun β => []) [] [] (fun β => []) (by kernel_rfl) (fun β extra => by kernel_rfl) (by kernel_rfl) (fun β => trivial)⟩,
          tri_quietW (fun β => []) [0] [0] (fun β => [(pA b5, pA b5)]) (by kernel_rfl) (fun β extra => by kernel_rfl) (by kernel_rfl) (fun β => ⟨rfl, trivial⟩)⟩,
          tri_quietW (fun β => []) [0] [0] (fun β => [(pA b1, pA b1)]) (by kernel_rfl) (fun β extra => by kernel_rfl) (by kernel_rfl) (fun β => ⟨rfl, trivial⟩)⟩,
          tri_quietW (fun β => []) [0] [0] (fun β => [(pA b2, pA b2)]) (by kernel_rfl) (fun β extra => by kernel_rfl) (by kernel_rfl) (fun β => ⟨rfl, trivial⟩)⟩,
          tri_quietW (fun β => []) [] [] (fun β => []) (by kernel_rfl) (fun β extra => by kernel_rfl) (by kernel_rfl) (fun β => trivial)⟩,
          tri_nwn 10 1000010 2000010 rfl rfl (fun β nb_ nx_ ny_ => sV nb_ ((hL p.ts b ((0 : Nat) : Int) false).length) ((hL p.ts b ((0 : Nat) : Int) false).length + nx_)) (fun β nb_ nx_ ny_ => cO ((hL p.ts b ((0 : Nat) : Int) false).flatMap inR ++ zR nx_) 68) 104 (fun β => #[.agg #[.slice p.ba p.bs.length p.bc, iV p.near, iV p.last, .slice p.ta p.ts.length p.tc, .map (some bm)], .agg #[iV (b : Int), iV k, iV 0], .iface 137 (.agg #[iV (elB p.bs b).1, iV (elB p.bs b).2.1, iV (elB p.bs b).2.2.1, iV (elB p.bs b).2.2.2.1, iV (elB p.bs b).2.2.2.2.1, iV (elB p.bs b).2.2.2.2.2, iV k])]) (by kernel_rfl) (fun β extra => by kernel_rfl) (fun β nb_ nx_ ny_ => rfl) (fun β nb_ nx_ ny_ => by kernel_rfl) (fun β nb_ nx_ ny_ => by kernel_rfl) (fun β nb_ nx_ ny_ => by kernel_rfl) (fun β w1 k1 h1 => ((heats_lo p bm b 0 k w1 (hin.at k1) hF.t6).mono fun _ _ h => h.some hd1))⟩,
          tri_callVW (fun β => iV (heat (elB p.bs b).1 (hL p.ts b ((0 : Nat) : Int) false))) (fun β => by kernel_rfl) 103 (fun β => #[iV (elB p.bs b).1, .slice (some ⟨(β 10), 0, none⟩) ((hL p.ts b ((0 : Nat) : Int) false).length) ((hL p.ts b ((0 : Nat) : Int) false).length + (β 1000010))]) (by kernel_rfl) (fun β extra => by kernel_rfl) (fun β => by kernel_rfl) (fun β w1 k1 h1 => heated_any (elB p.bs b).1 (hL p.ts b ((0 : Nat) : Int) false) (β 10) ((hL p.ts b ((0 : Nat) : Int) false).length + (β 1000010)) w1 (by omega) (hL_bd hF _ _ _) (Nat.le_trans (hL_len _ _ _ _) hF.t6) (row_cells (h1 ((β 10), cO ((hL p.ts b ((0 : Nat) : Int) false).flatMap inR ++ zR (β 1000010)) 68) (List.mem_of_getElem? (i := 0) (by kernel_rfl)))))⟩,
          tri_quietW (fun β => []) [] [] (fun β => []) (by kernel_rfl) (fun β extra => by kernel_rfl) (by kernel_rfl) (fun β => trivial)⟩,
          tri_quietW (fun β => []) [0] [0] (fun β => [(pA b5, pA b5)]) (by kernel_rfl) (fun β extra => by kernel_rfl) (by kernel_rfl) (fun β => ⟨rfl, trivial⟩)⟩,
          tri_quietW (fun β => []) [0] [0] (fun β => [(pA b1, pA b1)]) (by kernel_rfl) (fun β extra => by kernel_rfl) (by kernel_rfl) (fun β => ⟨rfl, trivial⟩)⟩,
          tri_quietW (fun β => []) [0] [0] (fun β => [(pA b2, pA b2)]) (by kernel_rfl) (fun β extra => by kernel_rfl) (by kernel_rfl) (fun β => ⟨rfl, trivial⟩)⟩,
          tri_quietW (fun β => []) [] [] (fun β => []) (by kernel_rfl) (fun β extra => by kernel_rfl) (by kernel_rfl) (fun β => trivial)⟩,
          tri_nwn 17 1000017 2000017 rfl rfl (fun β nb_ nx_ ny_ => sV nb_ ((hL p.ts b ((0 : Nat) : Int) true).length) ((hL p.ts b ((0 : Nat) : Int) true).length + nx_)) (fun β nb_ nx_ ny_ => cO ((hL p.ts b ((0 : Nat) : Int) true).flatMap inR ++ zR nx_) 68) 104 (fun β => #[.agg #[.slice p.ba p.bs.length p.bc, iV p.near, iV p.last, .slice p.ta p.ts.length p.tc, .map (some bm)], .agg #[iV (b : Int), iV k, iV 0], .iface 139 (.agg #[iV (elB p.bs b).1, iV (elB p.bs b).2.1, iV (elB p.bs b).2.2.1, iV (elB p.bs b).2.2.2.1, iV (elB p.bs b).2.2.2.2.1, iV (elB p.bs b).2.2.2.2.2, iV k])]) (by kernel_rfl) (fun β extra => by kernel_rfl) (fun β nb_ nx_ ny_ => rfl) (fun β nb_ nx_ ny_ => by kernel_rfl) (fun β nb_ nx_ ny_ => by kernel_rfl) (fun β nb_ nx_ ny_ => by kernel_rfl) (fun β w1 k1 h1 => ((heats_hi p bm b 0 k w1 (hin.at k1) hF.t6).mono fun _ _ h => h.some ((hL_emp _ _ _ _ _).trans hd1)))⟩,
          tri_callVW (fun β => iV (heat (elB p.bs b).2.1 (hL p.ts b ((0 : Nat) : Int) true))) (fun β => by kernel_rfl) 103 (fun β => #[iV (elB p.bs b).2.1, .slice (some ⟨(β 17), 0, none⟩) ((hL p.ts b ((0 : Nat) : Int) true).length) ((hL p.ts b ((0 : Nat) : Int) true).length + (β 1000017))]) (by kernel_rfl) (fun β extra => by kernel_rfl) (fun β => by kernel_rfl) (fun β w1 k1 h1 => heated_any (elB p.bs b).2.1 (hL p.ts b ((0 : Nat) : Int) true) (β 17) ((hL p.ts b ((0 : Nat) : Int) true).length + (β 1000017)) w1 (by omega) (hL_bd hF _ _ _) (Nat.le_trans (hL_len _ _ _ _) hF.t6) (row_cells (h1 ((β 17), cO ((hL p.ts b ((0 : Nat) : Int) true).flatMap inR ++ zR (β 1000017)) 68) (List.mem_of_getElem? (i := 0) (by kernel_rfl)))))⟩,
          tri_quietW (fun β => []) [] [] (fun β => []) (by kernel_rfl) (fun β extra => by kernel_rfl) (by kernel_rfl) (fun β => trivial)⟩,
          tri_quietW (fun β => []) [0] [0] (fun β => [(pA b3, pA b3)]) (by kernel_rfl) (fun β extra => by kernel_rfl) (by kernel_rfl) (fun β => ⟨rfl, trivial⟩)⟩
          (fun β => ⟨[(4, pA b3)], [(b3, aO #[iV (heat (elB p.bs b).1 (hL p.ts b ((0 : Nat) : Int) false)), iV (heat (elB p.bs b).2.1 (hL p.ts b ((0 : Nat) : Int) true))] 70), (bm, memO kvM (vvM p.n) L)]⟩) (fun β => by kernel_rfl) (fun β6 => ?_)
    refine run_end (fn := f100) rfl (Nat.le_refl _) (by kernel_rfl) [0] [.agg #[iV (heat (elB p.bs b).1 (hL p.ts b ((0 : Nat) : Int) false)), iV (heat (elB p.bs b).2.1 (hL p.ts b ((0 : Nat) : Int) true))]] (e := [(pA b3, pA b3)]) (by kernel_rfl) ⟨rfl, trivial⟩ (fun w1 k1 h1 => ?_)
    have hv : p.n.en b k 0 = ((heat (elB p.bs b).1 (hL p.ts b ((0 : Nat) : Int) false)), (heat (elB p.bs b).2.1 (hL p.ts b ((0 : Nat) : Int) true))) := by
      unfold Sn.en Sn.lo Sn.hi
      refine Prod.ext ?_ ?_
      · rfl
      · rfl
    exact ⟨by rw [hv]; rfl, k1, h1 (bm, _) (List.mem_of_getElem? (i := 1) rfl)⟩
  | true =>
    refine drawW 16 [{ val := fun _ => pA b5, slots := [7] },
          { val := fun _ => iV (elB p.bs b).1, slots := [43], reads := [0] },
          { val := fun _ => .agg #[.slice p.ba p.bs.length p.bc, iV p.near, iV p.last, .slice p.ta p.ts.length p.tc, .map (some bm)], slots := [2], reads := [3] },
          { val := fun _ => .agg #[iV (b : Int), iV k, iV 0], slots := [3], reads := [2] },
          { val := fun _ => .iface 137 (.agg #[iV (elB p.bs b).1, iV (elB p.bs b).2.1, iV (elB p.bs b).2.2.1, iV (elB p.bs b).2.2.2.1, iV (elB p.bs b).2.2.2.2.1, iV (elB p.bs b).2.2.2.2.2, iV k]), slots := [5] },
          { val := fun _ => .slice none 0 0, slots := [45, 46, 47] },
          { val := fun _ => iV (elB p.bs b).1, slots := [44, 48] },
          { val := fun _ => .pointer (some ⟨b5, 1, none⟩), slots := [7] },
          { val := fun _ => iV (elB p.bs b).2.1, slots := [50], reads := [0] },
          { val := fun _ => .agg #[.slice p.ba p.bs.length p.bc, iV p.near, iV p.last, .slice p.ta p.ts.length p.tc, .map (some bm)], slots := [2], reads := [3] },
          { val := fun _ => .agg #[iV (b : Int), iV k, iV 0], slots := [3], reads := [2] },
          { val := fun _ => .iface 139 (.agg #[iV (elB p.bs b).1, iV (elB p.bs b).2.1, iV (elB p.bs b).2.2.1, iV (elB p.bs b).2.2.2.1, iV (elB p.bs b).2.2.2.2.1, iV (elB p.bs b).2.2.2.2.2, iV k]), slots := [6] },
          { val := fun _ => .slice none 0 0, slots := [52, 53, 54] },
          { val := fun _ => iV (elB p.bs b).2.1, slots := [51, 55] },
          { val := fun _ => .agg #[iV (elB p.bs b).1, iV (elB p.bs b).2.1], slots := [49, 56] },
          { upd := [(1, fun l => aO #[iV (elB p.bs b).1, iV (elB p.bs b).2.1] 70)], slots := [4, 57], reads := [1] }] [[], [0], [], [], [], [2, 3, 4], [0, 1, 2, 3, 4, 5], [], [7], [], [], [], [0, 1, 2, 3, 4, 5, 6, 9, 10, 11], [0, 1, 2, 3, 4, 5, 6, 7, 8, 9, 10, 11, 12], [0, 1, 2, 3, 4, 5, 6, 7, 8, 9, 10, 11, 12, 13], [0, 1, 2, 3, 4, 5, 6, 7, 8, 9, 10, 11, 12, 13, 14]] (by kernel_rfl) (by kernel_rfl) (by kernel_rfl) (by kernel_rfl) [4] [1, 4] (by kernel_rfl)
          ⟨⟨⟨⟨⟨⟨⟨⟨⟨⟨⟨⟨⟨⟨⟨⟨trivial,
          tri_quietW (fun β => []) [] [] (fun β => []) (by kernel_rfl) (fun β extra => by kernel_rfl) (by kernel_rfl) (fun β => trivial)⟩,
          tri_quietW (fun β => []) [0] [0] (fun β => [(pA b5, pA b5)]) (by kernel_rfl) (fun β extra => by kernel_rfl) (by kernel_rfl) (fun β => ⟨rfl, trivial⟩)⟩,
          tri_quietW (fun β => []) [0] [0] (fun β => [(pA b1, pA b1)]) (by kernel_rfl) (fun β extra => by kernel_rfl) (by kernel_rfl) (fun β => ⟨rfl, trivial⟩)⟩,
          tri_quietW (fun β => []) [0] [0] (fun β => [(pA b2, pA b2)]) (by kernel_rfl) (fun β extra => by kernel_rfl) (by kernel_rfl) (fun β => ⟨rfl, trivial⟩)⟩,
          tri_quietW (fun β => []) [] [] (fun β => []) (by kernel_rfl) (fun β extra => by kernel_rfl) (by kernel_rfl) (fun β => trivial)⟩,
          tri_callVW (fun β => .slice none 0 0) (fun β => by kernel_rfl) 104 (fun β => #[.agg #[.slice p.ba p.bs.length p.bc, iV p.near, iV p.last, .slice p.ta p.ts.length p.tc, .map (some bm)], .agg #[iV (b : Int), iV k, iV 0], .iface 137 (.agg #[iV (elB p.bs b).1, iV (elB p.bs b).2.1, iV (elB p.bs b).2.2.1, iV (elB p.bs b).2.2.2.1, iV (elB p.bs b).2.2.2.2.1, iV (elB p.bs b).2.2.2.2.2, iV k])]) (by kernel_rfl) (fun β extra => by kernel_rfl) (fun β => by kernel_rfl) (fun β w1 k1 h1 => ((heats_lo p bm b 0 k w1 (hin.at k1) hF.t6).mono fun _ _ h => h.nil hd1))⟩,
          tri_callVW (fun β => iV (elB p.bs b).1) (fun β => by kernel_rfl) 103 (fun β => #[iV (elB p.bs b).1, .slice none 0 0]) (by kernel_rfl) (fun β extra => by kernel_rfl) (fun β => by kernel_rfl) (fun β w1 k1 h1 => heated_nil (elB p.bs b).1 w1)⟩,
          tri_quietW (fun β => []) [] [] (fun β => []) (by kernel_rfl) (fun β extra => by kernel_rfl) (by kernel_rfl) (fun β => trivial)⟩,
          tri_quietW (fun β => []) [0] [0] (fun β => [(pA b5, pA b5)]) (by kernel_rfl) (fun β extra => by kernel_rfl) (by kernel_rfl) (fun β => ⟨rfl, trivial⟩)⟩,
          tri_quietW (fun β => []) [0] [0] (fun β => [(pA b1, pA b1)]) (by kernel_rfl) (fun β extra => by kernel_rfl) (by kernel_rfl) (fun β => ⟨rfl, trivial⟩)⟩,
          tri_quietW (fun β => []) [0] [0] (fun β => [(pA b2, pA b2)]) (by kernel_rfl) (fun β extra => by kernel_rfl) (by kernel_rfl) (fun β => ⟨rfl, trivial⟩)⟩,
          tri_quietW (fun β => []) [] [] (fun β => []) (by kernel_rfl) (fun β extra => by kernel_rfl) (by kernel_rfl) (fun β => trivial)⟩,
          tri_callVW (fun β => .slice none 0 0) (fun β => by kernel_rfl) 104 (fun β => #[.agg #[.slice p.ba p.bs.length p.bc, iV p.near, iV p.last, .slice p.ta p.ts.length p.tc, .map (some bm)], .agg #[iV (b : Int), iV k, iV 0], .iface 139 (.agg #[iV (elB p.bs b).1, iV (elB p.bs b).2.1, iV (elB p.bs b).2.2.1, iV (elB p.bs b).2.2.2.1, iV (elB p.bs b).2.2.2.2.1, iV (elB p.bs b).2.2.2.2.2, iV k])]) (by kernel_rfl) (fun β extra => by kernel_rfl) (fun β => by kernel_rfl) (fun β w1 k1 h1 => ((heats_hi p bm b 0 k w1 (hin.at k1) hF.t6).mono fun _ _ h => h.nil ((hL_emp _ _ _ _ _).trans hd1)))⟩,
          tri_callVW (fun β => iV (elB p.bs b).2.1) (fun β => by kernel_rfl) 103 (fun β => #[iV (elB p.bs b).2.1, .slice none 0 0]) (by kernel_rfl) (fun β extra => by kernel_rfl) (fun β => by kernel_rfl) (fun β w1 k1 h1 => heated_nil (elB p.bs b).2.1 w1)⟩,
          tri_quietW (fun β => []) [] [] (fun β => []) (by kernel_rfl) (fun β extra => by kernel_rfl) (by kernel_rfl) (fun β => trivial)⟩,
          tri_quietW (fun β => []) [0] [0] (fun β => [(pA b3, pA b3)]) (by kernel_rfl) (fun β extra => by kernel_rfl) (by kernel_rfl) (fun β => ⟨rfl, trivial⟩)⟩
          (fun β => ⟨[(4, pA b3)], [(b3, aO #[iV (elB p.bs b).1, iV (elB p.bs b).2.1] 70), (bm, memO kvM (vvM p.n) L)]⟩) (fun β => by kernel_rfl) (fun β6 => ?_)
    refine run_end (fn := f100) rfl (Nat.le_refl _) (by kernel_rfl) [0] [.agg #[iV (elB p.bs b).1, iV (elB p.bs b).2.1]] (e := [(pA b3, pA b3)]) (by kernel_rfl) ⟨rfl, trivial⟩ (fun w1 k1 h1 => ?_)
    have hv : p.n.en b k 0 = ((elB p.bs b).1, (elB p.bs b).2.1) := by
      have e1 : hL p.ts (b : Int) ((0 : Nat) : Int) false = [] := List.isEmpty_iff.1 hd1
      have e2 : hL p.ts (b : Int) ((0 : Nat) : Int) true = [] := List.isEmpty_iff.1 ((hL_emp _ _ _ _ _).trans hd1)
      unfold Sn.en Sn.lo Sn.hi
      refine Prod.ext ?_ ?_
      · show heat _ (hL p.ts (b : Int) ((0 : Nat) : Int) false) = _
        rw [e1]
        rfl
      · show heat _ (hL p.ts (b : Int) ((0 : Nat) : Int) true) = _
        rw [e2]
        rfl
    exact ⟨by rw [hv]; rfl, k1, h1 (bm, _) (List.mem_of_getElem? (i := 1) rfl)⟩

set_option maxRecDepth 100000 in
theorem workOutS (p : Sb) (bm b : Nat) (k : Int) (m0 : Nat) (L : List Mo) (w : World) (hin : p.InD (fun x => x = bm) w) (hF : p.n.Fine) (hb : b < p.bs.length) (ka : 1 ≤ k) (kb : k ≤ 8) (hmap : w.heap[bm]? = some (memO kvM (vvM p.n) L)) (hm : m0 ≤ 200) (he : ∀ (w : World) (L : List Mo), w.heap[bm]? = some (memO kvM (vvM p.n) L) → p.InD (fun x => x = bm) w → Calls Try.prog 94 #[.agg #[.slice p.ba p.bs.length p.bc, .int .i64 p.near, .int .i64 p.last, .slice p.ta p.ts.length p.tc, .map (some bm)], .agg #[.int .i64 (b : Int), .int .i64 k, .int .i64 (m0 : Int)]] w (Wr bm (.agg #[.int .i64 (p.n.en b k m0).1, .int .i64 (p.n.en b k m0).2]) (memO kvM (vvM p.n) (insM L b k m0)) w)) : Calls Try.prog 100 #[.agg #[.slice p.ba p.bs.length p.bc, .int .i64 p.near, .int .i64 p.last, .slice p.ta p.ts.length p.tc, .map (some bm)], .agg #[.int .i64 (b : Int), .int .i64 k, .int .i64 ((m0 + 1 : Nat) : Int)]] w (Wr bm (.agg #[.int .i64 ((p.n.en b k (m0 + 1)).1), .int .i64 ((p.n.en b k (m0 + 1)).2)]) (memO kvM (vvM p.n) (insM L b k m0)) w) := by
  have hpin := hin.at (Kept.refl _ w)
  obtain ⟨bq, oq, hbq, hcq⟩ := hpin.bk (by intro h; rw [h] at hb; cases hb)
  have hcq := hcq b hb
  have hbD : ¬ bq = bm := hin.bk.2 (by intro h; rw [h] at hb; cases hb) bq oq hbq
  have hbx : -100 ≤ (elB p.bs b).1 ∧ (elB p.bs b).1 ≤ (elB p.bs b).2.1 ∧ (elB p.bs b).2.1 ≤ 100 := (hF.bkF hb).x
  have hlb := hin.lb
  simp only [maxLen] at hlb
  have hbe := en_bd hF hb ka hm
  have hfl1 := fall_bd (x := (p.n.en b k m0).1) 200000 ka hbe.1
  have hfl2 := fall_bd (x := (p.n.en b k m0).2) 200000 ka hbe.2
  refine calls_run (fn := f100) (c := (f100.body).getD .skip) [.agg #[.slice p.ba p.bs.length p.bc, .int .i64 p.near, .int .i64 p.last, .slice p.ta p.ts.length p.tc, .map (some bm)], .agg #[.int .i64 (b : Int), .int .i64 k, .int .i64 ((m0 + 1 : Nat) : Int)]] func100 (by kernel_rfl) (fun x => x = bm) [(bm, memO kvM (vvM p.n) L)] (fun q hq => by rcases List.mem_singleton.1 hq with rfl; exact ⟨hmap, rfl, rfl⟩) (List.pairwise_singleton _ _) 58 (by kernel_rfl) (by simp) ?_
  refine run_auto [] 2 [] [] [0, 1] [0] (st' := ⟨[(0, .agg #[.slice p.ba p.bs.length p.bc, iV p.near, iV p.last, .slice p.ta p.ts.length p.tc, .map (some bm)]), (1, .agg #[iV (b : Int), iV k, iV ((m0 + 1 : Nat) : Int)])], [(bm, memO kvM (vvM p.n) L)]⟩) (acc := []) (by kernel_rfl) (by kernel_rfl) trivial ?_
  refine run_new (aO #[.slice p.ba p.bs.length p.bc, iV p.near, iV p.last, .slice p.ta p.ts.length p.tc, .map (some bm)] 73) (fun b1 => pA b1) (some 2) (fun _ => by kernel_rfl) (fun b1 hb1 => ?_)
  refine run_new (aO #[iV (b : Int), iV k, iV ((m0 + 1 : Nat) : Int)] 122) (fun b2 => pA b2) (some 3) (fun _ => by kernel_rfl) (fun b2 hb2 => ?_)
  refine run_new (aO #[iV 0, iV 0] 70) (fun b3 => pA b3) (some 4) (fun _ => by kernel_rfl) (fun b3 hb3 => ?_)
  refine run_auto [] 2 [] [] [2, 3, 4] [0, 1, 2, 3] (st' := ⟨[(2, pA b1), (3, pA b2), (4, pA b3)], [(b3, aO #[iV 0, iV 0] 70), (b2, aO #[iV (b : Int), iV k, iV ((m0 + 1 : Nat) : Int)] 122), (b1, aO #[.slice p.ba p.bs.length p.bc, iV p.near, iV p.last, .slice p.ta p.ts.length p.tc, .map (some bm)] 73), (bm, memO kvM (vvM p.n) L)]⟩) (acc := []) (by kernel_rfl) (by kernel_rfl) trivial ?_
  refine drawW 15 [{ val := fun _ => pA b1, slots := [2] },
      { val := fun _ => pA b1, slots := [10] },
      { val := fun _ => .slice p.ba p.bs.length p.bc, slots := [11], reads := [2] },
      { val := fun _ => pA b2, slots := [3] },
      { val := fun _ => iV (b : Int), slots := [13], reads := [1] },
      { val := fun _ => .pointer (some ⟨bq, oq + b * 6, none⟩), slots := [12, 14] },
      { val := fun _ => .agg #[iV (elB p.bs b).1, iV (elB p.bs b).2.1, iV (elB p.bs b).2.2.1, iV (elB p.bs b).2.2.2.1, iV (elB p.bs b).2.2.2.2.1, iV (elB p.bs b).2.2.2.2.2], slots := [15] },
      { val := fun _ => .pointer (some ⟨b2, 1, none⟩), slots := [3] },
      { val := fun _ => iV k, slots := [17], reads := [1] },
      { val := fun _ => .tuple #[.iface 137 (.agg #[iV (elB p.bs b).1, iV (elB p.bs b).2.1, iV (elB p.bs b).2.2.1, iV (elB p.bs b).2.2.2.1, iV (elB p.bs b).2.2.2.2.1, iV (elB p.bs b).2.2.2.2.2, iV k]), .iface 139 (.agg #[iV (elB p.bs b).1, iV (elB p.bs b).2.1, iV (elB p.bs b).2.2.1, iV (elB p.bs b).2.2.2.1, iV (elB p.bs b).2.2.2.2.1, iV (elB p.bs b).2.2.2.2.2, iV k])], slots := [16, 18] },
      { val := fun _ => .tuple #[.iface 137 (.agg #[iV (elB p.bs b).1, iV (elB p.bs b).2.1, iV (elB p.bs b).2.2.1, iV (elB p.bs b).2.2.2.1, iV (elB p.bs b).2.2.2.2.1, iV (elB p.bs b).2.2.2.2.2, iV k]), .iface 139 (.agg #[iV (elB p.bs b).1, iV (elB p.bs b).2.1, iV (elB p.bs b).2.2.1, iV (elB p.bs b).2.2.2.1, iV (elB p.bs b).2.2.2.2.1, iV (elB p.bs b).2.2.2.2.2, iV k])], slots := [19] },
      { val := fun _ => .iface 137 (.agg #[iV (elB p.bs b).1, iV (elB p.bs b).2.1, iV (elB p.bs b).2.2.1, iV (elB p.bs b).2.2.2.1, iV (elB p.bs b).2.2.2.2.1, iV (elB p.bs b).2.2.2.2.2, iV k]), slots := [9] },
      { val := fun _ => .iface 139 (.agg #[iV (elB p.bs b).1, iV (elB p.bs b).2.1, iV (elB p.bs b).2.2.1, iV (elB p.bs b).2.2.2.1, iV (elB p.bs b).2.2.2.2.1, iV (elB p.bs b).2.2.2.2.2, iV k]), slots := [9] },
      { val := fun _ => .iface 137 (.agg #[iV (elB p.bs b).1, iV (elB p.bs b).2.1, iV (elB p.bs b).2.2.1, iV (elB p.bs b).2.2.2.1, iV (elB p.bs b).2.2.2.2.1, iV (elB p.bs b).2.2.2.2.2, iV k]), slots := [20] },
      { val := fun _ => .iface 139 (.agg #[iV (elB p.bs b).1, iV (elB p.bs b).2.1, iV (elB p.bs b).2.2.1, iV (elB p.bs b).2.2.2.1, iV (elB p.bs b).2.2.2.2.1, iV (elB p.bs b).2.2.2.2.2, iV k]), slots := [21] }] [[], [0], [0, 1], [], [3], [0, 1, 2, 3, 4], [0, 1, 2, 3, 4, 5], [], [7], [0, 1, 2, 3, 4, 5, 6, 7, 8], [0, 1, 2, 3, 4, 5, 6, 7, 8, 9], [0, 1, 2, 3, 4, 5, 6, 7, 8, 9, 10], [0, 1, 2, 3, 4, 5, 6, 7, 8, 9, 10], [0, 1, 2, 3, 4, 5, 6, 7, 8, 9, 10, 11], [0, 1, 2, 3, 4, 5, 6, 7, 8, 9, 10, 11, 12, 13]] (by kernel_rfl) (by kernel_rfl) (by kernel_rfl) (by kernel_rfl) [2, 3, 4, 5, 6] [0, 1, 2, 3] (by kernel_rfl)
      ⟨⟨⟨⟨⟨⟨⟨⟨⟨⟨⟨⟨⟨⟨⟨trivial,
      tri_quietW (fun β => []) [] [] (fun β => []) (by kernel_rfl) (fun β extra => by kernel_rfl) (by kernel_rfl) (fun β => trivial)⟩,
      tri_quietW (fun β => []) [] [] (fun β => []) (by kernel_rfl) (fun β extra => by kernel_rfl) (by kernel_rfl) (fun β => trivial)⟩,
      tri_quietW (fun β => []) [0] [0] (fun β => [(pA b1, pA b1)]) (by kernel_rfl) (fun β extra => by kernel_rfl) (by kernel_rfl) (fun β => ⟨rfl, trivial⟩)⟩,
      tri_quietW (fun β => []) [] [] (fun β => []) (by kernel_rfl) (fun β extra => by kernel_rfl) (by kernel_rfl) (fun β => trivial)⟩,
      tri_quietW (fun β => []) [0] [0] (fun β => [(pA b2, pA b2)]) (by kernel_rfl) (fun β extra => by kernel_rfl) (by kernel_rfl) (fun β => ⟨rfl, trivial⟩)⟩,
      tri_vVW (fun β => .pointer (some ⟨bq, oq + b * 6, none⟩)) (fun β => by kernel_rfl) (fun β => (Instr.indexAt 30 (.slice p.ba p.bs.length p.bc) (iV (b : Int)) >>= fun v => pure (Next.value v))) (by kernel_rfl) (fun β extra => by kernel_rfl) (fun β => by kernel_rfl) (fun β w1 k1 h1 => (by rw [hbq]; exact idx_off (e := 54) (n := 6) (by kernel_rfl) (by kernel_rfl) bq oq p.bs.length p.bc .i64 b hb (oq + b * 6) (by omega) w1))⟩,
      tri_vVW (fun β => .agg #[iV (elB p.bs b).1, iV (elB p.bs b).2.1, iV (elB p.bs b).2.2.1, iV (elB p.bs b).2.2.2.1, iV (elB p.bs b).2.2.2.2.1, iV (elB p.bs b).2.2.2.2.2]) (fun β => by kernel_rfl) (fun β => (Instr.loadAt 54 (.pointer (some ⟨bq, oq + b * 6, none⟩)) >>= fun v => pure (Next.value v))) (by kernel_rfl) (fun β extra => by kernel_rfl) (fun β => by kernel_rfl) (fun β w1 k1 h1 => load_in (off := 0) k1 hbD [iV (elB p.bs b).1, iV (elB p.bs b).2.1, iV (elB p.bs b).2.2.1, iV (elB p.bs b).2.2.2.1, iV (elB p.bs b).2.2.2.2.1, iV (elB p.bs b).2.2.2.2.2] (c6 hcq.1 hcq.2.1 hcq.2.2.1 hcq.2.2.2.1 hcq.2.2.2.2.1 hcq.2.2.2.2.2) (by kernel_rfl))⟩,
      tri_quietW (fun β => []) [] [] (fun β => []) (by kernel_rfl) (fun β extra => by kernel_rfl) (by kernel_rfl) (fun β => trivial)⟩,
      tri_quietW (fun β => []) [0] [0] (fun β => [(pA b2, pA b2)]) (by kernel_rfl) (fun β extra => by kernel_rfl) (by kernel_rfl) (fun β => ⟨rfl, trivial⟩)⟩,
      tri_callVW (fun β => .tuple #[.iface 137 (.agg #[iV (elB p.bs b).1, iV (elB p.bs b).2.1, iV (elB p.bs b).2.2.1, iV (elB p.bs b).2.2.2.1, iV (elB p.bs b).2.2.2.2.1, iV (elB p.bs b).2.2.2.2.2, iV k]), .iface 139 (.agg #[iV (elB p.bs b).1, iV (elB p.bs b).2.1, iV (elB p.bs b).2.2.1, iV (elB p.bs b).2.2.2.1, iV (elB p.bs b).2.2.2.2.1, iV (elB p.bs b).2.2.2.2.2, iV k])]) (fun β => by kernel_rfl) 101 (fun β => #[.agg #[iV (elB p.bs b).1, iV (elB p.bs b).2.1, iV (elB p.bs b).2.2.1, iV (elB p.bs b).2.2.2.1, iV (elB p.bs b).2.2.2.2.1, iV (elB p.bs b).2.2.2.2.2], iV k]) (by kernel_rfl) (fun β extra => by kernel_rfl) (fun β => by kernel_rfl) (fun β w1 k1 h1 => endsOf_any (elB p.bs b) k w1)⟩,
      tri_quietW (fun β => []) [] [] (fun β => []) (by kernel_rfl) (fun β extra => by kernel_rfl) (by kernel_rfl) (fun β => trivial)⟩,
      tri_quietW (fun β => []) [] [] (fun β => []) (by kernel_rfl) (fun β extra => by kernel_rfl) (by kernel_rfl) (fun β => trivial)⟩,
      tri_quietW (fun β => []) [] [] (fun β => []) (by kernel_rfl) (fun β extra => by kernel_rfl) (by kernel_rfl) (fun β => trivial)⟩,
      tri_quietW (fun β => []) [] [] (fun β => []) (by kernel_rfl) (fun β extra => by kernel_rfl) (by kernel_rfl) (fun β => trivial)⟩,
      tri_quietW (fun β => []) [] [] (fun β => []) (by kernel_rfl) (fun β extra => by kernel_rfl) (by kernel_rfl) (fun β => trivial)⟩
      (fun β => ⟨[(2, pA b1), (3, pA b2), (4, pA b3), (5, .iface 137 (.agg #[iV (elB p.bs b).1, iV (elB p.bs b).2.1, iV (elB p.bs b).2.2.1, iV (elB p.bs b).2.2.2.1, iV (elB p.bs b).2.2.2.2.1, iV (elB p.bs b).2.2.2.2.2, iV k])), (6, .iface 139 (.agg #[iV (elB p.bs b).1, iV (elB p.bs b).2.1, iV (elB p.bs b).2.2.1, iV (elB p.bs b).2.2.2.1, iV (elB p.bs b).2.2.2.2.1, iV (elB p.bs b).2.2.2.2.2, iV k]))], [(b3, aO #[iV 0, iV 0] 70), (b2, aO #[iV (b : Int), iV k, iV ((m0 + 1 : Nat) : Int)] 122), (b1, aO #[.slice p.ba p.bs.length p.bc, iV p.near, iV p.last, .slice p.ta p.ts.length p.tc, .map (some bm)] 73), (bm, memO kvM (vvM p.n) L)]⟩) (fun β => by kernel_rfl) (fun β4 => ?_)
  refine run_auto [] 3 [] [] [2, 3, 4, 5, 6, 22] [0, 1, 2, 3] (st' := ⟨[(2, pA b1), (3, pA b2), (4, pA b3), (5, .iface 137 (.agg #[iV (elB p.bs b).1, iV (elB p.bs b).2.1, iV (elB p.bs b).2.2.1, iV (elB p.bs b).2.2.2.1, iV (elB p.bs b).2.2.2.2.1, iV (elB p.bs b).2.2.2.2.2, iV k])), (6, .iface 139 (.agg #[iV (elB p.bs b).1, iV (elB p.bs b).2.1, iV (elB p.bs b).2.2.1, iV (elB p.bs b).2.2.2.1, iV (elB p.bs b).2.2.2.2.1, iV (elB p.bs b).2.2.2.2.2, iV k])), (22, .iface 137 (.agg #[iV (elB p.bs b).1, iV (elB p.bs b).2.1, iV (elB p.bs b).2.2.1, iV (elB p.bs b).2.2.2.1, iV (elB p.bs b).2.2.2.2.1, iV (elB p.bs b).2.2.2.2.2, iV k]))], [(b3, aO #[iV 0, iV 0] 70), (b2, aO #[iV (b : Int), iV k, iV ((m0 + 1 : Nat) : Int)] 122), (b1, aO #[.slice p.ba p.bs.length p.bc, iV p.near, iV p.last, .slice p.ta p.ts.length p.tc, .map (some bm)] 73), (bm, memO kvM (vvM p.n) L)]⟩) (acc := []) (by kernel_rfl) (by kernel_rfl) trivial ?_
  refine run_ret1 122 #[.agg #[iV (elB p.bs b).1, iV (elB p.bs b).2.1, iV (elB p.bs b).2.2.1, iV (elB p.bs b).2.2.2.1, iV (elB p.bs b).2.2.2.2.1, iV (elB p.bs b).2.2.2.2.2, iV k]] (some 23) (iV (elB p.bs b).1) (by kernel_rfl) (fun w1 k1 h1 => start_c (elB p.bs b) k w1) ?_
  refine run_auto [] 1 [] [] [2, 3, 4, 5, 6, 23, 24] [0, 1, 2, 3] (st' := ⟨[(2, pA b1), (3, pA b2), (4, pA b3), (5, .iface 137 (.agg #[iV (elB p.bs b).1, iV (elB p.bs b).2.1, iV (elB p.bs b).2.2.1, iV (elB p.bs b).2.2.2.1, iV (elB p.bs b).2.2.2.2.1, iV (elB p.bs b).2.2.2.2.2, iV k])), (6, .iface 139 (.agg #[iV (elB p.bs b).1, iV (elB p.bs b).2.1, iV (elB p.bs b).2.2.1, iV (elB p.bs b).2.2.2.1, iV (elB p.bs b).2.2.2.2.1, iV (elB p.bs b).2.2.2.2.2, iV k])), (23, iV (elB p.bs b).1), (24, .iface 139 (.agg #[iV (elB p.bs b).1, iV (elB p.bs b).2.1, iV (elB p.bs b).2.2.1, iV (elB p.bs b).2.2.2.1, iV (elB p.bs b).2.2.2.2.1, iV (elB p.bs b).2.2.2.2.2, iV k]))], [(b3, aO #[iV 0, iV 0] 70), (b2, aO #[iV (b : Int), iV k, iV ((m0 + 1 : Nat) : Int)] 122), (b1, aO #[.slice p.ba p.bs.length p.bc, iV p.near, iV p.last, .slice p.ta p.ts.length p.tc, .map (some bm)] 73), (bm, memO kvM (vvM p.n) L)]⟩) (acc := []) (by kernel_rfl) (by kernel_rfl) trivial ?_
  refine run_ret1 126 #[.agg #[iV (elB p.bs b).1, iV (elB p.bs b).2.1, iV (elB p.bs b).2.2.1, iV (elB p.bs b).2.2.2.1, iV (elB p.bs b).2.2.2.2.1, iV (elB p.bs b).2.2.2.2.2, iV k]] (some 25) (iV (elB p.bs b).2.1) (by kernel_rfl) (fun w1 k1 h1 => start_w (elB p.bs b) k w1) ?_
  refine run_auto [] 1 [] [] [2, 3, 4, 5, 6, 26] [0, 1, 2, 3] (st' := ⟨[(2, pA b1), (3, pA b2), (4, pA b3), (5, .iface 137 (.agg #[iV (elB p.bs b).1, iV (elB p.bs b).2.1, iV (elB p.bs b).2.2.1, iV (elB p.bs b).2.2.2.1, iV (elB p.bs b).2.2.2.2.1, iV (elB p.bs b).2.2.2.2.2, iV k])), (6, .iface 139 (.agg #[iV (elB p.bs b).1, iV (elB p.bs b).2.1, iV (elB p.bs b).2.2.1, iV (elB p.bs b).2.2.2.1, iV (elB p.bs b).2.2.2.2.1, iV (elB p.bs b).2.2.2.2.2, iV k])), (26, .agg #[iV (elB p.bs b).1, iV (elB p.bs b).2.1])], [(b3, aO #[iV 0, iV 0] 70), (b2, aO #[iV (b : Int), iV k, iV ((m0 + 1 : Nat) : Int)] 122), (b1, aO #[.slice p.ba p.bs.length p.bc, iV p.near, iV p.last, .slice p.ta p.ts.length p.tc, .map (some bm)] 73), (bm, memO kvM (vvM p.n) L)]⟩) (acc := []) (by kernel_rfl) (by kernel_rfl) trivial ?_
  refine run_new (aO #[iV 0, iV 0] 70) (fun b5 => pA b5) (some 7) (fun _ => by kernel_rfl) (fun b5 hb5 => ?_)
  cases hd1 : (decide (0 < ((m0 + 1 : Nat) : Int))) with
  | false =>
    have hp1 := of_decide_eq_false hd1
    exfalso
    omega
  | true =>
    have hp1 := of_decide_eq_true hd1
    refine run_auto [(29, .bool true)] 11 [true] [0, 2] [2, 3, 4, 5, 6, 7] [0, 1, 2, 3, 4] (st' := ⟨[(2, pA b1), (3, pA b2), (4, pA b3), (5, .iface 137 (.agg #[iV (elB p.bs b).1, iV (elB p.bs b).2.1, iV (elB p.bs b).2.2.1, iV (elB p.bs b).2.2.2.1, iV (elB p.bs b).2.2.2.2.1, iV (elB p.bs b).2.2.2.2.2, iV k])), (6, .iface 139 (.agg #[iV (elB p.bs b).1, iV (elB p.bs b).2.1, iV (elB p.bs b).2.2.1, iV (elB p.bs b).2.2.2.1, iV (elB p.bs b).2.2.2.2.1, iV (elB p.bs b).2.2.2.2.2, iV k])), (7, pA b5)], [(b5, aO #[iV (elB p.bs b).1, iV (elB p.bs b).2.1] 70), (b3, aO #[iV 0, iV 0] 70), (b2, aO #[iV (b : Int), iV k, iV ((m0 + 1 : Nat) : Int)] 122), (b1, aO #[.slice p.ba p.bs.length p.bc, iV p.near, iV p.last, .slice p.ta p.ts.length p.tc, .map (some bm)] 73), (bm, memO kvM (vvM p.n) L)]⟩) (acc := [(.bool true, .bool true), (.bool (decide (0 < ((m0 + 1 : Nat) : Int))), .bool true), (pA b2, pA b2), (pA b5, pA b5)]) (by kernel_rfl) (by kernel_rfl) ⟨rfl, (bo hd1), rfl, rfl, trivial⟩ ?_
    refine drawW 6 [{ val := fun _ => .agg #[.slice p.ba p.bs.length p.bc, iV p.near, iV p.last, .slice p.ta p.ts.length p.tc, .map (some bm)], slots := [2], reads := [3] },
          { val := fun _ => .agg #[iV (b : Int), iV k, iV ((m0 + 1 : Nat) : Int)], slots := [3], reads := [2] },
          { val := fun _ => .agg #[iV (b : Int), iV k, iV (m0 : Int)], slots := [31] },
          { val := fun _ => .agg #[iV (p.n.en b k m0).1, iV (p.n.en b k m0).2], upd := [(4, fun l => memO kvM (vvM p.n) (insM L b k m0))], slots := [30, 32], reads := [4] },
          { names := [9], val := fun l => .pointer (some ⟨(l.getD 0 0), 0, none⟩), upd := [(9, fun l => aO #[iV 0, iV 0] 70)], news := [9] },
          { upd := [(9, fun l => aO #[iV (p.n.en b k m0).1, iV (p.n.en b k m0).2] 70)], slots := [8, 33], reads := [9] }] [[], [], [1], [0, 1, 2], [], [0, 1, 2, 3, 4]] (by kernel_rfl) (by kernel_rfl) (by kernel_rfl) (by kernel_rfl) [2, 3, 4, 5, 6, 7, 8] [0, 1, 2, 3, 4, 9] (by kernel_rfl)
          ⟨⟨⟨⟨⟨⟨trivial,
          tri_quietW (fun β => []) [0] [0] (fun β => [(pA b1, pA b1)]) (by kernel_rfl) (fun β extra => by kernel_rfl) (by kernel_rfl) (fun β => ⟨rfl, trivial⟩)⟩,
          tri_quietW (fun β => []) [0] [0] (fun β => [(pA b2, pA b2)]) (by kernel_rfl) (fun β extra => by kernel_rfl) (by kernel_rfl) (fun β => ⟨rfl, trivial⟩)⟩,
          tri_callVW (fun β => .agg #[iV (b : Int), iV k, iV (m0 : Int)]) (fun β => by kernel_rfl) 102 (fun β => #[.agg #[iV (b : Int), iV k, iV ((m0 + 1 : Nat) : Int)]]) (by kernel_rfl) (fun β extra => by kernel_rfl) (fun β => by kernel_rfl) (fun β w1 k1 h1 => before_any (b : Int) k m0 (by omega) w1)⟩,
          tri_wrW (fun β => bm) (fun β => memO kvM (vvM p.n) L) (fun β => memO kvM (vvM p.n) (insM L b k m0)) (fun β => []) (fun β => .agg #[iV (p.n.en b k m0).1, iV (p.n.en b k m0).2]) 94 (fun β => #[.agg #[.slice p.ba p.bs.length p.bc, iV p.near, iV p.last, .slice p.ta p.ts.length p.tc, .map (some bm)], .agg #[iV (b : Int), iV k, iV (m0 : Int)]]) (by kernel_rfl) (fun β extra => by kernel_rfl) (fun β => by kernel_rfl) (fun β => by kernel_rfl) (fun β => by kernel_rfl) (fun β => by kernel_rfl) (fun β w1 k1 h1 => he w1 L (h1 (bm, memO kvM (vvM p.n) L) (List.mem_of_getElem? (i := 0) (by kernel_rfl))) (((hin.at k1)).map (h1 (bm, memO kvM (vvM p.n) L) (List.mem_of_getElem? (i := 0) (by kernel_rfl)))))⟩,
          tri_newW 9 (fun β => aO #[iV 0, iV 0] 70) (fun β b => pA b) [0] (by kernel_rfl) (fun β extra b => by kernel_rfl) (by kernel_rfl) (fun β b => by kernel_rfl) (fun β b => by kernel_rfl) (fun β b => by kernel_rfl)⟩,
          tri_quietW (fun β => []) [0] [0] (fun β => [(.pointer (some ⟨(β 9), 0, none⟩), .pointer (some ⟨(β 9), 0, none⟩))]) (by kernel_rfl) (fun β extra => by kernel_rfl) (by kernel_rfl) (fun β => ⟨rfl, trivial⟩)⟩
          (fun β => ⟨[(2, pA b1), (3, pA b2), (4, pA b3), (5, .iface 137 (.agg #[iV (elB p.bs b).1, iV (elB p.bs b).2.1, iV (elB p.bs b).2.2.1, iV (elB p.bs b).2.2.2.1, iV (elB p.bs b).2.2.2.2.1, iV (elB p.bs b).2.2.2.2.2, iV k])), (6, .iface 139 (.agg #[iV (elB p.bs b).1, iV (elB p.bs b).2.1, iV (elB p.bs b).2.2.1, iV (elB p.bs b).2.2.2.1, iV (elB p.bs b).2.2.2.2.1, iV (elB p.bs b).2.2.2.2.2, iV k])), (7, pA b5), (8, .pointer (some ⟨(β 9), 0, none⟩))], [(b5, aO #[iV (elB p.bs b).1, iV (elB p.bs b).2.1] 70), (b3, aO #[iV 0, iV 0] 70), (b2, aO #[iV (b : Int), iV k, iV ((m0 + 1 : Nat) : Int)] 122), (b1, aO #[.slice p.ba p.bs.length p.bc, iV p.near, iV p.last, .slice p.ta p.ts.length p.tc, .map (some bm)] 73), (bm, memO kvM (vvM p.n) (insM L b k m0)), ((β 9), aO #[iV (p.n.en b k m0).1, iV (p.n.en b k m0).2] 70)]⟩) (fun β => by kernel_rfl) (fun β6 => ?_)
    refine drawW 10 [{ val := fun _ => .iface 137 (.agg #[iV (elB p.bs b).1, iV (elB p.bs b).2.1, iV (elB p.bs b).2.2.1, iV (elB p.bs b).2.2.2.1, iV (elB p.bs b).2.2.2.2.1, iV (elB p.bs b).2.2.2.2.2, iV k]), slots := [5] },
          { val := fun _ => .pointer (some ⟨(β6 9), 0, none⟩), slots := [8] },
          { val := fun _ => iV (p.n.en b k m0).1, slots := [35], reads := [5] },
          { val := fun _ => iV (fall (p.n.en b k m0).1 k), slots := [34, 36] },
          { val := fun _ => .iface 139 (.agg #[iV (elB p.bs b).1, iV (elB p.bs b).2.1, iV (elB p.bs b).2.2.1, iV (elB p.bs b).2.2.2.1, iV (elB p.bs b).2.2.2.2.1, iV (elB p.bs b).2.2.2.2.2, iV k]), slots := [6] },
          { val := fun _ => .pointer (some ⟨(β6 9), 1, none⟩), slots := [8] },
          { val := fun _ => iV (p.n.en b k m0).2, slots := [39], reads := [5] },
          { val := fun _ => iV (fall (p.n.en b k m0).2 k), slots := [38, 40] },
          { val := fun _ => .agg #[iV (fall (p.n.en b k m0).1 k), iV (fall (p.n.en b k m0).2 k)], slots := [37, 41] },
          { upd := [(0, fun l => aO #[iV (fall (p.n.en b k m0).1 k), iV (fall (p.n.en b k m0).2 k)] 70)], slots := [7, 42], reads := [0] }] [[], [], [1], [0, 1, 2], [], [], [5], [0, 1, 2, 3, 4, 5, 6], [0, 1, 2, 3, 4, 5, 6, 7], [0, 1, 2, 3, 4, 5, 6, 7, 8]] (by kernel_rfl) (by kernel_rfl) (by kernel_rfl) (by kernel_rfl) [2, 3, 4, 5, 6, 7] [0, 1, 2, 3, 4] (by kernel_rfl)
          ⟨⟨⟨⟨⟨⟨⟨⟨⟨⟨trivial,
          tri_quietW (fun β => []) [] [] (fun β => []) (by kernel_rfl) (fun β extra => by kernel_rfl) (by kernel_rfl) (fun β => trivial)⟩,
          tri_quietW (fun β => []) [] [] (fun β => []) (by kernel_rfl) (fun β extra => by kernel_rfl) (by kernel_rfl) (fun β => trivial)⟩,
          tri_quietW (fun β => []) [0] [0] (fun β => [(.pointer (some ⟨(β6 9), 0, none⟩), .pointer (some ⟨(β6 9), 0, none⟩))]) (by kernel_rfl) (fun β extra => by kernel_rfl) (by kernel_rfl) (fun β => ⟨rfl, trivial⟩)⟩,
          tri_callVW (fun β => iV (fall (p.n.en b k m0).1 k)) (fun β => by kernel_rfl) 121 (fun β => #[.agg #[iV (elB p.bs b).1, iV (elB p.bs b).2.1, iV (elB p.bs b).2.2.1, iV (elB p.bs b).2.2.2.1, iV (elB p.bs b).2.2.2.2.1, iV (elB p.bs b).2.2.2.2.2, iV k], iV (p.n.en b k m0).1]) (by kernel_rfl) (fun β extra => by kernel_rfl) (fun β => by kernel_rfl) (fun β w1 k1 h1 => next_any (elB p.bs b) k (p.n.en b k m0).1 (by omega) (by omega) (by omega) (by omega) w1)⟩,
          tri_quietW (fun β => []) [] [] (fun β => []) (by kernel_rfl) (fun β extra => by kernel_rfl) (by kernel_rfl) (fun β => trivial)⟩,
          tri_quietW (fun β => []) [] [] (fun β => []) (by kernel_rfl) (fun β extra => by kernel_rfl) (by kernel_rfl) (fun β => trivial)⟩,
          tri_quietW (fun β => []) [0] [0] (fun β => [(.pointer (some ⟨(β6 9), 0, none⟩), .pointer (some ⟨(β6 9), 0, none⟩))]) (by kernel_rfl) (fun β extra => by kernel_rfl) (by kernel_rfl) (fun β => ⟨rfl, trivial⟩)⟩,
          tri_callVW (fun β => iV (fall (p.n.en b k m0).2 k)) (fun β => by kernel_rfl) 121 (fun β => #[.agg #[iV (elB p.bs b).1, iV (elB p.bs b).2.1, iV (elB p.bs b).2.2.1, iV (elB p.bs b).2.2.2.1, iV (elB p.bs b).2.2.2.2.1, iV (elB p.bs b).2.2.2.2.2, iV k], iV (p.n.en b k m0).2]) (by kernel_rfl) (fun β extra => by kernel_rfl) (fun β => by kernel_rfl) (fun β w1 k1 h1 => next_any (elB p.bs b) k (p.n.en b k m0).2 (by omega) (by omega) (by omega) (by omega) w1)⟩,
          tri_quietW (fun β => []) [] [] (fun β => []) (by kernel_rfl) (fun β extra => by kernel_rfl) (by kernel_rfl) (fun β => trivial)⟩,
          tri_quietW (fun β => []) [0] [0] (fun β => [(pA b5, pA b5)]) (by kernel_rfl) (fun β extra => by kernel_rfl) (by kernel_rfl) (fun β => ⟨rfl, trivial⟩)⟩
          (fun β => ⟨[(2, pA b1), (3, pA b2), (4, pA b3), (5, .iface 137 (.agg #[iV (elB p.bs b).1, iV (elB p.bs b).2.1, iV (elB p.bs b).2.2.1, iV (elB p.bs b).2.2.2.1, iV (elB p.bs b).2.2.2.2.1, iV (elB p.bs b).2.2.2.2.2, iV k])), (6, .iface 139 (.agg #[iV (elB p.bs b).1, iV (elB p.bs b).2.1, iV (elB p.bs b).2.2.1, iV (elB p.bs b).2.2.2.1, iV (elB p.bs b).2.2.2.2.1, iV (elB p.bs b).2.2.2.2.2, iV k])), (7, pA b5)], [(b5, aO #[iV (fall (p.n.en b k m0).1 k), iV (fall (p.n.en b k m0).2 k)] 70), (b3, aO #[iV 0, iV 0] 70), (b2, aO #[iV (b : Int), iV k, iV ((m0 + 1 : Nat) : Int)] 122), (b1, aO #[.slice p.ba p.bs.length p.bc, iV p.near, iV p.last, .slice p.ta p.ts.length p.tc, .map (some bm)] 73), (bm, memO kvM (vvM p.n) (insM L b k m0))]⟩) (fun β => by kernel_rfl) (fun β7 => ?_)
    refine run_auto [] 1 [] [] [2, 3, 4, 5, 6, 7] [0, 1, 2, 3, 4] (st' := ⟨[(2, pA b1), (3, pA b2), (4, pA b3), (5, .iface 137 (.agg #[iV (elB p.bs b).1, iV (elB p.bs b).2.1, iV (elB p.bs b).2.2.1, iV (elB p.bs b).2.2.2.1, iV (elB p.bs b).2.2.2.2.1, iV (elB p.bs b).2.2.2.2.2, iV k])), (6, .iface 139 (.agg #[iV (elB p.bs b).1, iV (elB p.bs b).2.1, iV (elB p.bs b).2.2.1, iV (elB p.bs b).2.2.2.1, iV (elB p.bs b).2.2.2.2.1, iV (elB p.bs b).2.2.2.2.2, iV k])), (7, pA b5)], [(b5, aO #[iV (fall (p.n.en b k m0).1 k), iV (fall (p.n.en b k m0).2 k)] 70), (b3, aO #[iV 0, iV 0] 70), (b2, aO #[iV (b : Int), iV k, iV ((m0 + 1 : Nat) : Int)] 122), (b1, aO #[.slice p.ba p.bs.length p.bc, iV p.near, iV p.last, .slice p.ta p.ts.length p.tc, .map (some bm)] 73), (bm, memO kvM (vvM p.n) (insM L b k m0))]⟩) (acc := []) (by kernel_rfl) (by kernel_rfl) trivial ?_
    cases hd2 : ((hL p.ts (b : Int) ((m0 + 1 : Nat) : Int) false).isEmpty) with
    | false =>
      refine drawW 16 [{ val := fun _ => pA b5, slots := [7] },
              { val := fun _ => iV (fall (p.n.en b k m0).1 k), slots := [43], reads := [0] },
              { val := fun _ => .agg #[.slice p.ba p.bs.length p.bc, iV p.near, iV p.last, .slice p.ta p.ts.length p.tc, .map (some bm)], slots := [2], reads := [3] },
              { val := fun _ => .agg #[iV (b : Int), iV k, iV ((m0 + 1 : Nat) : Int)], slots := [3], reads := [2] },
              { val := fun _ => .iface 137 (.agg #[iV (elB p.bs b).1, iV (elB p.bs b).2.1, iV (elB p.bs b).2.2.1, iV (elB p.bs b).2.2.2.1, iV (elB p.bs b).2.2.2.2.1, iV (elB p.bs b).2.2.2.2.2, iV k]), slots := [5] },
              { names := [10, 1000010, 2000010], val := fun l => .slice (some ⟨(l.getD 0 0), 0, none⟩) ((hL p.ts b ((m0 + 1 : Nat) : Int) false).length) ((hL p.ts b ((m0 + 1 : Nat) : Int) false).length + (l.getD 1 0)), upd := [(10, fun l => cO ((hL p.ts b ((m0 + 1 : Nat) : Int) false).flatMap inR ++ zR (l.getD 1 0)) 68)], news := [10, 1000010, 2000010], slots := [45, 46, 47] },
              { val := fun _ => iV (heat (fall (p.n.en b k m0).1 k) (hL p.ts b ((m0 + 1 : Nat) : Int) false)), slots := [44, 48], reads := [10] },
              { val := fun _ => .pointer (some ⟨b5, 1, none⟩), slots := [7] },
              { val := fun _ => iV (fall (p.n.en b k m0).2 k), slots := [50], reads := [0] },
              { val := fun _ => .agg #[.slice p.ba p.bs.length p.bc, iV p.near, iV p.last, .slice p.ta p.ts.length p.tc, .map (some bm)], slots := [2], reads := [3] },
              { val := fun _ => .agg #[iV (b : Int), iV k, iV ((m0 + 1 : Nat) : Int)], slots := [3], reads := [2] },
              { val := fun _ => .iface 139 (.agg #[iV (elB p.bs b).1, iV (elB p.bs b).2.1, iV (elB p.bs b).2.2.1, iV (elB p.bs b).2.2.2.1, iV (elB p.bs b).2.2.2.2.1, iV (elB p.bs b).2.2.2.2.2, iV k]), slots := [6] },
              { names := [17, 1000017, 2000017], val := fun l => .slice (some ⟨(l.getD 0 0), 0, none⟩) ((hL p.ts b ((m0 + 1 : Nat) : Int) true).length) ((hL p.ts b ((m0 + 1 : Nat) : Int) true).length + (l.getD 1 0)), upd := [(17, fun l => cO ((hL p.ts b ((m0 + 1 : Nat) : Int) true).flatMap inR ++ zR (l.getD 1 0)) 68)], news := [17, 1000017, 2000017], slots := [52, 53, 54] },
              { val := fun _ => iV (heat (fall (p.n.en b k m0).2 k) (hL p.ts b ((m0 + 1 : Nat) : Int) true)), slots := [51, 55], reads := [17] },
              { val := fun _ => .agg #[iV (heat (fall (p.n.en b k m0).1 k) (hL p.ts b ((m0 + 1 : Nat) : Int) false)), iV (heat (fall (p.n.en b k m0).2 k) (hL p.ts b ((m0 + 1 : Nat) : Int) true))], slots := [49, 56] },
              { upd := [(1, fun l => aO #[iV (heat (fall (p.n.en b k m0).1 k) (hL p.ts b ((m0 + 1 : Nat) : Int) false)), iV (heat (fall (p.n.en b k m0).2 k) (hL p.ts b ((m0 + 1 : Nat) : Int) true))] 70)], slots := [4, 57], reads := [1] }] [[], [0], [], [], [], [2, 3, 4], [0, 1, 2, 3, 4, 5], [], [7], [], [], [], [0, 1, 2, 3, 4, 5, 6, 9, 10, 11], [0, 1, 2, 3, 4, 5, 6, 7, 8, 9, 10, 11, 12], [0, 1, 2, 3, 4, 5, 6, 7, 8, 9, 10, 11, 12, 13], [0, 1, 2, 3, 4, 5, 6, 7, 8, 9, 10, 11, 12, 13, 14]] (by kernel_rfl) (by kernel_rfl) (by kernel_rfl) (by kernel_rfl) [4] [1, 4] (by kernel_rfl)
              ⟨⟨⟨⟨⟨⟨⟨⟨⟨⟨⟨⟨⟨⟨⟨⟨trivial,
              tri_quietW (fun β => []) [] [] (fun β => []) (by kernel_rfl) (fun β extra => by kernel_rfl) (by kernel_rfl) (fun β => trivial)⟩,
              tri_quietW (fun β => []) [0] [0] (fun β => [(pA b5, pA b5)]) (by kernel_rfl) (fun β extra => by kernel_rfl) (by kernel_rfl) (fun β => ⟨rfl, trivial⟩)⟩,
              tri_quietW (fun β => []) [0] [0] (fun β => [(pA b1, pA b1)]) (by kernel_rfl) (fun β extra => by kernel_rfl) (by kernel_rfl) (fun β => ⟨rfl, trivial⟩)⟩,
              tri_quietW (fun β => []) [0] [0] (fun β => [(pA b2, pA b2)]) (by kernel_rfl) (fun β extra => by kernel_rfl) (by kernel_rfl) (fun β => ⟨rfl, trivial⟩)⟩,
              tri_quietW (fun β => []) [] [] (fun β => []) (by kernel_rfl) (fun β extra => by kernel_rfl) (by kernel_rfl) (fun β => trivial)⟩,
              tri_nwn 10 1000010 2000010 rfl rfl (fun β nb_ nx_ ny_ => sV nb_ ((hL p.ts b ((m0 + 1 : Nat) : Int) false).length) ((hL p.ts b ((m0 + 1 : Nat) : Int) false).length + nx_)) (fun β nb_ nx_ ny_ => cO ((hL p.ts b ((m0 + 1 : Nat) : Int) false).flatMap inR ++ zR nx_) 68) 104 (fun β => #[.agg #[.slice p.ba p.bs.length p.bc, iV p.near, iV p.last, .slice p.ta p.ts.length p.tc, .map (some bm)], .agg #[iV (b : Int), iV k, iV ((m0 + 1 : Nat) : Int)], .iface 137 (.agg #[iV (elB p.bs b).1, iV (elB p.bs b).2.1, iV (elB p.bs b).2.2.1, iV (elB p.bs b).2.2.2.1, iV (elB p.bs b).2.2.2.2.1, iV (elB p.bs b).2.2.2.2.2, iV k])]) (by kernel_rfl) (fun β extra => by kernel_rfl) (fun β nb_ nx_ ny_ => rfl) (fun β nb_ nx_ ny_ => by kernel_rfl) (fun β nb_ nx_ ny_ => by kernel_rfl) (fun β nb_ nx_ ny_ => by kernel_rfl) (fun β w1 k1 h1 => ((heats_lo p bm b (m0 + 1) k w1 (hin.at k1) hF.t6).mono fun _ _ h => h.some hd2))⟩,
              tri_callVW (fun β => iV (heat (fall (p.n.en b k m0).1 k) (hL p.ts b ((m0 + 1 : Nat) : Int) false))) (fun β => by kernel_rfl) 103 (fun β => #[iV (fall (p.n.en b k m0).1 k), .slice (some ⟨(β 10), 0, none⟩) ((hL p.ts b ((m0 + 1 : Nat) : Int) false).length) ((hL p.ts b ((m0 + 1 : Nat) : Int) false).length + (β 1000010))]) (by kernel_rfl) (fun β extra => by kernel_rfl) (fun β => by kernel_rfl) (fun β w1 k1 h1 => heated_any (fall (p.n.en b k m0).1 k) (hL p.ts b ((m0 + 1 : Nat) : Int) false) (β 10) ((hL p.ts b ((m0 + 1 : Nat) : Int) false).length + (β 1000010)) w1 (by omega) (hL_bd hF _ _ _) (Nat.le_trans (hL_len _ _ _ _) hF.t6) (row_cells (h1 ((β 10), cO ((hL p.ts b ((m0 + 1 : Nat) : Int) false).flatMap inR ++ zR (β 1000010)) 68) (List.mem_of_getElem? (i := 0) (by kernel_rfl)))))⟩,
              tri_quietW (fun β => []) [] [] (fun β => []) (by kernel_rfl) (fun β extra => by kernel_rfl) (by kernel_rfl) (fun β => trivial)⟩,
              tri_quietW (fun β => []) [0] [0] (fun β => [(pA b5, pA b5)]) (by kernel_rfl) (fun β extra => by kernel_rfl) (by kernel_rfl) (fun β => ⟨rfl, trivial⟩)⟩,
              tri_quietW (fun β => []) [0] [0] (fun β => [(pA b1, pA b1)]) (by kernel_rfl) (fun β extra => by kernel_rfl) (by kernel_rfl) (fun β => ⟨rfl, trivial⟩)⟩,
              tri_quietW (fun β => []) [0] [0] (fun β => [(pA b2, pA b2)]) (by kernel_rfl) (fun β extra => by kernel_rfl) (by kernel_rfl) (fun β => ⟨rfl, trivial⟩)⟩,
              tri_quietW (fun β => []) [] [] (fun β => []) (by kernel_rfl) (fun β extra => by kernel_rfl) (by kernel_rfl) (fun β => trivial)⟩,
              tri_nwn 17 1000017 2000017 rfl rfl (fun β nb_ nx_ ny_ => sV nb_ ((hL p.ts b ((m0 + 1 : Nat) : Int) true).length) ((hL p.ts b ((m0 + 1 : Nat) : Int) true).length + nx_)) (fun β nb_ nx_ ny_ => cO ((hL p.ts b ((m0 + 1 : Nat) : Int) true).flatMap inR ++ zR nx_) 68) 104 (fun β => #[.agg #[.slice p.ba p.bs.length p.bc, iV p.near, iV p.last, .slice p.ta p.ts.length p.tc, .map (some bm)], .agg #[iV (b : Int), iV k, iV ((m0 + 1 : Nat) : Int)], .iface 139 (.agg #[iV (elB p.bs b).1, iV (elB p.bs b).2.1, iV (elB p.bs b).2.2.1, iV (elB p.bs b).2.2.2.1, iV (elB p.bs b).2.2.2.2.1, iV (elB p.bs b).2.2.2.2.2, iV k])]) (by kernel_rfl) (fun β extra => by kernel_rfl) (fun β nb_ nx_ ny_ => rfl) (fun β nb_ nx_ ny_ => by kernel_rfl) (fun β nb_ nx_ ny_ => by kernel_rfl) (fun β nb_ nx_ ny_ => by kernel_rfl) (fun β w1 k1 h1 => ((heats_hi p bm b (m0 + 1) k w1 (hin.at k1) hF.t6).mono fun _ _ h => h.some ((hL_emp _ _ _ _ _).trans hd2)))⟩,
              tri_callVW (fun β => iV (heat (fall (p.n.en b k m0).2 k) (hL p.ts b ((m0 + 1 : Nat) : Int) true))) (fun β => by kernel_rfl) 103 (fun β => #[iV (fall (p.n.en b k m0).2 k), .slice (some ⟨(β 17), 0, none⟩) ((hL p.ts b ((m0 + 1 : Nat) : Int) true).length) ((hL p.ts b ((m0 + 1 : Nat) : Int) true).length + (β 1000017))]) (by kernel_rfl) (fun β extra => by kernel_rfl) (fun β => by kernel_rfl) (fun β w1 k1 h1 => heated_any (fall (p.n.en b k m0).2 k) (hL p.ts b ((m0 + 1 : Nat) : Int) true) (β 17) ((hL p.ts b ((m0 + 1 : Nat) : Int) true).length + (β 1000017)) w1 (by omega) (hL_bd hF _ _ _) (Nat.le_trans (hL_len _ _ _ _) hF.t6) (row_cells (h1 ((β 17), cO ((hL p.ts b ((m0 + 1 : Nat) : Int) true).flatMap inR ++ zR (β 1000017)) 68) (List.mem_of_getElem? (i := 0) (by kernel_rfl)))))⟩,
              tri_quietW (fun β => []) [] [] (fun β => []) (by kernel_rfl) (fun β extra => by kernel_rfl) (by kernel_rfl) (fun β => trivial)⟩,
              tri_quietW (fun β => []) [0] [0] (fun β => [(pA b3, pA b3)]) (by kernel_rfl) (fun β extra => by kernel_rfl) (by kernel_rfl) (fun β => ⟨rfl, trivial⟩)⟩
              (fun β => ⟨[(4, pA b3)], [(b3, aO #[iV (heat (fall (p.n.en b k m0).1 k) (hL p.ts b ((m0 + 1 : Nat) : Int) false)), iV (heat (fall (p.n.en b k m0).2 k) (hL p.ts b ((m0 + 1 : Nat) : Int) true))] 70), (bm, memO kvM (vvM p.n) (insM L b k m0))]⟩) (fun β => by kernel_rfl) (fun β8 => ?_)
      refine run_end (fn := f100) rfl (Nat.le_refl _) (by kernel_rfl) [0] [.agg #[iV (heat (fall (p.n.en b k m0).1 k) (hL p.ts b ((m0 + 1 : Nat) : Int) false)), iV (heat (fall (p.n.en b k m0).2 k) (hL p.ts b ((m0 + 1 : Nat) : Int) true))]] (e := [(pA b3, pA b3)]) (by kernel_rfl) ⟨rfl, trivial⟩ (fun w1 k1 h1 => ?_)
      have hv : p.n.en b k (m0 + 1) = ((heat (fall (p.n.en b k m0).1 k) (hL p.ts b ((m0 + 1 : Nat) : Int) false)), (heat (fall (p.n.en b k m0).2 k) (hL p.ts b ((m0 + 1 : Nat) : Int) true))) := by
        unfold Sn.en Sn.lo Sn.hi
        refine Prod.ext ?_ ?_
        · rfl
        · rfl
      exact ⟨by rw [hv]; rfl, k1, h1 (bm, _) (List.mem_of_getElem? (i := 1) rfl)⟩
    | true =>
      refine drawW 16 [{ val := fun _ => pA b5, slots := [7] },
              { val := fun _ => iV (fall (p.n.en b k m0).1 k), slots := [43], reads := [0] },
              { val := fun _ => .agg #[.slice p.ba p.bs.length p.bc, iV p.near, iV p.last, .slice p.ta p.ts.length p.tc, .map (some bm)], slots := [2], reads := [3] },
              { val := fun _ => .agg #[iV (b : Int), iV k, iV ((m0 + 1 : Nat) : Int)], slots := [3], reads := [2] },
              { val := fun _ => .iface 137 (.agg #[iV (elB p.bs b).1, iV (elB p.bs b).2.1, iV (elB p.bs b).2.2.1, iV (elB p.bs b).2.2.2.1, iV (elB p.bs b).2.2.2.2.1, iV (elB p.bs b).2.2.2.2.2, iV k]), slots := [5] },
              { val := fun _ => .slice none 0 0, slots := [45, 46, 47] },
              { val := fun _ => iV (fall (p.n.en b k m0).1 k), slots := [44, 48] },
              { val := fun _ => .pointer (some ⟨b5, 1, none⟩), slots := [7] },
              { val := fun _ => iV (fall (p.n.en b k m0).2 k), slots := [50], reads := [0] },
              { val := fun _ => .agg #[.slice p.ba p.bs.length p.bc, iV p.near, iV p.last, .slice p.ta p.ts.length p.tc, .map (some bm)], slots := [2], reads := [3] },
              { val := fun _ => .agg #[iV (b : Int), iV k, iV ((m0 + 1 : Nat) : Int)], slots := [3], reads := [2] },
              { val := fun _ => .iface 139 (.agg #[iV (elB p.bs b).1, iV (elB p.bs b).2.1, iV (elB p.bs b).2.2.1, iV (elB p.bs b).2.2.2.1, iV (elB p.bs b).2.2.2.2.1, iV (elB p.bs b).2.2.2.2.2, iV k]), slots := [6] },
              { val := fun _ => .slice none 0 0, slots := [52, 53, 54] },
              { val := fun _ => iV (fall (p.n.en b k m0).2 k), slots := [51, 55] },
              { val := fun _ => .agg #[iV (fall (p.n.en b k m0).1 k), iV (fall (p.n.en b k m0).2 k)], slots := [49, 56] },
              { upd := [(1, fun l => aO #[iV (fall (p.n.en b k m0).1 k), iV (fall (p.n.en b k m0).2 k)] 70)], slots := [4, 57], reads := [1] }] [[], [0], [], [], [], [2, 3, 4], [0, 1, 2, 3, 4, 5], [], [7], [], [], [], [0, 1, 2, 3, 4, 5, 6, 9, 10, 11], [0, 1, 2, 3, 4, 5, 6, 7, 8, 9, 10, 11, 12], [0, 1, 2, 3, 4, 5, 6, 7, 8, 9, 10, 11, 12, 13], [0, 1, 2, 3, 4, 5, 6, 7, 8, 9, 10, 11, 12, 13, 14]] (by kernel_rfl) (by kernel_rfl) (by kernel_rfl) (by kernel_rfl) [4] [1, 4] (by kernel_rfl)
              ⟨⟨⟨⟨⟨⟨⟨⟨⟨⟨⟨⟨⟨⟨⟨⟨trivial,
              tri_quietW (fun β => []) [] [] (fun β => []) (by kernel_rfl) (fun β extra => by kernel_rfl) (by kernel_rfl) (fun β => trivial)⟩,
              tri_quietW (fun β => []) [0] [0] (fun β => [(pA b5, pA b5)]) (by kernel_rfl) (fun β extra => by kernel_rfl) (by kernel_rfl) (fun β => ⟨rfl, trivial⟩)⟩,
              tri_quietW (fun β => []) [0] [0] (fun β => [(pA b1, pA b1)]) (by kernel_rfl) (fun β extra => by kernel_rfl) (by kernel_rfl) (fun β => ⟨rfl, trivial⟩)⟩,
              tri_quietW (fun β => []) [0] [0] (fun β => [(pA b2, pA b2)]) (by kernel_rfl) (fun β extra => by kernel_rfl) (by kernel_rfl) (fun β => ⟨rfl, trivial⟩)⟩,
              tri_quietW (fun β => []) [] [] (fun β => []) (by kernel_rfl) (fun β extra => by kernel_rfl) (by kernel_rfl) (fun β => trivial)⟩,
              tri_callVW (fun β => .slice none 0 0) (fun β => by kernel_rfl) 104 (fun β => #[.agg #[.slice p.ba p.bs.length p.bc, iV p.near, iV p.last, .slice p.ta p.ts.length p.tc, .map (some bm)], .agg #[iV (b : Int), iV k, iV ((m0 + 1 : Nat) : Int)], .iface 137 (.agg #[iV (elB p.bs b).1, iV (elB p.bs b).2.1, iV (elB p.bs b).2.2.1, iV (elB p.bs b).2.2.2.1, iV (elB p.bs b).2.2.2.2.1, iV (elB p.bs b).2.2.2.2.2, iV k])]) (by kernel_rfl) (fun β extra => by kernel_rfl) (fun β => by kernel_rfl) (fun β w1 k1 h1 => ((heats_lo p bm b (m0 + 1) k w1 (hin.at k1) hF.t6).mono fun _ _ h => h.nil hd2))⟩,
              tri_callVW (fun β => iV (fall (p.n.en b k m0).1 k)) (fun β => by kernel_rfl) 103 (fun β => #[iV (fall (p.n.en b k m0).1 k), .slice none 0 0]) (by kernel_rfl) (fun β extra => by kernel_rfl) (fun β => by kernel_rfl) (fun β w1 k1 h1 => heated_nil (fall (p.n.en b k m0).1 k) w1)⟩,
              tri_quietW (fun β => []) [] [] (fun β => []) (by kernel_rfl) (fun β extra => by kernel_rfl) (by kernel_rfl) (fun β => trivial)⟩,
              tri_quietW (fun β => []) [0] [0] (fun β => [(pA b5, pA b5)]) (by kernel_rfl) (fun β extra => by kernel_rfl) (by kernel_rfl) (fun β => ⟨rfl, trivial⟩)⟩,
              tri_quietW (fun β => []) [0] [0] (fun β => [(pA b1, pA b1)]) (by kernel_rfl) (fun β extra => by kernel_rfl) (by kernel_rfl) (fun β => ⟨rfl, trivial⟩)⟩,
              tri_quietW (fun β => []) [0] [0] (fun β => [(pA b2, pA b2)]) (by kernel_rfl) (fun β extra => by kernel_rfl) (by kernel_rfl) (fun β => ⟨rfl, trivial⟩)⟩,
              tri_quietW (fun β => []) [] [] (fun β => []) (by kernel_rfl) (fun β extra => by kernel_rfl) (by kernel_rfl) (fun β => trivial)⟩,
              tri_callVW (fun β => .slice none 0 0) (fun β => by kernel_rfl) 104 (fun β => #[.agg #[.slice p.ba p.bs.length p.bc, iV p.near, iV p.last, .slice p.ta p.ts.length p.tc, .map (some bm)], .agg #[iV (b : Int), iV k, iV ((m0 + 1 : Nat) : Int)], .iface 139 (.agg #[iV (elB p.bs b).1, iV (elB p.bs b).2.1, iV (elB p.bs b).2.2.1, iV (elB p.bs b).2.2.2.1, iV (elB p.bs b).2.2.2.2.1, iV (elB p.bs b).2.2.2.2.2, iV k])]) (by kernel_rfl) (fun β extra => by kernel_rfl) (fun β => by kernel_rfl) (fun β w1 k1 h1 => ((heats_hi p bm b (m0 + 1) k w1 (hin.at k1) hF.t6).mono fun _ _ h => h.nil ((hL_emp _ _ _ _ _).trans hd2)))⟩,
              tri_callVW (fun β => iV (fall (p.n.en b k m0).2 k)) (fun β => by kernel_rfl) 103 (fun β => #[iV (fall (p.n.en b k m0).2 k), .slice none 0 0]) (by kernel_rfl) (fun β extra => by kernel_rfl) (fun β => by kernel_rfl) (fun β w1 k1 h1 => heated_nil (fall (p.n.en b k m0).2 k) w1)⟩,
              tri_quietW (fun β => []) [] [] (fun β => []) (by kernel_rfl) (fun β extra => by kernel_rfl) (by kernel_rfl) (fun β => trivial)⟩,
              tri_quietW (fun β => []) [0] [0] (fun β => [(pA b3, pA b3)]) (by kernel_rfl) (fun β extra => by kernel_rfl) (by kernel_rfl) (fun β => ⟨rfl, trivial⟩)⟩
              (fun β => ⟨[(4, pA b3)], [(b3, aO #[iV (fall (p.n.en b k m0).1 k), iV (fall (p.n.en b k m0).2 k)] 70), (bm, memO kvM (vvM p.n) (insM L b k m0))]⟩) (fun β => by kernel_rfl) (fun β8 => ?_)
      refine run_end (fn := f100) rfl (Nat.le_refl _) (by kernel_rfl) [0] [.agg #[iV (fall (p.n.en b k m0).1 k), iV (fall (p.n.en b k m0).2 k)]] (e := [(pA b3, pA b3)]) (by kernel_rfl) ⟨rfl, trivial⟩ (fun w1 k1 h1 => ?_)
      have hv : p.n.en b k (m0 + 1) = ((fall (p.n.en b k m0).1 k), (fall (p.n.en b k m0).2 k)) := by
        have e1 : hL p.ts (b : Int) ((m0 + 1 : Nat) : Int) false = [] := List.isEmpty_iff.1 hd2
        have e2 : hL p.ts (b : Int) ((m0 + 1 : Nat) : Int) true = [] := List.isEmpty_iff.1 ((hL_emp _ _ _ _ _).trans hd2)
        unfold Sn.en Sn.lo Sn.hi
        refine Prod.ext ?_ ?_
        · show heat _ (hL p.ts (b : Int) ((m0 + 1 : Nat) : Int) false) = _
          rw [e1]
          rfl
        · show heat _ (hL p.ts (b : Int) ((m0 + 1 : Nat) : Int) true) = _
          rw [e2]
          rfl
      exact ⟨by rw [hv]; rfl, k1, h1 (bm, _) (List.mem_of_getElem? (i := 1) rfl)⟩

set_option maxRecDepth 100000 in
theorem ends_of (p : Sb) (bm b m : Nat) (k : Int) (L : List Mo) (w : World) (hmap : w.heap[bm]? = some (memO kvM (vvM p.n) L)) (hin : p.InD (fun x => x = bm) w) (hw : ∀ (w : World) (L : List Mo), w.heap[bm]? = some (memO kvM (vvM p.n) L) → p.InD (fun x => x = bm) w → Calls Try.prog 100 #[.agg #[.slice p.ba p.bs.length p.bc, .int .i64 p.near, .int .i64 p.last, .slice p.ta p.ts.length p.tc, .map (some bm)], .agg #[.int .i64 (b : Int), .int .i64 k, .int .i64 (m : Int)]] w (Wr bm (.agg #[.int .i64 (p.n.en b k m).1, .int .i64 (p.n.en b k m).2]) (memO kvM (vvM p.n) (preM L b k m)) w)) : Calls Try.prog 94 #[.agg #[.slice p.ba p.bs.length p.bc, .int .i64 p.near, .int .i64 p.last, .slice p.ta p.ts.length p.tc, .map (some bm)], .agg #[.int .i64 (b : Int), .int .i64 k, .int .i64 (m : Int)]] w (Wr bm (.agg #[.int .i64 (p.n.en b k m).1, .int .i64 (p.n.en b k m).2]) (memO kvM (vvM p.n) (insM L b k m)) w) := by
  refine calls_run (fn := f94) (c := (f94.body).getD .skip) [.agg #[.slice p.ba p.bs.length p.bc, .int .i64 p.near, .int .i64 p.last, .slice p.ta p.ts.length p.tc, .map (some bm)], .agg #[.int .i64 (b : Int), .int .i64 k, .int .i64 (m : Int)]] func94 (by kernel_rfl) (fun x => x = bm) [(bm, memO kvM (vvM p.n) L)] (fun q hq => by rcases List.mem_singleton.1 hq with rfl; exact ⟨hmap, rfl, rfl⟩) (List.pairwise_singleton _ _) 24 (by kernel_rfl) (by simp) ?_
  refine run_auto [] 2 [] [] [0, 1] [0] (st' := ⟨[(0, .agg #[.slice p.ba p.bs.length p.bc, iV p.near, iV p.last, .slice p.ta p.ts.length p.tc, .map (some bm)]), (1, .agg #[iV (b : Int), iV k, iV (m : Int)])], [(bm, memO kvM (vvM p.n) L)]⟩) (acc := []) (by kernel_rfl) (by kernel_rfl) trivial ?_
  refine run_new (aO #[.slice p.ba p.bs.length p.bc, iV p.near, iV p.last, .slice p.ta p.ts.length p.tc, .map (some bm)] 73) (fun b1 => pA b1) (some 2) (fun _ => by kernel_rfl) (fun b1 hb1 => ?_)
  refine run_new (aO #[iV (b : Int), iV k, iV (m : Int)] 122) (fun b2 => pA b2) (some 3) (fun _ => by kernel_rfl) (fun b2 hb2 => ?_)
  refine run_new (aO #[iV 0, iV 0] 70) (fun b3 => pA b3) (some 4) (fun _ => by kernel_rfl) (fun b3 hb3 => ?_)
  refine run_auto [] 6 [] [2, 1] [2, 3, 4, 9, 10] [0, 1, 2, 3] (st' := ⟨[(2, pA b1), (3, pA b2), (4, pA b3), (9, .map (some bm)), (10, .agg #[iV (b : Int), iV k, iV (m : Int)])], [(b3, aO #[iV 0, iV 0] 70), (b2, aO #[iV (b : Int), iV k, iV (m : Int)] 122), (b1, aO #[.slice p.ba p.bs.length p.bc, iV p.near, iV p.last, .slice p.ta p.ts.length p.tc, .map (some bm)] 73), (bm, memO kvM (vvM p.n) L)]⟩) (acc := [(pA b2, pA b2), (pA b1, pA b1)]) (by kernel_rfl) (by kernel_rfl) ⟨rfl, rfl, trivial⟩ ?_
  cases hd1 : (decide (((b : Int), k, (m : Int)) ∈ L)) with
  | false =>
    have hp1 := of_decide_eq_false hd1
    refine run_v (Instr.lookup 71 (.map (some bm)) (.agg #[iV (b : Int), iV k, iV (m : Int)]) true >>= fun v => pure (Next.value v)) (some 11) (.tuple #[.agg #[iV 0, iV 0], .bool false]) (by kernel_rfl) (fun w1 k1 h1 => lookM (h1 (bm, memO kvM (vvM p.n) L) (List.mem_of_getElem? (i := 3) (by kernel_rfl))) ((b : Int), k, (m : Int)) hd1) ?_
    refine run_auto [] 3 [] [] [2, 3, 4, 12, 13] [0, 1, 2, 3] (st' := ⟨[(2, pA b1), (3, pA b2), (4, pA b3), (12, .agg #[iV 0, iV 0]), (13, .bool false)], [(b3, aO #[iV 0, iV 0] 70), (b2, aO #[iV (b : Int), iV k, iV (m : Int)] 122), (b1, aO #[.slice p.ba p.bs.length p.bc, iV p.near, iV p.last, .slice p.ta p.ts.length p.tc, .map (some bm)] 73), (bm, memO kvM (vvM p.n) L)]⟩) (acc := []) (by kernel_rfl) (by kernel_rfl) trivial ?_
    refine run_new (aO #[iV 0, iV 0] 70) (fun b4 => pA b4) (some 5) (fun _ => by kernel_rfl) (fun b4 hb4 => ?_)
    refine run_auto [(15, .bool true)] 14 [true] [0, 3, 2] [2, 3, 4, 5, 16, 17] [0, 1, 2, 3, 4] (st' := ⟨[(2, pA b1), (3, pA b2), (4, pA b3), (5, pA b4), (16, .agg #[.slice p.ba p.bs.length p.bc, iV p.near, iV p.last, .slice p.ta p.ts.length p.tc, .map (some bm)]), (17, .agg #[iV (b : Int), iV k, iV (m : Int)])], [(b4, aO #[iV 0, iV 0] 70), (b3, aO #[iV 0, iV 0] 70), (b2, aO #[iV (b : Int), iV k, iV (m : Int)] 122), (b1, aO #[.slice p.ba p.bs.length p.bc, iV p.near, iV p.last, .slice p.ta p.ts.length p.tc, .map (some bm)] 73), (bm, memO kvM (vvM p.n) L)]⟩) (acc := [(pA b2, pA b2), (pA b1, pA b1), (.bool true, .bool true), (.bool true, .bool true), (pA b4, pA b4)]) (by kernel_rfl) (by kernel_rfl) ⟨rfl, rfl, rfl, rfl, rfl, trivial⟩ ?_
    refine run_wr 100 #[.agg #[.slice p.ba p.bs.length p.bc, iV p.near, iV p.last, .slice p.ta p.ts.length p.tc, .map (some bm)], .agg #[iV (b : Int), iV k, iV (m : Int)]] (some 18) (.agg #[iV (p.n.en b k m).1, iV (p.n.en b k m).2]) 4 bm (memO kvM (vvM p.n) L) (memO kvM (vvM p.n) (preM L b k m)) (by kernel_rfl) (by kernel_rfl) (by kernel_rfl) (fun w1 k1 h1 => hw w1 L (h1 (bm, memO kvM (vvM p.n) L) (List.mem_of_getElem? (i := 4) (by kernel_rfl))) (((hin.at k1)).map (h1 (bm, memO kvM (vvM p.n) L) (List.mem_of_getElem? (i := 4) (by kernel_rfl))))) ?_
    refine run_auto [] 7 [] [0, 3, 2, 0] [4, 5, 20, 21, 22] [0, 1, 4] (st' := ⟨[(4, pA b3), (5, pA b4), (20, .map (some bm)), (21, .agg #[iV (b : Int), iV k, iV (m : Int)]), (22, .agg #[iV (p.n.en b k m).1, iV (p.n.en b k m).2])], [(b4, aO #[iV (p.n.en b k m).1, iV (p.n.en b k m).2] 70), (b3, aO #[iV 0, iV 0] 70), (bm, memO kvM (vvM p.n) (preM L b k m))]⟩) (acc := [(pA b4, pA b4), (pA b2, pA b2), (pA b1, pA b1), (pA b4, pA b4)]) (by kernel_rfl) (by kernel_rfl) ⟨rfl, rfl, rfl, rfl, trivial⟩ ?_
    refine run_mem (kv := kvM) (vv := (vvM p.n)) 2 bm 71 70 (preM L b k m) ((b : Int), k, (m : Int)) (by kernel_rfl) (by kernel_rfl) (by kernel_rfl) (by kernel_rfl) ck_kvM eq_kvM (preM_no (of_decide_eq_false hd1)) ?_
    refine run_auto [] 6 [] [0, 1] [4] [1, 2] (st' := ⟨[(4, pA b3)], [(b3, aO #[iV (p.n.en b k m).1, iV (p.n.en b k m).2] 70), (bm, memO kvM (vvM p.n) ((preM L b k m) ++ [((b : Int), k, (m : Int))]))]⟩) (acc := [(pA b3, pA b3), (pA b4, pA b4)]) (by kernel_rfl) (by kernel_rfl) ⟨rfl, rfl, trivial⟩ ?_
    refine run_end (fn := f94) rfl (Nat.le_refl _) (by kernel_rfl) [0] [.agg #[iV (p.n.en b k m).1, iV (p.n.en b k m).2]] (e := [(pA b3, pA b3)]) (by kernel_rfl) ⟨rfl, trivial⟩ (fun w1 k1 h1 => ?_)
    exact ⟨rfl, k1, by rw [insM_no (of_decide_eq_false hd1)]; exact h1 (bm, _) (List.mem_of_getElem? (i := 1) rfl)⟩
  | true =>
    have hp1 := of_decide_eq_true hd1
    refine run_v (Instr.lookup 71 (.map (some bm)) (.agg #[iV (b : Int), iV k, iV (m : Int)]) true >>= fun v => pure (Next.value v)) (some 11) (.tuple #[.agg #[iV (p.n.en b k m).1, iV (p.n.en b k m).2], .bool true]) (by kernel_rfl) (fun w1 k1 h1 => lookM (h1 (bm, memO kvM (vvM p.n) L) (List.mem_of_getElem? (i := 3) (by kernel_rfl))) ((b : Int), k, (m : Int)) hd1) ?_
    refine run_auto [] 3 [] [] [2, 3, 4, 12, 13] [0, 1, 2, 3] (st' := ⟨[(2, pA b1), (3, pA b2), (4, pA b3), (12, .agg #[iV (p.n.en b k m).1, iV (p.n.en b k m).2]), (13, .bool true)], [(b3, aO #[iV 0, iV 0] 70), (b2, aO #[iV (b : Int), iV k, iV (m : Int)] 122), (b1, aO #[.slice p.ba p.bs.length p.bc, iV p.near, iV p.last, .slice p.ta p.ts.length p.tc, .map (some bm)] 73), (bm, memO kvM (vvM p.n) L)]⟩) (acc := []) (by kernel_rfl) (by kernel_rfl) trivial ?_
    refine run_new (aO #[iV 0, iV 0] 70) (fun b4 => pA b4) (some 5) (fun _ => by kernel_rfl) (fun b4 hb4 => ?_)
    refine run_auto [(15, .bool false)] 16 [false] [0, 0, 1] [4] [1, 4] (st' := ⟨[(4, pA b3)], [(b3, aO #[iV (p.n.en b k m).1, iV (p.n.en b k m).2] 70), (bm, memO kvM (vvM p.n) L)]⟩) (acc := [(pA b3, pA b3), (pA b4, pA b4), (.bool false, .bool false), (.bool false, .bool false), (pA b4, pA b4)]) (by kernel_rfl) (by kernel_rfl) ⟨rfl, rfl, rfl, rfl, rfl, trivial⟩ ?_
    refine run_end (fn := f94) rfl (Nat.le_refl _) (by kernel_rfl) [0] [.agg #[iV (p.n.en b k m).1, iV (p.n.en b k m).2]] (e := [(pA b3, pA b3)]) (by kernel_rfl) ⟨rfl, trivial⟩ (fun w1 k1 h1 => ?_)
    exact ⟨rfl, k1, by rw [insM_yes (of_decide_eq_true hd1)]; exact h1 (bm, _) (List.mem_of_getElem? (i := 1) rfl)⟩


theorem ends_any (p : Sb) (bm b : Nat) (k : Int) (hF : p.n.Fine) (hb : b < p.bs.length) (ka : 1 ≤ k) (kb : k ≤ 8) : ∀ m : Nat, m ≤ 200 → ∀ (w : World) (L : List Mo), w.heap[bm]? = some (memO kvM (vvM p.n) L) → p.InD (fun x => x = bm) w → Calls Try.prog 94 #[.agg #[.slice p.ba p.bs.length p.bc, .int .i64 p.near, .int .i64 p.last, .slice p.ta p.ts.length p.tc, .map (some bm)], .agg #[.int .i64 (b : Int), .int .i64 k, .int .i64 (m : Int)]] w (Wr bm (.agg #[.int .i64 (p.n.en b k m).1, .int .i64 (p.n.en b k m).2]) (memO kvM (vvM p.n) (insM L b k m)) w)
  | 0, _, w, L, hmap, hin => ends_of p bm b 0 k L w hmap hin fun w L h1 h2 => workOut0 p bm b k L w h2 hF hb h1
  | m + 1, hm, w, L, hmap, hin => ends_of p bm b (m + 1) k L w hmap hin fun w L h1 h2 => workOutS p bm b k m L w h2 hF hb ka kb h1 (by omega) (ends_any p bm b k hF hb ka kb m (by omega))
end Go.Proofs.Ytfjfkaaflghaiaa
