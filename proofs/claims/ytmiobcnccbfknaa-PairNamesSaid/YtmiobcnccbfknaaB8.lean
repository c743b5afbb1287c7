/-
  PAIR: sets of blocks.
-/
import Derived.Test.YtmiobcnccbfknaaB7
import Derived.Test.YtmiobcnccbfknaaXI
import Derived.Test.YtmiobcnccbfknaaQ5
namespace Go.Proofs.Ytmiobcnccbfknaa
open Go.RowKit Go.Proofs.Try


theorem pow_le5 {n : Nat} (h : n ≤ 8) : 2 ^ n ≤ 256 := (Nat.pow_le_pow_right (by omega) h : 2 ^ n ≤ 2 ^ 8)
theorem shl_le {k : Nat} (h : k ≤ 8) : 1 <<< k ≤ 256 := by
  rw [Nat.one_shiftLeft]
  exact pow_le5 h
theorem those_next (so : Nat → Bool) (k : Nat) : thoseL (k + 1) so = if so k then thoseL k so ||| 1 <<< k else thoseL k so := by
  unfold thoseL
  rw [List.range_succ, List.foldl_append]
  rfl
theorem those_lt {n : Nat} (h : n ≤ 8) (so : Nat → Bool) : thoseL n so < 256 := by
  refine Nat.lt_of_lt_of_le (Nat.lt_pow_two_of_testBit _ fun i hi => ?_) (pow_le5 h)
  rw [thoseL_bit]
  simp
  omega
set_option maxRecDepth 100000 in
theorem fullSet_any (n : Nat) (h : n ≤ 8) (w : World)  : Calls Try.prog 90 #[.int .i64 (n : Int)] w (RetI ((2 ^ n - 1 : Nat) : Int) w) := by
  have h0 := pow_le5 h
  have h0i : (0 : Int) ≤ (2 : Int) ^ n ∧ (2 : Int) ^ n ≤ 256 := ⟨Int.pow_nonneg (by omega), by exact_mod_cast h0⟩
  have h0k : (0 : Int) ≤ ((2 : Nat) : Int) ^ n ∧ ((2 : Nat) : Int) ^ n ≤ 256 := h0i
  refine calls_run (fn := f90) (c := (f90.body).getD .skip) [.int .i64 (n : Int)] func90 (by kernel_rfl) (fun _ => False) [] (fun _ h => by cases h) (List.Pairwise.nil) 6 (by kernel_rfl) (by simp) ?_
  refine run_auto [] 7 [] [] [2, 3] [] (st' := ⟨[(2, .int .i64 0), (3, .int .i64 (n : Int))], []⟩) (acc := []) (by kernel_rfl) (by kernel_rfl) trivial ?_
  refine run_v (binOp .shl 98 (.int .i64 (1 : Nat)) (.int .i64 (n : Nat)) >>= fun v => pure (Next.value v)) (some 4) (.int .i64 ((1 <<< n : Nat) : Int)) (by kernel_rfl) (fun w1 k1 h1 => shl_run 1 n (by omega) (by have := shl_le (k := n) (by omega); omega)) ?_
  refine run_auto [(5, .int .i64 (((1 <<< n : Nat) : Int) - 1))] 3 [] [] [2] [] (st' := ⟨[(2, .int .i64 (((1 <<< n : Nat) : Int) - 1))], []⟩) (acc := [(.int .i64 (IntKind.i64.wrap (((1 <<< n : Nat) : Int) - 1)), .int .i64 (((1 <<< n : Nat) : Int) - 1))]) (by kernel_rfl) (by kernel_rfl) ⟨(wr (by omega) (by omega)), trivial⟩ ?_
  refine run_end (fn := f90) rfl (Nat.le_refl _) (by kernel_rfl) [] [.int .i64 (((1 <<< n : Nat) : Int) - 1)] (e := []) (by kernel_rfl) trivial (fun w1 k1 h1 => ?_)
  have h1 := Nat.one_shiftLeft n
  have h2 := Nat.one_le_two_pow (n := n)
  exact ⟨by rw [show (((1 <<< n : Nat) : Int) - 1) = ((2 ^ n - 1 : Nat) : Int) by omega]; rfl, k1.keeps (fun _ h => h)⟩

set_option maxRecDepth 100000 in
theorem those_surelyLongest (g : Gp) (n : Nat) (h : n ≤ 5) (w : World)  : Calls Try.prog 93 #[.int .i64 (n : Int), .func (.func 94) #[.agg (gc g).toArray] #[]] w (RetI ((thoseL n (fun k => ((List.range 5).all fun o => decide (g o k ≤ 0))) : Nat) : Int) w) := by
  refine calls_run (fn := f93) (c := (f93.body).getD .skip) [.int .i64 (n : Int), .func (.func 94) #[.agg (gc g).toArray] #[]] func93 (by kernel_rfl) (fun _ => False) [] (fun _ h => by cases h) (List.Pairwise.nil) 20 (by kernel_rfl) (by simp) ?_
  refine run_auto [] 15 [] [] [1, 4, 5, 7, 8] [] (st' := ⟨[(1, .func (.func 94) #[.agg (gc g).toArray] #[]), (4, .int .i64 0), (5, .int .i64 0), (7, .int .i64 (n : Int)), (8, .int .i64 0)], []⟩) (acc := []) (by kernel_rfl) (by kernel_rfl) trivial ?_
  refine run_auto [] 0 [] [] [1, 4, 5, 7, 8] [] (st' := ⟨[(1, .func (.func 94) #[.agg (gc g).toArray] #[]), (4, .int .i64 0), (5, .int .i64 0), (7, .int .i64 (n : Int)), (8, .int .i64 0)], []⟩) (acc := []) (by kernel_rfl) (by kernel_rfl) trivial ?_
  refine run_loop (S := fun (k : Nat) => ⟨[(1, .func (.func 94) #[.agg (gc g).toArray] #[]), (4, .int .i64 0), (5, .int .i64 ((thoseL k (fun k => ((List.range 5).all fun o => decide (g o k ≤ 0))) : Nat) : Int)), (7, .int .i64 (n : Int)), (8, .int .i64 (k : Int))], []⟩) (fun k => k ≤ n) (fun k => n - k) (0) (by kernel_rfl) (Nat.zero_le _) (by kernel_rfl) (fun k hI0 J0 hJ0 => ?_)
  cases hd1 : (decide ((k : Int) < (n : Int))) with
  | false =>
    have hp1 := of_decide_eq_false hd1
    refine run_auto [(9, .bool false)] 12 [false] [] [4] [] (st' := ⟨[(4, .int .i64 ((thoseL k (fun k => ((List.range 5).all fun o => decide (g o k ≤ 0))) : Nat) : Int))], []⟩) (acc := [(.bool false, .bool false), (.bool (decide ((k : Int) < (n : Int))), .bool false)]) (by kernel_rfl) (by kernel_rfl) ⟨rfl, (bo hd1), trivial⟩ ?_
    refine run_end (fn := f93) rfl (Nat.le_refl _) (by kernel_rfl) [] [.int .i64 ((thoseL k (fun k => ((List.range 5).all fun o => decide (g o k ≤ 0))) : Nat) : Int)] (e := []) (by kernel_rfl) trivial (fun w1 k1 h1 => ?_)
    exact ⟨by rw [show k = n by omega]; rfl, k1.keeps (fun _ h => h)⟩
  | true =>
    have hp1 := of_decide_eq_true hd1
    refine run_auto [(9, .bool true)] 18 [true] [] [1, 4, 5, 7, 8, 6, 11, 12] [] (st' := ⟨[(1, .func (.func 94) #[.agg (gc g).toArray] #[]), (4, .int .i64 0), (5, .int .i64 ((thoseL k (fun k => ((List.range 5).all fun o => decide (g o k ≤ 0))) : Nat) : Int)), (7, .int .i64 (n : Int)), (8, .int .i64 (k : Int)), (6, .int .i64 (k : Int)), (11, .func (.func 94) #[.agg (gc g).toArray] #[]), (12, .int .i64 (k : Int))], []⟩) (acc := [(.bool true, .bool true), (.bool (decide ((k : Int) < (n : Int))), .bool true)]) (by kernel_rfl) (by kernel_rfl) ⟨rfl, (bo hd1), trivial⟩ ?_
    cases hd2 : ((List.range 5).all fun o => decide (g o k ≤ 0)) with
    | false =>
      refine run_ret1 94 #[.agg (gc g).toArray, .int .i64 (k : Int)] (some 13) (.bool false) (by kernel_rfl) (fun w1 k1 h1 => (by have h := surelyLongest_any g k (by omega) w1; rw [hd2] at h; exact h)) ?_
      refine run_auto [(18, .int .i64 ((k + 1 : Nat) : Int))] 8 [false] [] [1, 4, 5, 7, 8] [] (st' := ⟨[(1, .func (.func 94) #[.agg (gc g).toArray] #[]), (4, .int .i64 0), (5, .int .i64 ((thoseL k (fun k => ((List.range 5).all fun o => decide (g o k ≤ 0))) : Nat) : Int)), (7, .int .i64 (n : Int)), (8, .int .i64 ((k + 1 : Nat) : Int))], []⟩) (acc := [(.int .i64 (IntKind.i64.wrap ((k : Int) + 1)), .int .i64 ((k + 1 : Nat) : Int)), (.bool false, .bool false)]) (by kernel_rfl) (by kernel_rfl) ⟨(wr (by omega) (by omega)), rfl, trivial⟩ ?_
      have hj := hJ0 (k + 1) (by omega) (by omega)
      rw [(those_next (fun k => ((List.range 5).all fun o => decide (g o k ≤ 0))) k).trans (if_neg (by rw [hd2]; simp))] at hj
      exact run_round (by kernel_rfl) hj
    | true =>
      refine run_ret1 94 #[.agg (gc g).toArray, .int .i64 (k : Int)] (some 13) (.bool true) (by kernel_rfl) (fun w1 k1 h1 => (by have h := surelyLongest_any g k (by omega) w1; rw [hd2] at h; exact h)) ?_
      refine run_auto [] 5 [true] [] [1, 4, 5, 7, 8, 14, 15] [] (st' := ⟨[(1, .func (.func 94) #[.agg (gc g).toArray] #[]), (4, .int .i64 0), (5, .int .i64 ((thoseL k (fun k => ((List.range 5).all fun o => decide (g o k ≤ 0))) : Nat) : Int)), (7, .int .i64 (n : Int)), (8, .int .i64 (k : Int)), (14, .int .i64 ((thoseL k (fun k => ((List.range 5).all fun o => decide (g o k ≤ 0))) : Nat) : Int)), (15, .int .i64 (k : Int))], []⟩) (acc := [(.bool true, .bool true)]) (by kernel_rfl) (by kernel_rfl) ⟨rfl, trivial⟩ ?_
      refine run_v (binOp .shl 98 (.int .i64 (1 : Nat)) (.int .i64 (k : Nat)) >>= fun v => pure (Next.value v)) (some 16) (.int .i64 ((1 <<< k : Nat) : Int)) (by kernel_rfl) (fun w1 k1 h1 => shl_run 1 k (by omega) (by have := shl_le (k := k) (by omega); omega)) ?_
      refine run_auto [(17, .int .i64 (((thoseL k (fun k => ((List.range 5).all fun o => decide (g o k ≤ 0))) : Nat) ||| (1 <<< k : Nat) : Nat) : Int)), (18, .int .i64 ((k + 1 : Nat) : Int))] 8 [] [] [1, 4, 5, 7, 8] [] (st' := ⟨[(1, .func (.func 94) #[.agg (gc g).toArray] #[]), (4, .int .i64 0), (5, .int .i64 (((thoseL k (fun k => ((List.range 5).all fun o => decide (g o k ≤ 0))) : Nat) ||| (1 <<< k : Nat) : Nat) : Int)), (7, .int .i64 (n : Int)), (8, .int .i64 ((k + 1 : Nat) : Int))], []⟩) (acc := [(.int .i64 (IntKind.i64.wrap ((k : Int) + 1)), .int .i64 ((k + 1 : Nat) : Int)), (.int .i64 (bits .or .i64 ((thoseL k (fun k => ((List.range 5).all fun o => decide (g o k ≤ 0))) : Nat) : Int) ((1 <<< k : Nat) : Int)), .int .i64 (((thoseL k (fun k => ((List.range 5).all fun o => decide (g o k ≤ 0))) : Nat) ||| (1 <<< k : Nat) : Nat) : Int))]) (by kernel_rfl) (by kernel_rfl) ⟨(wr (by omega) (by omega)), (or_nat (thoseL k (fun k => ((List.range 5).all fun o => decide (g o k ≤ 0))) : Nat) (1 <<< k : Nat) (by have := those_lt (n := k) (by omega) (fun k => ((List.range 5).all fun o => decide (g o k ≤ 0))); omega) (by have := shl_le (k := k) (by omega); omega)), trivial⟩ ?_
      have hj := hJ0 (k + 1) (by omega) (by omega)
      rw [(those_next (fun k => ((List.range 5).all fun o => decide (g o k ≤ 0))) k).trans (if_pos (by rw [hd2]))] at hj
      exact run_round (by kernel_rfl) hj

set_option maxRecDepth 100000 in
theorem those_perhapsLongest (g : Gp) (n : Nat) (h : n ≤ 5) (w : World)  : Calls Try.prog 93 #[.int .i64 (n : Int), .func (.func 95) #[.agg (gc g).toArray] #[]] w (RetI ((thoseL n (fun k => ((List.range 5).all fun o => decide (0 ≤ g k o))) : Nat) : Int) w) := by
  refine calls_run (fn := f93) (c := (f93.body).getD .skip) [.int .i64 (n : Int), .func (.func 95) #[.agg (gc g).toArray] #[]] func93 (by kernel_rfl) (fun _ => False) [] (fun _ h => by cases h) (List.Pairwise.nil) 20 (by kernel_rfl) (by simp) ?_
  refine run_auto [] 15 [] [] [1, 4, 5, 7, 8] [] (st' := ⟨[(1, .func (.func 95) #[.agg (gc g).toArray] #[]), (4, .int .i64 0), (5, .int .i64 0), (7, .int .i64 (n : Int)), (8, .int .i64 0)], []⟩) (acc := []) (by kernel_rfl) (by kernel_rfl) trivial ?_
  refine run_auto [] 0 [] [] [1, 4, 5, 7, 8] [] (st' := ⟨[(1, .func (.func 95) #[.agg (gc g).toArray] #[]), (4, .int .i64 0), (5, .int .i64 0), (7, .int .i64 (n : Int)), (8, .int .i64 0)], []⟩) (acc := []) (by kernel_rfl) (by kernel_rfl) trivial ?_
  refine run_loop (S := fun (k : Nat) => ⟨[(1, .func (.func 95) #[.agg (gc g).toArray] #[]), (4, .int .i64 0), (5, .int .i64 ((thoseL k (fun k => ((List.range 5).all fun o => decide (0 ≤ g k o))) : Nat) : Int)), (7, .int .i64 (n : Int)), (8, .int .i64 (k : Int))], []⟩) (fun k => k ≤ n) (fun k => n - k) (0) (by kernel_rfl) (Nat.zero_le _) (by kernel_rfl) (fun k hI0 J0 hJ0 => ?_)
  cases hd1 : (decide ((k : Int) < (n : Int))) with
  | false =>
    have hp1 := of_decide_eq_false hd1
    refine run_auto [(9, .bool false)] 12 [false] [] [4] [] (st' := ⟨[(4, .int .i64 ((thoseL k (fun k => ((List.range 5).all fun o => decide (0 ≤ g k o))) : Nat) : Int))], []⟩) (acc := [(.bool false, .bool false), (.bool (decide ((k : Int) < (n : Int))), .bool false)]) (by kernel_rfl) (by kernel_rfl) ⟨rfl, (bo hd1), trivial⟩ ?_
    refine run_end (fn := f93) rfl (Nat.le_refl _) (by kernel_rfl) [] [.int .i64 ((thoseL k (fun k => ((List.range 5).all fun o => decide (0 ≤ g k o))) : Nat) : Int)] (e := []) (by kernel_rfl) trivial (fun w1 k1 h1 => ?_)
    exact ⟨by rw [show k = n by omega]; rfl, k1.keeps (fun _ h => h)⟩
  | true =>
    have hp1 := of_decide_eq_true hd1
    refine run_auto [(9, .bool true)] 18 [true] [] [1, 4, 5, 7, 8, 6, 11, 12] [] (st' := ⟨[(1, .func (.func 95) #[.agg (gc g).toArray] #[]), (4, .int .i64 0), (5, .int .i64 ((thoseL k (fun k => ((List.range 5).all fun o => decide (0 ≤ g k o))) : Nat) : Int)), (7, .int .i64 (n : Int)), (8, .int .i64 (k : Int)), (6, .int .i64 (k : Int)), (11, .func (.func 95) #[.agg (gc g).toArray] #[]), (12, .int .i64 (k : Int))], []⟩) (acc := [(.bool true, .bool true), (.bool (decide ((k : Int) < (n : Int))), .bool true)]) (by kernel_rfl) (by kernel_rfl) ⟨rfl, (bo hd1), trivial⟩ ?_
    cases hd2 : ((List.range 5).all fun o => decide (0 ≤ g k o)) with
    | false =>
      refine run_ret1 95 #[.agg (gc g).toArray, .int .i64 (k : Int)] (some 13) (.bool false) (by kernel_rfl) (fun w1 k1 h1 => (by have h := perhapsLongest_any g k (by omega) w1; rw [hd2] at h; exact h)) ?_
      refine run_auto [(18, .int .i64 ((k + 1 : Nat) : Int))] 8 [false] [] [1, 4, 5, 7, 8] [] (st' := ⟨[(1, .func (.func 95) #[.agg (gc g).toArray] #[]), (4, .int .i64 0), (5, .int .i64 ((thoseL k (fun k => ((List.range 5).all fun o => decide (0 ≤ g k o))) : Nat) : Int)), (7, .int .i64 (n : Int)), (8, .int .i64 ((k + 1 : Nat) : Int))], []⟩) (acc := [(.int .i64 (IntKind.i64.wrap ((k : Int) + 1)), .int .i64 ((k + 1 : Nat) : Int)), (.bool false, .bool false)]) (by kernel_rfl) (by kernel_rfl) ⟨(wr (by omega) (by omega)), rfl, trivial⟩ ?_
      have hj := hJ0 (k + 1) (by omega) (by omega)
      rw [(those_next (fun k => ((List.range 5).all fun o => decide (0 ≤ g k o))) k).trans (if_neg (by rw [hd2]; simp))] at hj
      exact run_round (by kernel_rfl) hj
    | true =>
      refine run_ret1 95 #[.agg (gc g).toArray, .int .i64 (k : Int)] (some 13) (.bool true) (by kernel_rfl) (fun w1 k1 h1 => (by have h := perhapsLongest_any g k (by omega) w1; rw [hd2] at h; exact h)) ?_
      refine run_auto [] 5 [true] [] [1, 4, 5, 7, 8, 14, 15] [] (st' := ⟨[(1, .func (.func 95) #[.agg (gc g).toArray] #[]), (4, .int .i64 0), (5, .int .i64 ((thoseL k (fun k => ((List.range 5).all fun o => decide (0 ≤ g k o))) : Nat) : Int)), (7, .int .i64 (n : Int)), (8, .int .i64 (k : Int)), (14, .int .i64 ((thoseL k (fun k => ((List.range 5).all fun o => decide (0 ≤ g k o))) : Nat) : Int)), (15, .int .i64 (k : Int))], []⟩) (acc := [(.bool true, .bool true)]) (by kernel_rfl) (by kernel_rfl) ⟨rfl, trivial⟩ ?_
      refine run_v (binOp .shl 98 (.int .i64 (1 : Nat)) (.int .i64 (k : Nat)) >>= fun v => pure (Next.value v)) (some 16) (.int .i64 ((1 <<< k : Nat) : Int)) (by kernel_rfl) (fun w1 k1 h1 => shl_run 1 k (by omega) (by have := shl_le (k := k) (by omega); omega)) ?_
      refine run_auto [(17, .int .i64 (((thoseL k (fun k => ((List.range 5).all fun o => decide (0 ≤ g k o))) : Nat) ||| (1 <<< k : Nat) : Nat) : Int)), (18, .int .i64 ((k + 1 : Nat) : Int))] 8 [] [] [1, 4, 5, 7, 8] [] (st' := ⟨[(1, .func (.func 95) #[.agg (gc g).toArray] #[]), (4, .int .i64 0), (5, .int .i64 (((thoseL k (fun k => ((List.range 5).all fun o => decide (0 ≤ g k o))) : Nat) ||| (1 <<< k : Nat) : Nat) : Int)), (7, .int .i64 (n : Int)), (8, .int .i64 ((k + 1 : Nat) : Int))], []⟩) (acc := [(.int .i64 (IntKind.i64.wrap ((k : Int) + 1)), .int .i64 ((k + 1 : Nat) : Int)), (.int .i64 (bits .or .i64 ((thoseL k (fun k => ((List.range 5).all fun o => decide (0 ≤ g k o))) : Nat) : Int) ((1 <<< k : Nat) : Int)), .int .i64 (((thoseL k (fun k => ((List.range 5).all fun o => decide (0 ≤ g k o))) : Nat) ||| (1 <<< k : Nat) : Nat) : Int))]) (by kernel_rfl) (by kernel_rfl) ⟨(wr (by omega) (by omega)), (or_nat (thoseL k (fun k => ((List.range 5).all fun o => decide (0 ≤ g k o))) : Nat) (1 <<< k : Nat) (by have := those_lt (n := k) (by omega) (fun k => ((List.range 5).all fun o => decide (0 ≤ g k o))); omega) (by have := shl_le (k := k) (by omega); omega)), trivial⟩ ?_
      have hj := hJ0 (k + 1) (by omega) (by omega)
      rw [(those_next (fun k => ((List.range 5).all fun o => decide (0 ≤ g k o))) k).trans (if_pos (by rw [hd2]))] at hj
      exact run_round (by kernel_rfl) hj

end Go.Proofs.Ytmiobcnccbfknaa
