/-
  WEAR: spans, sets, what one event does.
  WEAR: a block in memory; what is valid.
  WEAR: what one event does, forward and back.
  WEAR: events, one after the other.
-/
import Derived.Test.YtdehgplklgfcdaaGreatGb
import Derived.Test.YtdehgplklgfcdaaGreatRows
import Derived.Test.YtdehgplklgfcdaaGreatGc
namespace Go.Proofs.YtdehgplklgfcdaaGreat
open Go.RowKit Go.Proofs.Tryz


abbrev pe (k : Int) : List PanicEntry := [{ v := .iface 29 (.int .i64 k), recovered := false }]
def Pan (k : Int) (w : World) (e : Ending) (w' : World) : Prop := e = .panicked (pe k) ∧ Keeps w w'
/-- What must be so, or it panics with k. -/
def Need (b : Bool) (k : Int) (w : World) (e : Ending) (w' : World) : Prop := bif b then Ret (.tuple #[]) w e w' else Pan k w e w'
def erA {α : Type} (r : Sum Int α) : Int := match r with
  | .inl k => k
  | .inr _ => 0
set_option maxRecDepth 100000 in
theorem within_any (a b lo hi : Int) (w : World)  : Calls Tryz.prog 94 #[.agg #[.int .i64 a, .int .i64 b], .int .i64 lo, .int .i64 hi] w (RetB (spI (a, b) lo hi) w) := by
  refine calls_run (fn := f94) (c := (f94.body).getD .skip) [.agg #[.int .i64 a, .int .i64 b], .int .i64 lo, .int .i64 hi] func94 (by kernel_rfl) (fun _ => False) [] (fun _ h => by cases h) (List.Pairwise.nil) 24 (by kernel_rfl) (by simp) ?_
  refine run_auto [] 2 [] [] [0, 1, 2] [] (st' := ⟨[(0, .agg #[iV a, iV b]), (1, iV lo), (2, iV hi)], []⟩) (acc := []) (by kernel_rfl) (by kernel_rfl) trivial ?_
  refine run_new (aO #[iV a, iV b] 23) (fun b1 => pA b1) (some 3) (fun _ => by kernel_rfl) (fun b1 hb1 => ?_)
  cases hd1 : (decide (lo ≤ a)) with
  | false =>
    have hp1 := of_decide_eq_false hd1
    refine run_auto [(10, .bool false)] 23 [] [0] [6] [] (st' := ⟨[(6, .bool false)], []⟩) (acc := [(.bool (decide (lo ≤ a)), .bool false), (pA b1, pA b1)]) (by kernel_rfl) (by kernel_rfl) ⟨(bo hd1), rfl, trivial⟩ ?_
    refine run_end (fn := f94) rfl (Nat.le_refl _) (by kernel_rfl) [] [.bool false] (e := []) (by kernel_rfl) trivial (fun w1 k1 h1 => ?_)
    exact ⟨by simp only [resVal]; congr 2; simp only [spI]; simp; omega, k1.keeps (fun _ h => h)⟩
  | true =>
    have hp1 := of_decide_eq_true hd1
    cases hd2 : (decide (a ≤ b)) with
    | false =>
      have hp2 := of_decide_eq_false hd2
      refine run_auto [(10, .bool true), (16, .bool false)] 23 [] [0, 0, 0] [6] [] (st' := ⟨[(6, .bool false)], []⟩) (acc := [(.bool (decide (a ≤ b)), .bool false), (pA b1, pA b1), (pA b1, pA b1), (.bool (decide (lo ≤ a)), .bool true), (pA b1, pA b1)]) (by kernel_rfl) (by kernel_rfl) ⟨(bo hd2), rfl, rfl, (bo hd1), rfl, trivial⟩ ?_
      refine run_end (fn := f94) rfl (Nat.le_refl _) (by kernel_rfl) [] [.bool false] (e := []) (by kernel_rfl) trivial (fun w1 k1 h1 => ?_)
      exact ⟨by simp only [resVal]; congr 2; simp only [spI]; simp; omega, k1.keeps (fun _ h => h)⟩
    | true =>
      have hp2 := of_decide_eq_true hd2
      cases hd3 : (decide (b ≤ hi)) with
      | false =>
        have hp3 := of_decide_eq_false hd3
        refine run_auto [(10, .bool true), (16, .bool true), (22, .bool false)] 23 [] [0, 0, 0, 0] [6] [] (st' := ⟨[(6, .bool false)], []⟩) (acc := [(.bool (decide (b ≤ hi)), .bool false), (pA b1, pA b1), (.bool (decide (a ≤ b)), .bool true), (pA b1, pA b1), (pA b1, pA b1), (.bool (decide (lo ≤ a)), .bool true), (pA b1, pA b1)]) (by kernel_rfl) (by kernel_rfl) ⟨(bo hd3), rfl, (bo hd2), rfl, rfl, (bo hd1), rfl, trivial⟩ ?_
        refine run_end (fn := f94) rfl (Nat.le_refl _) (by kernel_rfl) [] [.bool false] (e := []) (by kernel_rfl) trivial (fun w1 k1 h1 => ?_)
        exact ⟨by simp only [resVal]; congr 2; simp only [spI]; simp; omega, k1.keeps (fun _ h => h)⟩
      | true =>
        have hp3 := of_decide_eq_true hd3
        refine run_auto [(10, .bool true), (16, .bool true), (22, .bool true)] 23 [] [0, 0, 0, 0] [6] [] (st' := ⟨[(6, .bool true)], []⟩) (acc := [(.bool (decide (b ≤ hi)), .bool true), (pA b1, pA b1), (.bool (decide (a ≤ b)), .bool true), (pA b1, pA b1), (pA b1, pA b1), (.bool (decide (lo ≤ a)), .bool true), (pA b1, pA b1)]) (by kernel_rfl) (by kernel_rfl) ⟨(bo hd3), rfl, (bo hd2), rfl, rfl, (bo hd1), rfl, trivial⟩ ?_
        refine run_end (fn := f94) rfl (Nat.le_refl _) (by kernel_rfl) [] [.bool true] (e := []) (by kernel_rfl) trivial (fun w1 k1 h1 => ?_)
        exact ⟨by simp only [resVal]; congr 2; simp only [spI]; simp; omega, k1.keeps (fun _ h => h)⟩

set_option maxRecDepth 100000 in
theorem exactly_any (n : Int) (w : World)  : Calls Tryz.prog 102 #[.int .i64 n] w (Ret (.agg #[.int .i64 n, .int .i64 n]) w) := by
  refine calls_run (fn := f102) (c := (f102.body).getD .skip) [.int .i64 n] func102 (by kernel_rfl) (fun _ => False) [] (fun _ h => by cases h) (List.Pairwise.nil) 7 (by kernel_rfl) (by simp) ?_
  refine run_auto [] 2 [] [] [0] [] (st' := ⟨[(0, iV n)], []⟩) (acc := []) (by kernel_rfl) (by kernel_rfl) trivial ?_
  refine run_new (aO #[iV 0, iV 0] 75) (fun b1 => pA b1) (some 2) (fun _ => by kernel_rfl) (fun b1 hb1 => ?_)
  refine run_auto [] 9 [] [0] [2] [0] (st' := ⟨[(2, pA b1)], [(b1, aO #[iV n, iV n] 75)]⟩) (acc := [(pA b1, pA b1)]) (by kernel_rfl) (by kernel_rfl) ⟨rfl, trivial⟩ ?_
  refine run_end (fn := f102) rfl (Nat.le_refl _) (by kernel_rfl) [0] [.agg #[iV n, iV n]] (e := [(pA b1, pA b1)]) (by kernel_rfl) ⟨rfl, trivial⟩ (fun w1 k1 h1 => ?_)
  exact ⟨rfl, k1.keeps (fun _ h => h)⟩

set_option maxRecDepth 100000 in
theorem possible_any (a b : Int) (w : World)  : Calls Tryz.prog 104 #[.agg #[.int .i64 a, .int .i64 b]] w (RetB (possS (a, b)) w) := by
  refine calls_run (fn := f104) (c := (f104.body).getD .skip) [.agg #[.int .i64 a, .int .i64 b]] func104 (by kernel_rfl) (fun _ => False) [] (fun _ h => by cases h) (List.Pairwise.nil) 10 (by kernel_rfl) (by simp) ?_
  refine run_auto [] 2 [] [] [0] [] (st' := ⟨[(0, .agg #[iV a, iV b])], []⟩) (acc := []) (by kernel_rfl) (by kernel_rfl) trivial ?_
  refine run_new (aO #[iV a, iV b] 75) (fun b1 => pA b1) (some 1) (fun _ => by kernel_rfl) (fun b1 hb1 => ?_)
  refine run_auto [] 13 [] [0, 0] [2] [] (st' := ⟨[(2, .bool (decide (a ≤ b)))], []⟩) (acc := [(pA b1, pA b1), (pA b1, pA b1)]) (by kernel_rfl) (by kernel_rfl) ⟨rfl, rfl, trivial⟩ ?_
  refine run_end (fn := f104) rfl (Nat.le_refl _) (by kernel_rfl) [] [.bool (decide (a ≤ b))] (e := []) (by kernel_rfl) trivial (fun w1 k1 h1 => ?_)
  exact ⟨rfl, k1.keeps (fun _ h => h)⟩

set_option maxRecDepth 100000 in
theorem moved_any (a b c d : Int) (al : -4000 ≤ a) (ah : a ≤ 4000) (bl : -4000 ≤ b) (bh : b ≤ 4000) (cl : -4000 ≤ c) (ch : c ≤ 4000) (dl : -4000 ≤ d) (dh : d ≤ 4000) (w : World)  : Calls Tryz.prog 127 #[.agg #[.int .i64 a, .int .i64 b], .agg #[.int .i64 c, .int .i64 d]] w (Ret (.agg #[.int .i64 (movS (a, b) (c, d)).1, .int .i64 (movS (a, b) (c, d)).2]) w) := by
  refine calls_run (fn := f127) (c := (f127.body).getD .skip) [.agg #[.int .i64 a, .int .i64 b], .agg #[.int .i64 c, .int .i64 d]] func127 (by kernel_rfl) (fun _ => False) [] (fun _ h => by cases h) (List.Pairwise.nil) 23 (by kernel_rfl) (by simp) ?_
  refine run_auto [] 2 [] [] [0, 1] [] (st' := ⟨[(0, .agg #[iV a, iV b]), (1, .agg #[iV c, iV d])], []⟩) (acc := []) (by kernel_rfl) (by kernel_rfl) trivial ?_
  refine run_new (aO #[iV a, iV b] 75) (fun b1 => pA b1) (some 2) (fun _ => by kernel_rfl) (fun b1 hb1 => ?_)
  refine run_new (aO #[iV c, iV d] 23) (fun b2 => pA b2) (some 3) (fun _ => by kernel_rfl) (fun b2 hb2 => ?_)
  refine run_new (aO #[iV 0, iV 0] 75) (fun b3 => pA b3) (some 4) (fun _ => by kernel_rfl) (fun b3 hb3 => ?_)
  refine run_auto [] 5 [] [2] [2, 3, 4, 5] [0, 1, 2] (st' := ⟨[(2, pA b1), (3, pA b2), (4, pA b3), (5, .agg #[iV a, iV b])], [(b3, aO #[iV 0, iV 0] 75), (b2, aO #[iV c, iV d] 23), (b1, aO #[iV a, iV b] 75)]⟩) (acc := [(pA b1, pA b1)]) (by kernel_rfl) (by kernel_rfl) ⟨rfl, trivial⟩ ?_
  cases hd1 : (possS (a, b)) with
  | false =>
    refine run_ret1 104 #[.agg #[iV a, iV b]] (some 6) (.bool false) (by kernel_rfl) (fun w1 k1 h1 => (by have h := possible_any a b w1; rw [hd1] at h; exact h)) ?_
    refine run_auto [(7, .bool true)] 8 [true] [2, 0] [2, 3, 4] [0, 1, 2] (st' := ⟨[(2, pA b1), (3, pA b2), (4, pA b3)], [(b3, aO #[iV a, iV b] 75), (b2, aO #[iV c, iV d] 23), (b1, aO #[iV a, iV b] 75)]⟩) (acc := [(pA b3, pA b3), (pA b1, pA b1), (.bool true, .bool true), (.bool true, .bool true)]) (by kernel_rfl) (by kernel_rfl) ⟨rfl, rfl, rfl, rfl, trivial⟩ ?_
    refine run_end (fn := f127) rfl (Nat.le_refl _) (by kernel_rfl) [0] [.agg #[iV a, iV b]] (e := [(pA b3, pA b3)]) (by kernel_rfl) ⟨rfl, trivial⟩ (fun w1 k1 h1 => ?_)
    exact ⟨by unfold movS; rw [hd1]; rfl, k1.keeps (fun _ h => h)⟩
  | true =>
    refine run_ret1 104 #[.agg #[iV a, iV b]] (some 6) (.bool true) (by kernel_rfl) (fun w1 k1 h1 => (by have h := possible_any a b w1; rw [hd1] at h; exact h)) ?_
    refine run_auto [(7, .bool false), (14, iV (a + c)), (20, iV (b + d))] 22 [false] [2, 1, 2, 1, 0] [4] [0] (st' := ⟨[(4, pA b3)], [(b3, aO #[iV (a + c), iV (b + d)] 75)]⟩) (acc := [(pA b3, pA b3), (iV (IntKind.i64.wrap (b + d)), iV (b + d)), (pA b2, pA b2), (pA b1, pA b1), (iV (IntKind.i64.wrap (a + c)), iV (a + c)), (pA b2, pA b2), (pA b1, pA b1), (.bool false, .bool false), (.bool false, .bool false)]) (by kernel_rfl) (by kernel_rfl) ⟨rfl, (wr (by omega) (by omega)), rfl, rfl, (wr (by omega) (by omega)), rfl, rfl, rfl, rfl, trivial⟩ ?_
    refine run_end (fn := f127) rfl (Nat.le_refl _) (by kernel_rfl) [0] [.agg #[iV (a + c), iV (b + d)]] (e := [(pA b3, pA b3)]) (by kernel_rfl) ⟨rfl, trivial⟩ (fun w1 k1 h1 => ?_)
    exact ⟨by unfold movS; rw [hd1]; rfl, k1.keeps (fun _ h => h)⟩

set_option maxRecDepth 100000 in
theorem less_any (a b c d : Int) (al : -4000 ≤ a) (ah : a ≤ 4000) (bl : -4000 ≤ b) (bh : b ≤ 4000) (cl : -4000 ≤ c) (ch : c ≤ 4000) (dl : -4000 ≤ d) (dh : d ≤ 4000) (w : World)  : Calls Tryz.prog 113 #[.agg #[.int .i64 a, .int .i64 b], .agg #[.int .i64 c, .int .i64 d]] w (Ret (.agg #[.int .i64 (movS (a, b) (negS (c, d))).1, .int .i64 (movS (a, b) (negS (c, d))).2]) w) := by
  refine calls_run (fn := f113) (c := (f113.body).getD .skip) [.agg #[.int .i64 a, .int .i64 b], .agg #[.int .i64 c, .int .i64 d]] func113 (by kernel_rfl) (fun _ => False) [] (fun _ h => by cases h) (List.Pairwise.nil) 14 (by kernel_rfl) (by simp) ?_
  refine run_auto [] 2 [] [] [0, 1] [] (st' := ⟨[(0, .agg #[iV a, iV b]), (1, .agg #[iV c, iV d])], []⟩) (acc := []) (by kernel_rfl) (by kernel_rfl) trivial ?_
  refine run_new (aO #[iV a, iV b] 75) (fun b1 => pA b1) (some 2) (fun _ => by kernel_rfl) (fun b1 hb1 => ?_)
  refine run_new (aO #[iV c, iV d] 23) (fun b2 => pA b2) (some 3) (fun _ => by kernel_rfl) (fun b2 hb2 => ?_)
  refine run_new (aO #[iV 0, iV 0] 75) (fun b3 => pA b3) (some 4) (fun _ => by kernel_rfl) (fun b3 hb3 => ?_)
  refine run_auto [(8, iV (-d)), (11, iV (-c))] 11 [] [2, 1, 1] [4, 5, 12] [0] (st' := ⟨[(4, pA b3), (5, .agg #[iV a, iV b]), (12, .agg #[iV (-d), iV (-c)])], [(b3, aO #[iV 0, iV 0] 75)]⟩) (acc := [(iV (IntKind.i64.wrap (0 - c)), iV (-c)), (pA b2, pA b2), (iV (IntKind.i64.wrap (0 - d)), iV (-d)), (pA b2, pA b2), (pA b1, pA b1)]) (by kernel_rfl) (by kernel_rfl) ⟨((wr (by omega) (by omega)).trans (io (by omega))), rfl, ((wr (by omega) (by omega)).trans (io (by omega))), rfl, rfl, trivial⟩ ?_
  refine run_ret1 127 #[.agg #[iV a, iV b], .agg #[iV (-d), iV (-c)]] (some 13) (.agg #[iV ((movS (a, b) ((-d), (-c))).1), iV ((movS (a, b) ((-d), (-c))).2)]) (by kernel_rfl) (fun w1 k1 h1 => moved_any a b (-d) (-c) (by omega) (by omega) (by omega) (by omega) (by omega) (by omega) (by omega) (by omega) w1) ?_
  refine run_auto [] 2 [] [0] [4] [0] (st' := ⟨[(4, pA b3)], [(b3, aO #[iV ((movS (a, b) ((-d), (-c))).1), iV ((movS (a, b) ((-d), (-c))).2)] 75)]⟩) (acc := [(pA b3, pA b3)]) (by kernel_rfl) (by kernel_rfl) ⟨rfl, trivial⟩ ?_
  refine run_end (fn := f113) rfl (Nat.le_refl _) (by kernel_rfl) [0] [.agg #[iV ((movS (a, b) ((-d), (-c))).1), iV ((movS (a, b) ((-d), (-c))).2)]] (e := [(pA b3, pA b3)]) (by kernel_rfl) ⟨rfl, trivial⟩ (fun w1 k1 h1 => ?_)
  exact ⟨rfl, k1.keeps (fun _ h => h)⟩

set_option maxRecDepth 100000 in
theorem more_any (a b c d : Int) (al : -4000 ≤ a) (ah : a ≤ 4000) (bl : -4000 ≤ b) (bh : b ≤ 4000) (cl : -4000 ≤ c) (ch : c ≤ 4000) (dl : -4000 ≤ d) (dh : d ≤ 4000) (w : World)  : Calls Tryz.prog 158 #[.agg #[.int .i64 a, .int .i64 b], .agg #[.int .i64 c, .int .i64 d]] w (Ret (.agg #[.int .i64 (movS (a, b) (c, d)).1, .int .i64 (movS (a, b) (c, d)).2]) w) := by
  refine calls_run (fn := f158) (c := (f158.body).getD .skip) [.agg #[.int .i64 a, .int .i64 b], .agg #[.int .i64 c, .int .i64 d]] func158 (by kernel_rfl) (fun _ => False) [] (fun _ h => by cases h) (List.Pairwise.nil) 8 (by kernel_rfl) (by simp) ?_
  refine run_auto [] 2 [] [] [0, 1] [] (st' := ⟨[(0, .agg #[iV a, iV b]), (1, .agg #[iV c, iV d])], []⟩) (acc := []) (by kernel_rfl) (by kernel_rfl) trivial ?_
  refine run_new (aO #[iV a, iV b] 75) (fun b1 => pA b1) (some 2) (fun _ => by kernel_rfl) (fun b1 hb1 => ?_)
  refine run_new (aO #[iV c, iV d] 23) (fun b2 => pA b2) (some 3) (fun _ => by kernel_rfl) (fun b2 hb2 => ?_)
  refine run_new (aO #[iV 0, iV 0] 75) (fun b3 => pA b3) (some 4) (fun _ => by kernel_rfl) (fun b3 hb3 => ?_)
  refine run_auto [] 5 [] [2, 1] [4, 5, 6] [0] (st' := ⟨[(4, pA b3), (5, .agg #[iV a, iV b]), (6, .agg #[iV c, iV d])], [(b3, aO #[iV 0, iV 0] 75)]⟩) (acc := [(pA b2, pA b2), (pA b1, pA b1)]) (by kernel_rfl) (by kernel_rfl) ⟨rfl, rfl, trivial⟩ ?_
  refine run_ret1 127 #[.agg #[iV a, iV b], .agg #[iV c, iV d]] (some 7) (.agg #[iV ((movS (a, b) (c, d)).1), iV ((movS (a, b) (c, d)).2)]) (by kernel_rfl) (fun w1 k1 h1 => moved_any a b c d (by omega) (by omega) (by omega) (by omega) (by omega) (by omega) (by omega) (by omega) w1) ?_
  refine run_auto [] 2 [] [0] [4] [0] (st' := ⟨[(4, pA b3)], [(b3, aO #[iV ((movS (a, b) (c, d)).1), iV ((movS (a, b) (c, d)).2)] 75)]⟩) (acc := [(pA b3, pA b3)]) (by kernel_rfl) (by kernel_rfl) ⟨rfl, trivial⟩ ?_
  refine run_end (fn := f158) rfl (Nat.le_refl _) (by kernel_rfl) [0] [.agg #[iV ((movS (a, b) (c, d)).1), iV ((movS (a, b) (c, d)).2)]] (e := [(pA b3, pA b3)]) (by kernel_rfl) ⟨rfl, trivial⟩ (fun w1 k1 h1 => ?_)
  exact ⟨rfl, k1.keeps (fun _ h => h)⟩

set_option maxRecDepth 100000 in
theorem many_any (n c d : Int) (m1 : -4000 ≤ n * c) (m2 : n * c ≤ 4000) (m3 : -4000 ≤ n * d) (m4 : n * d ≤ 4000) (w : World)  : Calls Tryz.prog 114 #[.int .i64 n, .agg #[.int .i64 c, .int .i64 d]] w (Ret (.agg #[.int .i64 (manS n (c, d)).1, .int .i64 (manS n (c, d)).2]) w) := by
  refine calls_run (fn := f114) (c := (f114.body).getD .skip) [.int .i64 n, .agg #[.int .i64 c, .int .i64 d]] func114 (by kernel_rfl) (fun _ => False) [] (fun _ h => by cases h) (List.Pairwise.nil) 14 (by kernel_rfl) (by simp) ?_
  refine run_auto [] 2 [] [] [0, 1] [] (st' := ⟨[(0, iV n), (1, .agg #[iV c, iV d])], []⟩) (acc := []) (by kernel_rfl) (by kernel_rfl) trivial ?_
  refine run_new (aO #[iV c, iV d] 23) (fun b1 => pA b1) (some 3) (fun _ => by kernel_rfl) (fun b1 hb1 => ?_)
  refine run_new (aO #[iV 0, iV 0] 23) (fun b2 => pA b2) (some 4) (fun _ => by kernel_rfl) (fun b2 hb2 => ?_)
  refine run_auto [(8, iV (n * c)), (12, iV (n * d))] 14 [] [1, 1, 0] [4] [0] (st' := ⟨[(4, pA b2)], [(b2, aO #[iV (n * c), iV (n * d)] 23)]⟩) (acc := [(pA b2, pA b2), (iV (IntKind.i64.wrap (n * d)), iV (n * d)), (pA b1, pA b1), (iV (IntKind.i64.wrap (n * c)), iV (n * c)), (pA b1, pA b1)]) (by kernel_rfl) (by kernel_rfl) ⟨rfl, (wr (by omega) (by omega)), rfl, (wr (by omega) (by omega)), rfl, trivial⟩ ?_
  refine run_end (fn := f114) rfl (Nat.le_refl _) (by kernel_rfl) [0] [.agg #[iV (n * c), iV (n * d)]] (e := [(pA b2, pA b2)]) (by kernel_rfl) ⟨rfl, trivial⟩ (fun w1 k1 h1 => ?_)
  exact ⟨rfl, k1.keeps (fun _ h => h)⟩

set_option maxRecDepth 100000 in
theorem worn_any (a b c d n : Int) (al : -4000 ≤ a) (ah : a ≤ 4000) (bl : -4000 ≤ b) (bh : b ≤ 4000) (m1 : -4000 ≤ n * c) (m2 : n * c ≤ 4000) (m3 : -4000 ≤ n * d) (m4 : n * d ≤ 4000) (w : World)  : Calls Tryz.prog 74 #[.agg #[.int .i64 a, .int .i64 b], .agg #[.int .i64 c, .int .i64 d], .int .i64 n] w (Ret (.agg #[.int .i64 (movS (a, b) (negS (manS n (c, d)))).1, .int .i64 (movS (a, b) (negS (manS n (c, d)))).2]) w) := by
  refine calls_run (fn := f74) (c := (f74.body).getD .skip) [.agg #[.int .i64 a, .int .i64 b], .agg #[.int .i64 c, .int .i64 d], .int .i64 n] func74 (by kernel_rfl) (fun _ => False) [] (fun _ h => by cases h) (List.Pairwise.nil) 12 (by kernel_rfl) (by simp) ?_
  refine run_auto [] 2 [] [] [0, 1, 2] [] (st' := ⟨[(0, .agg #[iV a, iV b]), (1, .agg #[iV c, iV d]), (2, iV n)], []⟩) (acc := []) (by kernel_rfl) (by kernel_rfl) trivial ?_
  refine run_new (aO #[iV a, iV b] 75) (fun b1 => pA b1) (some 3) (fun _ => by kernel_rfl) (fun b1 hb1 => ?_)
  refine run_new (aO #[iV c, iV d] 23) (fun b2 => pA b2) (some 4) (fun _ => by kernel_rfl) (fun b2 hb2 => ?_)
  refine run_new (aO #[iV 0, iV 0] 75) (fun b3 => pA b3) (some 6) (fun _ => by kernel_rfl) (fun b3 hb3 => ?_)
  refine run_auto [] 2 [] [] [2, 3, 4, 6] [0, 1, 2] (st' := ⟨[(2, iV n), (3, pA b1), (4, pA b2), (6, pA b3)], [(b3, aO #[iV 0, iV 0] 75), (b2, aO #[iV c, iV d] 23), (b1, aO #[iV a, iV b] 75)]⟩) (acc := []) (by kernel_rfl) (by kernel_rfl) trivial ?_
  refine draw 6 [{ val := fun _ => .agg #[iV a, iV b], slots := [3], reads := [2] },
      { val := fun _ => iV n, slots := [2] },
      { val := fun _ => .agg #[iV c, iV d], slots := [4], reads := [1] },
      { val := fun _ => .agg #[iV (n * c), iV (n * d)], slots := [8, 9] },
      { val := fun _ => .agg #[iV ((movS (a, b) (negS ((n * c), (n * d)))).1), iV ((movS (a, b) (negS ((n * c), (n * d)))).2)], slots := [7, 10] },
      { upd := [(0, fun l => aO #[iV ((movS (a, b) (negS ((n * c), (n * d)))).1), iV ((movS (a, b) (negS ((n * c), (n * d)))).2)] 75)], slots := [6, 11], reads := [0] }] [[], [], [], [1, 2], [0, 1, 2, 3], [0, 1, 2, 3, 4]] (by kernel_rfl) (by kernel_rfl) (by kernel_rfl) (by kernel_rfl) [6] [0] (by kernel_rfl)
      ⟨⟨⟨⟨⟨⟨trivial,
      tri_quiet (fun β => []) [0] [0] (fun β => [(pA b1, pA b1)]) (by kernel_rfl) (fun β extra => by kernel_rfl) (by kernel_rfl) (fun β => ⟨rfl, trivial⟩)⟩,
      tri_quiet (fun β => []) [] [] (fun β => []) (by kernel_rfl) (fun β extra => by kernel_rfl) (by kernel_rfl) (fun β => trivial)⟩,
      tri_quiet (fun β => []) [0] [0] (fun β => [(pA b2, pA b2)]) (by kernel_rfl) (fun β extra => by kernel_rfl) (by kernel_rfl) (fun β => ⟨rfl, trivial⟩)⟩,
      tri_call 114 (fun β => #[iV n, .agg #[iV c, iV d]]) (by kernel_rfl) (fun β extra => by kernel_rfl) (fun β => by kernel_rfl) (fun β w1 k1 h1 => many_any n c d (by omega) (by omega) (by omega) (by omega) w1)⟩,
      tri_call 113 (fun β => #[.agg #[iV a, iV b], .agg #[iV (n * c), iV (n * d)]]) (by kernel_rfl) (fun β extra => by kernel_rfl) (fun β => by kernel_rfl) (fun β w1 k1 h1 => less_any a b (n * c) (n * d) (by omega) (by omega) (by omega) (by omega) (by omega) (by omega) (by omega) (by omega) w1)⟩,
      tri_quiet (fun β => []) [0] [0] (fun β => [(pA b3, pA b3)]) (by kernel_rfl) (fun β extra => by kernel_rfl) (by kernel_rfl) (fun β => ⟨rfl, trivial⟩)⟩
      (fun β => ⟨[(6, pA b3)], [(b3, aO #[iV ((movS (a, b) (negS ((n * c), (n * d)))).1), iV ((movS (a, b) (negS ((n * c), (n * d)))).2)] 75)]⟩) (fun β => by kernel_rfl) (fun β4 => ?_)
  refine run_end (fn := f74) rfl (Nat.le_refl _) (by kernel_rfl) [0] [.agg #[iV ((movS (a, b) (negS ((n * c), (n * d)))).1), iV ((movS (a, b) (negS ((n * c), (n * d)))).2)]] (e := [(pA b3, pA b3)]) (by kernel_rfl) ⟨rfl, trivial⟩ (fun w1 k1 h1 => ?_)
  exact ⟨rfl, k1.keeps (fun _ h => h)⟩

set_option maxRecDepth 100000 in
theorem cut_any (bc : Nat) (a b c d : Int) (w : World) (hb : w.heap[bc]? = some (.cells #[.int .i64 c, .int .i64 d] 75 (0, 0))) : Calls Tryz.prog 111 #[.agg #[.int .i64 a, .int .i64 b], .slice (some ⟨bc, 0, none⟩) 1 1] w (Ret (.agg #[.int .i64 (cutS (a, b) (c, d)).1, .int .i64 (cutS (a, b) (c, d)).2]) w) := by
  refine calls_run (fn := f111) (c := (f111.body).getD .skip) [.agg #[.int .i64 a, .int .i64 b], .slice (some ⟨bc, 0, none⟩) 1 1] func111 (by kernel_rfl) (fun _ => False) [] (fun _ h => by cases h) (List.Pairwise.nil) 33 (by kernel_rfl) (by simp) ?_
  refine run_auto [] 2 [] [] [0, 1] [] (st' := ⟨[(0, .agg #[iV a, iV b]), (1, sV bc 1 1)], []⟩) (acc := []) (by kernel_rfl) (by kernel_rfl) trivial ?_
  refine run_new (aO #[iV a, iV b] 75) (fun b1 => pA b1) (some 2) (fun _ => by kernel_rfl) (fun b1 hb1 => ?_)
  refine run_new (aO #[iV 0, iV 0] 75) (fun b2 => pA b2) (some 4) (fun _ => by kernel_rfl) (fun b2 hb2 => ?_)
  refine run_auto [] 9 [] [] [2, 4, 7, 8, 9] [0, 1] (st' := ⟨[(2, pA b1), (4, pA b2), (7, sV bc 1 1), (8, iV 1), (9, iV 0)], [(b2, aO #[iV 0, iV 0] 75), (b1, aO #[iV a, iV b] 75)]⟩) (acc := []) (by kernel_rfl) (by kernel_rfl) trivial ?_
  refine run_once (by kernel_rfl) (fun J0 hJ0 => ?_)
  refine run_auto [(10, .bool true)] 12 [true] [] [2, 4, 7, 8, 9, 10, 11] [0, 1] (st' := ⟨[(2, pA b1), (4, pA b2), (7, sV bc 1 1), (8, iV 1), (9, iV 0), (10, .bool true), (11, pA bc)], [(b2, aO #[iV 0, iV 0] 75), (b1, aO #[iV a, iV b] 75)]⟩) (acc := [(.bool true, .bool true), (.bool true, .bool true)]) (by kernel_rfl) (by kernel_rfl) ⟨rfl, rfl, trivial⟩ ?_
  refine run_v (Instr.loadAt 75 (pA bc) >>= fun v => pure (Next.value v)) (some 12) (.agg #[iV c, iV d]) (by kernel_rfl) (fun w1 k1 h1 => load_in (base := 0) (off := 0) k1 (fun h => h) [iV c, iV d] (fun i u hi => by rw [Nat.zero_add]; exact cells_of_heap hb i u hi) (by kernel_rfl)) ?_
  refine run_new (aO #[iV 0, iV 0] 75) (fun b3 => pA b3) (some 6) (fun _ => by kernel_rfl) (fun b3 hb3 => ?_)
  refine run_auto [(19, iV (max a c)), (28, iV (min b d)), (31, iV 1)] 32 [] [0, 2, 0, 2, 2, 0, 2] [2, 4, 7, 8, 9, 10, 11, 12, 6, 13, 14, 15, 16, 17, 18, 19, 20, 21, 22, 23, 24, 25, 26, 27, 28, 29, 30, 31] [0, 1, 2] (st' := ⟨[(2, pA b1), (4, pA b2), (7, sV bc 1 1), (8, iV 1), (9, iV 1), (10, .bool true), (11, pA bc), (12, .agg #[iV c, iV d]), (6, pA b3), (13, pA b1), (14, pA b1), (15, iV a), (16, pA b3), (17, pA b3), (18, iV c), (19, iV (max a c)), (20, pA b1), (21, pA b1), (22, pA b1), (23, .pointer (some ⟨b1, 1, none⟩)), (24, iV b), (25, pA b3), (26, .pointer (some ⟨b3, 1, none⟩)), (27, iV d), (28, iV (min b d)), (29, pA b1), (30, .pointer (some ⟨b1, 1, none⟩)), (31, iV 1)], [(b3, aO #[iV c, iV d] 75), (b2, aO #[iV 0, iV 0] 75), (b1, aO #[iV (max a c), iV (min b d)] 75)]⟩) (acc := [(iV 1, iV 1), (pA b1, pA b1), (iV (if d < b then d else b), iV (min b d)), (pA b3, pA b3), (pA b1, pA b1), (pA b1, pA b1), (iV (if c > a then c else a), iV (max a c)), (pA b3, pA b3), (pA b1, pA b1), (pA b3, pA b3)]) (by kernel_rfl) (by kernel_rfl) ⟨rfl, rfl, (mn _ _ _), rfl, rfl, rfl, (mx _ _ _), rfl, rfl, rfl, trivial⟩ ?_
  refine run_round (by kernel_rfl) (hJ0 _ ?_)
  refine run_auto [(10, .bool false)] 12 [false] [2, 1] [4] [1] (st' := ⟨[(4, pA b2)], [(b2, aO #[iV (max a c), iV (min b d)] 75)]⟩) (acc := [(pA b2, pA b2), (pA b1, pA b1), (.bool false, .bool false), (.bool false, .bool false)]) (by kernel_rfl) (by kernel_rfl) ⟨rfl, rfl, rfl, rfl, trivial⟩ ?_
  refine run_end (fn := f111) rfl (Nat.le_refl _) (by kernel_rfl) [0] [.agg #[iV (max a c), iV (min b d)]] (e := [(pA b2, pA b2)]) (by kernel_rfl) ⟨rfl, trivial⟩ (fun w1 k1 h1 => ?_)
  exact ⟨rfl, k1.keeps (fun _ h => h)⟩


def joiS (a b : Sp) : Sp := (min a.1 b.1, max a.2 b.2)
set_option maxRecDepth 100000 in
theorem join_any (a b c d : Int) (w : World)  : Calls Tryz.prog 105 #[.agg #[.int .i64 a, .int .i64 b], .agg #[.int .i64 c, .int .i64 d]] w (Ret (.agg #[.int .i64 (joiS (a, b) (c, d)).1, .int .i64 (joiS (a, b) (c, d)).2]) w) := by
  refine calls_run (fn := f105) (c := (f105.body).getD .skip) [.agg #[.int .i64 a, .int .i64 b], .agg #[.int .i64 c, .int .i64 d]] func105 (by kernel_rfl) (fun _ => False) [] (fun _ h => by cases h) (List.Pairwise.nil) 16 (by kernel_rfl) (by simp) ?_
  refine run_auto [] 2 [] [] [0, 1] [] (st' := ⟨[(0, .agg #[iV a, iV b]), (1, .agg #[iV c, iV d])], []⟩) (acc := []) (by kernel_rfl) (by kernel_rfl) trivial ?_
  refine run_new (aO #[iV a, iV b] 23) (fun b1 => pA b1) (some 2) (fun _ => by kernel_rfl) (fun b1 hb1 => ?_)
  refine run_new (aO #[iV c, iV d] 23) (fun b2 => pA b2) (some 3) (fun _ => by kernel_rfl) (fun b2 hb2 => ?_)
  refine run_new (aO #[iV 0, iV 0] 23) (fun b3 => pA b3) (some 4) (fun _ => by kernel_rfl) (fun b3 hb3 => ?_)
  refine run_auto [(9, iV (min a c)), (14, iV (max b d))] 16 [] [2, 1, 2, 1, 0] [4] [0] (st' := ⟨[(4, pA b3)], [(b3, aO #[iV (min a c), iV (max b d)] 23)]⟩) (acc := [(pA b3, pA b3), (iV (if d > b then d else b), iV (max b d)), (pA b2, pA b2), (pA b1, pA b1), (iV (if c < a then c else a), iV (min a c)), (pA b2, pA b2), (pA b1, pA b1)]) (by kernel_rfl) (by kernel_rfl) ⟨rfl, (mx _ _ _), rfl, rfl, (mn _ _ _), rfl, rfl, trivial⟩ ?_
  refine run_end (fn := f105) rfl (Nat.le_refl _) (by kernel_rfl) [0] [.agg #[iV (min a c), iV (max b d)]] (e := [(pA b3, pA b3)]) (by kernel_rfl) ⟨rfl, trivial⟩ (fun w1 k1 h1 => ?_)
  exact ⟨rfl, k1.keeps (fun _ h => h)⟩

set_option maxRecDepth 100000 in
theorem vuses_any (n : Int) (w : World)  : Calls Tryz.prog 115 #[.int .i64 n] w (RetB (decide (0 ≤ n ∧ n ≤ 20)) w) := by
  refine calls_run (fn := f115) (c := (f115.body).getD .skip) [.int .i64 n] func115 (by kernel_rfl) (fun _ => False) [] (fun _ h => by cases h) (List.Pairwise.nil) 9 (by kernel_rfl) (by simp) ?_
  cases hd1 : (decide (0 ≤ n)) with
  | false =>
    have hp1 := of_decide_eq_false hd1
    refine run_auto [(4, .bool false)] 14 [] [] [2] [] (st' := ⟨[(2, .bool false)], []⟩) (acc := [(.bool (decide (0 ≤ n)), .bool false)]) (by kernel_rfl) (by kernel_rfl) ⟨(bo hd1), trivial⟩ ?_
    refine run_end (fn := f115) rfl (Nat.le_refl _) (by kernel_rfl) [] [.bool false] (e := []) (by kernel_rfl) trivial (fun w1 k1 h1 => ?_)
    exact ⟨by simp only [resVal]; congr 2; simp; omega, k1.keeps (fun _ h => h)⟩
  | true =>
    have hp1 := of_decide_eq_true hd1
    cases hd2 : (decide (n ≤ 20)) with
    | false =>
      have hp2 := of_decide_eq_false hd2
      refine run_auto [(4, .bool true), (7, .bool false)] 14 [] [] [2] [] (st' := ⟨[(2, .bool false)], []⟩) (acc := [(.bool (decide (n ≤ 20)), .bool false), (.bool (decide (0 ≤ n)), .bool true)]) (by kernel_rfl) (by kernel_rfl) ⟨(bo hd2), (bo hd1), trivial⟩ ?_
      refine run_end (fn := f115) rfl (Nat.le_refl _) (by kernel_rfl) [] [.bool false] (e := []) (by kernel_rfl) trivial (fun w1 k1 h1 => ?_)
      exact ⟨by simp only [resVal]; congr 2; simp; omega, k1.keeps (fun _ h => h)⟩
    | true =>
      have hp2 := of_decide_eq_true hd2
      refine run_auto [(4, .bool true), (7, .bool true)] 14 [] [] [2] [] (st' := ⟨[(2, .bool true)], []⟩) (acc := [(.bool (decide (n ≤ 20)), .bool true), (.bool (decide (0 ≤ n)), .bool true)]) (by kernel_rfl) (by kernel_rfl) ⟨(bo hd2), (bo hd1), trivial⟩ ?_
      refine run_end (fn := f115) rfl (Nat.le_refl _) (by kernel_rfl) [] [.bool true] (e := []) (by kernel_rfl) trivial (fun w1 k1 h1 => ?_)
      exact ⟨by simp only [resVal]; congr 2; simp; omega, k1.keeps (fun _ h => h)⟩

set_option maxRecDepth 100000 in
theorem vshows_any (a b : Int) (w : World)  : Calls Tryz.prog 110 #[.agg #[.int .i64 a, .int .i64 b]] w (RetB (spI (a, b) (-1000) 1000) w) := by
  refine calls_run (fn := f110) (c := (f110.body).getD .skip) [.agg #[.int .i64 a, .int .i64 b]] func110 (by kernel_rfl) (fun _ => False) [] (fun _ h => by cases h) (List.Pairwise.nil) 5 (by kernel_rfl) (by simp) ?_
  refine run_auto [] 2 [] [] [0] [] (st' := ⟨[(0, .agg #[iV a, iV b])], []⟩) (acc := []) (by kernel_rfl) (by kernel_rfl) trivial ?_
  refine run_new (aO #[iV a, iV b] 23) (fun b1 => pA b1) (some 1) (fun _ => by kernel_rfl) (fun b1 hb1 => ?_)
  refine run_auto [] 5 [] [0] [2, 3] [] (st' := ⟨[(2, .bool false), (3, .agg #[iV a, iV b])], []⟩) (acc := [(pA b1, pA b1)]) (by kernel_rfl) (by kernel_rfl) ⟨rfl, trivial⟩ ?_
  cases hd1 : (spI (a, b) (-1000) 1000) with
  | false =>
    refine run_ret1 94 #[.agg #[iV a, iV b], iV (-1000), iV 1000] (some 4) (.bool false) (by kernel_rfl) (fun w1 k1 h1 => (by have h := within_any a b (-1000) 1000 w1; rw [hd1] at h; exact h)) ?_
    refine run_auto [] 2 [] [] [2] [] (st' := ⟨[(2, .bool false)], []⟩) (acc := []) (by kernel_rfl) (by kernel_rfl) trivial ?_
    refine run_end (fn := f110) rfl (Nat.le_refl _) (by kernel_rfl) [] [.bool false] (e := []) (by kernel_rfl) trivial (fun w1 k1 h1 => ?_)
    exact ⟨rfl, k1.keeps (fun _ h => h)⟩
  | true =>
    refine run_ret1 94 #[.agg #[iV a, iV b], iV (-1000), iV 1000] (some 4) (.bool true) (by kernel_rfl) (fun w1 k1 h1 => (by have h := within_any a b (-1000) 1000 w1; rw [hd1] at h; exact h)) ?_
    refine run_auto [] 2 [] [] [2] [] (st' := ⟨[(2, .bool true)], []⟩) (acc := []) (by kernel_rfl) (by kernel_rfl) trivial ?_
    refine run_end (fn := f110) rfl (Nat.le_refl _) (by kernel_rfl) [] [.bool true] (e := []) (by kernel_rfl) trivial (fun w1 k1 h1 => ?_)
    exact ⟨rfl, k1.keeps (fun _ h => h)⟩

set_option maxRecDepth 100000 in
theorem sbelow_any (a b m : Int) (w : World)  : Calls Tryz.prog 57 #[.agg #[.int .i64 a, .int .i64 b], .int .i64 m] w (RetB (decide (b < m)) w) := by
  refine calls_run (fn := f57) (c := (f57.body).getD .skip) [.agg #[.int .i64 a, .int .i64 b], .int .i64 m] func57 (by kernel_rfl) (fun _ => False) [] (fun _ h => by cases h) (List.Pairwise.nil) 10 (by kernel_rfl) (by simp) ?_
  refine run_auto [] 2 [] [] [0, 1] [] (st' := ⟨[(0, .agg #[iV a, iV b]), (1, iV m)], []⟩) (acc := []) (by kernel_rfl) (by kernel_rfl) trivial ?_
  refine run_new (aO #[iV a, iV b] 75) (fun b1 => pA b1) (some 2) (fun _ => by kernel_rfl) (fun b1 hb1 => ?_)
  refine run_auto [] 11 [] [0] [4] [] (st' := ⟨[(4, .bool (decide (b < m)))], []⟩) (acc := [(pA b1, pA b1)]) (by kernel_rfl) (by kernel_rfl) ⟨rfl, trivial⟩ ?_
  refine run_end (fn := f57) rfl (Nat.le_refl _) (by kernel_rfl) [] [.bool (decide (b < m))] (e := []) (by kernel_rfl) trivial (fun w1 k1 h1 => ?_)
  exact ⟨rfl, k1.keeps (fun _ h => h)⟩

set_option maxRecDepth 100000 in
theorem pbelow_any (a b m : Int) (w : World)  : Calls Tryz.prog 58 #[.agg #[.int .i64 a, .int .i64 b], .int .i64 m] w (RetB (decide (a < m)) w) := by
  refine calls_run (fn := f58) (c := (f58.body).getD .skip) [.agg #[.int .i64 a, .int .i64 b], .int .i64 m] func58 (by kernel_rfl) (fun _ => False) [] (fun _ h => by cases h) (List.Pairwise.nil) 10 (by kernel_rfl) (by simp) ?_
  refine run_auto [] 2 [] [] [0, 1] [] (st' := ⟨[(0, .agg #[iV a, iV b]), (1, iV m)], []⟩) (acc := []) (by kernel_rfl) (by kernel_rfl) trivial ?_
  refine run_new (aO #[iV a, iV b] 75) (fun b1 => pA b1) (some 2) (fun _ => by kernel_rfl) (fun b1 hb1 => ?_)
  refine run_auto [] 11 [] [0] [4] [] (st' := ⟨[(4, .bool (decide (a < m)))], []⟩) (acc := [(pA b1, pA b1)]) (by kernel_rfl) (by kernel_rfl) ⟨rfl, trivial⟩ ?_
  refine run_end (fn := f58) rfl (Nat.le_refl _) (by kernel_rfl) [] [.bool (decide (a < m))] (e := []) (by kernel_rfl) trivial (fun w1 k1 h1 => ?_)
  exact ⟨rfl, k1.keeps (fun _ h => h)⟩

set_option maxRecDepth 100000 in
theorem liesIn_any (a b c d : Int) (w : World)  : Calls Tryz.prog 66 #[.agg #[.int .i64 a, .int .i64 b], .agg #[.int .i64 c, .int .i64 d]] w (RetB (decide (c ≤ a ∧ b ≤ d)) w) := by
  refine calls_run (fn := f66) (c := (f66.body).getD .skip) [.agg #[.int .i64 a, .int .i64 b], .agg #[.int .i64 c, .int .i64 d]] func66 (by kernel_rfl) (fun _ => False) [] (fun _ h => by cases h) (List.Pairwise.nil) 19 (by kernel_rfl) (by simp) ?_
  refine run_auto [] 2 [] [] [0, 1] [] (st' := ⟨[(0, .agg #[iV a, iV b]), (1, .agg #[iV c, iV d])], []⟩) (acc := []) (by kernel_rfl) (by kernel_rfl) trivial ?_
  refine run_new (aO #[iV a, iV b] 75) (fun b1 => pA b1) (some 2) (fun _ => by kernel_rfl) (fun b1 hb1 => ?_)
  refine run_new (aO #[iV c, iV d] 23) (fun b2 => pA b2) (some 3) (fun _ => by kernel_rfl) (fun b2 hb2 => ?_)
  cases hd1 : (decide (c ≤ a)) with
  | false =>
    have hp1 := of_decide_eq_false hd1
    refine run_auto [(10, .bool false)] 20 [] [0, 1] [4] [] (st' := ⟨[(4, .bool false)], []⟩) (acc := [(.bool (decide (c ≤ a)), .bool false), (pA b1, pA b1), (pA b2, pA b2)]) (by kernel_rfl) (by kernel_rfl) ⟨(bo hd1), rfl, rfl, trivial⟩ ?_
    refine run_end (fn := f66) rfl (Nat.le_refl _) (by kernel_rfl) [] [.bool false] (e := []) (by kernel_rfl) trivial (fun w1 k1 h1 => ?_)
    exact ⟨by simp only [resVal]; congr 2; simp; omega, k1.keeps (fun _ h => h)⟩
  | true =>
    have hp1 := of_decide_eq_true hd1
    cases hd2 : (decide (b ≤ d)) with
    | false =>
      have hp2 := of_decide_eq_false hd2
      refine run_auto [(10, .bool true), (17, .bool false)] 20 [] [0, 1, 1, 0] [4] [] (st' := ⟨[(4, .bool false)], []⟩) (acc := [(.bool (decide (b ≤ d)), .bool false), (pA b2, pA b2), (pA b1, pA b1), (.bool (decide (c ≤ a)), .bool true), (pA b1, pA b1), (pA b2, pA b2)]) (by kernel_rfl) (by kernel_rfl) ⟨(bo hd2), rfl, rfl, (bo hd1), rfl, rfl, trivial⟩ ?_
      refine run_end (fn := f66) rfl (Nat.le_refl _) (by kernel_rfl) [] [.bool false] (e := []) (by kernel_rfl) trivial (fun w1 k1 h1 => ?_)
      exact ⟨by simp only [resVal]; congr 2; simp; omega, k1.keeps (fun _ h => h)⟩
    | true =>
      have hp2 := of_decide_eq_true hd2
      refine run_auto [(10, .bool true), (17, .bool true)] 20 [] [0, 1, 1, 0] [4] [] (st' := ⟨[(4, .bool true)], []⟩) (acc := [(.bool (decide (b ≤ d)), .bool true), (pA b2, pA b2), (pA b1, pA b1), (.bool (decide (c ≤ a)), .bool true), (pA b1, pA b1), (pA b2, pA b2)]) (by kernel_rfl) (by kernel_rfl) ⟨(bo hd2), rfl, rfl, (bo hd1), rfl, rfl, trivial⟩ ?_
      refine run_end (fn := f66) rfl (Nat.le_refl _) (by kernel_rfl) [] [.bool true] (e := []) (by kernel_rfl) trivial (fun w1 k1 h1 => ?_)
      exact ⟨by simp only [resVal]; congr 2; simp; omega, k1.keeps (fun _ h => h)⟩

set_option maxRecDepth 100000 in
theorem meets_any (a b c d : Int) (w : World)  : Calls Tryz.prog 67 #[.agg #[.int .i64 a, .int .i64 b], .agg #[.int .i64 c, .int .i64 d]] w (RetB (possS (cutS (a, b) (c, d))) w) := by
  refine calls_run (fn := f67) (c := (f67.body).getD .skip) [.agg #[.int .i64 a, .int .i64 b], .agg #[.int .i64 c, .int .i64 d]] func67 (by kernel_rfl) (fun _ => False) [] (fun _ h => by cases h) (List.Pairwise.nil) 11 (by kernel_rfl) (by simp) ?_
  refine run_auto [] 2 [] [] [0, 1] [] (st' := ⟨[(0, .agg #[iV a, iV b]), (1, .agg #[iV c, iV d])], []⟩) (acc := []) (by kernel_rfl) (by kernel_rfl) trivial ?_
  refine run_new (aO #[iV a, iV b] 75) (fun b1 => pA b1) (some 2) (fun _ => by kernel_rfl) (fun b1 hb1 => ?_)
  refine run_new (aO #[iV c, iV d] 23) (fun b2 => pA b2) (some 3) (fun _ => by kernel_rfl) (fun b2 hb2 => ?_)
  refine run_auto [] 7 [] [1, 0] [4, 5, 7] [] (st' := ⟨[(4, .bool false), (5, .agg #[iV a, iV b]), (7, .agg #[iV c, iV d])], []⟩) (acc := [(pA b2, pA b2), (pA b1, pA b1)]) (by kernel_rfl) (by kernel_rfl) ⟨rfl, rfl, trivial⟩ ?_
  refine run_new (aO #[iV c, iV d] 75) (fun b3 => sV b3 1 1) (some 8) (fun _ => by kernel_rfl) (fun b3 hb3 => ?_)
  refine run_ret1 111 #[.agg #[iV a, iV b], sV b3 1 1] (some 9) (.agg #[iV ((cutS (a, b) (c, d)).1), iV ((cutS (a, b) (c, d)).2)]) (by kernel_rfl) (fun w1 k1 h1 => cut_any b3 a b c d w1 (h1 (b3, aO #[iV c, iV d] 75) (List.mem_of_getElem? (i := 0) (by kernel_rfl)))) ?_
  cases hd1 : (possS (cutS (a, b) (c, d))) with
  | false =>
    refine run_ret1 104 #[.agg #[iV ((cutS (a, b) (c, d)).1), iV ((cutS (a, b) (c, d)).2)]] (some 10) (.bool false) (by kernel_rfl) (fun w1 k1 h1 => (by have h := possible_any ((cutS (a, b) (c, d)).1) ((cutS (a, b) (c, d)).2) w1; rw [hd1] at h; exact h)) ?_
    refine run_auto [] 2 [] [] [4] [] (st' := ⟨[(4, .bool false)], []⟩) (acc := []) (by kernel_rfl) (by kernel_rfl) trivial ?_
    refine run_end (fn := f67) rfl (Nat.le_refl _) (by kernel_rfl) [] [.bool false] (e := []) (by kernel_rfl) trivial (fun w1 k1 h1 => ?_)
    exact ⟨rfl, k1.keeps (fun _ h => h)⟩
  | true =>
    refine run_ret1 104 #[.agg #[iV ((cutS (a, b) (c, d)).1), iV ((cutS (a, b) (c, d)).2)]] (some 10) (.bool true) (by kernel_rfl) (fun w1 k1 h1 => (by have h := possible_any ((cutS (a, b) (c, d)).1) ((cutS (a, b) (c, d)).2) w1; rw [hd1] at h; exact h)) ?_
    refine run_auto [] 2 [] [] [4] [] (st' := ⟨[(4, .bool true)], []⟩) (acc := []) (by kernel_rfl) (by kernel_rfl) trivial ?_
    refine run_end (fn := f67) rfl (Nat.le_refl _) (by kernel_rfl) [] [.bool true] (e := []) (by kernel_rfl) trivial (fun w1 k1 h1 => ?_)
    exact ⟨rfl, k1.keeps (fun _ h => h)⟩

set_option maxRecDepth 100000 in
theorem isInvalid_any (k n a b : Int) (w : World)  : Calls Tryz.prog 96 #[.agg #[.int .i64 k, .int .i64 n, .int .i64 a, .int .i64 b]] w (RetB (!vEv (k, n, a, b)) w) := by
  refine calls_run (fn := f96) (c := (f96.body).getD .skip) [.agg #[.int .i64 k, .int .i64 n, .int .i64 a, .int .i64 b]] func96 (by kernel_rfl) (fun _ => False) [] (fun _ h => by cases h) (List.Pairwise.nil) 23 (by kernel_rfl) (by simp) ?_
  refine run_auto [] 2 [] [] [0] [] (st' := ⟨[(0, .agg #[iV k, iV n, iV a, iV b])], []⟩) (acc := []) (by kernel_rfl) (by kernel_rfl) trivial ?_
  refine run_new (aO #[iV k, iV n, iV a, iV b] 55) (fun b1 => pA b1) (some 1) (fun _ => by kernel_rfl) (fun b1 hb1 => ?_)
  cases hd1 : (k == 0) with
  | false =>
    have hp1 : ¬ k = 0 := by simpa using hd1
    cases hd2 : (k == 1) with
    | false =>
      have hp2 : ¬ k = 1 := by simpa using hd2
      cases hd3 : (k == 2) with
      | false =>
        have hp3 : ¬ k = 2 := by simpa using hd3
        refine run_auto [(6, .bool false), (12, .bool false), (18, .bool false)] 33 [false, false, false] [0] [2] [] (st' := ⟨[(2, .bool true)], []⟩) (acc := [(.bool false, .bool false), (.bool (k == 2), .bool false), (.bool false, .bool false), (.bool (k == 1), .bool false), (.bool false, .bool false), (.bool (k == 0), .bool false), (pA b1, pA b1)]) (by kernel_rfl) (by kernel_rfl) ⟨rfl, (bo hd3), rfl, (bo hd2), rfl, (bo hd1), rfl, trivial⟩ ?_
        refine run_end (fn := f96) rfl (Nat.le_refl _) (by kernel_rfl) [] [.bool true] (e := []) (by kernel_rfl) trivial (fun w1 k1 h1 => ?_)
        have hv : vEv (k, n, a, b) = false := by
          unfold vEv
          dsimp only
          rw [hd1, hd2, hd3]
          rfl
        exact ⟨by rw [hv]; rfl, k1.keeps (fun _ h => h)⟩
      | true =>
        have hp3 : k = 2 := by simpa using hd3
        refine run_auto [(6, .bool false), (12, .bool false), (18, .bool true)] 31 [false, false, true] [0, 0] [2, 20] [] (st' := ⟨[(2, .bool false), (20, .agg #[iV a, iV b])], []⟩) (acc := [(pA b1, pA b1), (.bool true, .bool true), (.bool (k == 2), .bool true), (.bool false, .bool false), (.bool (k == 1), .bool false), (.bool false, .bool false), (.bool (k == 0), .bool false), (pA b1, pA b1)]) (by kernel_rfl) (by kernel_rfl) ⟨rfl, rfl, (bo hd3), rfl, (bo hd2), rfl, (bo hd1), rfl, trivial⟩ ?_
        cases hd4 : (spI (a, b) 0 10) with
        | false =>
          refine run_ret1 94 #[.agg #[iV a, iV b], iV 0, iV 10] (some 21) (.bool false) (by kernel_rfl) (fun w1 k1 h1 => (by have h := within_any a b 0 10 w1; rw [hd4] at h; exact h)) ?_
          refine run_auto [(22, .bool true)] 3 [] [] [2] [] (st' := ⟨[(2, .bool true)], []⟩) (acc := [(.bool true, .bool true)]) (by kernel_rfl) (by kernel_rfl) ⟨rfl, trivial⟩ ?_
          refine run_end (fn := f96) rfl (Nat.le_refl _) (by kernel_rfl) [] [.bool true] (e := []) (by kernel_rfl) trivial (fun w1 k1 h1 => ?_)
          have hv : vEv (k, n, a, b) = false := by
            unfold vEv
            dsimp only
            rw [hd1, hd2, hd3]
            exact hd4
          exact ⟨by rw [hv]; rfl, k1.keeps (fun _ h => h)⟩
        | true =>
          refine run_ret1 94 #[.agg #[iV a, iV b], iV 0, iV 10] (some 21) (.bool true) (by kernel_rfl) (fun w1 k1 h1 => (by have h := within_any a b 0 10 w1; rw [hd4] at h; exact h)) ?_
          refine run_auto [(22, .bool false)] 3 [] [] [2] [] (st' := ⟨[(2, .bool false)], []⟩) (acc := [(.bool false, .bool false)]) (by kernel_rfl) (by kernel_rfl) ⟨rfl, trivial⟩ ?_
          refine run_end (fn := f96) rfl (Nat.le_refl _) (by kernel_rfl) [] [.bool false] (e := []) (by kernel_rfl) trivial (fun w1 k1 h1 => ?_)
          have hv : vEv (k, n, a, b) = true := by
            unfold vEv
            dsimp only
            rw [hd1, hd2, hd3]
            exact hd4
          exact ⟨by rw [hv]; rfl, k1.keeps (fun _ h => h)⟩
    | true =>
      have hp2 : k = 1 := by simpa using hd2
      refine run_auto [(6, .bool false), (12, .bool true)] 25 [false, true] [0, 0] [2, 14] [] (st' := ⟨[(2, .bool false), (14, .agg #[iV a, iV b])], []⟩) (acc := [(pA b1, pA b1), (.bool true, .bool true), (.bool (k == 1), .bool true), (.bool false, .bool false), (.bool (k == 0), .bool false), (pA b1, pA b1)]) (by kernel_rfl) (by kernel_rfl) ⟨rfl, rfl, (bo hd2), rfl, (bo hd1), rfl, trivial⟩ ?_
      cases hd3 : (spI (a, b) (-1000) 1000) with
      | false =>
        refine run_ret1 110 #[.agg #[iV a, iV b]] (some 15) (.bool false) (by kernel_rfl) (fun w1 k1 h1 => (by have h := vshows_any a b w1; rw [hd3] at h; exact h)) ?_
        refine run_auto [(16, .bool true)] 3 [] [] [2] [] (st' := ⟨[(2, .bool true)], []⟩) (acc := [(.bool true, .bool true)]) (by kernel_rfl) (by kernel_rfl) ⟨rfl, trivial⟩ ?_
        refine run_end (fn := f96) rfl (Nat.le_refl _) (by kernel_rfl) [] [.bool true] (e := []) (by kernel_rfl) trivial (fun w1 k1 h1 => ?_)
        have hv : vEv (k, n, a, b) = false := by
          unfold vEv
          dsimp only
          rw [hd1, hd2]
          exact hd3
        exact ⟨by rw [hv]; rfl, k1.keeps (fun _ h => h)⟩
      | true =>
        refine run_ret1 110 #[.agg #[iV a, iV b]] (some 15) (.bool true) (by kernel_rfl) (fun w1 k1 h1 => (by have h := vshows_any a b w1; rw [hd3] at h; exact h)) ?_
        refine run_auto [(16, .bool false)] 3 [] [] [2] [] (st' := ⟨[(2, .bool false)], []⟩) (acc := [(.bool false, .bool false)]) (by kernel_rfl) (by kernel_rfl) ⟨rfl, trivial⟩ ?_
        refine run_end (fn := f96) rfl (Nat.le_refl _) (by kernel_rfl) [] [.bool false] (e := []) (by kernel_rfl) trivial (fun w1 k1 h1 => ?_)
        have hv : vEv (k, n, a, b) = true := by
          unfold vEv
          dsimp only
          rw [hd1, hd2]
          exact hd3
        exact ⟨by rw [hv]; rfl, k1.keeps (fun _ h => h)⟩
  | true =>
    have hp1 : k = 0 := by simpa using hd1
    refine run_auto [(6, .bool true)] 19 [true] [0, 0] [2, 8] [] (st' := ⟨[(2, .bool false), (8, iV n)], []⟩) (acc := [(pA b1, pA b1), (.bool true, .bool true), (.bool (k == 0), .bool true), (pA b1, pA b1)]) (by kernel_rfl) (by kernel_rfl) ⟨rfl, rfl, (bo hd1), rfl, trivial⟩ ?_
    cases hd2 : (decide (0 ≤ n ∧ n ≤ 20)) with
    | false =>
      have hp2 := of_decide_eq_false hd2
      refine run_ret1 115 #[iV n] (some 9) (.bool false) (by kernel_rfl) (fun w1 k1 h1 => (by have h := vuses_any n w1; rw [hd2] at h; exact h)) ?_
      refine run_auto [(10, .bool true)] 3 [] [] [2] [] (st' := ⟨[(2, .bool true)], []⟩) (acc := [(.bool true, .bool true)]) (by kernel_rfl) (by kernel_rfl) ⟨rfl, trivial⟩ ?_
      refine run_end (fn := f96) rfl (Nat.le_refl _) (by kernel_rfl) [] [.bool true] (e := []) (by kernel_rfl) trivial (fun w1 k1 h1 => ?_)
      have hv : vEv (k, n, a, b) = false := by
        unfold vEv
        dsimp only
        rw [hd1]
        exact hd2
      exact ⟨by rw [hv]; rfl, k1.keeps (fun _ h => h)⟩
    | true =>
      have hp2 := of_decide_eq_true hd2
      refine run_ret1 115 #[iV n] (some 9) (.bool true) (by kernel_rfl) (fun w1 k1 h1 => (by have h := vuses_any n w1; rw [hd2] at h; exact h)) ?_
      refine run_auto [(10, .bool false)] 3 [] [] [2] [] (st' := ⟨[(2, .bool false)], []⟩) (acc := [(.bool false, .bool false)]) (by kernel_rfl) (by kernel_rfl) ⟨rfl, trivial⟩ ?_
      refine run_end (fn := f96) rfl (Nat.le_refl _) (by kernel_rfl) [] [.bool false] (e := []) (by kernel_rfl) trivial (fun w1 k1 h1 => ?_)
      have hv : vEv (k, n, a, b) = true := by
        unfold vEv
        dsimp only
        rw [hd1]
        exact hd2
      exact ⟨by rw [hv]; rfl, k1.keeps (fun _ h => h)⟩


def on1 (s : Nat) : Nat := (s >>> 1 &&& 6148914691236517205) + (s &&& 6148914691236517205)
def on2 (s : Nat) : Nat := (on1 s >>> 2 &&& 3689348814741910323) + (on1 s &&& 3689348814741910323)
def on3 (s : Nat) : Nat := (on2 s >>> 4) + on2 s &&& 1085102592571150095
def on4 (s : Nat) : Nat := on3 s + on3 s >>> 8
def on5 (s : Nat) : Nat := on4 s + on4 s >>> 16
def on6 (s : Nat) : Nat := on5 s + on5 s >>> 32
theorem ones_bd : ∀ s : Nat, s < 256 → ((s >>> 1 &&& 6148914691236517205) < 512 ∧ (s &&& 6148914691236517205) < 512 ∧ s >>> 1 < 512) ∧ ((on1 s >>> 2 &&& 3689348814741910323) < 512 ∧ (on1 s &&& 3689348814741910323) < 512 ∧ on1 s >>> 2 < 512 ∧ on1 s < 512) ∧ (on2 s < 512 ∧ on2 s >>> 4 < 512) ∧ (on3 s < 512 ∧ on3 s >>> 8 < 512) ∧ (on4 s < 512 ∧ on4 s >>> 16 < 512) ∧ (on5 s < 512 ∧ on5 s >>> 32 < 512) ∧ on6 s < 512 ∧ (on6 s &&& 127) = bitsN s := by decide +kernel
set_option maxRecDepth 100000 in
theorem ones64_any (s : Nat) (hs : s < 256) (w : World)  : Calls Tryz.prog 139 #[.int .u64 (s : Int)] w (RetI (bitsN s : Nat) w) := by
  obtain ⟨⟨a1, a2, a3⟩, ⟨b1, b2, b3, b4⟩, ⟨c1, c2⟩, ⟨d1, d2⟩, ⟨e1, e2⟩, ⟨f1, f2⟩, g1, b7⟩ := ones_bd s hs
  refine calls_run (fn := f139) (c := (f139.body).getD .skip) [.int .u64 (s : Int)] func139 (by kernel_rfl) (fun _ => False) [] (fun _ h => by cases h) (List.Pairwise.nil) 35 (by kernel_rfl) (by simp) ?_
  refine run_auto [] 7 [] [] [0, 2, 3] [] (st' := ⟨[(0, .int .u64 (s : Int)), (2, iV 0), (3, .int .u64 (s : Int))], []⟩) (acc := []) (by kernel_rfl) (by kernel_rfl) trivial ?_
  refine run_v (binOp .shr 179 (.int .u64 (s : Nat)) (.int .u64 (1 : Nat)) >>= fun v => pure (Next.value v)) (some 4) (.int .u64 ((s >>> 1 : Nat) : Int)) (by kernel_rfl) (fun w1 k1 h1 => shr_runu s 1 (by omega)) ?_
  refine run_auto [(5, .int .u64 (((s >>> 1 : Nat) &&& 6148914691236517205 : Nat) : Int)), (7, .int .u64 ((s &&& 6148914691236517205 : Nat) : Int)), (8, .int .u64 ((on1 s : Nat) : Int))] 9 [] [] [0, 2, 9] [] (st' := ⟨[(0, .int .u64 ((on1 s : Nat) : Int)), (2, iV 0), (9, .int .u64 ((on1 s : Nat) : Int))], []⟩) (acc := [(.int .u64 (IntKind.u64.wrap ((((s >>> 1 : Nat) &&& 6148914691236517205 : Nat) : Int) + ((s &&& 6148914691236517205 : Nat) : Int))), .int .u64 ((on1 s : Nat) : Int)), (.int .u64 (bits .and .u64 (s : Int) 6148914691236517205), .int .u64 ((s &&& 6148914691236517205 : Nat) : Int)), (.int .u64 (bits .and .u64 ((s >>> 1 : Nat) : Int) 6148914691236517205), .int .u64 (((s >>> 1 : Nat) &&& 6148914691236517205 : Nat) : Int))]) (by kernel_rfl) (by kernel_rfl) ⟨((((uwr (by omega) (by omega)).trans (io (by omega))) : Value.int .u64 (IntKind.u64.wrap ((((s >>> 1 : Nat) &&& 6148914691236517205 : Nat) : Int) + ((s &&& 6148914691236517205 : Nat) : Int))) = .int .u64 ((((s >>> 1 : Nat) &&& 6148914691236517205 : Nat) + (s &&& 6148914691236517205 : Nat) : Nat) : Int)).trans rfl), (and_natu s 6148914691236517205 (by omega) (by omega)), (and_natu (s >>> 1 : Nat) 6148914691236517205 (by omega) (by omega)), trivial⟩ ?_
  refine run_v (binOp .shr 179 (.int .u64 ((on1 s : Nat) : Nat)) (.int .u64 (2 : Nat)) >>= fun v => pure (Next.value v)) (some 10) (.int .u64 (((on1 s : Nat) >>> 2 : Nat) : Int)) (by kernel_rfl) (fun w1 k1 h1 => shr_runu (on1 s : Nat) 2 (by omega)) ?_
  refine run_auto [(11, .int .u64 ((((on1 s : Nat) >>> 2 : Nat) &&& 3689348814741910323 : Nat) : Int)), (13, .int .u64 (((on1 s : Nat) &&& 3689348814741910323 : Nat) : Int)), (14, .int .u64 ((on2 s : Nat) : Int))] 9 [] [] [0, 2, 15] [] (st' := ⟨[(0, .int .u64 ((on2 s : Nat) : Int)), (2, iV 0), (15, .int .u64 ((on2 s : Nat) : Int))], []⟩) (acc := [(.int .u64 (IntKind.u64.wrap (((((on1 s : Nat) >>> 2 : Nat) &&& 3689348814741910323 : Nat) : Int) + (((on1 s : Nat) &&& 3689348814741910323 : Nat) : Int))), .int .u64 ((on2 s : Nat) : Int)), (.int .u64 (bits .and .u64 ((on1 s : Nat) : Int) 3689348814741910323), .int .u64 (((on1 s : Nat) &&& 3689348814741910323 : Nat) : Int)), (.int .u64 (bits .and .u64 (((on1 s : Nat) >>> 2 : Nat) : Int) 3689348814741910323), .int .u64 ((((on1 s : Nat) >>> 2 : Nat) &&& 3689348814741910323 : Nat) : Int))]) (by kernel_rfl) (by kernel_rfl) ⟨((((uwr (by omega) (by omega)).trans (io (by omega))) : Value.int .u64 (IntKind.u64.wrap (((((on1 s : Nat) >>> 2 : Nat) &&& 3689348814741910323 : Nat) : Int) + (((on1 s : Nat) &&& 3689348814741910323 : Nat) : Int))) = .int .u64 (((((on1 s : Nat) >>> 2 : Nat) &&& 3689348814741910323 : Nat) + ((on1 s : Nat) &&& 3689348814741910323 : Nat) : Nat) : Int)).trans rfl), (and_natu (on1 s : Nat) 3689348814741910323 (by omega) (by omega)), (and_natu ((on1 s : Nat) >>> 2 : Nat) 3689348814741910323 (by omega) (by omega)), trivial⟩ ?_
  refine run_v (binOp .shr 179 (.int .u64 ((on2 s : Nat) : Nat)) (.int .u64 (4 : Nat)) >>= fun v => pure (Next.value v)) (some 16) (.int .u64 (((on2 s : Nat) >>> 4 : Nat) : Int)) (by kernel_rfl) (fun w1 k1 h1 => shr_runu (on2 s : Nat) 4 (by omega)) ?_
  refine run_auto [(18, .int .u64 ((((on2 s : Nat) >>> 4 : Nat) + (on2 s : Nat) : Nat) : Int)), (19, .int .u64 ((on3 s : Nat) : Int))] 9 [] [] [0, 2, 20, 21] [] (st' := ⟨[(0, .int .u64 ((on3 s : Nat) : Int)), (2, iV 0), (20, .int .u64 ((on3 s : Nat) : Int)), (21, .int .u64 ((on3 s : Nat) : Int))], []⟩) (acc := [(.int .u64 (bits .and .u64 ((((on2 s : Nat) >>> 4 : Nat) + (on2 s : Nat) : Nat) : Int) 1085102592571150095), .int .u64 ((on3 s : Nat) : Int)), (.int .u64 (IntKind.u64.wrap ((((on2 s : Nat) >>> 4 : Nat) : Int) + ((on2 s : Nat) : Int))), .int .u64 ((((on2 s : Nat) >>> 4 : Nat) + (on2 s : Nat) : Nat) : Int))]) (by kernel_rfl) (by kernel_rfl) ⟨(((and_natu (((on2 s : Nat) >>> 4 : Nat) + (on2 s : Nat) : Nat) 1085102592571150095 (by omega) (by omega)) : Value.int .u64 (bits .and .u64 ((((on2 s : Nat) >>> 4 : Nat) + (on2 s : Nat) : Nat) : Int) 1085102592571150095) = .int .u64 (((((on2 s : Nat) >>> 4 : Nat) + (on2 s : Nat) : Nat) &&& 1085102592571150095 : Nat) : Int)).trans rfl), ((uwr (by omega) (by omega)).trans (io (by omega))), trivial⟩ ?_
  refine run_v (binOp .shr 179 (.int .u64 ((on3 s : Nat) : Nat)) (.int .u64 (8 : Nat)) >>= fun v => pure (Next.value v)) (some 22) (.int .u64 (((on3 s : Nat) >>> 8 : Nat) : Int)) (by kernel_rfl) (fun w1 k1 h1 => shr_runu (on3 s : Nat) 8 (by omega)) ?_
  refine run_auto [(23, .int .u64 ((on4 s : Nat) : Int))] 7 [] [] [0, 2, 24, 25] [] (st' := ⟨[(0, .int .u64 ((on4 s : Nat) : Int)), (2, iV 0), (24, .int .u64 ((on4 s : Nat) : Int)), (25, .int .u64 ((on4 s : Nat) : Int))], []⟩) (acc := [(.int .u64 (IntKind.u64.wrap (((on3 s : Nat) : Int) + (((on3 s : Nat) >>> 8 : Nat) : Int))), .int .u64 ((on4 s : Nat) : Int))]) (by kernel_rfl) (by kernel_rfl) ⟨((((uwr (by omega) (by omega)).trans (io (by omega))) : Value.int .u64 (IntKind.u64.wrap (((on3 s : Nat) : Int) + (((on3 s : Nat) >>> 8 : Nat) : Int))) = .int .u64 (((on3 s : Nat) + ((on3 s : Nat) >>> 8 : Nat) : Nat) : Int)).trans rfl), trivial⟩ ?_
  refine run_v (binOp .shr 179 (.int .u64 ((on4 s : Nat) : Nat)) (.int .u64 (16 : Nat)) >>= fun v => pure (Next.value v)) (some 26) (.int .u64 (((on4 s : Nat) >>> 16 : Nat) : Int)) (by kernel_rfl) (fun w1 k1 h1 => shr_runu (on4 s : Nat) 16 (by omega)) ?_
  refine run_auto [(27, .int .u64 ((on5 s : Nat) : Int))] 7 [] [] [0, 2, 28, 29] [] (st' := ⟨[(0, .int .u64 ((on5 s : Nat) : Int)), (2, iV 0), (28, .int .u64 ((on5 s : Nat) : Int)), (29, .int .u64 ((on5 s : Nat) : Int))], []⟩) (acc := [(.int .u64 (IntKind.u64.wrap (((on4 s : Nat) : Int) + (((on4 s : Nat) >>> 16 : Nat) : Int))), .int .u64 ((on5 s : Nat) : Int))]) (by kernel_rfl) (by kernel_rfl) ⟨((((uwr (by omega) (by omega)).trans (io (by omega))) : Value.int .u64 (IntKind.u64.wrap (((on4 s : Nat) : Int) + (((on4 s : Nat) >>> 16 : Nat) : Int))) = .int .u64 (((on4 s : Nat) + ((on4 s : Nat) >>> 16 : Nat) : Nat) : Int)).trans rfl), trivial⟩ ?_
  refine run_v (binOp .shr 179 (.int .u64 ((on5 s : Nat) : Nat)) (.int .u64 (32 : Nat)) >>= fun v => pure (Next.value v)) (some 30) (.int .u64 (((on5 s : Nat) >>> 32 : Nat) : Int)) (by kernel_rfl) (fun w1 k1 h1 => shr_runu (on5 s : Nat) 32 (by omega)) ?_
  refine run_auto [(31, .int .u64 ((on6 s : Nat) : Int)), (33, iV ((on6 s : Nat) : Int)), (34, iV (((on6 s : Nat) &&& 127 : Nat) : Int))] 10 [] [] [2] [] (st' := ⟨[(2, iV (((on6 s : Nat) &&& 127 : Nat) : Int))], []⟩) (acc := [(iV (bits .and .i64 ((on6 s : Nat) : Int) 127), iV (((on6 s : Nat) &&& 127 : Nat) : Int)), (iV (IntKind.i64.wrap ((on6 s : Nat) : Int)), iV ((on6 s : Nat) : Int)), (.int .u64 (IntKind.u64.wrap (((on5 s : Nat) : Int) + (((on5 s : Nat) >>> 32 : Nat) : Int))), .int .u64 ((on6 s : Nat) : Int))]) (by kernel_rfl) (by kernel_rfl) ⟨(and_nat (on6 s : Nat) 127 (by omega) (by omega)), (wr (by omega) (by omega)), ((((uwr (by omega) (by omega)).trans (io (by omega))) : Value.int .u64 (IntKind.u64.wrap (((on5 s : Nat) : Int) + (((on5 s : Nat) >>> 32 : Nat) : Int))) = .int .u64 (((on5 s : Nat) + ((on5 s : Nat) >>> 32 : Nat) : Nat) : Int)).trans rfl), trivial⟩ ?_
  refine run_end (fn := f139) rfl (Nat.le_refl _) (by kernel_rfl) [] [iV (((on6 s : Nat) &&& 127 : Nat) : Int)] (e := []) (by kernel_rfl) trivial (fun w1 k1 h1 => ?_)
  exact ⟨by rw [b7]; rfl, k1.keeps (fun _ h => h)⟩

set_option maxRecDepth 100000 in
theorem ones_any (s : Nat) (hs : s < 256) (w : World)  : Calls Tryz.prog 136 #[.int .u64 (s : Int)] w (RetI (bitsN s : Nat) w) := by
  refine calls_run (fn := f136) (c := (f136.body).getD .skip) [.int .u64 (s : Int)] func136 (by kernel_rfl) (fun _ => False) [] (fun _ h => by cases h) (List.Pairwise.nil) 8 (by kernel_rfl) (by simp) ?_
  refine run_auto [] 10 [false] [] [2, 6] [] (st' := ⟨[(2, iV 0), (6, .int .u64 (s : Int))], []⟩) (acc := [(.bool false, .bool false)]) (by kernel_rfl) (by kernel_rfl) ⟨rfl, trivial⟩ ?_
  refine run_ret1 139 #[.int .u64 (s : Int)] (some 7) (iV ((bitsN s : Nat) : Int)) (by kernel_rfl) (fun w1 k1 h1 => ones64_any s (by omega) w1) ?_
  refine run_auto [] 2 [] [] [2] [] (st' := ⟨[(2, iV ((bitsN s : Nat) : Int))], []⟩) (acc := []) (by kernel_rfl) (by kernel_rfl) trivial ?_
  refine run_end (fn := f136) rfl (Nat.le_refl _) (by kernel_rfl) [] [iV ((bitsN s : Nat) : Int)] (e := []) (by kernel_rfl) trivial (fun w1 k1 h1 => ?_)
  exact ⟨rfl, k1.keeps (fun _ h => h)⟩

set_option maxRecDepth 100000 in
theorem size_any (s : Nat) (hs : s < 256) (w : World)  : Calls Tryz.prog 129 #[.int .i64 (s : Int)] w (RetI (bitsN s : Nat) w) := by
  refine calls_run (fn := f129) (c := (f129.body).getD .skip) [.int .i64 (s : Int)] func129 (by kernel_rfl) (fun _ => False) [] (fun _ h => by cases h) (List.Pairwise.nil) 6 (by kernel_rfl) (by simp) ?_
  refine run_auto [(4, .int .u64 (s : Int))] 8 [] [] [2, 4] [] (st' := ⟨[(2, iV 0), (4, .int .u64 (s : Int))], []⟩) (acc := [(.int .u64 (IntKind.u64.wrap (s : Int)), .int .u64 (s : Int))]) (by kernel_rfl) (by kernel_rfl) ⟨(uwr (by omega) (by omega)), trivial⟩ ?_
  refine run_ret1 136 #[.int .u64 (s : Int)] (some 5) (iV ((bitsN s : Nat) : Int)) (by kernel_rfl) (fun w1 k1 h1 => ones_any s (by omega) w1) ?_
  refine run_auto [] 2 [] [] [2] [] (st' := ⟨[(2, iV ((bitsN s : Nat) : Int))], []⟩) (acc := []) (by kernel_rfl) (by kernel_rfl) trivial ?_
  refine run_end (fn := f129) rfl (Nat.le_refl _) (by kernel_rfl) [] [iV ((bitsN s : Nat) : Int)] (e := []) (by kernel_rfl) trivial (fun w1 k1 h1 => ?_)
  exact ⟨rfl, k1.keeps (fun _ h => h)⟩

set_option maxRecDepth 100000 in
theorem has_any (s n : Nat) (hs : s < 256) (hn : n < 64) (w : World)  : Calls Tryz.prog 132 #[.int .i64 (s : Int), .int .i64 (n : Int)] w (RetB (s.testBit n) w) := by
  refine calls_run (fn := f132) (c := (f132.body).getD .skip) [.int .i64 (s : Int), .int .i64 (n : Int)] func132 (by kernel_rfl) (fun _ => False) [] (fun _ h => by cases h) (List.Pairwise.nil) 10 (by kernel_rfl) (by simp) ?_
  refine run_auto [] 8 [] [] [4, 5, 6] [] (st' := ⟨[(4, .bool false), (5, iV (s : Int)), (6, iV (n : Int))], []⟩) (acc := []) (by kernel_rfl) (by kernel_rfl) trivial ?_
  refine run_v (binOp .shr 86 (iV (s : Nat)) (iV (n : Nat)) >>= fun v => pure (Next.value v)) (some 7) (iV ((s >>> n : Nat) : Int)) (by kernel_rfl) (fun w1 k1 h1 => shr_run s n (by omega)) ?_
  refine run_auto [(8, iV (((s >>> n : Nat) &&& 1 : Nat) : Int))] 4 [] [] [4] [] (st' := ⟨[(4, .bool ((((s >>> n : Nat) &&& 1 : Nat) : Int) == 1))], []⟩) (acc := [(iV (bits .and .i64 ((s >>> n : Nat) : Int) 1), iV (((s >>> n : Nat) &&& 1 : Nat) : Int))]) (by kernel_rfl) (by kernel_rfl) ⟨(and_nat (s >>> n : Nat) 1 (by have := Nat.shiftRight_le s n; omega) (by omega)), trivial⟩ ?_
  refine run_end (fn := f132) rfl (Nat.le_refl _) (by kernel_rfl) [] [.bool ((((s >>> n : Nat) &&& 1 : Nat) : Int) == 1)] (e := []) (by kernel_rfl) trivial (fun w1 k1 h1 => ?_)
  exact ⟨by rw [← has_bit]; rfl, k1.keeps (fun _ h => h)⟩


theorem shl_256 {n : Nat} (h : n < 8) : 1 <<< n ≤ 128 := by
  rw [Nat.one_shiftLeft]
  exact Nat.pow_le_pow_right (by omega) (by omega : n ≤ 7)
set_option maxRecDepth 100000 in
theorem with_any (s n : Nat) (hs : s < 256) (hn : n < 8) (w : World)  : Calls Tryz.prog 108 #[.int .i64 (s : Int), .int .i64 (n : Int)] w (RetI (s ||| (1 <<< n) : Nat) w) := by
  refine calls_run (fn := f108) (c := (f108.body).getD .skip) [.int .i64 (s : Int), .int .i64 (n : Int)] func108 (by kernel_rfl) (fun _ => False) [] (fun _ h => by cases h) (List.Pairwise.nil) 9 (by kernel_rfl) (by simp) ?_
  refine run_auto [] 8 [] [] [4, 5, 6] [] (st' := ⟨[(4, iV 0), (5, iV (s : Int)), (6, iV (n : Int))], []⟩) (acc := []) (by kernel_rfl) (by kernel_rfl) trivial ?_
  refine run_v (binOp .shl 86 (iV (1 : Nat)) (iV (n : Nat)) >>= fun v => pure (Next.value v)) (some 7) (iV ((1 <<< n : Nat) : Int)) (by kernel_rfl) (fun w1 k1 h1 => shl_run 1 n (by omega) (by have := shl_256 hn; omega)) ?_
  refine run_auto [(8, iV ((s ||| (1 <<< n : Nat) : Nat) : Int))] 3 [] [] [4] [] (st' := ⟨[(4, iV ((s ||| (1 <<< n : Nat) : Nat) : Int))], []⟩) (acc := [(iV (bits .or .i64 (s : Int) ((1 <<< n : Nat) : Int)), iV ((s ||| (1 <<< n : Nat) : Nat) : Int))]) (by kernel_rfl) (by kernel_rfl) ⟨(or_nat s (1 <<< n : Nat) (by omega) (by have := shl_256 hn; omega)), trivial⟩ ?_
  refine run_end (fn := f108) rfl (Nat.le_refl _) (by kernel_rfl) [] [iV ((s ||| (1 <<< n : Nat) : Nat) : Int)] (e := []) (by kernel_rfl) trivial (fun w1 k1 h1 => ?_)
  exact ⟨rfl, k1.keeps (fun _ h => h)⟩


def subB (s t : Nat) : Bool := s &&& t == s
theorem sub_zero (s t : Nat) : (((s ^^^ (s &&& t) : Nat) : Int) == 0) = subB s t := by
  unfold subB
  rw [Bool.eq_iff_iff]
  simp only [beq_iff_eq]
  constructor
  · intro h
    have h : s ^^^ (s &&& t) = 0 := by omega
    have h2 : (s ^^^ (s &&& t)) ^^^ (s &&& t) = s := by rw [Nat.xor_assoc, Nat.xor_self, Nat.xor_zero]
    rw [h, Nat.zero_xor] at h2
    exact h2
  · intro h
    rw [h, Nat.xor_self]
    rfl
set_option maxRecDepth 100000 in
theorem isIn_any (s t : Nat) (hs : s < 256) (ht : t < 256) (w : World)  : Calls Tryz.prog 130 #[.int .i64 (s : Int), .int .i64 (t : Int)] w (RetB (subB s t) w) := by
  refine calls_run (fn := f130) (c := (f130.body).getD .skip) [.int .i64 (s : Int), .int .i64 (t : Int)] func130 (by kernel_rfl) (fun _ => False) [] (fun _ h => by cases h) (List.Pairwise.nil) 9 (by kernel_rfl) (by simp) ?_
  refine run_auto [(7, iV ((s ^^^ (s &&& t) : Nat) : Int))] 12 [] [] [4] [] (st' := ⟨[(4, .bool (((s ^^^ (s &&& t) : Nat) : Int) == 0))], []⟩) (acc := [(iV (bits .andNot .i64 (s : Int) (t : Int)), iV ((s ^^^ (s &&& t) : Nat) : Int))]) (by kernel_rfl) (by kernel_rfl) ⟨(andNot_nat s t (by omega) (by omega)), trivial⟩ ?_
  refine run_end (fn := f130) rfl (Nat.le_refl _) (by kernel_rfl) [] [.bool (((s ^^^ (s &&& t) : Nat) : Int) == 0)] (e := []) (by kernel_rfl) trivial (fun w1 k1 h1 => ?_)
  exact ⟨by rw [← sub_zero]; rfl, k1.keeps (fun _ h => h)⟩

end Go.Proofs.YtdehgplklgfcdaaGreat

namespace Go.Proofs.YtdehgplklgfcdaaGreat
open Go.RowKit Go.Proofs.Tryz


theorem all_no {α : Type} {p : α → Bool} {l : List α} {k : Nat} {d : α} (hk : k < l.length) (h : p (l[k]?.getD d) = false) : l.all p = false := by
  rw [List.all_eq_false]
  refine ⟨l[k], List.getElem_mem hk, ?_⟩
  rw [List.getElem?_eq_getElem hk] at h
  simpa using h
theorem all_yes {α : Type} {p : α → Bool} {l : List α} {d : α} (h : ∀ k, k < l.length → p (l[k]?.getD d) = true) : l.all p = true := by
  rw [List.all_eq_true]
  intro x hx
  obtain ⟨k, hk, rfl⟩ := List.getElem_of_mem hx
  have := h k hk
  rwa [List.getElem?_eq_getElem hk] at this
theorem c2 {B : World} {b o : Nat} {u0 u1 : Value} (h0 : B.cell? ⟨b, o, none⟩ = some u0) (h1 : B.cell? ⟨b, o + 1, none⟩ = some u1) : ∀ i u, [u0, u1][i]? = some u → B.cell? ⟨b, o + i, none⟩ = some u := by
  intro i u hu
  match i, hu with
  | 0, hu => injection hu with hu; subst hu; exact h0
  | 1, hu => injection hu with hu; subst hu; exact h1
  | i + 2, hu => simp at hu
theorem c4 {B : World} {b o : Nat} {u0 u1 u2 u3 : Value} (h0 : B.cell? ⟨b, o, none⟩ = some u0) (h1 : B.cell? ⟨b, o + 1, none⟩ = some u1) (h2 : B.cell? ⟨b, o + 2, none⟩ = some u2) (h3 : B.cell? ⟨b, o + 3, none⟩ = some u3) : ∀ i u, [u0, u1, u2, u3][i]? = some u → B.cell? ⟨b, o + i, none⟩ = some u := by
  intro i u hu
  match i, hu with
  | 0, hu => injection hu with hu; subst hu; exact h0
  | 1, hu => injection hu with hu; subst hu; exact h1
  | 2, hu => injection hu with hu; subst hu; exact h2
  | 3, hu => injection hu with hu; subst hu; exact h3
  | i + 4, hu => simp at hu

def evR (x : Ev) : List Value := [.int .i64 x.1, .int .i64 x.2.1, .int .i64 x.2.2.1, .int .i64 x.2.2.2]
theorem evR_len (x : Ev) : (evR x).length = 4 := rfl
theorem evR_one (x : Ev) : ∀ u ∈ evR x, u.oneCell' = true := by
  intro u hu
  simp only [evR, List.mem_cons, List.not_mem_nil, or_false] at hu
  rcases hu with rfl | rfl | rfl | rfl <;> rfl
theorem evR_at {L : List Ev} {i : Nat} (h : i < L.length) : evR L[i] = evR (elE L i) := by unfold elE; rw [List.getElem?_eq_getElem h]; rfl
def Evs (w : World) (a : Option Addr) (L : List Ev) : Prop :=
  L ≠ [] → ∃ b o, a = some ⟨b, o, none⟩ ∧ ∀ i, i < L.length → w.cell? ⟨b, o + i * 4, none⟩ = some (.int .i64 (elE L i).1) ∧ w.cell? ⟨b, o + i * 4 + 1, none⟩ = some (.int .i64 (elE L i).2.1) ∧ w.cell? ⟨b, o + i * 4 + 2, none⟩ = some (.int .i64 (elE L i).2.2.1) ∧ w.cell? ⟨b, o + i * 4 + 3, none⟩ = some (.int .i64 (elE L i).2.2.2)
theorem Evs.keep {w w' : World} {a : Option Addr} {L : List Ev} (h : Evs w a L) (k : Keeps w w') : Evs w' a L := by
  intro hx
  obtain ⟨b, o, e, hc⟩ := h hx
  exact ⟨b, o, e, fun i hi => ⟨k.cell (hc i hi).1, k.cell (hc i hi).2.1, k.cell (hc i hi).2.2.1, k.cell (hc i hi).2.2.2⟩⟩
theorem Evs.flat {w : World} {a : Option Addr} {L : List Ev} (h : Evs w a L) : L ≠ [] → ∃ b o, a = some ⟨b, o, none⟩ ∧ ∀ j u, (L.flatMap evR)[j]? = some u → w.cell? ((⟨b, o, none⟩ : Addr).add j) = some u := by
  intro hx
  obtain ⟨b, o, e, hc⟩ := h hx
  refine ⟨b, o, e, flat_cells evR_len fun i x hi k u hk => ?_⟩
  have hl := (List.getElem?_eq_some_iff.1 hi).1
  have h5 := hc i hl
  have e2 : elE L i = x := by unfold elE; rw [hi]; rfl
  rw [e2] at h5
  exact c4 h5.1 h5.2.1 h5.2.2.1 h5.2.2.2 k u hk
theorem Evs.of_flat {w : World} {b : Nat} {L : List Ev} {sp : List Value} {t : TypeId} {fr : Nat × Nat} (h : w.heap[b]? = some (.cells (L.flatMap evR ++ sp).toArray t fr)) : Evs w (some ⟨b, 0, none⟩) L := by
  intro _
  refine ⟨b, 0, rfl, fun i hi => ?_⟩
  have key : ∀ k u, (evR (elE L i))[k]? = some u → w.cell? ⟨b, 0 + i * 4 + k, none⟩ = some u := by
    intro k u hk
    refine cells_of_heap h _ _ ?_
    have hk5 : k < 4 := (List.getElem?_eq_some_iff.1 hk).1
    have e1 : L.flatMap evR ++ sp = (L.take i).flatMap evR ++ ((L.drop i).flatMap evR ++ sp) := by rw [← List.append_assoc, ← List.flatMap_append, List.take_append_drop]
    have hl : ((L.take i).flatMap evR).length = i * 4 := by rw [flat_len evR_len, List.length_take, Nat.min_eq_left (Nat.le_of_lt hi)]
    rw [e1, List.getElem?_append_right (by omega), hl, show 0 + i * 4 + k - i * 4 = k by omega, List.drop_eq_getElem_cons hi, List.flatMap_cons, List.append_assoc, List.getElem?_append_left (by show k < 4; exact hk5)]
    rw [evR_at hi]
    exact hk
  exact ⟨key 0 _ rfl, key 1 _ rfl, key 2 _ rfl, key 3 _ rfl⟩

/-- A block as it lies in memory. -/
structure Wb where
  ll : Int
  lh : Int
  ul : Int
  uh : Int
  ea : Option Addr
  ec : Nat
  es : List Ev
def Wb.n (p : Wb) : Wn := ⟨(p.ll, p.lh), (p.ul, p.uh), p.es⟩
def Wb.v (p : Wb) : Value := .agg #[.int .i64 p.ll, .int .i64 p.lh, .int .i64 p.ul, .int .i64 p.uh, .slice p.ea p.es.length p.ec]
structure Wb.In (p : Wb) (w : World) : Prop where
  ev : Evs w p.ea p.es
  ln : p.es.length ≤ maxLen
theorem Wb.In.keep {p : Wb} {w w' : World} (h : p.In w) (k : Keeps w w') : p.In w' := ⟨h.ev.keep k, h.ln⟩
/-- The first event that is not valid; none: -1. -/
def idxF (es : List Ev) : Int := match es.findIdx? (fun e => !vEv e) with
  | some i => i
  | none => -1
theorem idxF_at {es : List Ev} {i : Nat} (hi : i < es.length) (h : ∀ j, j < i → vEv (elE es j) = true) (hn : vEv (elE es i) = false) : idxF es = (i : Int) := by
  unfold idxF
  have : es.findIdx? (fun e => !vEv e) = some i := by
    rw [List.findIdx?_eq_some_iff_getElem]
    refine ⟨hi, by rw [← elE_at hi, hn]; rfl, fun j hj => ?_⟩
    rw [← elE_at (by omega), h j hj]
    simp
  rw [this]
theorem idxF_no {es : List Ev} (h : ∀ j, j < es.length → vEv (elE es j) = true) : idxF es = -1 := by
  unfold idxF
  have : es.findIdx? (fun e => !vEv e) = none := by
    rw [List.findIdx?_eq_none_iff]
    intro x hx
    obtain ⟨j, hj, rfl⟩ := List.getElem_of_mem hx
    rw [← elE_at hj, h j hj]
    rfl
  rw [this]
theorem idxF_ge (es : List Ev) : decide (0 ≤ idxF es) = !es.all vEv := by
  unfold idxF
  cases h : es.findIdx? (fun e => !vEv e) with
  | none =>
    rw [List.findIdx?_eq_none_iff] at h
    have h2 : es.all vEv = true := List.all_eq_true.2 fun x hx => by have := h x hx; simpa using this
    rw [h2]
    rfl
  | some i =>
    rw [List.findIdx?_eq_some_iff_getElem] at h
    obtain ⟨hi, h1, _⟩ := h
    have h2 : es.all vEv = false := List.all_eq_false.2 ⟨es[i], List.getElem_mem hi, by simpa using h1⟩
    rw [h2]
    simp
set_option maxRecDepth 100000 in
theorem indexFunc_any (es : List Ev) (ea : Option Addr) (ec : Nat) (w : World) (hev : Evs w ea es) (hl : es.length ≤ maxLen) : Calls Tryz.prog 121 #[.slice ea es.length ec, .func (.func 96) #[] #[]] w (RetI (idxF es) w) := by
  simp only [maxLen] at hl
  refine calls_run (fn := f121) (c := (f121.body).getD .skip) [.slice ea es.length ec, .func (.func 96) #[] #[]] func121 (by kernel_rfl) (fun _ => False) [] (fun _ h => by cases h) (List.Pairwise.nil) 19 (by kernel_rfl) (by simp) ?_
  refine run_auto [] 12 [] [] [0, 1, 4, 7, 8] [] (st' := ⟨[(0, .slice ea es.length ec), (1, .func (.func 96) #[] #[]), (4, iV 0), (7, iV (es.length : Int)), (8, iV 0)], []⟩) (acc := []) (by kernel_rfl) (by kernel_rfl) trivial ?_
  refine run_auto [] 0 [] [] [0, 1, 4, 7, 8] [] (st' := ⟨[(0, .slice ea es.length ec), (1, .func (.func 96) #[] #[]), (4, iV 0), (7, iV (es.length : Int)), (8, iV 0)], []⟩) (acc := []) (by kernel_rfl) (by kernel_rfl) trivial ?_
  refine run_loop (S := fun (k : Nat) => ⟨[(0, .slice ea es.length ec), (1, .func (.func 96) #[] #[]), (4, iV 0), (7, iV (es.length : Int)), (8, iV (k : Int))], []⟩) (fun k => k ≤ es.length ∧ ∀ j, j < k → vEv (elE es j) = true) (fun k => es.length - k) (0) (by kernel_rfl) (⟨Nat.zero_le _, fun _ h => by cases h⟩) (by kernel_rfl) (fun k hI0 J0 hJ0 => ?_)
  obtain ⟨hI1, hI2⟩ := hI0
  cases hd1 : (decide ((k : Int) < (es.length : Int))) with
  | false =>
    have hp1 := of_decide_eq_false hd1
    refine run_auto [(9, .bool false)] 11 [false] [] [4] [] (st' := ⟨[(4, iV (-1))], []⟩) (acc := [(.bool false, .bool false), (.bool (decide ((k : Int) < (es.length : Int))), .bool false)]) (by kernel_rfl) (by kernel_rfl) ⟨rfl, (bo hd1), trivial⟩ ?_
    refine run_end (fn := f121) rfl (Nat.le_refl _) (by kernel_rfl) [] [iV (-1)] (e := []) (by kernel_rfl) trivial (fun w1 k1 h1 => ?_)
    exact ⟨by rw [idxF_no (fun j hj => hI2 j (by omega))]; rfl, k1.keeps (fun _ h => h)⟩
  | true =>
    have hp1 := of_decide_eq_true hd1
    have hlt : k < es.length := by omega
    obtain ⟨be, oe, hbe, hc⟩ := hev (by intro h; rw [h] at hlt; cases hlt)
    have hc := hc k hlt
    refine run_auto [(9, .bool true)] 19 [true] [] [0, 1, 4, 7, 8, 5, 11, 12, 13] [] (st' := ⟨[(0, .slice ea es.length ec), (1, .func (.func 96) #[] #[]), (4, iV 0), (7, iV (es.length : Int)), (8, iV (k : Int)), (5, iV (k : Int)), (11, .func (.func 96) #[] #[]), (12, .slice ea es.length ec), (13, iV (k : Int))], []⟩) (acc := [(.bool true, .bool true), (.bool (decide ((k : Int) < (es.length : Int))), .bool true)]) (by kernel_rfl) (by kernel_rfl) ⟨rfl, (bo hd1), trivial⟩ ?_
    refine run_v (Instr.indexAt 24 (.slice ea es.length ec) (iV (k : Int)) >>= fun v => pure (Next.value v)) (some 14) (.pointer (some ⟨be, oe + k * 4, none⟩)) (by kernel_rfl) (fun w1 k1 h1 => (by rw [hbe]; exact idx_off (e := 55) (n := 4) (by kernel_rfl) (by kernel_rfl) be oe es.length ec .i64 k hlt (oe + k * 4) (by omega) w1)) ?_
    refine run_v (Instr.loadAt 55 (.pointer (some ⟨be, oe + k * 4, none⟩)) >>= fun v => pure (Next.value v)) (some 15) (.agg #[iV (elE es k).1, iV (elE es k).2.1, iV (elE es k).2.2.1, iV (elE es k).2.2.2]) (by kernel_rfl) (fun w1 k1 h1 => load_in (off := 0) k1 (fun h => h) [iV (elE es k).1, iV (elE es k).2.1, iV (elE es k).2.2.1, iV (elE es k).2.2.2] (c4 hc.1 hc.2.1 hc.2.2.1 hc.2.2.2) (by kernel_rfl)) ?_
    cases hd2 : (!vEv ((elE es k).1, (elE es k).2.1, (elE es k).2.2.1, (elE es k).2.2.2)) with
    | false =>
      refine run_ret1 96 #[.agg #[iV (elE es k).1, iV (elE es k).2.1, iV (elE es k).2.2.1, iV (elE es k).2.2.2]] (some 16) (.bool false) (by kernel_rfl) (fun w1 k1 h1 => (by have h := isInvalid_any (elE es k).1 (elE es k).2.1 (elE es k).2.2.1 (elE es k).2.2.2 w1; rw [hd2] at h; exact h)) ?_
      refine run_auto [(18, iV ((k + 1 : Nat) : Int))] 8 [false] [] [0, 1, 4, 7, 8] [] (st' := ⟨[(0, .slice ea es.length ec), (1, .func (.func 96) #[] #[]), (4, iV 0), (7, iV (es.length : Int)), (8, iV ((k + 1 : Nat) : Int))], []⟩) (acc := [(iV (IntKind.i64.wrap ((k : Int) + 1)), iV ((k + 1 : Nat) : Int)), (.bool false, .bool false)]) (by kernel_rfl) (by kernel_rfl) ⟨(wr (by omega) (by omega)), rfl, trivial⟩ ?_
      exact run_round (by kernel_rfl) (hJ0 (k + 1) (⟨by omega, fun j hj => (Nat.lt_succ_iff_lt_or_eq.1 hj).elim (hI2 j) (fun h => h ▸ (by simpa using hd2))⟩) (by omega))
    | true =>
      refine run_ret1 96 #[.agg #[iV (elE es k).1, iV (elE es k).2.1, iV (elE es k).2.2.1, iV (elE es k).2.2.2]] (some 16) (.bool true) (by kernel_rfl) (fun w1 k1 h1 => (by have h := isInvalid_any (elE es k).1 (elE es k).2.1 (elE es k).2.2.1 (elE es k).2.2.2 w1; rw [hd2] at h; exact h)) ?_
      refine run_auto [] 7 [true] [] [0, 1, 4, 7, 8] [] (st' := ⟨[(0, .slice ea es.length ec), (1, .func (.func 96) #[] #[]), (4, iV (k : Int)), (7, iV (es.length : Int)), (8, iV (k : Int))], []⟩) (acc := [(.bool true, .bool true)]) (by kernel_rfl) (by kernel_rfl) ⟨rfl, trivial⟩ ?_
      refine run_end (fn := f121) rfl (Nat.le_refl _) (by kernel_rfl) [] [iV (k : Int)] (e := []) (by kernel_rfl) trivial (fun w1 k1 h1 => ?_)
      exact ⟨by rw [idxF_at hlt hI2 (by simpa using hd2)]; rfl, k1.keeps (fun _ h => h)⟩

set_option maxRecDepth 100000 in
theorem containsFunc_any (es : List Ev) (ea : Option Addr) (ec : Nat) (w : World) (hev : Evs w ea es) (hl : es.length ≤ maxLen) : Calls Tryz.prog 95 #[.slice ea es.length ec, .func (.func 96) #[] #[]] w (RetB (!es.all vEv) w) := by
  refine calls_run (fn := f95) (c := (f95.body).getD .skip) [.slice ea es.length ec, .func (.func 96) #[] #[]] func95 (by kernel_rfl) (fun _ => False) [] (fun _ h => by cases h) (List.Pairwise.nil) 9 (by kernel_rfl) (by simp) ?_
  refine run_auto [] 8 [] [] [4, 5, 6] [] (st' := ⟨[(4, .bool false), (5, .slice ea es.length ec), (6, .func (.func 96) #[] #[])], []⟩) (acc := []) (by kernel_rfl) (by kernel_rfl) trivial ?_
  refine run_ret1 121 #[.slice ea es.length ec, .func (.func 96) #[] #[]] (some 7) (iV (idxF es)) (by kernel_rfl) (fun w1 k1 h1 => indexFunc_any es ea ec w1 (hev.keep (k1.keeps (fun _ h => h))) hl) ?_
  refine run_auto [] 3 [] [] [4] [] (st' := ⟨[(4, .bool (decide (0 ≤ (idxF es))))], []⟩) (acc := []) (by kernel_rfl) (by kernel_rfl) trivial ?_
  refine run_end (fn := f95) rfl (Nat.le_refl _) (by kernel_rfl) [] [.bool (decide (0 ≤ (idxF es)))] (e := []) (by kernel_rfl) trivial (fun w1 k1 h1 => ?_)
  exact ⟨by rw [← idxF_ge]; rfl, k1.keeps (fun _ h => h)⟩

set_option maxRecDepth 100000 in
theorem needBlock_any (p : Wb) (w : World) (hp : p.In w) : Calls Tryz.prog 43 #[.agg #[.int .i64 p.ll, .int .i64 p.lh, .int .i64 p.ul, .int .i64 p.uh, .slice p.ea p.es.length p.ec]] w (Need p.n.ok 1 w) := by
  refine calls_run (fn := f43) (c := (f43.body).getD .skip) [.agg #[.int .i64 p.ll, .int .i64 p.lh, .int .i64 p.ul, .int .i64 p.uh, .slice p.ea p.es.length p.ec]] func43 (by kernel_rfl) (fun _ => False) [] (fun _ h => by cases h) (List.Pairwise.nil) 36 (by kernel_rfl) (by simp) ?_
  refine run_auto [] 2 [] [] [0] [] (st' := ⟨[(0, .agg #[iV p.ll, iV p.lh, iV p.ul, iV p.uh, .slice p.ea p.es.length p.ec])], []⟩) (acc := []) (by kernel_rfl) (by kernel_rfl) trivial ?_
  refine run_new (aO #[iV p.ll, iV p.lh, iV p.ul, iV p.uh, .slice p.ea p.es.length p.ec] 26) (fun b1 => pA b1) (some 1) (fun _ => by kernel_rfl) (fun b1 hb1 => ?_)
  refine run_auto [] 5 [] [0] [1, 4] [0] (st' := ⟨[(1, pA b1), (4, .agg #[iV p.ll, iV p.lh])], [(b1, aO #[iV p.ll, iV p.lh, iV p.ul, iV p.uh, .slice p.ea p.es.length p.ec] 26)]⟩) (acc := [(pA b1, pA b1)]) (by kernel_rfl) (by kernel_rfl) ⟨rfl, trivial⟩ ?_
  cases hd1 : (spI (p.ll, p.lh) 0 300) with
  | false =>
    refine run_ret1 94 #[.agg #[iV p.ll, iV p.lh], iV 0, iV 300] (some 5) (.bool false) (by kernel_rfl) (fun w1 k1 h1 => (by have h := within_any p.ll p.lh 0 300 w1; rw [hd1] at h; exact h)) ?_
    refine run_auto [(34, .bool true)] 37 [true] [] [35] [] (st' := ⟨[(35, .iface 29 (iV 1))], []⟩) (acc := [(.bool true, .bool true), (.bool true, .bool true)]) (by kernel_rfl) (by kernel_rfl) ⟨rfl, rfl, trivial⟩ ?_
    have h : p.n.ok = false := by
      unfold Wn.ok Wb.n
      dsimp only
      rw [hd1]
      try rfl
    unfold Need
    rw [h]
    exact run_panic rfl (Nat.le_refl _) (Instr.panic (.iface 29 (iV 1)) >>= fun v => pure (Next.value v)) none (.iface 29 (iV 1)) (by kernel_rfl) (fun w => by kernel_rfl) (fun w1 k1 h1 => ⟨rfl, k1.keeps (fun _ h => h)⟩)
  | true =>
    have hqhd1 := of_decide_eq_true (show decide _ = true from hd1)
    dsimp only at hqhd1
    refine run_ret1 94 #[.agg #[iV p.ll, iV p.lh], iV 0, iV 300] (some 5) (.bool true) (by kernel_rfl) (fun w1 k1 h1 => (by have h := within_any p.ll p.lh 0 300 w1; rw [hd1] at h; exact h)) ?_
    cases hd2 : (decide ((p.lh - p.ll) ≤ 20)) with
    | false =>
      have hp2 := of_decide_eq_false hd2
      refine run_auto [(13, iV (p.lh - p.ll)), (14, .bool false), (34, .bool true)] 37 [true] [0, 0] [35] [] (st' := ⟨[(35, .iface 29 (iV 1))], []⟩) (acc := [(.bool true, .bool true), (.bool true, .bool true), (.bool (decide ((p.lh - p.ll) ≤ 20)), .bool false), (iV (IntKind.i64.wrap (p.lh - p.ll)), iV (p.lh - p.ll)), (pA b1, pA b1), (pA b1, pA b1)]) (by kernel_rfl) (by kernel_rfl) ⟨rfl, rfl, (bo hd2), (wr (by omega) (by omega)), rfl, rfl, trivial⟩ ?_
      have h : p.n.ok = false := by
        unfold Wn.ok Wb.n
        dsimp only
        rw [hd1, hd2]
        try rfl
      unfold Need
      rw [h]
      exact run_panic rfl (Nat.le_refl _) (Instr.panic (.iface 29 (iV 1)) >>= fun v => pure (Next.value v)) none (.iface 29 (iV 1)) (by kernel_rfl) (fun w => by kernel_rfl) (fun w1 k1 h1 => ⟨rfl, k1.keeps (fun _ h => h)⟩)
    | true =>
      have hp2 := of_decide_eq_true hd2
      refine run_auto [(13, iV (p.lh - p.ll)), (14, .bool true)] 13 [] [0, 0, 0] [1, 16, 18] [0] (st' := ⟨[(1, pA b1), (16, .bool true), (18, .agg #[iV p.ul, iV p.uh])], [(b1, aO #[iV p.ll, iV p.lh, iV p.ul, iV p.uh, .slice p.ea p.es.length p.ec] 26)]⟩) (acc := [(pA b1, pA b1), (.bool (decide ((p.lh - p.ll) ≤ 20)), .bool true), (iV (IntKind.i64.wrap (p.lh - p.ll)), iV (p.lh - p.ll)), (pA b1, pA b1), (pA b1, pA b1)]) (by kernel_rfl) (by kernel_rfl) ⟨rfl, (bo hd2), (wr (by omega) (by omega)), rfl, rfl, trivial⟩ ?_
      cases hd3 : (spI (p.ul, p.uh) 0 3) with
      | false =>
        refine run_ret1 94 #[.agg #[iV p.ul, iV p.uh], iV 0, iV 3] (some 19) (.bool false) (by kernel_rfl) (fun w1 k1 h1 => (by have h := within_any p.ul p.uh 0 3 w1; rw [hd3] at h; exact h)) ?_
        refine run_auto [(34, .bool true)] 23 [true] [] [35] [] (st' := ⟨[(35, .iface 29 (iV 1))], []⟩) (acc := [(.bool true, .bool true), (.bool true, .bool true)]) (by kernel_rfl) (by kernel_rfl) ⟨rfl, rfl, trivial⟩ ?_
        have h : p.n.ok = false := by
          unfold Wn.ok Wb.n
          dsimp only
          rw [hd1, hd2, hd3]
          try rfl
        unfold Need
        rw [h]
        exact run_panic rfl (Nat.le_refl _) (Instr.panic (.iface 29 (iV 1)) >>= fun v => pure (Next.value v)) none (.iface 29 (iV 1)) (by kernel_rfl) (fun w => by kernel_rfl) (fun w1 k1 h1 => ⟨rfl, k1.keeps (fun _ h => h)⟩)
      | true =>
        have hqhd3 := of_decide_eq_true (show decide _ = true from hd3)
        dsimp only at hqhd3
        refine run_ret1 94 #[.agg #[iV p.ul, iV p.uh], iV 0, iV 3] (some 19) (.bool true) (by kernel_rfl) (fun w1 k1 h1 => (by have h := within_any p.ul p.uh 0 3 w1; rw [hd3] at h; exact h)) ?_
        cases hd4 : (decide ((p.es.length : Int) ≤ 8)) with
        | false =>
          have hp4 := of_decide_eq_false hd4
          refine run_auto [(25, .bool false), (34, .bool true)] 23 [true] [0] [35] [] (st' := ⟨[(35, .iface 29 (iV 1))], []⟩) (acc := [(.bool true, .bool true), (.bool true, .bool true), (.bool (decide ((p.es.length : Int) ≤ 8)), .bool false), (pA b1, pA b1)]) (by kernel_rfl) (by kernel_rfl) ⟨rfl, rfl, (bo hd4), rfl, trivial⟩ ?_
          have h : p.n.ok = false := by
            unfold Wn.ok Wb.n
            dsimp only
            rw [hd1, hd2, hd3, (show decide (p.es.length ≤ 8) = false from (decide_eq_decide.2 (by omega)).trans hd4)]
            try rfl
          unfold Need
          rw [h]
          exact run_panic rfl (Nat.le_refl _) (Instr.panic (.iface 29 (iV 1)) >>= fun v => pure (Next.value v)) none (.iface 29 (iV 1)) (by kernel_rfl) (fun w => by kernel_rfl) (fun w1 k1 h1 => ⟨rfl, k1.keeps (fun _ h => h)⟩)
        | true =>
          have hp4 := of_decide_eq_true hd4
          refine run_auto [(25, .bool true)] 10 [] [0, 0] [27, 29] [] (st' := ⟨[(27, .bool true), (29, .slice p.ea p.es.length p.ec)], []⟩) (acc := [(pA b1, pA b1), (.bool (decide ((p.es.length : Int) ≤ 8)), .bool true), (pA b1, pA b1)]) (by kernel_rfl) (by kernel_rfl) ⟨rfl, (bo hd4), rfl, trivial⟩ ?_
          cases hd5 : (!p.es.all vEv) with
          | false =>
            refine run_ret1 95 #[.slice p.ea p.es.length p.ec, .func (.func 96) #[] #[]] (some 30) (.bool false) (by kernel_rfl) (fun w1 k1 h1 => (by have h := containsFunc_any p.es p.ea p.ec w1 (hp.ev.keep (k1.keeps (fun _ h => h))) hp.ln; rw [hd5] at h; exact h)) ?_
            refine run_auto [(31, .bool true), (34, .bool false)] 11 [false] [] [] [] (st' := ⟨[], []⟩) (acc := [(.bool false, .bool false), (.bool false, .bool false), (.bool true, .bool true)]) (by kernel_rfl) (by kernel_rfl) ⟨rfl, rfl, rfl, trivial⟩ ?_
            refine run_end (fn := f43) rfl (Nat.le_refl _) (by kernel_rfl) [] [] (e := []) (by kernel_rfl) trivial (fun w1 k1 h1 => ?_)
            have h : p.n.ok = true := by
              unfold Wn.ok Wb.n
              dsimp only
              rw [hd1, hd2, hd3, (show decide (p.es.length ≤ 8) = true from (decide_eq_decide.2 (by omega)).trans hd4), (show p.es.all vEv = true by simpa using hd5)]
              try rfl
            unfold Need
            rw [h]
            exact ⟨rfl, k1.keeps (fun _ h => h)⟩
          | true =>
            refine run_ret1 95 #[.slice p.ea p.es.length p.ec, .func (.func 96) #[] #[]] (some 30) (.bool true) (by kernel_rfl) (fun w1 k1 h1 => (by have h := containsFunc_any p.es p.ea p.ec w1 (hp.ev.keep (k1.keeps (fun _ h => h))) hp.ln; rw [hd5] at h; exact h)) ?_
            refine run_auto [(31, .bool false), (34, .bool true)] 12 [true] [] [35] [] (st' := ⟨[(35, .iface 29 (iV 1))], []⟩) (acc := [(.bool true, .bool true), (.bool true, .bool true), (.bool false, .bool false)]) (by kernel_rfl) (by kernel_rfl) ⟨rfl, rfl, rfl, trivial⟩ ?_
            have h : p.n.ok = false := by
              unfold Wn.ok Wb.n
              dsimp only
              rw [hd1, hd2, hd3, (show decide (p.es.length ≤ 8) = true from (decide_eq_decide.2 (by omega)).trans hd4), (show p.es.all vEv = false by simpa using hd5)]
              try rfl
            unfold Need
            rw [h]
            exact run_panic rfl (Nat.le_refl _) (Instr.panic (.iface 29 (iV 1)) >>= fun v => pure (Next.value v)) none (.iface 29 (iV 1)) (by kernel_rfl) (fun w => by kernel_rfl) (fun w1 k1 h1 => ⟨rfl, k1.keeps (fun _ h => h)⟩)

set_option maxRecDepth 100000 in
theorem needEvent_any (p : Wb) (n : Int) (w : World)  : Calls Tryz.prog 44 #[.agg #[.int .i64 p.ll, .int .i64 p.lh, .int .i64 p.ul, .int .i64 p.uh, .slice p.ea p.es.length p.ec], .int .i64 n] w (Need (decide (0 ≤ n ∧ n < (p.es.length : Int))) 2 w) := by
  refine calls_run (fn := f44) (c := (f44.body).getD .skip) [.agg #[.int .i64 p.ll, .int .i64 p.lh, .int .i64 p.ul, .int .i64 p.uh, .slice p.ea p.es.length p.ec], .int .i64 n] func44 (by kernel_rfl) (fun _ => False) [] (fun _ h => by cases h) (List.Pairwise.nil) 14 (by kernel_rfl) (by simp) ?_
  refine run_auto [] 2 [] [] [0, 1] [] (st' := ⟨[(0, .agg #[iV p.ll, iV p.lh, iV p.ul, iV p.uh, .slice p.ea p.es.length p.ec]), (1, iV n)], []⟩) (acc := []) (by kernel_rfl) (by kernel_rfl) trivial ?_
  refine run_new (aO #[iV p.ll, iV p.lh, iV p.ul, iV p.uh, .slice p.ea p.es.length p.ec] 26) (fun b1 => pA b1) (some 2) (fun _ => by kernel_rfl) (fun b1 hb1 => ?_)
  cases hd1 : (decide (n < 0)) with
  | false =>
    have hp1 := of_decide_eq_false hd1
    cases hd2 : (decide ((p.es.length : Int) ≤ n)) with
    | false =>
      have hp2 := of_decide_eq_false hd2
      refine run_auto [(5, .bool false), (11, .bool false)] 15 [false] [0] [] [] (st' := ⟨[], []⟩) (acc := [(.bool false, .bool false), (.bool (decide ((p.es.length : Int) ≤ n)), .bool false), (pA b1, pA b1), (.bool (decide (n < 0)), .bool false)]) (by kernel_rfl) (by kernel_rfl) ⟨rfl, (bo hd2), rfl, (bo hd1), trivial⟩ ?_
      refine run_end (fn := f44) rfl (Nat.le_refl _) (by kernel_rfl) [] [] (e := []) (by kernel_rfl) trivial (fun w1 k1 h1 => ?_)
      have h : decide (0 ≤ n ∧ n < (p.es.length : Int)) = true := decide_eq_true (by omega)
      unfold Need
      rw [h]
      exact ⟨rfl, k1.keeps (fun _ h => h)⟩
    | true =>
      have hp2 := of_decide_eq_true hd2
      refine run_auto [(5, .bool false), (11, .bool true)] 16 [true] [0] [13] [] (st' := ⟨[(13, .iface 29 (iV 2))], []⟩) (acc := [(.bool true, .bool true), (.bool (decide ((p.es.length : Int) ≤ n)), .bool true), (pA b1, pA b1), (.bool (decide (n < 0)), .bool false)]) (by kernel_rfl) (by kernel_rfl) ⟨rfl, (bo hd2), rfl, (bo hd1), trivial⟩ ?_
      have h : decide (0 ≤ n ∧ n < (p.es.length : Int)) = false := decide_eq_false (by omega)
      unfold Need
      rw [h]
      exact run_panic rfl (Nat.le_refl _) (Instr.panic (.iface 29 (iV 2)) >>= fun v => pure (Next.value v)) none (.iface 29 (iV 2)) (by kernel_rfl) (fun w => by kernel_rfl) (fun w1 k1 h1 => ⟨rfl, k1.keeps (fun _ h => h)⟩)
  | true =>
    have hp1 := of_decide_eq_true hd1
    refine run_auto [(5, .bool true)] 16 [true] [] [13] [] (st' := ⟨[(13, .iface 29 (iV 2))], []⟩) (acc := [(.bool true, .bool true), (.bool (decide (n < 0)), .bool true)]) (by kernel_rfl) (by kernel_rfl) ⟨rfl, (bo hd1), trivial⟩ ?_
    have h : decide (0 ≤ n ∧ n < (p.es.length : Int)) = false := decide_eq_false (by omega)
    unfold Need
    rw [h]
    exact run_panic rfl (Nat.le_refl _) (Instr.panic (.iface 29 (iV 2)) >>= fun v => pure (Next.value v)) none (.iface 29 (iV 2)) (by kernel_rfl) (fun w => by kernel_rfl) (fun w1 k1 h1 => ⟨rfl, k1.keeps (fun _ h => h)⟩)

set_option maxRecDepth 100000 in
theorem needShows_any (a b : Int) (w : World)  : Calls Tryz.prog 63 #[.agg #[.int .i64 a, .int .i64 b]] w (Need (spI (a, b) (-1000) 1000) 2 w) := by
  refine calls_run (fn := f63) (c := (f63.body).getD .skip) [.agg #[.int .i64 a, .int .i64 b]] func63 (by kernel_rfl) (fun _ => False) [] (fun _ h => by cases h) (List.Pairwise.nil) 6 (by kernel_rfl) (by simp) ?_
  refine run_auto [] 2 [] [] [0] [] (st' := ⟨[(0, .agg #[iV a, iV b])], []⟩) (acc := []) (by kernel_rfl) (by kernel_rfl) trivial ?_
  refine run_new (aO #[iV a, iV b] 23) (fun b1 => pA b1) (some 1) (fun _ => by kernel_rfl) (fun b1 hb1 => ?_)
  refine run_auto [] 4 [] [0] [2] [] (st' := ⟨[(2, .agg #[iV a, iV b])], []⟩) (acc := [(pA b1, pA b1)]) (by kernel_rfl) (by kernel_rfl) ⟨rfl, trivial⟩ ?_
  cases hd1 : (spI (a, b) (-1000) 1000) with
  | false =>
    refine run_ret1 110 #[.agg #[iV a, iV b]] (some 3) (.bool false) (by kernel_rfl) (fun w1 k1 h1 => (by have h := vshows_any a b w1; rw [hd1] at h; exact h)) ?_
    refine run_auto [(4, .bool true)] 5 [true] [] [5] [] (st' := ⟨[(5, .iface 29 (iV 2))], []⟩) (acc := [(.bool true, .bool true), (.bool true, .bool true)]) (by kernel_rfl) (by kernel_rfl) ⟨rfl, rfl, trivial⟩ ?_
    have h : spI (a, b) (-1000) 1000 = false := by simp [hd1]
    unfold Need
    try rw [h]
    exact run_panic rfl (Nat.le_refl _) (Instr.panic (.iface 29 (iV 2)) >>= fun v => pure (Next.value v)) none (.iface 29 (iV 2)) (by kernel_rfl) (fun w => by kernel_rfl) (fun w1 k1 h1 => ⟨rfl, k1.keeps (fun _ h => h)⟩)
  | true =>
    refine run_ret1 110 #[.agg #[iV a, iV b]] (some 3) (.bool true) (by kernel_rfl) (fun w1 k1 h1 => (by have h := vshows_any a b w1; rw [hd1] at h; exact h)) ?_
    refine run_auto [(4, .bool false)] 4 [false] [] [] [] (st' := ⟨[], []⟩) (acc := [(.bool false, .bool false), (.bool false, .bool false)]) (by kernel_rfl) (by kernel_rfl) ⟨rfl, rfl, trivial⟩ ?_
    refine run_end (fn := f63) rfl (Nat.le_refl _) (by kernel_rfl) [] [] (e := []) (by kernel_rfl) trivial (fun w1 k1 h1 => ?_)
    have h : spI (a, b) (-1000) 1000 = true := by simp [hd1]
    unfold Need
    try rw [h]
    exact ⟨rfl, k1.keeps (fun _ h => h)⟩

set_option maxRecDepth 100000 in
theorem needLimit_any (n : Int) (w : World)  : Calls Tryz.prog 55 #[.int .i64 n] w (Need (spI (n, n) (-1000) 1000) 2 w) := by
  refine calls_run (fn := f55) (c := (f55.body).getD .skip) [.int .i64 n] func55 (by kernel_rfl) (fun _ => False) [] (fun _ h => by cases h) (List.Pairwise.nil) 6 (by kernel_rfl) (by simp) ?_
  refine run_auto [] 4 [] [] [4] [] (st' := ⟨[(4, .agg #[iV n, iV n])], []⟩) (acc := []) (by kernel_rfl) (by kernel_rfl) trivial ?_
  cases hd1 : (spI (n, n) (-1000) 1000) with
  | false =>
    exact run_panics rfl (Nat.le_refl _) 63 #[.agg #[iV n, iV n]] (some 5) (pe 2) (by kernel_rfl) (fun w1 k1 h1 => (by have h := needShows_any n n w1; rw [hd1] at h; exact h)) (fun w1 k1 h1 => ⟨rfl, k1.keeps (fun _ h => h)⟩)
  | true =>
    refine run_ret1 63 #[.agg #[iV n, iV n]] (some 5) (.tuple #[]) (by kernel_rfl) (fun w1 k1 h1 => (by have h := needShows_any n n w1; rw [hd1] at h; exact h)) ?_
    refine run_auto [] 1 [] [] [] [] (st' := ⟨[], []⟩) (acc := []) (by kernel_rfl) (by kernel_rfl) trivial ?_
    refine run_end (fn := f55) rfl (Nat.le_refl _) (by kernel_rfl) [] [] (e := []) (by kernel_rfl) trivial (fun w1 k1 h1 => ?_)
    exact ⟨rfl, k1.keeps (fun _ h => h)⟩

end Go.Proofs.YtdehgplklgfcdaaGreat

namespace Go.Proofs.YtdehgplklgfcdaaGreat
open Go.RowKit Go.Proofs.Tryz


/-- An event as the program has it. -/
def evV (u : Sp) (e : Ev) : Value := bif e.1 == 0 then .iface 171 (.agg #[.int .i64 e.2.1, .int .i64 u.1, .int .i64 u.2]) else bif e.1 == 2 then .iface 173 (.agg #[.int .i64 e.2.2.1, .int .i64 e.2.2.2]) else .iface 175 (.agg #[.int .i64 e.2.2.1, .int .i64 e.2.2.2])
set_option maxRecDepth 100000 in
theorem f0_any (u : Sp) (e : Ev) (k : Sp) (w : World) (hu : 0 ≤ u.1 ∧ u.1 ≤ u.2 ∧ u.2 ≤ 3) (hv : vEv e = true) (hk : bdS k 3000) (h0 : (e.1 == 0) = true) : Calls Tryz.prog 157 #[.agg #[.int .i64 e.2.1, .int .i64 u.1, .int .i64 u.2], .agg #[.int .i64 k.1, .int .i64 k.2]] w (Ret (.agg #[.int .i64 (fwdE u e k).1, .int .i64 (fwdE u e k).2]) w) := by
  have hm : 0 ≤ e.2.1 * u.1 ∧ e.2.1 * u.1 ≤ e.2.1 * u.2 ∧ e.2.1 * u.2 ≤ 60 := man_bd hu hv (by simpa using h0)
  unfold bdS at hk
  refine calls_run (fn := f157) (c := (f157.body).getD .skip) [.agg #[.int .i64 e.2.1, .int .i64 u.1, .int .i64 u.2], .agg #[.int .i64 k.1, .int .i64 k.2]] func157 (by kernel_rfl) (fun _ => False) [] (fun _ h => by cases h) (List.Pairwise.nil) 11 (by kernel_rfl) (by simp) ?_
  refine run_auto [] 2 [] [] [0, 1] [] (st' := ⟨[(0, .agg #[iV e.2.1, iV u.1, iV u.2]), (1, .agg #[iV k.1, iV k.2])], []⟩) (acc := []) (by kernel_rfl) (by kernel_rfl) trivial ?_
  refine run_new (aO #[iV e.2.1, iV u.1, iV u.2] 171) (fun b1 => pA b1) (some 2) (fun _ => by kernel_rfl) (fun b1 hb1 => ?_)
  refine run_new (aO #[iV k.1, iV k.2] 75) (fun b2 => pA b2) (some 3) (fun _ => by kernel_rfl) (fun b2 hb2 => ?_)
  refine run_new (aO #[iV 0, iV 0] 75) (fun b3 => pA b3) (some 4) (fun _ => by kernel_rfl) (fun b3 hb3 => ?_)
  refine run_auto [] 8 [] [1, 2, 2] [4, 5, 7, 9] [0] (st' := ⟨[(4, pA b3), (5, .agg #[iV k.1, iV k.2]), (7, .agg #[iV u.1, iV u.2]), (9, iV e.2.1)], [(b3, aO #[iV 0, iV 0] 75)]⟩) (acc := [(pA b1, pA b1), (pA b1, pA b1), (pA b2, pA b2)]) (by kernel_rfl) (by kernel_rfl) ⟨rfl, rfl, rfl, trivial⟩ ?_
  refine run_ret1 74 #[.agg #[iV k.1, iV k.2], .agg #[iV u.1, iV u.2], iV e.2.1] (some 10) (.agg #[iV ((movS k (negS (manS e.2.1 u))).1), iV ((movS k (negS (manS e.2.1 u))).2)]) (by kernel_rfl) (fun w1 k1 h1 => worn_any k.1 k.2 u.1 u.2 e.2.1 (by omega) (by omega) (by omega) (by omega) (by omega) (by omega) (by omega) (by omega) w1) ?_
  refine run_auto [] 2 [] [0] [4] [0] (st' := ⟨[(4, pA b3)], [(b3, aO #[iV ((movS k (negS (manS e.2.1 u))).1), iV ((movS k (negS (manS e.2.1 u))).2)] 75)]⟩) (acc := [(pA b3, pA b3)]) (by kernel_rfl) (by kernel_rfl) ⟨rfl, trivial⟩ ?_
  refine run_end (fn := f157) rfl (Nat.le_refl _) (by kernel_rfl) [0] [.agg #[iV ((movS k (negS (manS e.2.1 u))).1), iV ((movS k (negS (manS e.2.1 u))).2)]] (e := [(pA b3, pA b3)]) (by kernel_rfl) ⟨rfl, trivial⟩ (fun w1 k1 h1 => ?_)
  exact ⟨by unfold fwdE; rw [h0]; rfl, k1.keeps (fun _ h => h)⟩

set_option maxRecDepth 100000 in
theorem f1_any (u : Sp) (e : Ev) (k : Sp) (w : World) (hv : vEv e = true) (hk : bdS k 3000) (h0 : (e.1 == 0) = false) (h2 : (e.1 == 2) = true) : Calls Tryz.prog 160 #[.agg #[.int .i64 e.2.2.1, .int .i64 e.2.2.2], .agg #[.int .i64 k.1, .int .i64 k.2]] w (Ret (.agg #[.int .i64 (fwdE u e k).1, .int .i64 (fwdE u e k).2]) w) := by
  have hm := lap_bd hv (by simpa using h2)
  unfold bdS at hk
  refine calls_run (fn := f160) (c := (f160.body).getD .skip) [.agg #[.int .i64 e.2.2.1, .int .i64 e.2.2.2], .agg #[.int .i64 k.1, .int .i64 k.2]] func160 (by kernel_rfl) (fun _ => False) [] (fun _ h => by cases h) (List.Pairwise.nil) 9 (by kernel_rfl) (by simp) ?_
  refine run_auto [] 2 [] [] [0, 1] [] (st' := ⟨[(0, .agg #[iV e.2.2.1, iV e.2.2.2]), (1, .agg #[iV k.1, iV k.2])], []⟩) (acc := []) (by kernel_rfl) (by kernel_rfl) trivial ?_
  refine run_new (aO #[iV e.2.2.1, iV e.2.2.2] 173) (fun b1 => pA b1) (some 2) (fun _ => by kernel_rfl) (fun b1 hb1 => ?_)
  refine run_new (aO #[iV k.1, iV k.2] 75) (fun b2 => pA b2) (some 3) (fun _ => by kernel_rfl) (fun b2 hb2 => ?_)
  refine run_new (aO #[iV 0, iV 0] 75) (fun b3 => pA b3) (some 4) (fun _ => by kernel_rfl) (fun b3 hb3 => ?_)
  refine run_auto [] 6 [] [1, 2] [4, 5, 7] [0] (st' := ⟨[(4, pA b3), (5, .agg #[iV k.1, iV k.2]), (7, .agg #[iV e.2.2.1, iV e.2.2.2])], [(b3, aO #[iV 0, iV 0] 75)]⟩) (acc := [(pA b1, pA b1), (pA b2, pA b2)]) (by kernel_rfl) (by kernel_rfl) ⟨rfl, rfl, trivial⟩ ?_
  refine run_ret1 113 #[.agg #[iV k.1, iV k.2], .agg #[iV e.2.2.1, iV e.2.2.2]] (some 8) (.agg #[iV ((movS k (negS e.2.2)).1), iV ((movS k (negS e.2.2)).2)]) (by kernel_rfl) (fun w1 k1 h1 => less_any k.1 k.2 e.2.2.1 e.2.2.2 (by omega) (by omega) (by omega) (by omega) (by omega) (by omega) (by omega) (by omega) w1) ?_
  refine run_auto [] 2 [] [0] [4] [0] (st' := ⟨[(4, pA b3)], [(b3, aO #[iV ((movS k (negS e.2.2)).1), iV ((movS k (negS e.2.2)).2)] 75)]⟩) (acc := [(pA b3, pA b3)]) (by kernel_rfl) (by kernel_rfl) ⟨rfl, trivial⟩ ?_
  refine run_end (fn := f160) rfl (Nat.le_refl _) (by kernel_rfl) [0] [.agg #[iV ((movS k (negS e.2.2)).1), iV ((movS k (negS e.2.2)).2)]] (e := [(pA b3, pA b3)]) (by kernel_rfl) ⟨rfl, trivial⟩ (fun w1 k1 h1 => ?_)
  exact ⟨by unfold fwdE; rw [h0, h2]; rfl, k1.keeps (fun _ h => h)⟩

set_option maxRecDepth 100000 in
theorem f2_any (u : Sp) (e : Ev) (k : Sp) (w : World) (h0 : (e.1 == 0) = false) (h2 : (e.1 == 2) = false) : Calls Tryz.prog 162 #[.agg #[.int .i64 e.2.2.1, .int .i64 e.2.2.2], .agg #[.int .i64 k.1, .int .i64 k.2]] w (Ret (.agg #[.int .i64 (fwdE u e k).1, .int .i64 (fwdE u e k).2]) w) := by
  refine calls_run (fn := f162) (c := (f162.body).getD .skip) [.agg #[.int .i64 e.2.2.1, .int .i64 e.2.2.2], .agg #[.int .i64 k.1, .int .i64 k.2]] func162 (by kernel_rfl) (fun _ => False) [] (fun _ h => by cases h) (List.Pairwise.nil) 10 (by kernel_rfl) (by simp) ?_
  refine run_auto [] 2 [] [] [0, 1] [] (st' := ⟨[(0, .agg #[iV e.2.2.1, iV e.2.2.2]), (1, .agg #[iV k.1, iV k.2])], []⟩) (acc := []) (by kernel_rfl) (by kernel_rfl) trivial ?_
  refine run_new (aO #[iV e.2.2.1, iV e.2.2.2] 175) (fun b1 => pA b1) (some 2) (fun _ => by kernel_rfl) (fun b1 hb1 => ?_)
  refine run_new (aO #[iV k.1, iV k.2] 75) (fun b2 => pA b2) (some 3) (fun _ => by kernel_rfl) (fun b2 hb2 => ?_)
  refine run_new (aO #[iV 0, iV 0] 75) (fun b3 => pA b3) (some 4) (fun _ => by kernel_rfl) (fun b3 hb3 => ?_)
  refine run_auto [] 6 [] [1, 2] [4, 5, 7] [0] (st' := ⟨[(4, pA b3), (5, .agg #[iV k.1, iV k.2]), (7, .agg #[iV e.2.2.1, iV e.2.2.2])], [(b3, aO #[iV 0, iV 0] 75)]⟩) (acc := [(pA b1, pA b1), (pA b2, pA b2)]) (by kernel_rfl) (by kernel_rfl) ⟨rfl, rfl, trivial⟩ ?_
  refine run_new (aO #[iV e.2.2.1, iV e.2.2.2] 75) (fun b4 => sV b4 1 1) (some 8) (fun _ => by kernel_rfl) (fun b4 hb4 => ?_)
  refine run_ret1 111 #[.agg #[iV k.1, iV k.2], sV b4 1 1] (some 9) (.agg #[iV (cutS k e.2.2).1, iV (cutS k e.2.2).2]) (by kernel_rfl) (fun w1 k1 h1 => cut_any b4 k.1 k.2 e.2.2.1 e.2.2.2 w1 (h1 (b4, aO #[iV e.2.2.1, iV e.2.2.2] 75) (List.mem_of_getElem? (i := 0) (by kernel_rfl)))) ?_
  refine run_auto [] 2 [] [1] [4] [1] (st' := ⟨[(4, pA b3)], [(b3, aO #[iV (cutS k e.2.2).1, iV (cutS k e.2.2).2] 75)]⟩) (acc := [(pA b3, pA b3)]) (by kernel_rfl) (by kernel_rfl) ⟨rfl, trivial⟩ ?_
  refine run_end (fn := f162) rfl (Nat.le_refl _) (by kernel_rfl) [0] [.agg #[iV (cutS k e.2.2).1, iV (cutS k e.2.2).2]] (e := [(pA b3, pA b3)]) (by kernel_rfl) ⟨rfl, trivial⟩ (fun w1 k1 h1 => ?_)
  exact ⟨by unfold fwdE; rw [h0, h2]; rfl, k1.keeps (fun _ h => h)⟩

set_option maxRecDepth 100000 in
theorem b0_any (u : Sp) (e : Ev) (k : Sp) (w : World) (hu : 0 ≤ u.1 ∧ u.1 ≤ u.2 ∧ u.2 ≤ 3) (hv : vEv e = true) (hk : bdS k 3000) (h0 : (e.1 == 0) = true) : Calls Tryz.prog 156 #[.agg #[.int .i64 e.2.1, .int .i64 u.1, .int .i64 u.2], .agg #[.int .i64 k.1, .int .i64 k.2]] w (Ret (.agg #[.int .i64 (bckE u e k).1, .int .i64 (bckE u e k).2]) w) := by
  have hm : 0 ≤ e.2.1 * u.1 ∧ e.2.1 * u.1 ≤ e.2.1 * u.2 ∧ e.2.1 * u.2 ≤ 60 := man_bd hu hv (by simpa using h0)
  unfold bdS at hk
  refine calls_run (fn := f156) (c := (f156.body).getD .skip) [.agg #[.int .i64 e.2.1, .int .i64 u.1, .int .i64 u.2], .agg #[.int .i64 k.1, .int .i64 k.2]] func156 (by kernel_rfl) (fun _ => False) [] (fun _ h => by cases h) (List.Pairwise.nil) 12 (by kernel_rfl) (by simp) ?_
  refine run_auto [] 2 [] [] [0, 1] [] (st' := ⟨[(0, .agg #[iV e.2.1, iV u.1, iV u.2]), (1, .agg #[iV k.1, iV k.2])], []⟩) (acc := []) (by kernel_rfl) (by kernel_rfl) trivial ?_
  refine run_new (aO #[iV e.2.1, iV u.1, iV u.2] 171) (fun b1 => pA b1) (some 2) (fun _ => by kernel_rfl) (fun b1 hb1 => ?_)
  refine run_new (aO #[iV k.1, iV k.2] 75) (fun b2 => pA b2) (some 3) (fun _ => by kernel_rfl) (fun b2 hb2 => ?_)
  refine run_new (aO #[iV 0, iV 0] 75) (fun b3 => pA b3) (some 4) (fun _ => by kernel_rfl) (fun b3 hb3 => ?_)
  refine run_auto [] 2 [] [] [2, 3, 4] [0, 1, 2] (st' := ⟨[(2, pA b1), (3, pA b2), (4, pA b3)], [(b3, aO #[iV 0, iV 0] 75), (b2, aO #[iV k.1, iV k.2] 75), (b1, aO #[iV e.2.1, iV u.1, iV u.2] 171)]⟩) (acc := []) (by kernel_rfl) (by kernel_rfl) trivial ?_
  refine draw 8 [{ val := fun _ => .agg #[iV k.1, iV k.2], slots := [3], reads := [1] },
      { val := fun _ => pA b1, slots := [2] },
      { val := fun _ => iV e.2.1, slots := [6], reads := [2] },
      { val := fun _ => .pointer (some ⟨b1, 1, none⟩), slots := [2] },
      { val := fun _ => .agg #[iV u.1, iV u.2], slots := [8], reads := [2] },
      { val := fun _ => .agg #[iV (e.2.1 * u.1), iV (e.2.1 * u.2)], slots := [7, 9] },
      { val := fun _ => .agg #[iV ((movS k ((e.2.1 * u.1), (e.2.1 * u.2))).1), iV ((movS k ((e.2.1 * u.1), (e.2.1 * u.2))).2)], slots := [5, 10] },
      { upd := [(0, fun l => aO #[iV ((movS k ((e.2.1 * u.1), (e.2.1 * u.2))).1), iV ((movS k ((e.2.1 * u.1), (e.2.1 * u.2))).2)] 75)], slots := [4, 11], reads := [0] }] [[], [], [1], [], [3], [1, 2, 3, 4], [0, 1, 2, 3, 4, 5], [0, 1, 2, 3, 4, 5, 6]] (by kernel_rfl) (by kernel_rfl) (by kernel_rfl) (by kernel_rfl) [4] [0] (by kernel_rfl)
      ⟨⟨⟨⟨⟨⟨⟨⟨trivial,
      tri_quiet (fun β => []) [0] [0] (fun β => [(pA b2, pA b2)]) (by kernel_rfl) (fun β extra => by kernel_rfl) (by kernel_rfl) (fun β => ⟨rfl, trivial⟩)⟩,
      tri_quiet (fun β => []) [] [] (fun β => []) (by kernel_rfl) (fun β extra => by kernel_rfl) (by kernel_rfl) (fun β => trivial)⟩,
      tri_quiet (fun β => []) [0] [0] (fun β => [(pA b1, pA b1)]) (by kernel_rfl) (fun β extra => by kernel_rfl) (by kernel_rfl) (fun β => ⟨rfl, trivial⟩)⟩,
      tri_quiet (fun β => []) [] [] (fun β => []) (by kernel_rfl) (fun β extra => by kernel_rfl) (by kernel_rfl) (fun β => trivial)⟩,
      tri_quiet (fun β => []) [0] [0] (fun β => [(pA b1, pA b1)]) (by kernel_rfl) (fun β extra => by kernel_rfl) (by kernel_rfl) (fun β => ⟨rfl, trivial⟩)⟩,
      tri_call 114 (fun β => #[iV e.2.1, .agg #[iV u.1, iV u.2]]) (by kernel_rfl) (fun β extra => by kernel_rfl) (fun β => by kernel_rfl) (fun β w1 k1 h1 => many_any e.2.1 u.1 u.2 (by omega) (by omega) (by omega) (by omega) w1)⟩,
      tri_call 158 (fun β => #[.agg #[iV k.1, iV k.2], .agg #[iV (e.2.1 * u.1), iV (e.2.1 * u.2)]]) (by kernel_rfl) (fun β extra => by kernel_rfl) (fun β => by kernel_rfl) (fun β w1 k1 h1 => more_any k.1 k.2 (e.2.1 * u.1) (e.2.1 * u.2) (by omega) (by omega) (by omega) (by omega) (by omega) (by omega) (by omega) (by omega) w1)⟩,
      tri_quiet (fun β => []) [0] [0] (fun β => [(pA b3, pA b3)]) (by kernel_rfl) (fun β extra => by kernel_rfl) (by kernel_rfl) (fun β => ⟨rfl, trivial⟩)⟩
      (fun β => ⟨[(4, pA b3)], [(b3, aO #[iV ((movS k ((e.2.1 * u.1), (e.2.1 * u.2))).1), iV ((movS k ((e.2.1 * u.1), (e.2.1 * u.2))).2)] 75)]⟩) (fun β => by kernel_rfl) (fun β4 => ?_)
  refine run_end (fn := f156) rfl (Nat.le_refl _) (by kernel_rfl) [0] [.agg #[iV ((movS k ((e.2.1 * u.1), (e.2.1 * u.2))).1), iV ((movS k ((e.2.1 * u.1), (e.2.1 * u.2))).2)]] (e := [(pA b3, pA b3)]) (by kernel_rfl) ⟨rfl, trivial⟩ (fun w1 k1 h1 => ?_)
  exact ⟨by unfold bckE; rw [h0]; rfl, k1.keeps (fun _ h => h)⟩

set_option maxRecDepth 100000 in
theorem b1_any (u : Sp) (e : Ev) (k : Sp) (w : World) (hv : vEv e = true) (hk : bdS k 3000) (h0 : (e.1 == 0) = false) (h2 : (e.1 == 2) = true) : Calls Tryz.prog 159 #[.agg #[.int .i64 e.2.2.1, .int .i64 e.2.2.2], .agg #[.int .i64 k.1, .int .i64 k.2]] w (Ret (.agg #[.int .i64 (bckE u e k).1, .int .i64 (bckE u e k).2]) w) := by
  have hm := lap_bd hv (by simpa using h2)
  unfold bdS at hk
  refine calls_run (fn := f159) (c := (f159.body).getD .skip) [.agg #[.int .i64 e.2.2.1, .int .i64 e.2.2.2], .agg #[.int .i64 k.1, .int .i64 k.2]] func159 (by kernel_rfl) (fun _ => False) [] (fun _ h => by cases h) (List.Pairwise.nil) 9 (by kernel_rfl) (by simp) ?_
  refine run_auto [] 2 [] [] [0, 1] [] (st' := ⟨[(0, .agg #[iV e.2.2.1, iV e.2.2.2]), (1, .agg #[iV k.1, iV k.2])], []⟩) (acc := []) (by kernel_rfl) (by kernel_rfl) trivial ?_
  refine run_new (aO #[iV e.2.2.1, iV e.2.2.2] 173) (fun b1 => pA b1) (some 2) (fun _ => by kernel_rfl) (fun b1 hb1 => ?_)
  refine run_new (aO #[iV k.1, iV k.2] 75) (fun b2 => pA b2) (some 3) (fun _ => by kernel_rfl) (fun b2 hb2 => ?_)
  refine run_new (aO #[iV 0, iV 0] 75) (fun b3 => pA b3) (some 4) (fun _ => by kernel_rfl) (fun b3 hb3 => ?_)
  refine run_auto [] 6 [] [1, 2] [4, 5, 7] [0] (st' := ⟨[(4, pA b3), (5, .agg #[iV k.1, iV k.2]), (7, .agg #[iV e.2.2.1, iV e.2.2.2])], [(b3, aO #[iV 0, iV 0] 75)]⟩) (acc := [(pA b1, pA b1), (pA b2, pA b2)]) (by kernel_rfl) (by kernel_rfl) ⟨rfl, rfl, trivial⟩ ?_
  refine run_ret1 158 #[.agg #[iV k.1, iV k.2], .agg #[iV e.2.2.1, iV e.2.2.2]] (some 8) (.agg #[iV (movS k e.2.2).1, iV (movS k e.2.2).2]) (by kernel_rfl) (fun w1 k1 h1 => more_any k.1 k.2 e.2.2.1 e.2.2.2 (by omega) (by omega) (by omega) (by omega) (by omega) (by omega) (by omega) (by omega) w1) ?_
  refine run_auto [] 2 [] [0] [4] [0] (st' := ⟨[(4, pA b3)], [(b3, aO #[iV (movS k e.2.2).1, iV (movS k e.2.2).2] 75)]⟩) (acc := [(pA b3, pA b3)]) (by kernel_rfl) (by kernel_rfl) ⟨rfl, trivial⟩ ?_
  refine run_end (fn := f159) rfl (Nat.le_refl _) (by kernel_rfl) [0] [.agg #[iV (movS k e.2.2).1, iV (movS k e.2.2).2]] (e := [(pA b3, pA b3)]) (by kernel_rfl) ⟨rfl, trivial⟩ (fun w1 k1 h1 => ?_)
  exact ⟨by unfold bckE; rw [h0, h2]; rfl, k1.keeps (fun _ h => h)⟩

set_option maxRecDepth 100000 in
theorem b2_any (u : Sp) (e : Ev) (k : Sp) (w : World) (h0 : (e.1 == 0) = false) (h2 : (e.1 == 2) = false) : Calls Tryz.prog 161 #[.agg #[.int .i64 e.2.2.1, .int .i64 e.2.2.2], .agg #[.int .i64 k.1, .int .i64 k.2]] w (Ret (.agg #[.int .i64 (bckE u e k).1, .int .i64 (bckE u e k).2]) w) := by
  refine calls_run (fn := f161) (c := (f161.body).getD .skip) [.agg #[.int .i64 e.2.2.1, .int .i64 e.2.2.2], .agg #[.int .i64 k.1, .int .i64 k.2]] func161 (by kernel_rfl) (fun _ => False) [] (fun _ h => by cases h) (List.Pairwise.nil) 10 (by kernel_rfl) (by simp) ?_
  refine run_auto [] 2 [] [] [0, 1] [] (st' := ⟨[(0, .agg #[iV e.2.2.1, iV e.2.2.2]), (1, .agg #[iV k.1, iV k.2])], []⟩) (acc := []) (by kernel_rfl) (by kernel_rfl) trivial ?_
  refine run_new (aO #[iV e.2.2.1, iV e.2.2.2] 175) (fun b1 => pA b1) (some 2) (fun _ => by kernel_rfl) (fun b1 hb1 => ?_)
  refine run_new (aO #[iV k.1, iV k.2] 75) (fun b2 => pA b2) (some 3) (fun _ => by kernel_rfl) (fun b2 hb2 => ?_)
  refine run_new (aO #[iV 0, iV 0] 75) (fun b3 => pA b3) (some 4) (fun _ => by kernel_rfl) (fun b3 hb3 => ?_)
  refine run_auto [] 6 [] [1, 2] [4, 5, 7] [0] (st' := ⟨[(4, pA b3), (5, .agg #[iV k.1, iV k.2]), (7, .agg #[iV e.2.2.1, iV e.2.2.2])], [(b3, aO #[iV 0, iV 0] 75)]⟩) (acc := [(pA b1, pA b1), (pA b2, pA b2)]) (by kernel_rfl) (by kernel_rfl) ⟨rfl, rfl, trivial⟩ ?_
  refine run_new (aO #[iV e.2.2.1, iV e.2.2.2] 75) (fun b4 => sV b4 1 1) (some 8) (fun _ => by kernel_rfl) (fun b4 hb4 => ?_)
  refine run_ret1 111 #[.agg #[iV k.1, iV k.2], sV b4 1 1] (some 9) (.agg #[iV (cutS k e.2.2).1, iV (cutS k e.2.2).2]) (by kernel_rfl) (fun w1 k1 h1 => cut_any b4 k.1 k.2 e.2.2.1 e.2.2.2 w1 (h1 (b4, aO #[iV e.2.2.1, iV e.2.2.2] 75) (List.mem_of_getElem? (i := 0) (by kernel_rfl)))) ?_
  refine run_auto [] 2 [] [1] [4] [1] (st' := ⟨[(4, pA b3)], [(b3, aO #[iV (cutS k e.2.2).1, iV (cutS k e.2.2).2] 75)]⟩) (acc := [(pA b3, pA b3)]) (by kernel_rfl) (by kernel_rfl) ⟨rfl, trivial⟩ ?_
  refine run_end (fn := f161) rfl (Nat.le_refl _) (by kernel_rfl) [0] [.agg #[iV (cutS k e.2.2).1, iV (cutS k e.2.2).2]] (e := [(pA b3, pA b3)]) (by kernel_rfl) ⟨rfl, trivial⟩ (fun w1 k1 h1 => ?_)
  exact ⟨by unfold bckE; rw [h0, h2]; rfl, k1.keeps (fun _ h => h)⟩

set_option maxRecDepth 100000 in
theorem eventOf_any (u : Sp) (e : Ev) (w : World)  : Calls Tryz.prog 134 #[.agg #[.int .i64 (e).1, .int .i64 (e).2.1, .int .i64 (e).2.2.1, .int .i64 (e).2.2.2], .agg #[.int .i64 u.1, .int .i64 u.2]] w (Ret (evV u e) w) := by
  refine calls_run (fn := f134) (c := (f134.body).getD .skip) [.agg #[.int .i64 (e).1, .int .i64 (e).2.1, .int .i64 (e).2.2.1, .int .i64 (e).2.2.2], .agg #[.int .i64 u.1, .int .i64 u.2]] func134 (by kernel_rfl) (fun _ => False) [] (fun _ h => by cases h) (List.Pairwise.nil) 25 (by kernel_rfl) (by simp) ?_
  refine run_auto [] 2 [] [] [0, 1] [] (st' := ⟨[(0, .agg #[iV (e).1, iV (e).2.1, iV (e).2.2.1, iV (e).2.2.2]), (1, .agg #[iV u.1, iV u.2])], []⟩) (acc := []) (by kernel_rfl) (by kernel_rfl) trivial ?_
  refine run_new (aO #[iV (e).1, iV (e).2.1, iV (e).2.2.1, iV (e).2.2.2] 55) (fun b1 => pA b1) (some 2) (fun _ => by kernel_rfl) (fun b1 hb1 => ?_)
  refine run_new (aO #[iV u.1, iV u.2] 23) (fun b2 => pA b2) (some 3) (fun _ => by kernel_rfl) (fun b2 hb2 => ?_)
  cases hd1 : ((e).1 == 0) with
  | false =>
    have hp1 : ¬ (e).1 = 0 := by simpa using hd1
    cases hd2 : ((e).1 == 2) with
    | false =>
      have hp2 : ¬ (e).1 = 2 := by simpa using hd2
      refine run_auto [(8, .bool false), (15, .bool false)] 32 [false, false] [1, 1] [4] [] (st' := ⟨[(4, .iface 175 (.agg #[iV (e).2.2.1, iV (e).2.2.2]))], []⟩) (acc := [(pA b1, pA b1), (.bool false, .bool false), (.bool ((e).1 == 2), .bool false), (.bool false, .bool false), (.bool ((e).1 == 0), .bool false), (pA b1, pA b1)]) (by kernel_rfl) (by kernel_rfl) ⟨rfl, rfl, (bo hd2), rfl, (bo hd1), rfl, trivial⟩ ?_
      refine run_end (fn := f134) rfl (Nat.le_refl _) (by kernel_rfl) [] [.iface 175 (.agg #[iV (e).2.2.1, iV (e).2.2.2])] (e := []) (by kernel_rfl) trivial (fun w1 k1 h1 => ?_)
      exact ⟨by unfold evV; rw [hd1, hd2]; rfl, k1.keeps (fun _ h => h)⟩
    | true =>
      have hp2 : (e).1 = 2 := by simpa using hd2
      refine run_auto [(8, .bool false), (15, .bool true)] 29 [false, true] [1, 1] [2, 4] [1] (st' := ⟨[(2, pA b1), (4, .iface 173 (.agg #[iV (e).2.2.1, iV (e).2.2.2]))], [(b1, aO #[iV (e).1, iV (e).2.1, iV (e).2.2.1, iV (e).2.2.2] 55)]⟩) (acc := [(pA b1, pA b1), (.bool true, .bool true), (.bool ((e).1 == 2), .bool true), (.bool false, .bool false), (.bool ((e).1 == 0), .bool false), (pA b1, pA b1)]) (by kernel_rfl) (by kernel_rfl) ⟨rfl, rfl, (bo hd2), rfl, (bo hd1), rfl, trivial⟩ ?_
      refine run_end (fn := f134) rfl (Nat.le_refl _) (by kernel_rfl) [] [.iface 173 (.agg #[iV (e).2.2.1, iV (e).2.2.2])] (e := []) (by kernel_rfl) trivial (fun w1 k1 h1 => ?_)
      exact ⟨by unfold evV; rw [hd1, hd2]; rfl, k1.keeps (fun _ h => h)⟩
  | true =>
    have hp1 : (e).1 = 0 := by simpa using hd1
    refine run_auto [(8, .bool true)] 24 [true] [1, 1, 0] [2, 4] [1] (st' := ⟨[(2, pA b1), (4, .iface 171 (.agg #[iV (e).2.1, iV u.1, iV u.2]))], [(b1, aO #[iV (e).1, iV (e).2.1, iV (e).2.2.1, iV (e).2.2.2] 55)]⟩) (acc := [(pA b2, pA b2), (pA b1, pA b1), (.bool true, .bool true), (.bool ((e).1 == 0), .bool true), (pA b1, pA b1)]) (by kernel_rfl) (by kernel_rfl) ⟨rfl, rfl, rfl, (bo hd1), rfl, trivial⟩ ?_
    refine run_end (fn := f134) rfl (Nat.le_refl _) (by kernel_rfl) [] [.iface 171 (.agg #[iV (e).2.1, iV u.1, iV u.2])] (e := []) (by kernel_rfl) trivial (fun w1 k1 h1 => ?_)
    exact ⟨by unfold evV; rw [hd1]; rfl, k1.keeps (fun _ h => h)⟩


def rgL (n : Nat) (G : Nat → List Value) : List (List Value) := (List.range n).map G
theorem rgL_next (n : Nat) (G : Nat → List Value) : rgL (n + 1) G = rgL n G ++ [G n] := by unfold rgL; rw [List.range_succ, List.map_append]; rfl
theorem rgL_len (n : Nat) (G : Nat → List Value) : (rgL n G).length = n := by unfold rgL; rw [List.length_map, List.length_range]
theorem rgL_pre {i n : Nat} (G : Nat → List Value) (h : i < n) : rgL i G ++ [G i] <+: rgL n G := by
  rw [← rgL_next]
  obtain ⟨d, rfl⟩ := Nat.exists_eq_add_of_le (show i + 1 ≤ n from h)
  have h2 : List.range (i + 1 + d) = List.range (i + 1) ++ (List.range d).map (i + 1 + ·) := List.range_add
  unfold rgL
  rw [h2, List.map_append]
  exact List.prefix_append _ _
theorem rgL_at {n : Nat} {G : Nat → List Value} {pre : List (List Value)} {x : List Value} (h : pre ++ [x] <+: rgL n G) : pre.length < n ∧ pre = rgL pre.length G ∧ x = G pre.length := by
  have hl := h.length_le
  rw [rgL_len, List.length_append] at hl
  have hl : pre.length < n := hl
  have h2 := rgL_pre G hl
  have h3 : (pre ++ [x]).length = (rgL pre.length G ++ [G pre.length]).length := by simp [rgL_len]
  have h4 := List.prefix_of_prefix_length_le h h2 (Nat.le_of_eq h3)
  have h5 := List.IsPrefix.eq_of_length h4 h3
  have h6 := List.append_inj h5 (by rw [rgL_len])
  exact ⟨hl, h6.1, by have := h6.2; simpa using this⟩
/-- The events lie where nobody else writes. -/
def EvsD (es : List Ev) (ea : Option Addr) (D : Nat → Prop) (w : World) : Prop :=
  es ≠ [] → ∃ b o, ea = some ⟨b, o, none⟩ ∧ ¬ D b ∧ ∀ i, i < es.length → w.cell? ⟨b, o + i * 4, none⟩ = some (.int .i64 (elE es i).1) ∧ w.cell? ⟨b, o + i * 4 + 1, none⟩ = some (.int .i64 (elE es i).2.1) ∧ w.cell? ⟨b, o + i * 4 + 2, none⟩ = some (.int .i64 (elE es i).2.2.1) ∧ w.cell? ⟨b, o + i * 4 + 3, none⟩ = some (.int .i64 (elE es i).2.2.2)
theorem Evs.evD {es : List Ev} {ea : Option Addr} {D : Nat → Prop} {w : World} (h : Evs w ea es) (hD : ∀ b, b < w.heap.size → ¬ D b) : EvsD es ea D w := by
  intro hx
  obtain ⟨b, o, e, hc⟩ := h hx
  exact ⟨b, o, e, hD b (lt_of_cell (hc 0 (List.length_pos_iff.2 hx)).1), hc⟩
theorem EvsD.kept {es : List Ev} {ea : Option Addr} {D D' : Nat → Prop} {w w' : World} (h : EvsD es ea D w) (k : Kept D w w') (hD : ∀ b, b < w.heap.size → D' b → D b) : EvsD es ea D' w' := by
  intro hx
  obtain ⟨b, o, e, hd, hc⟩ := h hx
  have hl := lt_of_cell (hc 0 (List.length_pos_iff.2 hx)).1
  exact ⟨b, o, e, fun h => hd (hD b hl h), fun i hi => ⟨k.cell (hc i hi).1 hd, k.cell (hc i hi).2.1 hd, k.cell (hc i hi).2.2.1 hd, k.cell (hc i hi).2.2.2 hd⟩⟩
def evA (es : List Ev) (i : Nat) : List Value := [.int .i64 (i : Int), .agg (evR (elE es i)).toArray]
def evI (u : Sp) (es : List Ev) (i : Nat) : List Value := [.int .i64 (i : Int), evV u (elE es i)]
def revN (n : Nat) (G : Nat → List Value) (t : Nat) : List Value := G (n - 1 - t)
end Go.Proofs.YtdehgplklgfcdaaGreat

namespace Go.Proofs.YtdehgplklgfcdaaGreat
open Go.RowKit Go.Proofs.Tryz


/-- These blocks are so, and nobody else writes to them. -/
def OwnD (own : List (Nat × Obj)) (D : Nat → Prop) (w : World) : Prop := ∀ p ∈ own, w.heap[p.1]? = some p.2 ∧ ¬ D p.1
theorem OwnD.kept {own : List (Nat × Obj)} {D D' : Nat → Prop} {w w' : World} (h : OwnD own D w) (k : Kept D w w') (hD : ∀ b, b < w.heap.size → D' b → D b) : OwnD own D' w' := fun p hp =>
  have h1 := h p hp
  have hl := (Array.getElem?_eq_some_iff.1 h1.1).1
  ⟨(k.block p.1 hl h1.2).trans h1.1, fun hd => h1.2 (hD _ hl hd)⟩
theorem Gives.own {P : Program} {gf : FuncId} {caps : Array Value} {own : List (Nat × Obj)} {Pin : (Nat → Prop) → World → Prop} {Pre Fin : List (List Value) → Prop} (h : Gives P gf caps [] (fun D w => OwnD own D w ∧ Pin D w) Pre Fin) : Gives P gf caps own Pin Pre Fin :=
  fun l J Jx E0 w hE0 hst hJw hown hdis hin hy => h l J Jx E0 w hE0 hst hJw (fun p hp => by cases hp) (fun p hp => by cases hp) ⟨fun p hp => ⟨hown p hp, hdis p hp⟩, hin⟩ hy
set_option maxRecDepth 100000 in
theorem slAll_any (ea : Option Addr) (n ec : Nat) (w : World)  : Calls Tryz.prog 125 #[.slice ea n ec] w (Nw (α := Unit) (fun _ b => .func (.func 135) #[] #[.pointer (some ⟨b, 0, none⟩)]) (fun _ => .cells #[.slice ea n ec] 24 (0, 0)) (fun _ => True) w) := by
  refine calls_run (fn := f125) (c := (f125.body).getD .skip) [.slice ea n ec] func125 (by kernel_rfl) (fun _ => False) [] (fun _ h => by cases h) (List.Pairwise.nil) 4 (by kernel_rfl) (by simp) ?_
  refine run_auto [] 2 [] [] [0] [] (st' := ⟨[(0, .slice ea n ec)], []⟩) (acc := []) (by kernel_rfl) (by kernel_rfl) trivial ?_
  refine run_new (aO #[.slice ea n ec] 24) (fun b1 => pA b1) (some 1) (fun _ => by kernel_rfl) (fun b1 hb1 => ?_)
  refine run_auto [] 7 [] [] [2] [0] (st' := ⟨[(2, .func (.func 135) #[] #[pA b1])], [(b1, aO #[.slice ea n ec] 24)]⟩) (acc := []) (by kernel_rfl) (by kernel_rfl) trivial ?_
  refine run_end (fn := f125) rfl (Nat.le_refl _) (by kernel_rfl) [] [.func (.func 135) #[] #[pA b1]] (e := []) (by kernel_rfl) trivial (fun w1 k1 h1 => ?_)
  exact ⟨(), b1, trivial, hb1, rfl, k1.keeps (fun _ h => h), h1 (b1, _) (List.mem_of_getElem? (i := 0) rfl)⟩

set_option maxRecDepth 100000 in
theorem slBackward_any (ea : Option Addr) (n ec : Nat) (w : World)  : Calls Tryz.prog 137 #[.slice ea n ec] w (Nw (α := Unit) (fun _ b => .func (.func 140) #[] #[.pointer (some ⟨b, 0, none⟩)]) (fun _ => .cells #[.slice ea n ec] 24 (0, 0)) (fun _ => True) w) := by
  refine calls_run (fn := f137) (c := (f137.body).getD .skip) [.slice ea n ec] func137 (by kernel_rfl) (fun _ => False) [] (fun _ h => by cases h) (List.Pairwise.nil) 4 (by kernel_rfl) (by simp) ?_
  refine run_auto [] 2 [] [] [0] [] (st' := ⟨[(0, .slice ea n ec)], []⟩) (acc := []) (by kernel_rfl) (by kernel_rfl) trivial ?_
  refine run_new (aO #[.slice ea n ec] 24) (fun b1 => pA b1) (some 1) (fun _ => by kernel_rfl) (fun b1 hb1 => ?_)
  refine run_auto [] 7 [] [] [2] [0] (st' := ⟨[(2, .func (.func 140) #[] #[pA b1])], [(b1, aO #[.slice ea n ec] 24)]⟩) (acc := []) (by kernel_rfl) (by kernel_rfl) trivial ?_
  refine run_end (fn := f137) rfl (Nat.le_refl _) (by kernel_rfl) [] [.func (.func 140) #[] #[pA b1]] (e := []) (by kernel_rfl) trivial (fun w1 k1 h1 => ?_)
  exact ⟨(), b1, trivial, hb1, rfl, k1.keeps (fun _ h => h), h1 (b1, _) (List.mem_of_getElem? (i := 0) rfl)⟩

set_option maxRecDepth 100000 in
theorem all_give (es : List Ev) (ea : Option Addr) (ec b : Nat) (hl8 : es.length ≤ 8) : Gives Tryz.prog 135 #[.pointer (some ⟨b, 0, none⟩)] [] (fun D w => OwnD [(b, .cells #[.slice ea es.length ec] 24 (0, 0))] D w ∧ EvsD es ea D w) (fun l => l <+: rgL es.length (evA es)) (fun l => l = rgL es.length (evA es)) := by
  intro l J Jx E0 w hE0 hst hJw hown hdis hin hy
  have hb := (hin.1 _ (List.mem_singleton.2 rfl)).1
  have hnd := (hin.1 _ (List.mem_singleton.2 rfl)).2
  replace hin := hin.2
  refine calls_runE (fn := f135) (c := (f135.body).getD .skip) [.func (.yield l) #[] #[], .pointer (some ⟨b, 0, none⟩)] func135 (by kernel_rfl) E0 hE0 hJw 18 (by kernel_rfl) (by simp) ?_
  refine run_auto [] 2 [] [] [0, 1] [] (st' := ⟨[(0, .func (.yield l) #[] #[]), (1, pA b)], []⟩) (acc := []) (by kernel_rfl) (by kernel_rfl) trivial ?_
  refine run_v (Instr.loadAt 24 (pA b) >>= fun v => pure (Next.value v)) (some 5) (.slice ea es.length ec) (by kernel_rfl) (fun w1 k1 h1 => load_in (base := 0) (off := 0) k1 hnd [.slice ea es.length ec] (fun i u hi => by rw [Nat.zero_add]; exact cells_of_heap hb i u hi) (by kernel_rfl)) ?_
  refine run_auto [] 4 [] [] [0, 5, 6, 7] [] (st' := ⟨[(0, .func (.yield l) #[] #[]), (5, .slice ea es.length ec), (6, iV (es.length : Int)), (7, iV 0)], []⟩) (acc := []) (by kernel_rfl) (by kernel_rfl) trivial ?_
  refine run_auto [] 0 [] [] [0, 5, 6, 7] [] (st' := ⟨[(0, .func (.yield l) #[] #[]), (5, .slice ea es.length ec), (6, iV (es.length : Int)), (7, iV 0)], []⟩) (acc := []) (by kernel_rfl) (by kernel_rfl) trivial ?_
  refine run_loopE (σ := Nat × Ext) (S := fun (x : Nat × Ext) => ⟨[(0, .func (.yield l) #[] #[]), (5, .slice ea es.length ec), (6, iV (es.length : Int)), (7, iV (x.1 : Int))], []⟩) (fun (x : Nat × Ext) => x.2) (fun (x : Nat × Ext) => x.1 ≤ es.length ∧ J (rgL x.1 (evA es)) x.2 ∧ x.2.n0 = E0.n0 ∧ (∀ b, b < w.heap.size → x.2.D b → E0.D b)) (fun (x : Nat × Ext) => es.length - x.1) ((0, E0)) (by kernel_rfl) (⟨Nat.zero_le _, hst, rfl, (fun _ _ h => h)⟩) (by simp) rfl (fun x hI0 J0 hJ0 => ?_)
  obtain ⟨i, Ea⟩ := x
  obtain ⟨hl0, hJa, hna, hsa⟩ := hI0
  dsimp only at hl0 hJa hna hsa hJ0
  cases hd1 : (decide ((i : Int) < (es.length : Int))) with
  | false =>
    have hp1 := of_decide_eq_false hd1
    refine run_auto [(8, .bool false)] 7 [false] [] [] [] (st' := ⟨[], []⟩) (acc := [(.bool false, .bool false), (.bool (decide ((i : Int) < (es.length : Int))), .bool false)]) (by kernel_rfl) (by kernel_rfl) ⟨rfl, (bo hd1), trivial⟩ ?_
    refine run_endE (fn := f135) rfl (Nat.le_refl _) (by kernel_rfl) [] [] (e := []) (by kernel_rfl) trivial (fun w1 k1 h1 hE1 => ?_)
    exact ⟨rfl, Ea, hna, hE1, .inl ⟨_, rfl, by have h := hJa; rw [show i = es.length by omega] at h; exact h⟩⟩
  | true =>
    have hp1 := of_decide_eq_true hd1
    have hlt : i < es.length := by omega
    obtain ⟨be, oe, hbe, hde, hc⟩ := hin (by intro h; rw [h] at hlt; cases hlt)
    have hc := hc i hlt
    refine run_auto [(8, .bool true)] 12 [true] [] [0, 5, 6, 7, 9] [] (st' := ⟨[(0, .func (.yield l) #[] #[]), (5, .slice ea es.length ec), (6, iV (es.length : Int)), (7, iV (i : Int)), (9, iV (i : Int))], []⟩) (acc := [(.bool true, .bool true), (.bool (decide ((i : Int) < (es.length : Int))), .bool true)]) (by kernel_rfl) (by kernel_rfl) ⟨rfl, (bo hd1), trivial⟩ ?_
    refine run_v (Instr.indexAt 24 (.slice ea es.length ec) (iV (i : Int)) >>= fun v => pure (Next.value v)) (some 10) (.pointer (some ⟨be, oe + i * 4, none⟩)) (by kernel_rfl) (fun w1 k1 h1 => (by rw [hbe]; exact idx_off (e := 55) (n := 4) (by kernel_rfl) (by kernel_rfl) be oe es.length ec .i64 i hlt (oe + i * 4) (by omega) w1)) ?_
    refine run_v (Instr.loadAt 55 (.pointer (some ⟨be, oe + i * 4, none⟩)) >>= fun v => pure (Next.value v)) (some 11) (.agg #[iV (elE es i).1, iV (elE es i).2.1, iV (elE es i).2.2.1, iV (elE es i).2.2.2]) (by kernel_rfl) (fun w1 k1 h1 => load_in (off := 0) k1 hde [iV (elE es i).1, iV (elE es i).2.1, iV (elE es i).2.2.1, iV (elE es i).2.2.2] (c4 hc.1 hc.2.1 hc.2.2.1 hc.2.2.2) (by kernel_rfl)) ?_
    refine run_new (aO #[iV 0, iV 0, iV 0, iV 0] 55) (fun b1 => pA b1) (some 4) (fun _ => by kernel_rfl) (fun b1 hb1 => ?_)
    refine run_auto [] 8 [] [0, 0] [0, 5, 6, 7, 12, 13, 14] [] (st' := ⟨[(0, .func (.yield l) #[] #[]), (5, .slice ea es.length ec), (6, iV (es.length : Int)), (7, iV (i : Int)), (12, .func (.yield l) #[] #[]), (13, iV (i : Int)), (14, .agg #[iV (elE es i).1, iV (elE es i).2.1, iV (elE es i).2.2.1, iV (elE es i).2.2.2])], []⟩) (acc := [(pA b1, pA b1), (pA b1, pA b1)]) (by kernel_rfl) (by kernel_rfl) ⟨rfl, rfl, trivial⟩ ?_
    have hpre := rgL_pre (evA es) (i := i) (n := es.length) (by omega)
    refine run_yield l #[iV (i : Int), .agg #[iV (elE es i).1, iV (elE es i).2.1, iV (elE es i).2.2.1, iV (elE es i).2.2.2]] (some 15) (by kernel_rfl) hsa (Yt (J (rgL i (evA es) ++ [evA es i])) Jx) (fun w1 hJ1 k1 => Ygives.out (Ygives.of (E := Ea) (hy _ (evA es i) Ea w1 hpre hJa hna hJ1) hna)) (fun E3 t hok hn3 hs3 => ?_)
    have hs4 : ∀ b, b < w.heap.size → E3.D b → E0.D b := fun b hb h => (hs3 b h).elim (hsa b hb) (fun h => absurd hb (Nat.not_lt.2 h))
    cases hd2 : t with
    | false =>
      rw [hd2] at hok
      dsimp only [Yt] at hok
      refine run_auto [(16, .bool true)] 3 [true] [] [0, 5, 6, 7] [] (st' := ⟨[(0, .func (.yield l) #[] #[]), (5, .slice ea es.length ec), (6, iV (es.length : Int)), (7, iV (i : Int))], []⟩) (acc := [(.bool true, .bool true), (.bool true, .bool true)]) (by kernel_rfl) (by kernel_rfl) ⟨rfl, rfl, trivial⟩ ?_
      refine run_endE (fn := f135) rfl (Nat.le_refl _) (by kernel_rfl) [] [] (e := []) (by kernel_rfl) trivial (fun w1 k1 h1 hE1 => ?_)
      exact ⟨rfl, E3, (hn3.trans hna), hE1, .inr hok⟩
    | true =>
      rw [hd2] at hok
      dsimp only [Yt] at hok
      refine run_auto [(16, .bool false), (17, iV ((i + 1 : Nat) : Int))] 9 [false] [] [0, 5, 6, 7] [] (st' := ⟨[(0, .func (.yield l) #[] #[]), (5, .slice ea es.length ec), (6, iV (es.length : Int)), (7, iV ((i + 1 : Nat) : Int))], []⟩) (acc := [(iV (IntKind.i64.wrap ((i : Int) + 1)), iV ((i + 1 : Nat) : Int)), (.bool false, .bool false), (.bool false, .bool false)]) (by kernel_rfl) (by kernel_rfl) ⟨(wr (by omega) (by omega)), rfl, rfl, trivial⟩ ?_
      exact run_round (by kernel_rfl) (hJ0 ((i + 1, E3)) (⟨by dsimp only; omega, by have h := hok; rw [rgL_next]; exact h, (hn3.trans hna), hs4⟩) (by dsimp only; omega))
set_option maxRecDepth 100000 in
theorem back_give (es : List Ev) (ea : Option Addr) (ec b : Nat) (hl8 : es.length ≤ 8) : Gives Tryz.prog 140 #[.pointer (some ⟨b, 0, none⟩)] [] (fun D w => OwnD [(b, .cells #[.slice ea es.length ec] 24 (0, 0))] D w ∧ EvsD es ea D w) (fun l => l <+: rgL es.length (revN es.length (evA es))) (fun l => l = rgL es.length (revN es.length (evA es))) := by
  intro l J Jx E0 w hE0 hst hJw hown hdis hin hy
  have hb := (hin.1 _ (List.mem_singleton.2 rfl)).1
  have hnd := (hin.1 _ (List.mem_singleton.2 rfl)).2
  replace hin := hin.2
  refine calls_runE (fn := f140) (c := (f140.body).getD .skip) [.func (.yield l) #[] #[], .pointer (some ⟨b, 0, none⟩)] func140 (by kernel_rfl) E0 hE0 hJw 19 (by kernel_rfl) (by simp) ?_
  refine run_auto [] 2 [] [] [0, 1] [] (st' := ⟨[(0, .func (.yield l) #[] #[]), (1, pA b)], []⟩) (acc := []) (by kernel_rfl) (by kernel_rfl) trivial ?_
  refine run_v (Instr.loadAt 24 (pA b) >>= fun v => pure (Next.value v)) (some 4) (.slice ea es.length ec) (by kernel_rfl) (fun w1 k1 h1 => load_in (base := 0) (off := 0) k1 hnd [.slice ea es.length ec] (fun i u hi => by rw [Nat.zero_add]; exact cells_of_heap hb i u hi) (by kernel_rfl)) ?_
  refine run_auto [(6, iV ((es.length : Int) - 1))] 5 [] [] [0, 1, 3] [] (st' := ⟨[(0, .func (.yield l) #[] #[]), (1, pA b), (3, iV ((es.length : Int) - 1))], []⟩) (acc := [(iV (IntKind.i64.wrap ((es.length : Int) - 1)), iV ((es.length : Int) - 1))]) (by kernel_rfl) (by kernel_rfl) ⟨(wr (by omega) (by omega)), trivial⟩ ?_
  refine run_auto [] 0 [] [] [0, 1, 3] [] (st' := ⟨[(0, .func (.yield l) #[] #[]), (1, pA b), (3, iV ((es.length : Int) - 1))], []⟩) (acc := []) (by kernel_rfl) (by kernel_rfl) trivial ?_
  refine run_loopE (σ := Nat × Ext) (S := fun (x : Nat × Ext) => ⟨[(0, .func (.yield l) #[] #[]), (1, pA b), (3, iV ((es.length : Int) - 1 - (x.1 : Int)))], []⟩) (fun (x : Nat × Ext) => x.2) (fun (x : Nat × Ext) => x.1 ≤ es.length ∧ J (rgL x.1 (revN es.length (evA es))) x.2 ∧ x.2.n0 = E0.n0 ∧ (∀ b, b < w.heap.size → x.2.D b → E0.D b)) (fun (x : Nat × Ext) => es.length - x.1) ((0, E0)) (by kernel_rfl) (⟨Nat.zero_le _, hst, rfl, (fun _ _ h => h)⟩) (by simp) rfl (fun x hI0 J0 hJ0 => ?_)
  obtain ⟨i, Ea⟩ := x
  obtain ⟨hl0, hJa, hna, hsa⟩ := hI0
  dsimp only at hl0 hJa hna hsa hJ0
  cases hd1 : (decide (0 ≤ ((es.length : Int) - 1 - (i : Int)))) with
  | false =>
    have hp1 := of_decide_eq_false hd1
    refine run_auto [(8, .bool false)] 8 [false] [] [] [] (st' := ⟨[], []⟩) (acc := [(.bool false, .bool false), (.bool (decide (0 ≤ ((es.length : Int) - 1 - (i : Int)))), .bool false)]) (by kernel_rfl) (by kernel_rfl) ⟨rfl, (bo hd1), trivial⟩ ?_
    refine run_endE (fn := f140) rfl (Nat.le_refl _) (by kernel_rfl) [] [] (e := []) (by kernel_rfl) trivial (fun w1 k1 h1 hE1 => ?_)
    exact ⟨rfl, Ea, hna, hE1, .inl ⟨_, rfl, by have h := hJa; rw [show i = es.length by omega] at h; exact h⟩⟩
  | true =>
    have hp1 := of_decide_eq_true hd1
    obtain ⟨m, hm⟩ : ∃ m : Nat, es.length = m + 1 + i := ⟨es.length - 1 - i, by omega⟩
    rw [show (es.length : Int) - 1 - (i : Int) = (m : Int) from by omega]
    have hrev : revN es.length (evA es) i = evA es m := by unfold revN; rw [show es.length - 1 - i = m from by omega]
    have hm0 : decide (0 ≤ (m : Int)) = true := decide_eq_true (by omega)
    have hlt : m < es.length := by omega
    obtain ⟨be, oe, hbe, hde, hc⟩ := hin (by intro h; rw [h] at hlt; cases hlt)
    have hc := hc m hlt
    refine run_auto [(8, .bool true)] 14 [true] [] [0, 1, 3, 11, 12] [] (st' := ⟨[(0, .func (.yield l) #[] #[]), (1, pA b), (3, iV (m : Int)), (11, .func (.yield l) #[] #[]), (12, iV (m : Int))], []⟩) (acc := [(.bool true, .bool true), (.bool (decide (0 ≤ (m : Int))), .bool true)]) (by kernel_rfl) (by kernel_rfl) ⟨rfl, (bo hm0), trivial⟩ ?_
    refine run_v (Instr.loadAt 24 (pA b) >>= fun v => pure (Next.value v)) (some 13) (.slice ea es.length ec) (by kernel_rfl) (fun w1 k1 h1 => load_in (base := 0) (off := 0) k1 hnd [.slice ea es.length ec] (fun i u hi => by rw [Nat.zero_add]; exact cells_of_heap hb i u hi) (by kernel_rfl)) ?_
    refine run_auto [] 1 [] [] [0, 1, 3, 11, 12, 13, 14] [] (st' := ⟨[(0, .func (.yield l) #[] #[]), (1, pA b), (3, iV (m : Int)), (11, .func (.yield l) #[] #[]), (12, iV (m : Int)), (13, .slice ea es.length ec), (14, iV (m : Int))], []⟩) (acc := []) (by kernel_rfl) (by kernel_rfl) trivial ?_
    refine run_v (Instr.indexAt 24 (.slice ea es.length ec) (iV (m : Int)) >>= fun v => pure (Next.value v)) (some 15) (.pointer (some ⟨be, oe + m * 4, none⟩)) (by kernel_rfl) (fun w1 k1 h1 => (by rw [hbe]; exact idx_off (e := 55) (n := 4) (by kernel_rfl) (by kernel_rfl) be oe es.length ec .i64 m hlt (oe + m * 4) (by omega) w1)) ?_
    refine run_v (Instr.loadAt 55 (.pointer (some ⟨be, oe + m * 4, none⟩)) >>= fun v => pure (Next.value v)) (some 16) (.agg #[iV (elE es m).1, iV (elE es m).2.1, iV (elE es m).2.2.1, iV (elE es m).2.2.2]) (by kernel_rfl) (fun w1 k1 h1 => load_in (off := 0) k1 hde [iV (elE es m).1, iV (elE es m).2.1, iV (elE es m).2.2.1, iV (elE es m).2.2.2] (c4 hc.1 hc.2.1 hc.2.2.1 hc.2.2.2) (by kernel_rfl)) ?_
    have hpre := rgL_pre (revN es.length (evA es)) (i := i) (n := es.length) (by omega)
    rw [hrev] at hpre
    refine run_yield l #[iV (m : Int), .agg #[iV (elE es m).1, iV (elE es m).2.1, iV (elE es m).2.2.1, iV (elE es m).2.2.2]] (some 17) (by kernel_rfl) hsa (Yt (J (rgL i (revN es.length (evA es)) ++ [evA es m])) Jx) (fun w1 hJ1 k1 => Ygives.out (Ygives.of (E := Ea) (hy _ (evA es m) Ea w1 hpre hJa hna hJ1) hna)) (fun E3 t hok hn3 hs3 => ?_)
    have hs4 : ∀ b, b < w.heap.size → E3.D b → E0.D b := fun b hb h => (hs3 b h).elim (hsa b hb) (fun h => absurd hb (Nat.not_lt.2 h))
    cases hd2 : t with
    | false =>
      rw [hd2] at hok
      dsimp only [Yt] at hok
      refine run_auto [(18, .bool true)] 3 [true] [] [0, 1, 3] [] (st' := ⟨[(0, .func (.yield l) #[] #[]), (1, pA b), (3, iV (m : Int))], []⟩) (acc := [(.bool true, .bool true), (.bool true, .bool true)]) (by kernel_rfl) (by kernel_rfl) ⟨rfl, rfl, trivial⟩ ?_
      refine run_endE (fn := f140) rfl (Nat.le_refl _) (by kernel_rfl) [] [] (e := []) (by kernel_rfl) trivial (fun w1 k1 h1 hE1 => ?_)
      exact ⟨rfl, E3, (hn3.trans hna), hE1, .inr hok⟩
    | true =>
      rw [hd2] at hok
      dsimp only [Yt] at hok
      refine run_auto [(18, .bool false), (10, iV ((m : Int) - 1))] 10 [false] [] [0, 1, 3] [] (st' := ⟨[(0, .func (.yield l) #[] #[]), (1, pA b), (3, iV ((m : Int) - 1))], []⟩) (acc := [(iV (IntKind.i64.wrap ((m : Int) - 1)), iV ((m : Int) - 1)), (.bool false, .bool false), (.bool false, .bool false)]) (by kernel_rfl) (by kernel_rfl) ⟨(wr (by omega) (by omega)), rfl, rfl, trivial⟩ ?_
      rw [show (m : Int) - 1 = (es.length : Int) - 1 - ((i + 1 : Nat) : Int) from by omega]
      exact run_round (by kernel_rfl) (hJ0 ((i + 1, E3)) (⟨by dsimp only; omega, by have h := hok; rw [← hrev] at h; rw [rgL_next]; exact h, (hn3.trans hna), hs4⟩) (by dsimp only; omega))
end Go.Proofs.YtdehgplklgfcdaaGreat
