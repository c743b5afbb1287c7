/-
  PAIR: what a comparator shows; gaps in memory.
-/
import Derived.Test.YtmiobcnccbfknaaA1
import Derived.Test.YtmiobcnccbfknaaXE
import Derived.Test.YtmiobcnccbfknaaQ7
namespace Go.Proofs.Ytmiobcnccbfknaa
open Go.RowKit Go.Proofs.Try


theorem tdiv10 (n : Int) : n.tdiv 10 = if n < 0 then -((-n) / 10) else n / 10 := by
  split
  · have h := Int.neg_tdiv (a := -n) (b := 10)
    rw [Int.neg_neg] at h
    rw [h, Int.tdiv_eq_ediv_of_nonneg (by omega)]
  · exact Int.tdiv_eq_ediv_of_nonneg (by omega)
theorem tmod10 (n : Int) : n.tmod 10 = n - 10 * n.tdiv 10 := Int.tmod_def n 10
theorem tenth_down {n : Int} (h : n.tmod 10 < 0) : n.tdiv 10 - 1 = n / 10 := by
  have h1 := tdiv10 n
  have h2 := tmod10 n
  split at h1 <;> omega
theorem tenth_up {n : Int} (h : ¬ n.tmod 10 < 0) : n.tdiv 10 = n / 10 := by
  have h1 := tdiv10 n
  have h2 := tmod10 n
  split at h1 <;> omega
theorem tdv {x : Int} (h1 : -1000000 ≤ x) (h2 : x ≤ 1000000) : Value.int .i64 (IntKind.i64.wrap (x.tdiv 10)) = .int .i64 (x.tdiv 10) := by
  have h3 := tdiv10 x
  have h4 : -1000000 ≤ x.tdiv 10 ∧ x.tdiv 10 ≤ 1000000 := by split at h3 <;> omega
  exact wr (by omega) (by omega)
/-- Gaps as they lie in memory. -/
def gc (g : Gp) : List Value := (List.range 36).map fun k => .int .i64 (g (k / 6) (k % 6))
theorem gc_at (g : Gp) {a b : Nat} (ha : a < 6) (hb : b < 6) : (gc g)[a * 6 + b]? = some (.int .i64 (g a b)) := by
  unfold gc
  rw [List.getElem?_map, List.getElem?_range (by omega), Option.map_some, show (a * 6 + b) / 6 = a by omega, show (a * 6 + b) % 6 = b by omega]
theorem gc_load (g : Gp) {a b : Nat} (ha : a < 6) (hb : b < 6) {v : Int} (hv : g a b = v) : loadV Try.prog 3 (gc g) (a * 6 + b) = some (.int .i64 v) := by
  have h : tyAgg Try.prog 3 = some false := by kernel_rfl
  unfold loadV
  rw [h, ← hv]
  exact gc_at g ha hb
def Gp.set (g : Gp) (a b : Nat) (x : Int) : Gp := fun i j => if i = a ∧ j = b then x else g i j
theorem gc_len (g : Gp) : (gc g).length = 36 := by simp [gc]
theorem gc_store (g : Gp) {a b : Nat} (ha : a < 6) (hb : b < 6) (x : Int) {g' : Gp} (h : ∀ i j, i < 6 → j < 6 → g.set a b x i j = g' i j) : storeV Try.prog 3 (gc g) (a * 6 + b) (.int .i64 x) = some (gc g') := by
  have hs : tySize Try.prog 3 = some 1 := by kernel_rfl
  have hl := gc_len g
  unfold storeV
  rw [hs]
  have h1 : ((Value.int .i64 x).cells.toList.length == 1 && Nat.ble (a * 6 + b + 1) (gc g).length && (Value.int .i64 x).cells.toList.all (·.oneCell')) = true := by
    have : Nat.ble (a * 6 + b + 1) 36 = true := Nat.ble_eq_true_of_le (by omega)
    rw [hl, this]
    rfl
  dsimp only
  rw [h1]
  refine congrArg some ?_
  have h2 : (gc g).take (a * 6 + b) ++ (Value.int .i64 x).cells.toList ++ (gc g).drop (a * 6 + b + 1) = (gc g).set (a * 6 + b) (.int .i64 x) := by
    rw [List.set_eq_take_append_cons_drop, if_pos (by omega)]
    show List.take _ _ ++ [Value.int .i64 x] ++ _ = _
    simp
  rw [h2]
  apply List.ext_getElem?
  intro k
  rw [List.getElem?_set]
  by_cases hk : k < 36
  · have e : k = (k / 6) * 6 + k % 6 := by omega
    have h3 := h (k / 6) (k % 6) (by omega) (by omega)
    have q1 : (gc g)[k]? = some (.int .i64 (g (k / 6) (k % 6))) := by
      conv => lhs; rw [e]
      exact gc_at g (by omega) (by omega)
    have q2 : (gc g')[k]? = some (.int .i64 (g' (k / 6) (k % 6))) := by
      conv => lhs; rw [e]
      exact gc_at g' (by omega) (by omega)
    rw [q1, q2, ← h3]
    unfold Gp.set
    by_cases h4 : a * 6 + b = k
    · rw [if_pos h4, if_pos (by omega), if_pos (by omega)]
    · rw [if_neg h4, if_neg (by omega)]
  · have q1 : (gc g)[k]? = none := List.getElem?_eq_none (by omega)
    have q2 : (gc g')[k]? = none := List.getElem?_eq_none (by rw [gc_len]; omega)
    rw [q1, q2, if_neg (by omega)]
theorem gc_congr {g g' : Gp} (h : ∀ i j, i < 6 → j < 6 → g i j = g' i j) : gc g = gc g' := by
  unfold gc
  apply List.map_congr_left
  intro k hk
  have := List.mem_range.1 hk
  rw [h (k / 6) (k % 6) (by omega) (by omega)]
set_option maxRecDepth 100000 in
theorem tenth_any (n : Int) (h1 : -1000000 ≤ n) (h2 : n ≤ 1000000) (w : World)  : Calls Try.prog 102 #[.int .i64 n] w (RetI (n / 10) w) := by
  have d0 : -1000000 ≤ n.tdiv 10 ∧ n.tdiv 10 ≤ 1000000 := by have h3 := tdiv10 n; split at h3 <;> omega
  refine calls_run (fn := f102) (c := (f102.body).getD .skip) [.int .i64 n] func102 (by kernel_rfl) (fun _ => False) [] (fun _ h => by cases h) (List.Pairwise.nil) 12 (by kernel_rfl) (by simp) ?_
  cases hd1 : (decide ((Int.tmod n 10) < 0)) with
  | false =>
    have hp1 := of_decide_eq_false hd1
    refine run_auto [(5, .int .i64 (Int.tdiv n 10)), (8, .bool false)] 24 [false] [] [2] [] (st' := ⟨[(2, .int .i64 (Int.tdiv n 10))], []⟩) (acc := [(.bool false, .bool false), (.bool (decide ((Int.tmod n 10) < 0)), .bool false), (.int .i64 (IntKind.i64.wrap (Int.tdiv n 10)), .int .i64 (Int.tdiv n 10))]) (by kernel_rfl) (by kernel_rfl) ⟨rfl, (bo hd1), (tdv (by omega) (by omega)), trivial⟩ ?_
    refine run_end (fn := f102) rfl (Nat.le_refl _) (by kernel_rfl) [] [.int .i64 (Int.tdiv n 10)] (e := []) (by kernel_rfl) trivial (fun w1 k1 h1 => ?_)
    exact ⟨congrArg (fun x => Ending.returned (.int .i64 x)) (tenth_up hp1), k1.keeps (fun _ h => h)⟩
  | true =>
    have hp1 := of_decide_eq_true hd1
    refine run_auto [(5, .int .i64 (Int.tdiv n 10)), (8, .bool true), (10, .int .i64 ((Int.tdiv n 10) - 1))] 28 [true] [] [2] [] (st' := ⟨[(2, .int .i64 ((Int.tdiv n 10) - 1))], []⟩) (acc := [(.int .i64 (IntKind.i64.wrap ((Int.tdiv n 10) - 1)), .int .i64 ((Int.tdiv n 10) - 1)), (.bool true, .bool true), (.bool (decide ((Int.tmod n 10) < 0)), .bool true), (.int .i64 (IntKind.i64.wrap (Int.tdiv n 10)), .int .i64 (Int.tdiv n 10))]) (by kernel_rfl) (by kernel_rfl) ⟨(wr (by omega) (by omega)), rfl, (bo hd1), (tdv (by omega) (by omega)), trivial⟩ ?_
    refine run_end (fn := f102) rfl (Nat.le_refl _) (by kernel_rfl) [] [.int .i64 ((Int.tdiv n 10) - 1)] (e := []) (by kernel_rfl) trivial (fun w1 k1 h1 => ?_)
    exact ⟨congrArg (fun x => Ending.returned (.int .i64 x)) (tenth_down hp1), k1.keeps (fun _ h => h)⟩

set_option maxRecDepth 100000 in
theorem shows_any (z r m : Int) (z1 : -10 ≤ z) (z2 : z ≤ 10) (r1 : -5 ≤ r) (r2 : r ≤ 5) (m1 : 0 ≤ m) (m2 : m ≤ 60) (w : World)  : Calls Try.prog 80 #[.agg #[.int .i64 z, .int .i64 r], .int .i64 m] w (RetI (shw (z, r) m) w) := by
  obtain ⟨hb1, hb2, hb3, hb4⟩ := shw_in (c := (z, r)) z1 z2 r1 r2 m1 m2
  dsimp only [shw] at hb1 hb2 hb3 hb4
  refine calls_run (fn := f80) (c := (f80.body).getD .skip) [.agg #[.int .i64 z, .int .i64 r], .int .i64 m] func80 (by kernel_rfl) (fun _ => False) [] (fun _ h => by cases h) (List.Pairwise.nil) 13 (by kernel_rfl) (by simp) ?_
  refine run_auto [] 2 [] [] [0, 1] [] (st' := ⟨[(0, .agg #[.int .i64 z, .int .i64 r]), (1, .int .i64 m)], []⟩) (acc := []) (by kernel_rfl) (by kernel_rfl) trivial ?_
  refine run_new (.cells #[.int .i64 z, .int .i64 r] 79 (0, 0)) (fun b1 => .pointer (some ⟨b1, 0, none⟩)) (some 2) (fun _ => by kernel_rfl) (fun b1 hb1 => ?_)
  refine run_auto [] 3 [] [] [1, 2, 4] [0] (st' := ⟨[(1, .int .i64 m), (2, .pointer (some ⟨b1, 0, none⟩)), (4, .int .i64 0)], [(b1, .cells #[.int .i64 z, .int .i64 r] 79 (0, 0))]⟩) (acc := []) (by kernel_rfl) (by kernel_rfl) trivial ?_
  refine draw 9 [{ val := fun _ => .pointer (some ⟨b1, 0, none⟩), slots := [2] },
      { val := fun _ => .int .i64 z, slots := [5], reads := [0] },
      { val := fun _ => .pointer (some ⟨b1, 1, none⟩), slots := [2] },
      { val := fun _ => .int .i64 r, slots := [7], reads := [0] },
      { val := fun _ => .int .i64 m, slots := [1] },
      { val := fun _ => .int .i64 (r * m), slots := [8, 9] },
      { val := fun _ => .int .i64 ((r * m) / 10), slots := [10] },
      { val := fun _ => .int .i64 (z + ((r * m) / 10)), slots := [6, 11] },
      { val := fun _ => .int .i64 (z + ((r * m) / 10)), slots := [12] }] [[], [0], [], [2], [], [2, 3, 4], [2, 3, 4, 5], [0, 1, 2, 3, 4, 5, 6], [0, 1, 2, 3, 4, 5, 6, 7]] (by kernel_rfl) (by kernel_rfl) (by kernel_rfl) (by kernel_rfl) [4] [] (by kernel_rfl)
      ⟨⟨⟨⟨⟨⟨⟨⟨⟨trivial,
      tri_quiet (fun β => []) [] [] (fun β => []) (by kernel_rfl) (fun β extra => by kernel_rfl) (by kernel_rfl) (fun β => trivial)⟩,
      tri_quiet (fun β => []) [0] [0] (fun β => [(.pointer (some ⟨b1, 0, none⟩), .pointer (some ⟨b1, 0, none⟩))]) (by kernel_rfl) (fun β extra => by kernel_rfl) (by kernel_rfl) (fun β => ⟨rfl, trivial⟩)⟩,
      tri_quiet (fun β => []) [] [] (fun β => []) (by kernel_rfl) (fun β extra => by kernel_rfl) (by kernel_rfl) (fun β => trivial)⟩,
      tri_quiet (fun β => []) [0] [0] (fun β => [(.pointer (some ⟨b1, 0, none⟩), .pointer (some ⟨b1, 0, none⟩))]) (by kernel_rfl) (fun β extra => by kernel_rfl) (by kernel_rfl) (fun β => ⟨rfl, trivial⟩)⟩,
      tri_quiet (fun β => []) [] [] (fun β => []) (by kernel_rfl) (fun β extra => by kernel_rfl) (by kernel_rfl) (fun β => trivial)⟩,
      tri_quiet (fun β => [(10, .int .i64 (r * m))]) [] [] (fun β => [(.int .i64 (IntKind.i64.wrap (r * m)), .int .i64 (r * m))]) (by kernel_rfl) (fun β extra => by kernel_rfl) (by kernel_rfl) (fun β => ⟨(wr (by omega) (by omega)), trivial⟩)⟩,
      tri_call 102 (fun β => #[.int .i64 (r * m)]) (by kernel_rfl) (fun β extra => by kernel_rfl) (fun β => by kernel_rfl) (fun β w1 k1 h1 => tenth_any (r * m) (by omega) (by omega) w1)⟩,
      tri_quiet (fun β => [(12, .int .i64 (z + ((r * m) / 10)))]) [] [] (fun β => [(.int .i64 (IntKind.i64.wrap (z + ((r * m) / 10))), .int .i64 (z + ((r * m) / 10)))]) (by kernel_rfl) (fun β extra => by kernel_rfl) (by kernel_rfl) (fun β => ⟨(wr (by omega) (by omega)), trivial⟩)⟩,
      tri_quiet (fun β => []) [] [] (fun β => []) (by kernel_rfl) (fun β extra => by kernel_rfl) (by kernel_rfl) (fun β => trivial)⟩
      (fun β => ⟨[(4, .int .i64 (z + ((r * m) / 10)))], []⟩) (fun β => by kernel_rfl) (fun β2 => ?_)
  refine run_end (fn := f80) rfl (Nat.le_refl _) (by kernel_rfl) [] [.int .i64 (z + ((r * m) / 10))] (e := []) (by kernel_rfl) trivial (fun w1 k1 h1 => ?_)
  exact ⟨rfl, k1.keeps (fun _ h => h)⟩

set_option maxRecDepth 100000 in
theorem tells_any (z r m : Int) (z1 : -10 ≤ z) (z2 : z ≤ 10) (r1 : -5 ≤ r) (r2 : r ≤ 5) (m1 : 0 ≤ m) (m2 : m ≤ 60) (w : World)  : Calls Try.prog 47 #[.agg #[.int .i64 z, .int .i64 r], .int .i64 m] w (Ret (.agg #[.int .i64 (shw (z, r) m), .int .i64 (shw (z, r) m)]) w) := by
  refine calls_run (fn := f47) (c := (f47.body).getD .skip) [.agg #[.int .i64 z, .int .i64 r], .int .i64 m] func47 (by kernel_rfl) (fun _ => False) [] (fun _ h => by cases h) (List.Pairwise.nil) 12 (by kernel_rfl) (by simp) ?_
  refine run_auto [] 2 [] [] [0, 1] [] (st' := ⟨[(0, .agg #[.int .i64 z, .int .i64 r]), (1, .int .i64 m)], []⟩) (acc := []) (by kernel_rfl) (by kernel_rfl) trivial ?_
  refine run_new (.cells #[.int .i64 z, .int .i64 r] 79 (0, 0)) (fun b1 => .pointer (some ⟨b1, 0, none⟩)) (some 2) (fun _ => by kernel_rfl) (fun b1 hb1 => ?_)
  refine run_new (.cells #[.int .i64 0, .int .i64 0] 23 (0, 0)) (fun b2 => .pointer (some ⟨b2, 0, none⟩)) (some 4) (fun _ => by kernel_rfl) (fun b2 hb2 => ?_)
  refine run_auto [] 5 [] [1] [4, 6, 7] [0] (st' := ⟨[(4, .pointer (some ⟨b2, 0, none⟩)), (6, .agg #[.int .i64 z, .int .i64 r]), (7, .int .i64 m)], [(b2, .cells #[.int .i64 0, .int .i64 0] 23 (0, 0))]⟩) (acc := [(.pointer (some ⟨b1, 0, none⟩), .pointer (some ⟨b1, 0, none⟩))]) (by kernel_rfl) (by kernel_rfl) ⟨rfl, trivial⟩ ?_
  refine run_ret1 80 #[.agg #[.int .i64 z, .int .i64 r], .int .i64 m] (some 8) (.int .i64 (shw (z, r) m)) (by kernel_rfl) (fun w1 k1 h1 => shows_any z r m (by omega) (by omega) (by omega) (by omega) (by omega) (by omega) w1) ?_
  refine run_auto [] 9 [] [0] [4] [0] (st' := ⟨[(4, .pointer (some ⟨b2, 0, none⟩))], [(b2, .cells #[.int .i64 (shw (z, r) m), .int .i64 (shw (z, r) m)] 23 (0, 0))]⟩) (acc := [(.pointer (some ⟨b2, 0, none⟩), .pointer (some ⟨b2, 0, none⟩))]) (by kernel_rfl) (by kernel_rfl) ⟨rfl, trivial⟩ ?_
  refine run_end (fn := f47) rfl (Nat.le_refl _) (by kernel_rfl) [0] [.agg #[.int .i64 (shw (z, r) m), .int .i64 (shw (z, r) m)]] (e := [(.pointer (some ⟨b2, 0, none⟩), .pointer (some ⟨b2, 0, none⟩))]) (by kernel_rfl) ⟨rfl, trivial⟩ (fun w1 k1 h1 => ?_)
  exact ⟨rfl, k1.keeps (fun _ h => h)⟩

set_option maxRecDepth 100000 in
theorem differ_any (g : Gp) (a b : Nat) (ha : a < 6) (hb : b < 6) (h1 : -1000 ≤ g b a) (h2 : g b a ≤ 1000) (w : World)  : Calls Try.prog 41 #[.agg (gc g).toArray, .agg #[.int .i64 (a : Int), .int .i64 (b : Int)]] w (Ret (.agg #[.int .i64 (-(g b a)), .int .i64 (g a b)]) w) := by
  refine calls_run (fn := f41) (c := (f41.body).getD .skip) [.agg (gc g).toArray, .agg #[.int .i64 (a : Int), .int .i64 (b : Int)]] func41 (by kernel_rfl) (fun _ => False) [] (fun _ h => by cases h) (List.Pairwise.nil) 21 (by kernel_rfl) (by simp) ?_
  refine run_auto [] 2 [] [] [0, 1] [] (st' := ⟨[(0, .agg (gc g).toArray), (1, .agg #[.int .i64 (a : Int), .int .i64 (b : Int)])], []⟩) (acc := []) (by kernel_rfl) (by kernel_rfl) trivial ?_
  refine run_new (.cells (gc g).toArray 70 (0, 0)) (fun b1 => .pointer (some ⟨b1, 0, none⟩)) (some 2) (fun _ => by kernel_rfl) (fun b1 hb1 => ?_)
  refine run_new (.cells #[.int .i64 (a : Int), .int .i64 (b : Int)] 72 (0, 0)) (fun b2 => .pointer (some ⟨b2, 0, none⟩)) (some 3) (fun _ => by kernel_rfl) (fun b2 hb2 => ?_)
  refine run_new (.cells #[.int .i64 0, .int .i64 0] 23 (0, 0)) (fun b3 => .pointer (some ⟨b3, 0, none⟩)) (some 4) (fun _ => by kernel_rfl) (fun b3 hb3 => ?_)
  refine run_auto [] 2 [] [] [2, 3, 4] [0, 1, 2] (st' := ⟨[(2, .pointer (some ⟨b1, 0, none⟩)), (3, .pointer (some ⟨b2, 0, none⟩)), (4, .pointer (some ⟨b3, 0, none⟩))], [(b3, .cells #[.int .i64 0, .int .i64 0] 23 (0, 0)), (b2, .cells #[.int .i64 (a : Int), .int .i64 (b : Int)] 72 (0, 0)), (b1, .cells (gc g).toArray 70 (0, 0))]⟩) (acc := []) (by kernel_rfl) (by kernel_rfl) trivial ?_
  refine draw 17 [{ val := fun _ => .pointer (some ⟨b2, 1, none⟩), slots := [3] },
      { val := fun _ => .int .i64 (b : Int), slots := [5], reads := [1] },
      { val := fun _ => .pointer (some ⟨b2, 0, none⟩), slots := [3] },
      { val := fun _ => .int .i64 (a : Int), slots := [7], reads := [1] },
      { val := fun _ => .pointer (some ⟨b1, b * 6, none⟩), slots := [2, 6] },
      { val := fun _ => .pointer (some ⟨b1, b * 6 + a, none⟩), slots := [8, 9] },
      { val := fun _ => .int .i64 (g b a), slots := [10], reads := [2] },
      { val := fun _ => .int .i64 (-(g b a)), slots := [11] },
      { val := fun _ => .pointer (some ⟨b2, 0, none⟩), slots := [3] },
      { val := fun _ => .int .i64 (a : Int), slots := [13], reads := [1] },
      { val := fun _ => .pointer (some ⟨b2, 1, none⟩), slots := [3] },
      { val := fun _ => .int .i64 (b : Int), slots := [15], reads := [1] },
      { val := fun _ => .pointer (some ⟨b1, a * 6, none⟩), slots := [2, 14] },
      { val := fun _ => .pointer (some ⟨b1, a * 6 + b, none⟩), slots := [16, 17] },
      { val := fun _ => .int .i64 (g a b), slots := [18], reads := [2] },
      { val := fun _ => .agg #[.int .i64 (-(g b a)), .int .i64 (g a b)], slots := [12, 19] },
      { upd := [(0, fun l => .cells #[.int .i64 (-(g b a)), .int .i64 (g a b)] 23 (0, 0))], slots := [4, 20], reads := [0] }] [[], [0], [], [2], [0, 1], [0, 1, 2, 3, 4], [0, 1, 2, 3, 4, 5], [0, 1, 2, 3, 4, 5, 6], [], [8], [], [10], [8, 9], [8, 9, 10, 11, 12], [8, 9, 10, 11, 12, 13], [0, 1, 2, 3, 4, 5, 6, 7, 8, 9, 10, 11, 12, 13, 14], [0, 1, 2, 3, 4, 5, 6, 7, 8, 9, 10, 11, 12, 13, 14, 15]] (by kernel_rfl) (by kernel_rfl) (by kernel_rfl) (by kernel_rfl) [4] [0] (by kernel_rfl)
      ⟨⟨⟨⟨⟨⟨⟨⟨⟨⟨⟨⟨⟨⟨⟨⟨⟨trivial,
      tri_quiet (fun β => []) [] [] (fun β => []) (by kernel_rfl) (fun β extra => by kernel_rfl) (by kernel_rfl) (fun β => trivial)⟩,
      tri_quiet (fun β => []) [0] [0] (fun β => [(.pointer (some ⟨b2, 0, none⟩), .pointer (some ⟨b2, 0, none⟩))]) (by kernel_rfl) (fun β extra => by kernel_rfl) (by kernel_rfl) (fun β => ⟨rfl, trivial⟩)⟩,
      tri_quiet (fun β => []) [] [] (fun β => []) (by kernel_rfl) (fun β extra => by kernel_rfl) (by kernel_rfl) (fun β => trivial)⟩,
      tri_quiet (fun β => []) [0] [0] (fun β => [(.pointer (some ⟨b2, 0, none⟩), .pointer (some ⟨b2, 0, none⟩))]) (by kernel_rfl) (fun β extra => by kernel_rfl) (by kernel_rfl) (fun β => ⟨rfl, trivial⟩)⟩,
      tri_v (fun β => (Instr.indexAt 70 (.pointer (some ⟨b1, 0, none⟩)) (.int .i64 (b : Int)) >>= fun v => pure (Next.value v))) (by kernel_rfl) (fun β extra => by kernel_rfl) (fun β => by kernel_rfl) (fun β w1 k1 h1 => idxA_run (e := 68) (n := 6) (len := 6) (by kernel_rfl) (by kernel_rfl) b1 (0) .i64 b (by omega) (b * 6) (by omega) w1)⟩,
      tri_v (fun β => (Instr.indexAt 68 (.pointer (some ⟨b1, b * 6, none⟩)) (.int .i64 (a : Int)) >>= fun v => pure (Next.value v))) (by kernel_rfl) (fun β extra => by kernel_rfl) (fun β => by kernel_rfl) (fun β w1 k1 h1 => idxA_run (e := 3) (n := 1) (len := 6) (by kernel_rfl) (by kernel_rfl) b1 (b * 6) .i64 a (by omega) (b * 6 + a) (by omega) w1)⟩,
      tri_v (fun β => (Instr.loadAt 3 (.pointer (some ⟨b1, b * 6 + a, none⟩)) >>= fun v => pure (Next.value v))) (by kernel_rfl) (fun β extra => by kernel_rfl) (fun β => by kernel_rfl) (fun β w1 k1 h1 => load_own (e := 70) (fr := (0, 0)) (c := gc g) h1 (List.mem_of_getElem? (i := 0) (by kernel_rfl)) (gc_load g (a := b) (b := a) (by omega) (by omega) (rfl)))⟩,
      tri_quiet (fun β => [(12, .int .i64 (-(g b a)))]) [] [] (fun β => [(.int .i64 (IntKind.i64.wrap (0 - (g b a))), .int .i64 (-(g b a)))]) (by kernel_rfl) (fun β extra => by kernel_rfl) (by kernel_rfl) (fun β => ⟨((wr (by omega) (by omega)).trans (io (by omega))), trivial⟩)⟩,
      tri_quiet (fun β => []) [] [] (fun β => []) (by kernel_rfl) (fun β extra => by kernel_rfl) (by kernel_rfl) (fun β => trivial)⟩,
      tri_quiet (fun β => []) [0] [0] (fun β => [(.pointer (some ⟨b2, 0, none⟩), .pointer (some ⟨b2, 0, none⟩))]) (by kernel_rfl) (fun β extra => by kernel_rfl) (by kernel_rfl) (fun β => ⟨rfl, trivial⟩)⟩,
      tri_quiet (fun β => []) [] [] (fun β => []) (by kernel_rfl) (fun β extra => by kernel_rfl) (by kernel_rfl) (fun β => trivial)⟩,
      tri_quiet (fun β => []) [0] [0] (fun β => [(.pointer (some ⟨b2, 0, none⟩), .pointer (some ⟨b2, 0, none⟩))]) (by kernel_rfl) (fun β extra => by kernel_rfl) (by kernel_rfl) (fun β => ⟨rfl, trivial⟩)⟩,
      tri_v (fun β => (Instr.indexAt 70 (.pointer (some ⟨b1, 0, none⟩)) (.int .i64 (a : Int)) >>= fun v => pure (Next.value v))) (by kernel_rfl) (fun β extra => by kernel_rfl) (fun β => by kernel_rfl) (fun β w1 k1 h1 => idxA_run (e := 68) (n := 6) (len := 6) (by kernel_rfl) (by kernel_rfl) b1 (0) .i64 a (by omega) (a * 6) (by omega) w1)⟩,
      tri_v (fun β => (Instr.indexAt 68 (.pointer (some ⟨b1, a * 6, none⟩)) (.int .i64 (b : Int)) >>= fun v => pure (Next.value v))) (by kernel_rfl) (fun β extra => by kernel_rfl) (fun β => by kernel_rfl) (fun β w1 k1 h1 => idxA_run (e := 3) (n := 1) (len := 6) (by kernel_rfl) (by kernel_rfl) b1 (a * 6) .i64 b (by omega) (a * 6 + b) (by omega) w1)⟩,
      tri_v (fun β => (Instr.loadAt 3 (.pointer (some ⟨b1, a * 6 + b, none⟩)) >>= fun v => pure (Next.value v))) (by kernel_rfl) (fun β extra => by kernel_rfl) (fun β => by kernel_rfl) (fun β w1 k1 h1 => load_own (e := 70) (fr := (0, 0)) (c := gc g) h1 (List.mem_of_getElem? (i := 0) (by kernel_rfl)) (gc_load g (a := a) (b := b) (by omega) (by omega) (rfl)))⟩,
      tri_quiet (fun β => []) [] [] (fun β => []) (by kernel_rfl) (fun β extra => by kernel_rfl) (by kernel_rfl) (fun β => trivial)⟩,
      tri_quiet (fun β => []) [0] [0] (fun β => [(.pointer (some ⟨b3, 0, none⟩), .pointer (some ⟨b3, 0, none⟩))]) (by kernel_rfl) (fun β extra => by kernel_rfl) (by kernel_rfl) (fun β => ⟨rfl, trivial⟩)⟩
      (fun β => ⟨[(4, .pointer (some ⟨b3, 0, none⟩))], [(b3, .cells #[.int .i64 (-(g b a)), .int .i64 (g a b)] 23 (0, 0))]⟩) (fun β => by kernel_rfl) (fun β4 => ?_)
  refine run_end (fn := f41) rfl (Nat.le_refl _) (by kernel_rfl) [0] [.agg #[.int .i64 (-(g b a)), .int .i64 (g a b)]] (e := [(.pointer (some ⟨b3, 0, none⟩), .pointer (some ⟨b3, 0, none⟩))]) (by kernel_rfl) ⟨rfl, trivial⟩ (fun w1 k1 h1 => ?_)
  exact ⟨rfl, k1.keeps (fun _ h => h)⟩

set_option maxRecDepth 100000 in
theorem surelyLongest_any (g : Gp) (x : Nat) (hx : x < 6) (w : World)  : Calls Try.prog 94 #[.agg (gc g).toArray, .int .i64 (x : Int)] w (RetB ((List.range 5).all fun o => decide (g o x ≤ 0)) w) := by
  refine calls_run (fn := f94) (c := (f94.body).getD .skip) [.agg (gc g).toArray, .int .i64 (x : Int)] func94 (by kernel_rfl) (fun _ => False) [] (fun _ h => by cases h) (List.Pairwise.nil) 16 (by kernel_rfl) (by simp) ?_
  refine run_auto [] 2 [] [] [0, 1] [] (st' := ⟨[(0, .agg (gc g).toArray), (1, .int .i64 (x : Int))], []⟩) (acc := []) (by kernel_rfl) (by kernel_rfl) trivial ?_
  refine run_new (.cells (gc g).toArray 70 (0, 0)) (fun b1 => .pointer (some ⟨b1, 0, none⟩)) (some 2) (fun _ => by kernel_rfl) (fun b1 hb1 => ?_)
  refine run_auto [] 8 [] [] [1, 2, 4, 6] [0] (st' := ⟨[(1, .int .i64 (x : Int)), (2, .pointer (some ⟨b1, 0, none⟩)), (4, .bool false), (6, .int .i64 0)], [(b1, .cells (gc g).toArray 70 (0, 0))]⟩) (acc := []) (by kernel_rfl) (by kernel_rfl) trivial ?_
  refine run_auto [] 0 [] [] [1, 2, 4, 6] [0] (st' := ⟨[(1, .int .i64 (x : Int)), (2, .pointer (some ⟨b1, 0, none⟩)), (4, .bool false), (6, .int .i64 0)], [(b1, .cells (gc g).toArray 70 (0, 0))]⟩) (acc := []) (by kernel_rfl) (by kernel_rfl) trivial ?_
  refine run_loop (S := fun (k : Nat) => ⟨[(1, .int .i64 (x : Int)), (2, .pointer (some ⟨b1, 0, none⟩)), (4, .bool false), (6, .int .i64 (k : Int))], [(b1, .cells (gc g).toArray 70 (0, 0))]⟩) (fun k => k ≤ 5 ∧ ∀ j, j < k → g j x ≤ 0) (fun k => 5 - k) (0) (by kernel_rfl) (⟨Nat.zero_le _, fun _ h => by cases h⟩) (by kernel_rfl) (fun k hI0 J0 hJ0 => ?_)
  obtain ⟨hI1, hI2⟩ := hI0
  cases hd1 : (decide ((k : Int) < 5)) with
  | false =>
    have hp1 := of_decide_eq_false hd1
    refine run_auto [(7, .bool false)] 11 [false] [] [4] [] (st' := ⟨[(4, .bool true)], []⟩) (acc := [(.bool false, .bool false), (.bool (decide ((k : Int) < 5)), .bool false)]) (by kernel_rfl) (by kernel_rfl) ⟨rfl, (bo hd1), trivial⟩ ?_
    refine run_end (fn := f94) rfl (Nat.le_refl _) (by kernel_rfl) [] [.bool true] (e := []) (by kernel_rfl) trivial (fun w1 k1 h1 => ?_)
    have h : ((List.range 5).all fun o => decide (g o x ≤ 0)) = true := by
      rw [List.all_eq_true]
      intro o ho
      have ho := List.mem_range.1 ho
      exact decide_eq_true (hI2 o (by omega))
    exact ⟨by rw [h]; rfl, k1.keeps (fun _ h => h)⟩
  | true =>
    have hp1 := of_decide_eq_true hd1
    refine run_auto [(7, .bool true)] 18 [true] [] [1, 2, 4, 6, 9, 10] [0] (st' := ⟨[(1, .int .i64 (x : Int)), (2, .pointer (some ⟨b1, 0, none⟩)), (4, .bool false), (6, .int .i64 (k : Int)), (9, .int .i64 (k : Int)), (10, .int .i64 (x : Int))], [(b1, .cells (gc g).toArray 70 (0, 0))]⟩) (acc := [(.bool true, .bool true), (.bool (decide ((k : Int) < 5)), .bool true)]) (by kernel_rfl) (by kernel_rfl) ⟨rfl, (bo hd1), trivial⟩ ?_
    refine run_v (Instr.indexAt 70 (.pointer (some ⟨b1, 0, none⟩)) (.int .i64 (k : Int)) >>= fun v => pure (Next.value v)) (some 11) (.pointer (some ⟨b1, k * 6, none⟩)) (by kernel_rfl) (fun w1 k1 h1 => idxA_run (e := 68) (n := 6) (len := 6) (by kernel_rfl) (by kernel_rfl) b1 (0) .i64 k (by omega) (k * 6) (by omega) w1) ?_
    refine run_v (Instr.indexAt 68 (.pointer (some ⟨b1, k * 6, none⟩)) (.int .i64 (x : Int)) >>= fun v => pure (Next.value v)) (some 12) (.pointer (some ⟨b1, k * 6 + x, none⟩)) (by kernel_rfl) (fun w1 k1 h1 => idxA_run (e := 3) (n := 1) (len := 6) (by kernel_rfl) (by kernel_rfl) b1 (k * 6) .i64 x (by omega) (k * 6 + x) (by omega) w1) ?_
    refine run_v (Instr.loadAt 3 (.pointer (some ⟨b1, k * 6 + x, none⟩)) >>= fun v => pure (Next.value v)) (some 13) (.int .i64 (g k x)) (by kernel_rfl) (fun w1 k1 h1 => load_own (e := 70) (fr := (0, 0)) (c := gc g) h1 (List.mem_of_getElem? (i := 0) (by kernel_rfl)) (gc_load g (a := k) (b := x) (by omega) (by omega) (rfl))) ?_
    cases hd2 : (decide (0 < (g k x))) with
    | false =>
      have hp2 := of_decide_eq_false hd2
      refine run_auto [(14, .bool false), (15, .int .i64 ((k + 1 : Nat) : Int))] 9 [false] [] [1, 2, 4, 6] [0] (st' := ⟨[(1, .int .i64 (x : Int)), (2, .pointer (some ⟨b1, 0, none⟩)), (4, .bool false), (6, .int .i64 ((k + 1 : Nat) : Int))], [(b1, .cells (gc g).toArray 70 (0, 0))]⟩) (acc := [(.int .i64 (IntKind.i64.wrap ((k : Int) + 1)), .int .i64 ((k + 1 : Nat) : Int)), (.bool false, .bool false), (.bool (decide (0 < (g k x))), .bool false)]) (by kernel_rfl) (by kernel_rfl) ⟨(wr (by omega) (by omega)), rfl, (bo hd2), trivial⟩ ?_
      exact run_round (by kernel_rfl) (hJ0 (k + 1) (⟨by omega, fun j hj => (Nat.lt_succ_iff_lt_or_eq.1 hj).elim (hI2 j) (fun h => h ▸ (by omega))⟩) (by omega))
    | true =>
      have hp2 := of_decide_eq_true hd2
      refine run_auto [(14, .bool true)] 7 [true] [] [1, 2, 4, 6] [0] (st' := ⟨[(1, .int .i64 (x : Int)), (2, .pointer (some ⟨b1, 0, none⟩)), (4, .bool false), (6, .int .i64 (k : Int))], [(b1, .cells (gc g).toArray 70 (0, 0))]⟩) (acc := [(.bool true, .bool true), (.bool (decide (0 < (g k x))), .bool true)]) (by kernel_rfl) (by kernel_rfl) ⟨rfl, (bo hd2), trivial⟩ ?_
      refine run_end (fn := f94) rfl (Nat.le_refl _) (by kernel_rfl) [] [.bool false] (e := []) (by kernel_rfl) trivial (fun w1 k1 h1 => ?_)
      have h : ((List.range 5).all fun o => decide (g o x ≤ 0)) = false := by
        rw [List.all_eq_false]
        exact ⟨k, List.mem_range.2 (by omega), by simp; omega⟩
      exact ⟨by rw [h]; rfl, k1.keeps (fun _ h => h)⟩

set_option maxRecDepth 100000 in
theorem perhapsLongest_any (g : Gp) (x : Nat) (hx : x < 6) (w : World)  : Calls Try.prog 95 #[.agg (gc g).toArray, .int .i64 (x : Int)] w (RetB ((List.range 5).all fun o => decide (0 ≤ g x o)) w) := by
  refine calls_run (fn := f95) (c := (f95.body).getD .skip) [.agg (gc g).toArray, .int .i64 (x : Int)] func95 (by kernel_rfl) (fun _ => False) [] (fun _ h => by cases h) (List.Pairwise.nil) 16 (by kernel_rfl) (by simp) ?_
  refine run_auto [] 2 [] [] [0, 1] [] (st' := ⟨[(0, .agg (gc g).toArray), (1, .int .i64 (x : Int))], []⟩) (acc := []) (by kernel_rfl) (by kernel_rfl) trivial ?_
  refine run_new (.cells (gc g).toArray 70 (0, 0)) (fun b1 => .pointer (some ⟨b1, 0, none⟩)) (some 2) (fun _ => by kernel_rfl) (fun b1 hb1 => ?_)
  refine run_auto [] 8 [] [] [1, 2, 4, 6] [0] (st' := ⟨[(1, .int .i64 (x : Int)), (2, .pointer (some ⟨b1, 0, none⟩)), (4, .bool false), (6, .int .i64 0)], [(b1, .cells (gc g).toArray 70 (0, 0))]⟩) (acc := []) (by kernel_rfl) (by kernel_rfl) trivial ?_
  refine run_auto [] 0 [] [] [1, 2, 4, 6] [0] (st' := ⟨[(1, .int .i64 (x : Int)), (2, .pointer (some ⟨b1, 0, none⟩)), (4, .bool false), (6, .int .i64 0)], [(b1, .cells (gc g).toArray 70 (0, 0))]⟩) (acc := []) (by kernel_rfl) (by kernel_rfl) trivial ?_
  refine run_loop (S := fun (k : Nat) => ⟨[(1, .int .i64 (x : Int)), (2, .pointer (some ⟨b1, 0, none⟩)), (4, .bool false), (6, .int .i64 (k : Int))], [(b1, .cells (gc g).toArray 70 (0, 0))]⟩) (fun k => k ≤ 5 ∧ ∀ j, j < k → 0 ≤ g x j) (fun k => 5 - k) (0) (by kernel_rfl) (⟨Nat.zero_le _, fun _ h => by cases h⟩) (by kernel_rfl) (fun k hI0 J0 hJ0 => ?_)
  obtain ⟨hI1, hI2⟩ := hI0
  cases hd1 : (decide ((k : Int) < 5)) with
  | false =>
    have hp1 := of_decide_eq_false hd1
    refine run_auto [(7, .bool false)] 11 [false] [] [4] [] (st' := ⟨[(4, .bool true)], []⟩) (acc := [(.bool false, .bool false), (.bool (decide ((k : Int) < 5)), .bool false)]) (by kernel_rfl) (by kernel_rfl) ⟨rfl, (bo hd1), trivial⟩ ?_
    refine run_end (fn := f95) rfl (Nat.le_refl _) (by kernel_rfl) [] [.bool true] (e := []) (by kernel_rfl) trivial (fun w1 k1 h1 => ?_)
    have h : ((List.range 5).all fun o => decide (0 ≤ g x o)) = true := by
      rw [List.all_eq_true]
      intro o ho
      have ho := List.mem_range.1 ho
      exact decide_eq_true (hI2 o (by omega))
    exact ⟨by rw [h]; rfl, k1.keeps (fun _ h => h)⟩
  | true =>
    have hp1 := of_decide_eq_true hd1
    refine run_auto [(7, .bool true)] 18 [true] [] [1, 2, 4, 6, 9, 10] [0] (st' := ⟨[(1, .int .i64 (x : Int)), (2, .pointer (some ⟨b1, 0, none⟩)), (4, .bool false), (6, .int .i64 (k : Int)), (9, .int .i64 (x : Int)), (10, .int .i64 (k : Int))], [(b1, .cells (gc g).toArray 70 (0, 0))]⟩) (acc := [(.bool true, .bool true), (.bool (decide ((k : Int) < 5)), .bool true)]) (by kernel_rfl) (by kernel_rfl) ⟨rfl, (bo hd1), trivial⟩ ?_
    refine run_v (Instr.indexAt 70 (.pointer (some ⟨b1, 0, none⟩)) (.int .i64 (x : Int)) >>= fun v => pure (Next.value v)) (some 11) (.pointer (some ⟨b1, x * 6, none⟩)) (by kernel_rfl) (fun w1 k1 h1 => idxA_run (e := 68) (n := 6) (len := 6) (by kernel_rfl) (by kernel_rfl) b1 (0) .i64 x (by omega) (x * 6) (by omega) w1) ?_
    refine run_v (Instr.indexAt 68 (.pointer (some ⟨b1, x * 6, none⟩)) (.int .i64 (k : Int)) >>= fun v => pure (Next.value v)) (some 12) (.pointer (some ⟨b1, x * 6 + k, none⟩)) (by kernel_rfl) (fun w1 k1 h1 => idxA_run (e := 3) (n := 1) (len := 6) (by kernel_rfl) (by kernel_rfl) b1 (x * 6) .i64 k (by omega) (x * 6 + k) (by omega) w1) ?_
    refine run_v (Instr.loadAt 3 (.pointer (some ⟨b1, x * 6 + k, none⟩)) >>= fun v => pure (Next.value v)) (some 13) (.int .i64 (g x k)) (by kernel_rfl) (fun w1 k1 h1 => load_own (e := 70) (fr := (0, 0)) (c := gc g) h1 (List.mem_of_getElem? (i := 0) (by kernel_rfl)) (gc_load g (a := x) (b := k) (by omega) (by omega) (rfl))) ?_
    cases hd2 : (decide ((g x k) < 0)) with
    | false =>
      have hp2 := of_decide_eq_false hd2
      refine run_auto [(14, .bool false), (15, .int .i64 ((k + 1 : Nat) : Int))] 9 [false] [] [1, 2, 4, 6] [0] (st' := ⟨[(1, .int .i64 (x : Int)), (2, .pointer (some ⟨b1, 0, none⟩)), (4, .bool false), (6, .int .i64 ((k + 1 : Nat) : Int))], [(b1, .cells (gc g).toArray 70 (0, 0))]⟩) (acc := [(.int .i64 (IntKind.i64.wrap ((k : Int) + 1)), .int .i64 ((k + 1 : Nat) : Int)), (.bool false, .bool false), (.bool (decide ((g x k) < 0)), .bool false)]) (by kernel_rfl) (by kernel_rfl) ⟨(wr (by omega) (by omega)), rfl, (bo hd2), trivial⟩ ?_
      exact run_round (by kernel_rfl) (hJ0 (k + 1) (⟨by omega, fun j hj => (Nat.lt_succ_iff_lt_or_eq.1 hj).elim (hI2 j) (fun h => h ▸ (by omega))⟩) (by omega))
    | true =>
      have hp2 := of_decide_eq_true hd2
      refine run_auto [(14, .bool true)] 7 [true] [] [1, 2, 4, 6] [0] (st' := ⟨[(1, .int .i64 (x : Int)), (2, .pointer (some ⟨b1, 0, none⟩)), (4, .bool false), (6, .int .i64 (k : Int))], [(b1, .cells (gc g).toArray 70 (0, 0))]⟩) (acc := [(.bool true, .bool true), (.bool (decide ((g x k) < 0)), .bool true)]) (by kernel_rfl) (by kernel_rfl) ⟨rfl, (bo hd2), trivial⟩ ?_
      refine run_end (fn := f95) rfl (Nat.le_refl _) (by kernel_rfl) [] [.bool false] (e := []) (by kernel_rfl) trivial (fun w1 k1 h1 => ?_)
      have h : ((List.range 5).all fun o => decide (0 ≤ g x o)) = false := by
        rw [List.all_eq_false]
        exact ⟨k, List.mem_range.2 (by omega), by simp; omega⟩
      exact ⟨by rw [h]; rfl, k1.keeps (fun _ h => h)⟩

set_option maxRecDepth 100000 in
theorem along_any (b : Nat) (x y : Int) (x1 : -1000 ≤ x) (x2 : x ≤ 1000) (y1 : -1000 ≤ y) (y2 : y ≤ 1000) (w : World) (hb : w.heap[b]? = some (.cells #[.int .i64 x, .int .i64 y] 3 (0, 0))) : Calls Try.prog 111 #[.slice (some ⟨b, 0, none⟩) 2 2] w (RetI (x + y) w) := by
  refine calls_run (fn := f111) (c := (f111.body).getD .skip) [.slice (some ⟨b, 0, none⟩) 2 2] func111 (by kernel_rfl) (fun _ => False) [] (fun _ h => by cases h) (List.Pairwise.nil) 17 (by kernel_rfl) (by simp) ?_
  refine run_auto [] 16 [] [] [2, 3, 6, 7, 8] [] (st' := ⟨[(2, .int .i64 0), (3, .int .i64 0), (6, .slice (some ⟨b, 0, none⟩) 2 2), (7, .int .i64 2), (8, .int .i64 0)], []⟩) (acc := []) (by kernel_rfl) (by kernel_rfl) trivial ?_
  refine run_once (by kernel_rfl) (fun J0 hJ0 => ?_)
  refine run_auto [(9, .bool true)] 12 [true] [] [2, 3, 6, 7, 8, 9, 10] [] (st' := ⟨[(2, .int .i64 0), (3, .int .i64 0), (6, .slice (some ⟨b, 0, none⟩) 2 2), (7, .int .i64 2), (8, .int .i64 0), (9, .bool true), (10, .pointer (some ⟨b, 0, none⟩))], []⟩) (acc := [(.bool true, .bool true), (.bool true, .bool true)]) (by kernel_rfl) (by kernel_rfl) ⟨rfl, rfl, trivial⟩ ?_
  refine run_v (Instr.loadAt 3 (.pointer (some ⟨b, 0, none⟩)) >>= fun v => pure (Next.value v)) (some 11) (.int .i64 x) (by kernel_rfl) (fun w1 k1 h1 => load_in (base := 0) (off := 0) k1 (fun h => h) [.int .i64 x, .int .i64 y] (c2 (cells_of_heap (c := [_, _]) hb 0 _ rfl) (cells_of_heap (c := [_, _]) hb 1 _ rfl)) (by kernel_rfl)) ?_
  refine run_auto [(14, .int .i64 (0 + x)), (15, .int .i64 1)] 13 [] [] [2, 3, 6, 7, 8, 9, 10, 11, 5, 12, 13, 14, 15] [] (st' := ⟨[(2, .int .i64 0), (3, .int .i64 (0 + x)), (6, .slice (some ⟨b, 0, none⟩) 2 2), (7, .int .i64 2), (8, .int .i64 1), (9, .bool true), (10, .pointer (some ⟨b, 0, none⟩)), (11, .int .i64 x), (5, .int .i64 x), (12, .int .i64 0), (13, .int .i64 x), (14, .int .i64 (0 + x)), (15, .int .i64 1)], []⟩) (acc := [(.int .i64 1, .int .i64 1), (.int .i64 (IntKind.i64.wrap (0 + x)), .int .i64 (0 + x))]) (by kernel_rfl) (by kernel_rfl) ⟨rfl, (wr (by omega) (by omega)), trivial⟩ ?_
  refine run_round (by kernel_rfl) (hJ0 _ ?_)
  refine run_auto [(9, .bool true)] 12 [true] [] [2, 3, 6, 7, 8, 9, 10, 11, 5, 12, 13, 14, 15] [] (st' := ⟨[(2, .int .i64 0), (3, .int .i64 (0 + x)), (6, .slice (some ⟨b, 0, none⟩) 2 2), (7, .int .i64 2), (8, .int .i64 1), (9, .bool true), (10, .pointer (some ⟨b, 1, none⟩)), (11, .int .i64 x), (5, .int .i64 x), (12, .int .i64 0), (13, .int .i64 x), (14, .int .i64 (0 + x)), (15, .int .i64 1)], []⟩) (acc := [(.bool true, .bool true), (.bool true, .bool true)]) (by kernel_rfl) (by kernel_rfl) ⟨rfl, rfl, trivial⟩ ?_
  refine run_v (Instr.loadAt 3 (.pointer (some ⟨b, 1, none⟩)) >>= fun v => pure (Next.value v)) (some 11) (.int .i64 y) (by kernel_rfl) (fun w1 k1 h1 => load_in (base := 0) (off := 1) k1 (fun h => h) [.int .i64 x, .int .i64 y] (c2 (cells_of_heap (c := [_, _]) hb 0 _ rfl) (cells_of_heap (c := [_, _]) hb 1 _ rfl)) (by kernel_rfl)) ?_
  refine run_auto [(14, .int .i64 ((0 + x) + y)), (15, .int .i64 2)] 13 [] [] [2, 3, 6, 7, 8, 9, 10, 11, 5, 12, 13, 14, 15] [] (st' := ⟨[(2, .int .i64 0), (3, .int .i64 ((0 + x) + y)), (6, .slice (some ⟨b, 0, none⟩) 2 2), (7, .int .i64 2), (8, .int .i64 2), (9, .bool true), (10, .pointer (some ⟨b, 1, none⟩)), (11, .int .i64 y), (5, .int .i64 y), (12, .int .i64 (0 + x)), (13, .int .i64 y), (14, .int .i64 ((0 + x) + y)), (15, .int .i64 2)], []⟩) (acc := [(.int .i64 2, .int .i64 2), (.int .i64 (IntKind.i64.wrap ((0 + x) + y)), .int .i64 ((0 + x) + y))]) (by kernel_rfl) (by kernel_rfl) ⟨rfl, (wr (by omega) (by omega)), trivial⟩ ?_
  refine run_round (by kernel_rfl) (hJ0 _ ?_)
  refine run_auto [(9, .bool false)] 12 [false] [] [2] [] (st' := ⟨[(2, .int .i64 ((0 + x) + y))], []⟩) (acc := [(.bool false, .bool false), (.bool false, .bool false)]) (by kernel_rfl) (by kernel_rfl) ⟨rfl, rfl, trivial⟩ ?_
  refine run_end (fn := f111) rfl (Nat.le_refl _) (by kernel_rfl) [] [.int .i64 ((0 + x) + y)] (e := []) (by kernel_rfl) trivial (fun w1 k1 h1 => ?_)
  exact ⟨by rw [show 0 + x + y = x + y by omega]; rfl, k1.keeps (fun _ h => h)⟩

set_option maxRecDepth 100000 in
theorem limit_any (bk : Nat) (g : Gp) (a b : Nat) (m : Int) (w : World) (ha : a < 6) (hb : b < 6) (hd : g.Done 6) (hs : g.Small 6 40) (m1 : -200 ≤ m) (m2 : m ≤ 200) (hw : w.heap[bk]? = some (.cells (gc g).toArray 70 (0, 0))) : Calls Try.prog 109 #[.pointer (some ⟨bk, 0, none⟩), .int .i64 (a : Int), .int .i64 (b : Int), .int .i64 m] w (Wr bk (.bool (!decide (m + g b a < 0))) (if m + g b a < 0 then (.cells (gc g).toArray 70 (0, 0)) else (.cells (gc (g.lim a b m)).toArray 70 (0, 0))) w) := by
  have pa := Gp.low hd hs hb ha
  have pb := hs b a hb ha
  refine calls_run (fn := f109) (c := (f109.body).getD .skip) [.pointer (some ⟨bk, 0, none⟩), .int .i64 (a : Int), .int .i64 (b : Int), .int .i64 m] func109 (by kernel_rfl) (fun x => x = bk) [(bk, .cells (gc g).toArray 70 (0, 0))] (fun p hp => by rcases List.mem_singleton.1 hp with rfl; exact ⟨hw, rfl, rfl⟩) (List.pairwise_singleton _ _) 74 (by kernel_rfl) (by simp) ?_
  refine run_auto [] 12 [] [] [0, 1, 2, 3, 8, 12, 14, 15, 16] [0] (st' := ⟨[(0, .pointer (some ⟨bk, 0, none⟩)), (1, .int .i64 (a : Int)), (2, .int .i64 (b : Int)), (3, .int .i64 m), (8, .bool false), (12, .int .i64 m), (14, .int .i64 (b : Int)), (15, .int .i64 (a : Int)), (16, .pointer (some ⟨bk, 0, none⟩))], [(bk, .cells (gc g).toArray 70 (0, 0))]⟩) (acc := []) (by kernel_rfl) (by kernel_rfl) trivial ?_
  refine run_v (Instr.indexAt 70 (.pointer (some ⟨bk, 0, none⟩)) (.int .i64 (b : Int)) >>= fun v => pure (Next.value v)) (some 17) (.pointer (some ⟨bk, b * 6, none⟩)) (by kernel_rfl) (fun w1 k1 h1 => idxA_run (e := 68) (n := 6) (len := 6) (by kernel_rfl) (by kernel_rfl) bk (0) .i64 b (by omega) (b * 6) (by omega) w1) ?_
  refine run_v (Instr.indexAt 68 (.pointer (some ⟨bk, b * 6, none⟩)) (.int .i64 (a : Int)) >>= fun v => pure (Next.value v)) (some 18) (.pointer (some ⟨bk, b * 6 + a, none⟩)) (by kernel_rfl) (fun w1 k1 h1 => idxA_run (e := 3) (n := 1) (len := 6) (by kernel_rfl) (by kernel_rfl) bk (b * 6) .i64 a (by omega) (b * 6 + a) (by omega) w1) ?_
  refine run_v (Instr.loadAt 3 (.pointer (some ⟨bk, b * 6 + a, none⟩)) >>= fun v => pure (Next.value v)) (some 19) (.int .i64 (g b a)) (by kernel_rfl) (fun w1 k1 h1 => load_own (e := 70) (fr := (0, 0)) (c := gc g) h1 (List.mem_of_getElem? (i := 0) (by kernel_rfl)) (gc_load g (a := b) (b := a) (by omega) (by omega) (rfl))) ?_
  refine run_new (.cells #[.int .i64 m, .int .i64 (g b a)] 3 (0, 0)) (fun b1 => .slice (some ⟨b1, 0, none⟩) 2 2) (some 20) (fun _ => by kernel_rfl) (fun b1 hb1 => ?_)
  refine run_ret1 111 #[.slice (some ⟨b1, 0, none⟩) 2 2] (some 21) (.int .i64 (m + (g b a))) (by kernel_rfl) (fun w1 k1 h1 => along_any b1 m (g b a) (by omega) (by omega) (by omega) (by omega) w1 (h1 (b1, .cells #[.int .i64 m, .int .i64 (g b a)] 3 (0, 0)) (List.mem_of_getElem? (i := 0) (by kernel_rfl)))) ?_
  cases hd1 : (decide ((m + (g b a)) < 0)) with
  | false =>
    have hp1 := of_decide_eq_false hd1
    refine run_auto [(22, .bool false)] 10 [false] [] [0, 1, 2, 3, 8, 23] [1] (st' := ⟨[(0, .pointer (some ⟨bk, 0, none⟩)), (1, .int .i64 (a : Int)), (2, .int .i64 (b : Int)), (3, .int .i64 m), (8, .bool false), (23, .int .i64 0)], [(bk, .cells (gc g).toArray 70 (0, 0))]⟩) (acc := [(.bool false, .bool false), (.bool (decide ((m + (g b a)) < 0)), .bool false)]) (by kernel_rfl) (by kernel_rfl) ⟨rfl, (bo hd1), trivial⟩ ?_
    refine run_auto [] 0 [] [] [0, 1, 2, 3, 8, 23] [0] (st' := ⟨[(0, .pointer (some ⟨bk, 0, none⟩)), (1, .int .i64 (a : Int)), (2, .int .i64 (b : Int)), (3, .int .i64 m), (8, .bool false), (23, .int .i64 0)], [(bk, .cells (gc g).toArray 70 (0, 0))]⟩) (acc := []) (by kernel_rfl) (by kernel_rfl) trivial ?_
    refine run_loop (S := fun (i : Nat) => ⟨[(0, .pointer (some ⟨bk, 0, none⟩)), (1, .int .i64 (a : Int)), (2, .int .i64 (b : Int)), (3, .int .i64 m), (8, .bool false), (23, .int .i64 (i : Int))], [(bk, .cells (gc (g.mid a b m i 0)).toArray 70 (0, 0))]⟩) (fun i => i ≤ 6) (fun i => 6 - i) (0) (by kernel_rfl) (Nat.zero_le _) (by kernel_rfl) (fun i hI0 J0 hJ0 => ?_)
    cases hd2 : (decide ((i : Int) < 6)) with
    | false =>
      have hp2 := of_decide_eq_false hd2
      refine run_auto [(24, .bool false)] 11 [false] [] [8] [0] (st' := ⟨[(8, .bool true)], [(bk, .cells (gc (g.mid a b m i 0)).toArray 70 (0, 0))]⟩) (acc := [(.bool false, .bool false), (.bool (decide ((i : Int) < 6)), .bool false)]) (by kernel_rfl) (by kernel_rfl) ⟨rfl, (bo hd2), trivial⟩ ?_
      refine run_end (fn := f109) rfl (Nat.le_refl _) (by kernel_rfl) [] [.bool true] (e := []) (by kernel_rfl) trivial (fun w1 k1 h1 => ?_)
      rw [if_neg (by omega)]
      rw [show gc (g.mid a b m i 0) = gc (g.lim a b m) from gc_congr fun i' j' h1 _ => by rw [show i = 6 by omega]; exact Gp.mid_end g a b m h1 j'] at h1
      exact ⟨by simp [resVal], k1, h1 (bk, _) (List.mem_of_getElem? (i := 0) rfl)⟩
    | true =>
      have hp2 := of_decide_eq_true hd2
      have hi6 : i < 6 := by omega
      have qa := Gp.sums hd hs m1 m2 hi6 ha hb hb
      have qb := Gp.low hd hs hi6 hb
      have qc := hs i b hi6 hb
      have qd := hs i a hi6 ha
      have qe := Gp.low hd hs hi6 ha
      refine run_auto [(24, .bool true)] 20 [true] [] [0, 1, 2, 3, 8, 23, 9, 27, 28, 29] [0] (st' := ⟨[(0, .pointer (some ⟨bk, 0, none⟩)), (1, .int .i64 (a : Int)), (2, .int .i64 (b : Int)), (3, .int .i64 m), (8, .bool false), (23, .int .i64 (i : Int)), (9, .int .i64 (i : Int)), (27, .int .i64 (i : Int)), (28, .int .i64 (a : Int)), (29, .pointer (some ⟨bk, 0, none⟩))], [(bk, .cells (gc (g.mid a b m i 0)).toArray 70 (0, 0))]⟩) (acc := [(.bool true, .bool true), (.bool (decide ((i : Int) < 6)), .bool true)]) (by kernel_rfl) (by kernel_rfl) ⟨rfl, (bo hd2), trivial⟩ ?_
      refine run_v (Instr.indexAt 70 (.pointer (some ⟨bk, 0, none⟩)) (.int .i64 (i : Int)) >>= fun v => pure (Next.value v)) (some 30) (.pointer (some ⟨bk, i * 6, none⟩)) (by kernel_rfl) (fun w1 k1 h1 => idxA_run (e := 68) (n := 6) (len := 6) (by kernel_rfl) (by kernel_rfl) bk (0) .i64 i (by omega) (i * 6) (by omega) w1) ?_
      refine run_v (Instr.indexAt 68 (.pointer (some ⟨bk, i * 6, none⟩)) (.int .i64 (a : Int)) >>= fun v => pure (Next.value v)) (some 31) (.pointer (some ⟨bk, i * 6 + a, none⟩)) (by kernel_rfl) (fun w1 k1 h1 => idxA_run (e := 3) (n := 1) (len := 6) (by kernel_rfl) (by kernel_rfl) bk (i * 6) .i64 a (by omega) (i * 6 + a) (by omega) w1) ?_
      refine run_v (Instr.loadAt 3 (.pointer (some ⟨bk, i * 6 + a, none⟩)) >>= fun v => pure (Next.value v)) (some 32) (.int .i64 (g i a)) (by kernel_rfl) (fun w1 k1 h1 => load_own (e := 70) (fr := (0, 0)) (c := gc (g.mid a b m i 0)) h1 (List.mem_of_getElem? (i := 0) (by kernel_rfl)) (gc_load (g.mid a b m i 0) (a := i) (b := a) (by omega) (by omega) (Gp.mid_at g a b m i (by omega)))) ?_
      refine run_auto [] 1 [] [] [0, 1, 2, 3, 8, 23, 9, 32, 33] [0] (st' := ⟨[(0, .pointer (some ⟨bk, 0, none⟩)), (1, .int .i64 (a : Int)), (2, .int .i64 (b : Int)), (3, .int .i64 m), (8, .bool false), (23, .int .i64 (i : Int)), (9, .int .i64 (i : Int)), (32, .int .i64 (g i a)), (33, .int .i64 m)], [(bk, .cells (gc (g.mid a b m i 0)).toArray 70 (0, 0))]⟩) (acc := []) (by kernel_rfl) (by kernel_rfl) trivial ?_
      refine run_new (.cells #[.int .i64 (g i a), .int .i64 m] 3 (0, 0)) (fun b2 => .slice (some ⟨b2, 0, none⟩) 2 2) (some 34) (fun _ => by kernel_rfl) (fun b2 hb2 => ?_)
      refine run_ret1 111 #[.slice (some ⟨b2, 0, none⟩) 2 2] (some 35) (.int .i64 ((g i a) + m)) (by kernel_rfl) (fun w1 k1 h1 => along_any b2 (g i a) m (by omega) (by omega) (by omega) (by omega) w1 (h1 (b2, .cells #[.int .i64 (g i a), .int .i64 m] 3 (0, 0)) (List.mem_of_getElem? (i := 0) (by kernel_rfl)))) ?_
      refine run_auto [] 10 [] [] [0, 1, 2, 3, 8, 23, 9, 10, 36, 38, 39, 40] [1] (st' := ⟨[(0, .pointer (some ⟨bk, 0, none⟩)), (1, .int .i64 (a : Int)), (2, .int .i64 (b : Int)), (3, .int .i64 m), (8, .bool false), (23, .int .i64 (i : Int)), (9, .int .i64 (i : Int)), (10, .int .i64 ((g i a) + m)), (36, .int .i64 ((g i a) + m)), (38, .int .i64 (i : Int)), (39, .int .i64 (b : Int)), (40, .pointer (some ⟨bk, 0, none⟩))], [(bk, .cells (gc (g.mid a b m i 0)).toArray 70 (0, 0))]⟩) (acc := []) (by kernel_rfl) (by kernel_rfl) trivial ?_
      refine run_v (Instr.indexAt 70 (.pointer (some ⟨bk, 0, none⟩)) (.int .i64 (i : Int)) >>= fun v => pure (Next.value v)) (some 41) (.pointer (some ⟨bk, i * 6, none⟩)) (by kernel_rfl) (fun w1 k1 h1 => idxA_run (e := 68) (n := 6) (len := 6) (by kernel_rfl) (by kernel_rfl) bk (0) .i64 i (by omega) (i * 6) (by omega) w1) ?_
      refine run_v (Instr.indexAt 68 (.pointer (some ⟨bk, i * 6, none⟩)) (.int .i64 (b : Int)) >>= fun v => pure (Next.value v)) (some 42) (.pointer (some ⟨bk, i * 6 + b, none⟩)) (by kernel_rfl) (fun w1 k1 h1 => idxA_run (e := 3) (n := 1) (len := 6) (by kernel_rfl) (by kernel_rfl) bk (i * 6) .i64 b (by omega) (i * 6 + b) (by omega) w1) ?_
      refine run_v (Instr.loadAt 3 (.pointer (some ⟨bk, i * 6 + b, none⟩)) >>= fun v => pure (Next.value v)) (some 43) (.int .i64 (g i b)) (by kernel_rfl) (fun w1 k1 h1 => load_own (e := 70) (fr := (0, 0)) (c := gc (g.mid a b m i 0)) h1 (List.mem_of_getElem? (i := 0) (by kernel_rfl)) (gc_load (g.mid a b m i 0) (a := i) (b := b) (by omega) (by omega) (Gp.mid_at g a b m i (by omega)))) ?_
      cases hd3 : (decide ((g i b) ≤ ((g i a) + m))) with
      | false =>
        have hp3 := of_decide_eq_false hd3
        refine run_auto [(44, .bool false)] 9 [false] [] [0, 1, 2, 3, 8, 23, 9, 10, 45] [0] (st' := ⟨[(0, .pointer (some ⟨bk, 0, none⟩)), (1, .int .i64 (a : Int)), (2, .int .i64 (b : Int)), (3, .int .i64 m), (8, .bool false), (23, .int .i64 (i : Int)), (9, .int .i64 (i : Int)), (10, .int .i64 ((g i a) + m)), (45, .int .i64 0)], [(bk, .cells (gc (g.mid a b m i 0)).toArray 70 (0, 0))]⟩) (acc := [(.bool false, .bool false), (.bool (decide ((g i b) ≤ ((g i a) + m))), .bool false)]) (by kernel_rfl) (by kernel_rfl) ⟨rfl, (bo hd3), trivial⟩ ?_
        refine run_auto [] 0 [] [] [0, 1, 2, 3, 8, 23, 9, 10, 45] [0] (st' := ⟨[(0, .pointer (some ⟨bk, 0, none⟩)), (1, .int .i64 (a : Int)), (2, .int .i64 (b : Int)), (3, .int .i64 m), (8, .bool false), (23, .int .i64 (i : Int)), (9, .int .i64 (i : Int)), (10, .int .i64 ((g i a) + m)), (45, .int .i64 0)], [(bk, .cells (gc (g.mid a b m i 0)).toArray 70 (0, 0))]⟩) (acc := []) (by kernel_rfl) (by kernel_rfl) trivial ?_
        refine run_loop (S := fun (j : Nat) => ⟨[(0, .pointer (some ⟨bk, 0, none⟩)), (1, .int .i64 (a : Int)), (2, .int .i64 (b : Int)), (3, .int .i64 m), (8, .bool false), (23, .int .i64 (i : Int)), (9, .int .i64 (i : Int)), (10, .int .i64 ((g i a) + m)), (45, .int .i64 (j : Int))], [(bk, .cells (gc (g.mid a b m i j)).toArray 70 (0, 0))]⟩) (fun j => j ≤ 6) (fun j => 6 - j) (0) (by kernel_rfl) (Nat.zero_le _) (by kernel_rfl) (fun j hI1 J1 hJ1 => ?_)
        cases hd4 : (decide ((j : Int) < 6)) with
        | false =>
          have hp4 := of_decide_eq_false hd4
          refine run_auto [(46, .bool false), (73, .int .i64 ((i + 1 : Nat) : Int))] 12 [false] [] [0, 1, 2, 3, 8, 23] [0] (st' := ⟨[(0, .pointer (some ⟨bk, 0, none⟩)), (1, .int .i64 (a : Int)), (2, .int .i64 (b : Int)), (3, .int .i64 m), (8, .bool false), (23, .int .i64 ((i + 1 : Nat) : Int))], [(bk, .cells (gc (g.mid a b m i j)).toArray 70 (0, 0))]⟩) (acc := [(.int .i64 (IntKind.i64.wrap ((i : Int) + 1)), .int .i64 ((i + 1 : Nat) : Int)), (.bool false, .bool false), (.bool (decide ((j : Int) < 6)), .bool false)]) (by kernel_rfl) (by kernel_rfl) ⟨(wr (by omega) (by omega)), rfl, (bo hd4), trivial⟩ ?_
          rw [show gc (g.mid a b m i j) = gc (g.mid a b m (i + 1) 0) from gc_congr fun i' j' _ h2 => by rw [show j = 6 by omega]; exact Gp.mid_row g a b m i i' h2]
          exact run_round (by kernel_rfl) (hJ0 (i + 1) (by omega) (by omega))
        | true =>
          have hp4 := of_decide_eq_true hd4
          have hj6 : j < 6 := by omega
          have ra := Gp.sums hd hs m1 m2 hi6 ha hb hj6
          have rb := Gp.low hd hs hi6 hj6
          have rc := hs i j hi6 hj6
          have rd := hs b j hb hj6
          have re := Gp.low hd hs hb hj6
          refine run_auto [(46, .bool true)] 14 [true] [] [0, 1, 2, 3, 8, 23, 9, 10, 45, 11] [0] (st' := ⟨[(0, .pointer (some ⟨bk, 0, none⟩)), (1, .int .i64 (a : Int)), (2, .int .i64 (b : Int)), (3, .int .i64 m), (8, .bool false), (23, .int .i64 (i : Int)), (9, .int .i64 (i : Int)), (10, .int .i64 ((g i a) + m)), (45, .int .i64 (j : Int)), (11, .int .i64 (j : Int))], [(bk, .cells (gc (g.mid a b m i j)).toArray 70 (0, 0))]⟩) (acc := [(.bool true, .bool true), (.bool (decide ((j : Int) < 6)), .bool true)]) (by kernel_rfl) (by kernel_rfl) ⟨rfl, (bo hd4), trivial⟩ ?_
          refine draw 25 [{ val := fun _ => .pointer (some ⟨bk, 0, none⟩), slots := [0] },
                      { val := fun _ => .int .i64 (i : Int), slots := [9] },
                      { val := fun _ => .int .i64 (j : Int), slots := [11] },
                      { val := fun _ => .pointer (some ⟨bk, 0, none⟩), slots := [0] },
                      { val := fun _ => .int .i64 (i : Int), slots := [9] },
                      { val := fun _ => .int .i64 (j : Int), slots := [11] },
                      { val := fun _ => .pointer (some ⟨bk, 0, none⟩), slots := [51] },
                      { val := fun _ => .pointer (some ⟨bk, i * 6, none⟩), slots := [52, 54] },
                      { val := fun _ => .pointer (some ⟨bk, i * 6 + j, none⟩), slots := [53, 55] },
                      { val := fun _ => .int .i64 (g i j), slots := [56], reads := [0] },
                      { val := fun _ => .int .i64 ((g i a) + m), slots := [10] },
                      { val := fun _ => .pointer (some ⟨bk, 0, none⟩), slots := [0] },
                      { val := fun _ => .int .i64 (b : Int), slots := [2] },
                      { val := fun _ => .int .i64 (j : Int), slots := [11] },
                      { val := fun _ => .pointer (some ⟨bk, 0, none⟩), slots := [59] },
                      { val := fun _ => .pointer (some ⟨bk, b * 6, none⟩), slots := [60, 62] },
                      { val := fun _ => .pointer (some ⟨bk, b * 6 + j, none⟩), slots := [61, 63] },
                      { val := fun _ => .int .i64 (g b j), slots := [64], reads := [0] },
                      { names := [19], val := fun l => .slice (some ⟨(l.getD 0 0), 0, none⟩) 2 2, upd := [(19, fun l => .cells #[.int .i64 ((g i a) + m), .int .i64 (g b j)] 3 (0, 0))], news := [19], slots := [58, 65] },
                      { val := fun _ => .int .i64 (((g i a) + m) + (g b j)), slots := [66], reads := [19] },
                      { val := fun _ => .int .i64 (min (g i j) (((g i a) + m) + (g b j))), slots := [57, 67] },
                      { val := fun _ => .pointer (some ⟨bk, 0, none⟩), slots := [48] },
                      { val := fun _ => .pointer (some ⟨bk, i * 6, none⟩), slots := [49, 69] },
                      { val := fun _ => .pointer (some ⟨bk, i * 6 + j, none⟩), slots := [50, 70] },
                      { upd := [(0, fun _ => .cells (gc (g.mid a b m i (j + 1))).toArray 70 (0, 0))], slots := [68, 71], reads := [0] }] [[], [], [], [], [], [], [3], [3, 4, 6], [3, 4, 5, 6, 7], [3, 4, 5, 6, 7, 8], [], [], [], [], [11], [11, 12, 14], [11, 12, 13, 14, 15], [11, 12, 13, 14, 15, 16], [10, 11, 12, 13, 14, 15, 16, 17], [10, 11, 12, 13, 14, 15, 16, 17, 18], [3, 4, 5, 6, 7, 8, 9, 10, 11, 12, 13, 14, 15, 16, 17, 18, 19], [0], [0, 1, 21], [0, 1, 2, 3, 4, 5, 6, 7, 8, 9, 10, 11, 12, 13, 14, 15, 16, 17, 18, 19, 20, 21, 22], [0, 1, 2, 3, 4, 5, 6, 7, 8, 9, 10, 11, 12, 13, 14, 15, 16, 17, 18, 19, 20, 21, 22, 23]] (by kernel_rfl) (by kernel_rfl) (by kernel_rfl) (by kernel_rfl) [0, 1, 2, 3, 8, 23, 9, 10, 45] [0] (by kernel_rfl)
                      ⟨⟨⟨⟨⟨⟨⟨⟨⟨⟨⟨⟨⟨⟨⟨⟨⟨⟨⟨⟨⟨⟨⟨⟨⟨trivial,
                      tri_quiet (fun β => []) [] [] (fun β => []) (by kernel_rfl) (fun β extra => by kernel_rfl) (by kernel_rfl) (fun β => trivial)⟩,
                      tri_quiet (fun β => []) [] [] (fun β => []) (by kernel_rfl) (fun β extra => by kernel_rfl) (by kernel_rfl) (fun β => trivial)⟩,
                      tri_quiet (fun β => []) [] [] (fun β => []) (by kernel_rfl) (fun β extra => by kernel_rfl) (by kernel_rfl) (fun β => trivial)⟩,
                      tri_quiet (fun β => []) [] [] (fun β => []) (by kernel_rfl) (fun β extra => by kernel_rfl) (by kernel_rfl) (fun β => trivial)⟩,
                      tri_quiet (fun β => []) [] [] (fun β => []) (by kernel_rfl) (fun β extra => by kernel_rfl) (by kernel_rfl) (fun β => trivial)⟩,
                      tri_quiet (fun β => []) [] [] (fun β => []) (by kernel_rfl) (fun β extra => by kernel_rfl) (by kernel_rfl) (fun β => trivial)⟩,
                      tri_quiet (fun β => []) [] [] (fun β => []) (by kernel_rfl) (fun β extra => by kernel_rfl) (by kernel_rfl) (fun β => trivial)⟩,
                      tri_v (fun β => (Instr.indexAt 70 (.pointer (some ⟨bk, 0, none⟩)) (.int .i64 (i : Int)) >>= fun v => pure (Next.value v))) (by kernel_rfl) (fun β extra => by kernel_rfl) (fun β => by kernel_rfl) (fun β w1 k1 h1 => idxA_run (e := 68) (n := 6) (len := 6) (by kernel_rfl) (by kernel_rfl) bk (0) .i64 i (by omega) (i * 6) (by omega) w1)⟩,
                      tri_v (fun β => (Instr.indexAt 68 (.pointer (some ⟨bk, i * 6, none⟩)) (.int .i64 (j : Int)) >>= fun v => pure (Next.value v))) (by kernel_rfl) (fun β extra => by kernel_rfl) (fun β => by kernel_rfl) (fun β w1 k1 h1 => idxA_run (e := 3) (n := 1) (len := 6) (by kernel_rfl) (by kernel_rfl) bk (i * 6) .i64 j (by omega) (i * 6 + j) (by omega) w1)⟩,
                      tri_v (fun β => (Instr.loadAt 3 (.pointer (some ⟨bk, i * 6 + j, none⟩)) >>= fun v => pure (Next.value v))) (by kernel_rfl) (fun β extra => by kernel_rfl) (fun β => by kernel_rfl) (fun β w1 k1 h1 => load_own (e := 70) (fr := (0, 0)) (c := gc (g.mid a b m i j)) h1 (List.mem_of_getElem? (i := 0) (by kernel_rfl)) (gc_load (g.mid a b m i j) (a := i) (b := j) (by omega) (by omega) (Gp.mid_at g a b m i (by omega))))⟩,
                      tri_quiet (fun β => []) [] [] (fun β => []) (by kernel_rfl) (fun β extra => by kernel_rfl) (by kernel_rfl) (fun β => trivial)⟩,
                      tri_quiet (fun β => []) [] [] (fun β => []) (by kernel_rfl) (fun β extra => by kernel_rfl) (by kernel_rfl) (fun β => trivial)⟩,
                      tri_quiet (fun β => []) [] [] (fun β => []) (by kernel_rfl) (fun β extra => by kernel_rfl) (by kernel_rfl) (fun β => trivial)⟩,
                      tri_quiet (fun β => []) [] [] (fun β => []) (by kernel_rfl) (fun β extra => by kernel_rfl) (by kernel_rfl) (fun β => trivial)⟩,
                      tri_quiet (fun β => []) [] [] (fun β => []) (by kernel_rfl) (fun β extra => by kernel_rfl) (by kernel_rfl) (fun β => trivial)⟩,
                      tri_v (fun β => (Instr.indexAt 70 (.pointer (some ⟨bk, 0, none⟩)) (.int .i64 (b : Int)) >>= fun v => pure (Next.value v))) (by kernel_rfl) (fun β extra => by kernel_rfl) (fun β => by kernel_rfl) (fun β w1 k1 h1 => idxA_run (e := 68) (n := 6) (len := 6) (by kernel_rfl) (by kernel_rfl) bk (0) .i64 b (by omega) (b * 6) (by omega) w1)⟩,
                      tri_v (fun β => (Instr.indexAt 68 (.pointer (some ⟨bk, b * 6, none⟩)) (.int .i64 (j : Int)) >>= fun v => pure (Next.value v))) (by kernel_rfl) (fun β extra => by kernel_rfl) (fun β => by kernel_rfl) (fun β w1 k1 h1 => idxA_run (e := 3) (n := 1) (len := 6) (by kernel_rfl) (by kernel_rfl) bk (b * 6) .i64 j (by omega) (b * 6 + j) (by omega) w1)⟩,
                      tri_v (fun β => (Instr.loadAt 3 (.pointer (some ⟨bk, b * 6 + j, none⟩)) >>= fun v => pure (Next.value v))) (by kernel_rfl) (fun β extra => by kernel_rfl) (fun β => by kernel_rfl) (fun β w1 k1 h1 => load_own (e := 70) (fr := (0, 0)) (c := gc (g.mid a b m i j)) h1 (List.mem_of_getElem? (i := 0) (by kernel_rfl)) (gc_load (g.mid a b m i j) (a := b) (b := j) (by omega) (by omega) (Gp.mid_b hd hb (show 0 ≤ m + g b a by omega) i j (by omega))))⟩,
                      tri_new 19 (fun β => .cells #[.int .i64 ((g i a) + m), .int .i64 (g b j)] 3 (0, 0)) (fun β b => .slice (some ⟨b, 0, none⟩) 2 2) [0] (by kernel_rfl) (fun β extra b => by kernel_rfl) (by kernel_rfl) (fun β b => by kernel_rfl) (fun β b => by kernel_rfl) (fun β b => by kernel_rfl)⟩,
                      tri_call 111 (fun β => #[.slice (some ⟨(β 19), 0, none⟩) 2 2]) (by kernel_rfl) (fun β extra => by kernel_rfl) (fun β => by kernel_rfl) (fun β w1 k1 h1 => along_any (β 19) ((g i a) + m) (g b j) (by omega) (by omega) (by omega) (by omega) w1 (h1 ((β 19), .cells #[.int .i64 ((g i a) + m), .int .i64 (g b j)] 3 (0, 0)) (List.mem_of_getElem? (i := 0) (by kernel_rfl))))⟩,
                      tri_quiet (fun β => [(68, .int .i64 (min (g i j) (((g i a) + m) + (g b j))))]) [] [] (fun β => [(.int .i64 (if (((g i a) + m) + (g b j)) < (g i j) then (((g i a) + m) + (g b j)) else (g i j)), .int .i64 (min (g i j) (((g i a) + m) + (g b j))))]) (by kernel_rfl) (fun β extra => by kernel_rfl) (by kernel_rfl) (fun β => ⟨(mn _ _ _), trivial⟩)⟩,
                      tri_quiet (fun β => []) [] [] (fun β => []) (by kernel_rfl) (fun β extra => by kernel_rfl) (by kernel_rfl) (fun β => trivial)⟩,
                      tri_v (fun β => (Instr.indexAt 70 (.pointer (some ⟨bk, 0, none⟩)) (.int .i64 (i : Int)) >>= fun v => pure (Next.value v))) (by kernel_rfl) (fun β extra => by kernel_rfl) (fun β => by kernel_rfl) (fun β w1 k1 h1 => idxA_run (e := 68) (n := 6) (len := 6) (by kernel_rfl) (by kernel_rfl) bk (0) .i64 i (by omega) (i * 6) (by omega) w1)⟩,
                      tri_v (fun β => (Instr.indexAt 68 (.pointer (some ⟨bk, i * 6, none⟩)) (.int .i64 (j : Int)) >>= fun v => pure (Next.value v))) (by kernel_rfl) (fun β extra => by kernel_rfl) (fun β => by kernel_rfl) (fun β w1 k1 h1 => idxA_run (e := 3) (n := 1) (len := 6) (by kernel_rfl) (by kernel_rfl) bk (i * 6) .i64 j (by omega) (i * 6 + j) (by omega) w1)⟩,
                      tri_store (fun β => bk) (i * 6 + j) 3 (fun β => .int .i64 (min (g i j) (((g i a) + m) + (g b j)))) (gc (g.mid a b m i j)) (gc (g.mid a b m i (j + 1))) 70 (by kernel_rfl) (by kernel_rfl) (fun β extra => by kernel_rfl) (fun β => by kernel_rfl) (fun β => by kernel_rfl) (fun β => gc_store _ (by omega) (by omega) _ (fun i' j' _ _ => (Gp.mid_put g a b m i j i' j').symm))⟩
                      (fun β => ⟨[(0, .pointer (some ⟨bk, 0, none⟩)), (1, .int .i64 (a : Int)), (2, .int .i64 (b : Int)), (3, .int .i64 m), (8, .bool false), (23, .int .i64 (i : Int)), (9, .int .i64 (i : Int)), (10, .int .i64 ((g i a) + m)), (45, .int .i64 (j : Int))], [(bk, .cells (gc (g.mid a b m i (j + 1))).toArray 70 (0, 0))]⟩) (fun β => by kernel_rfl) (fun β3 => ?_)
          refine run_auto [(72, .int .i64 ((j + 1 : Nat) : Int))] 5 [] [] [0, 1, 2, 3, 8, 23, 9, 10, 45] [0] (st' := ⟨[(0, .pointer (some ⟨bk, 0, none⟩)), (1, .int .i64 (a : Int)), (2, .int .i64 (b : Int)), (3, .int .i64 m), (8, .bool false), (23, .int .i64 (i : Int)), (9, .int .i64 (i : Int)), (10, .int .i64 ((g i a) + m)), (45, .int .i64 ((j + 1 : Nat) : Int))], [(bk, .cells (gc (g.mid a b m i (j + 1))).toArray 70 (0, 0))]⟩) (acc := [(.int .i64 (IntKind.i64.wrap ((j : Int) + 1)), .int .i64 ((j + 1 : Nat) : Int))]) (by kernel_rfl) (by kernel_rfl) ⟨(wr (by omega) (by omega)), trivial⟩ ?_
          exact run_round (by kernel_rfl) (hJ1 (j + 1) (by omega) (by omega))
      | true =>
        have hp3 := of_decide_eq_true hd3
        refine run_auto [(44, .bool true), (73, .int .i64 ((i + 1 : Nat) : Int))] 8 [true] [] [0, 1, 2, 3, 8, 23] [0] (st' := ⟨[(0, .pointer (some ⟨bk, 0, none⟩)), (1, .int .i64 (a : Int)), (2, .int .i64 (b : Int)), (3, .int .i64 m), (8, .bool false), (23, .int .i64 ((i + 1 : Nat) : Int))], [(bk, .cells (gc (g.mid a b m i 0)).toArray 70 (0, 0))]⟩) (acc := [(.int .i64 (IntKind.i64.wrap ((i : Int) + 1)), .int .i64 ((i + 1 : Nat) : Int)), (.bool true, .bool true), (.bool (decide ((g i b) ≤ ((g i a) + m))), .bool true)]) (by kernel_rfl) (by kernel_rfl) ⟨(wr (by omega) (by omega)), rfl, (bo hd3), trivial⟩ ?_
        rw [show gc (g.mid a b m i 0) = gc (g.mid a b m (i + 1) 0) from gc_congr fun i' j' _ h2 => (Gp.mid_over hd hb (by omega) (by omega) h2).symm]
        exact run_round (by kernel_rfl) (hJ0 (i + 1) (by omega) (by omega))
  | true =>
    have hp1 := of_decide_eq_true hd1
    refine run_auto [(22, .bool true)] 7 [true] [] [0, 1, 2, 3, 8] [1] (st' := ⟨[(0, .pointer (some ⟨bk, 0, none⟩)), (1, .int .i64 (a : Int)), (2, .int .i64 (b : Int)), (3, .int .i64 m), (8, .bool false)], [(bk, .cells (gc g).toArray 70 (0, 0))]⟩) (acc := [(.bool true, .bool true), (.bool (decide ((m + (g b a)) < 0)), .bool true)]) (by kernel_rfl) (by kernel_rfl) ⟨rfl, (bo hd1), trivial⟩ ?_
    refine run_end (fn := f109) rfl (Nat.le_refl _) (by kernel_rfl) [] [.bool false] (e := []) (by kernel_rfl) trivial (fun w1 k1 h1 => ?_)
    rw [if_pos (by omega)]
    exact ⟨by simp [resVal], k1, h1 (bk, _) (List.mem_of_getElem? (i := 0) rfl)⟩

end Go.Proofs.Ytmiobcnccbfknaa
