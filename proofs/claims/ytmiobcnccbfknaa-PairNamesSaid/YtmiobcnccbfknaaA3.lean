/-
  PAIR: bounds, put to gaps; what is known before anything is read.
-/
import Derived.Test.YtmiobcnccbfknaaA2
namespace Go.Proofs.Ytmiobcnccbfknaa
open Go.RowKit Go.Proofs.Try

set_option maxRecDepth 100000 in
theorem between_any (a b lo hi : Int) (w : World)  : Calls Try.prog 127 #[.agg #[.int .i64 a, .int .i64 b, .int .i64 lo, .int .i64 hi]] w (Ret (.agg #[.int .i64 a, .int .i64 b]) w) := by
  refine calls_run (fn := f127) (c := (f127.body).getD .skip) [.agg #[.int .i64 a, .int .i64 b, .int .i64 lo, .int .i64 hi]] func127 (by kernel_rfl) (fun _ => False) [] (fun _ h => by cases h) (List.Pairwise.nil) 5 (by kernel_rfl) (by simp) ?_
  refine run_auto [] 2 [] [] [0] [] (st' := ⟨[(0, .agg #[.int .i64 a, .int .i64 b, .int .i64 lo, .int .i64 hi])], []⟩) (acc := []) (by kernel_rfl) (by kernel_rfl) trivial ?_
  refine run_new (.cells #[.int .i64 a, .int .i64 b, .int .i64 lo, .int .i64 hi] 145 (0, 0)) (fun b1 => .pointer (some ⟨b1, 0, none⟩)) (some 1) (fun _ => by kernel_rfl) (fun b1 hb1 => ?_)
  refine run_new (.cells #[.int .i64 0, .int .i64 0] 72 (0, 0)) (fun b2 => .pointer (some ⟨b2, 0, none⟩)) (some 2) (fun _ => by kernel_rfl) (fun b2 hb2 => ?_)
  refine run_auto [] 7 [] [1, 0] [2] [0] (st' := ⟨[(2, .pointer (some ⟨b2, 0, none⟩))], [(b2, .cells #[.int .i64 a, .int .i64 b] 72 (0, 0))]⟩) (acc := [(.pointer (some ⟨b2, 0, none⟩), .pointer (some ⟨b2, 0, none⟩)), (.pointer (some ⟨b1, 0, none⟩), .pointer (some ⟨b1, 0, none⟩))]) (by kernel_rfl) (by kernel_rfl) ⟨rfl, rfl, trivial⟩ ?_
  refine run_end (fn := f127) rfl (Nat.le_refl _) (by kernel_rfl) [0] [.agg #[.int .i64 a, .int .i64 b]] (e := [(.pointer (some ⟨b2, 0, none⟩), .pointer (some ⟨b2, 0, none⟩))]) (by kernel_rfl) ⟨rfl, trivial⟩ (fun w1 k1 h1 => ?_)
  exact ⟨rfl, k1.keeps (fun _ h => h)⟩

set_option maxRecDepth 100000 in
theorem leaves_any (a b lo hi z r : Int) (w : World)  : Calls Try.prog 128 #[.agg #[.int .i64 a, .int .i64 b, .int .i64 lo, .int .i64 hi], .agg #[.int .i64 z, .int .i64 r]] w (Ret (.agg #[.int .i64 lo, .int .i64 hi]) w) := by
  refine calls_run (fn := f128) (c := (f128.body).getD .skip) [.agg #[.int .i64 a, .int .i64 b, .int .i64 lo, .int .i64 hi], .agg #[.int .i64 z, .int .i64 r]] func128 (by kernel_rfl) (fun _ => False) [] (fun _ h => by cases h) (List.Pairwise.nil) 7 (by kernel_rfl) (by simp) ?_
  refine run_auto [] 2 [] [] [0, 1] [] (st' := ⟨[(0, .agg #[.int .i64 a, .int .i64 b, .int .i64 lo, .int .i64 hi]), (1, .agg #[.int .i64 z, .int .i64 r])], []⟩) (acc := []) (by kernel_rfl) (by kernel_rfl) trivial ?_
  refine run_new (.cells #[.int .i64 a, .int .i64 b, .int .i64 lo, .int .i64 hi] 145 (0, 0)) (fun b1 => .pointer (some ⟨b1, 0, none⟩)) (some 2) (fun _ => by kernel_rfl) (fun b1 hb1 => ?_)
  refine run_new (.cells #[.int .i64 z, .int .i64 r] 79 (0, 0)) (fun b2 => .pointer (some ⟨b2, 0, none⟩)) (some 3) (fun _ => by kernel_rfl) (fun b2 hb2 => ?_)
  refine run_new (.cells #[.int .i64 0, .int .i64 0] 23 (0, 0)) (fun b3 => .pointer (some ⟨b3, 0, none⟩)) (some 4) (fun _ => by kernel_rfl) (fun b3 hb3 => ?_)
  refine run_auto [] 7 [] [2, 0] [4] [0] (st' := ⟨[(4, .pointer (some ⟨b3, 0, none⟩))], [(b3, .cells #[.int .i64 lo, .int .i64 hi] 23 (0, 0))]⟩) (acc := [(.pointer (some ⟨b3, 0, none⟩), .pointer (some ⟨b3, 0, none⟩)), (.pointer (some ⟨b1, 0, none⟩), .pointer (some ⟨b1, 0, none⟩))]) (by kernel_rfl) (by kernel_rfl) ⟨rfl, rfl, trivial⟩ ?_
  refine run_end (fn := f128) rfl (Nat.le_refl _) (by kernel_rfl) [0] [.agg #[.int .i64 lo, .int .i64 hi]] (e := [(.pointer (some ⟨b3, 0, none⟩), .pointer (some ⟨b3, 0, none⟩))]) (by kernel_rfl) ⟨rfl, trivial⟩ (fun w1 k1 h1 => ?_)
  exact ⟨rfl, k1.keeps (fun _ h => h)⟩

set_option maxRecDepth 100000 in
theorem leaves2_any (a b lo hi m z r : Int) (z1 : -10 ≤ z) (z2 : z ≤ 10) (r1 : -5 ≤ r) (r2 : r ≤ 5) (m1 : 0 ≤ m) (m2 : m ≤ 60) (l1 : -80 ≤ lo) (l2 : lo ≤ 80) (h1 : -80 ≤ hi) (h2 : hi ≤ 80) (w : World)  : Calls Try.prog 129 #[.agg #[.int .i64 a, .int .i64 b, .int .i64 lo, .int .i64 hi, .int .i64 m], .agg #[.int .i64 z, .int .i64 r]] w (Ret (.agg #[.int .i64 (lo - shw (z, r) m), .int .i64 (hi - shw (z, r) m)]) w) := by
  obtain ⟨_, _, hb3, hb4⟩ := shw_in (c := (z, r)) z1 z2 r1 r2 m1 m2
  refine calls_run (fn := f129) (c := (f129.body).getD .skip) [.agg #[.int .i64 a, .int .i64 b, .int .i64 lo, .int .i64 hi, .int .i64 m], .agg #[.int .i64 z, .int .i64 r]] func129 (by kernel_rfl) (fun _ => False) [] (fun _ h => by cases h) (List.Pairwise.nil) 23 (by kernel_rfl) (by simp) ?_
  refine run_auto [] 2 [] [] [0, 1] [] (st' := ⟨[(0, .agg #[.int .i64 a, .int .i64 b, .int .i64 lo, .int .i64 hi, .int .i64 m]), (1, .agg #[.int .i64 z, .int .i64 r])], []⟩) (acc := []) (by kernel_rfl) (by kernel_rfl) trivial ?_
  refine run_new (.cells #[.int .i64 a, .int .i64 b, .int .i64 lo, .int .i64 hi, .int .i64 m] 147 (0, 0)) (fun b1 => .pointer (some ⟨b1, 0, none⟩)) (some 2) (fun _ => by kernel_rfl) (fun b1 hb1 => ?_)
  refine run_new (.cells #[.int .i64 z, .int .i64 r] 79 (0, 0)) (fun b2 => .pointer (some ⟨b2, 0, none⟩)) (some 3) (fun _ => by kernel_rfl) (fun b2 hb2 => ?_)
  refine run_new (.cells #[.int .i64 0, .int .i64 0] 23 (0, 0)) (fun b3 => .pointer (some ⟨b3, 0, none⟩)) (some 4) (fun _ => by kernel_rfl) (fun b3 hb3 => ?_)
  refine run_auto [] 6 [] [1, 2] [2, 4, 6, 8] [0, 2] (st' := ⟨[(2, .pointer (some ⟨b1, 0, none⟩)), (4, .pointer (some ⟨b3, 0, none⟩)), (6, .agg #[.int .i64 z, .int .i64 r]), (8, .int .i64 m)], [(b3, .cells #[.int .i64 0, .int .i64 0] 23 (0, 0)), (b1, .cells #[.int .i64 a, .int .i64 b, .int .i64 lo, .int .i64 hi, .int .i64 m] 147 (0, 0))]⟩) (acc := [(.pointer (some ⟨b1, 0, none⟩), .pointer (some ⟨b1, 0, none⟩)), (.pointer (some ⟨b2, 0, none⟩), .pointer (some ⟨b2, 0, none⟩))]) (by kernel_rfl) (by kernel_rfl) ⟨rfl, rfl, trivial⟩ ?_
  refine run_ret1 80 #[.agg #[.int .i64 z, .int .i64 r], .int .i64 m] (some 9) (.int .i64 (shw (z, r) m)) (by kernel_rfl) (fun w1 k1 h1 => shows_any z r m (by omega) (by omega) (by omega) (by omega) (by omega) (by omega) w1) ?_
  refine run_auto [(15, .int .i64 (lo - (shw (z, r) m))), (21, .int .i64 (hi - (shw (z, r) m)))] 19 [] [1, 1, 0] [4] [0] (st' := ⟨[(4, .pointer (some ⟨b3, 0, none⟩))], [(b3, .cells #[.int .i64 (lo - (shw (z, r) m)), .int .i64 (hi - (shw (z, r) m))] 23 (0, 0))]⟩) (acc := [(.pointer (some ⟨b3, 0, none⟩), .pointer (some ⟨b3, 0, none⟩)), (.int .i64 (IntKind.i64.wrap (hi - (shw (z, r) m))), .int .i64 (hi - (shw (z, r) m))), (.pointer (some ⟨b1, 0, none⟩), .pointer (some ⟨b1, 0, none⟩)), (.int .i64 (IntKind.i64.wrap (lo - (shw (z, r) m))), .int .i64 (lo - (shw (z, r) m))), (.pointer (some ⟨b1, 0, none⟩), .pointer (some ⟨b1, 0, none⟩))]) (by kernel_rfl) (by kernel_rfl) ⟨rfl, (wr (by omega) (by omega)), rfl, (wr (by omega) (by omega)), rfl, trivial⟩ ?_
  refine run_end (fn := f129) rfl (Nat.le_refl _) (by kernel_rfl) [0] [.agg #[.int .i64 (lo - (shw (z, r) m)), .int .i64 (hi - (shw (z, r) m))]] (e := [(.pointer (some ⟨b3, 0, none⟩), .pointer (some ⟨b3, 0, none⟩))]) (by kernel_rfl) ⟨rfl, trivial⟩ (fun w1 k1 h1 => ?_)
  exact ⟨rfl, k1.keeps (fun _ h => h)⟩


/-- What is written down where a bound is put. -/
def Gp.putr (g : Gp) (a b : Nat) (lo hi : Int) : Gp := if hi + g b a < 0 then g else if -lo + g.lim a b hi a b < 0 then g.lim a b hi else (g.lim a b hi).lim b a (-lo)
theorem Gp.putr_some {g g' : Gp} {a b : Nat} {lo hi : Int} (h : g.put a b lo hi = some g') : g.putr a b lo hi = g' := by
  unfold Gp.put at h
  unfold Gp.putr
  split at h
  · cases h
  · rename_i h1
    rw [if_neg h1]
    split at h
    · cases h
    · rename_i h2
      rw [if_neg h2]
      injection h
set_option maxRecDepth 100000 in
theorem narrow_s (bk : Nat) (g : Gp) (a b : Nat) (lo hi : Int) (z r : Int) (w : World) (ha : a < 6) (hb : b < 6) (hd : g.Done 6) (hs : g.Small 6 40) (l1 : -150 ≤ lo) (l2 : lo ≤ 150) (h1 : -150 ≤ hi) (h2 : hi ≤ 150) (hw : w.heap[bk]? = some (.cells (gc g).toArray 70 (0, 0))) : Calls Try.prog 101 #[.pointer (some ⟨bk, 0, none⟩), .iface 145 (.agg #[.int .i64 (a : Int), .int .i64 (b : Int), .int .i64 lo, .int .i64 hi]), .agg #[.int .i64 z, .int .i64 r]] w (Wr bk (.bool (g.put a b (lo) (hi)).isSome) (.cells (gc (g.putr a b (lo) (hi))).toArray 70 (0, 0)) w) := by
  refine calls_run (fn := f101) (c := (f101.body).getD .skip) [.pointer (some ⟨bk, 0, none⟩), .iface 145 (.agg #[.int .i64 (a : Int), .int .i64 (b : Int), .int .i64 lo, .int .i64 hi]), .agg #[.int .i64 z, .int .i64 r]] func101 (by kernel_rfl) (fun x => x = bk) [(bk, .cells (gc g).toArray 70 (0, 0))] (fun p hp => by rcases List.mem_singleton.1 hp with rfl; exact ⟨hw, rfl, rfl⟩) (List.pairwise_singleton _ _) 33 (by kernel_rfl) (by simp) ?_
  refine run_auto [] 2 [] [] [0, 1, 2] [0] (st' := ⟨[(0, .pointer (some ⟨bk, 0, none⟩)), (1, .iface 145 (.agg #[.int .i64 (a : Int), .int .i64 (b : Int), .int .i64 lo, .int .i64 hi])), (2, .agg #[.int .i64 z, .int .i64 r])], [(bk, .cells (gc g).toArray 70 (0, 0))]⟩) (acc := []) (by kernel_rfl) (by kernel_rfl) trivial ?_
  refine run_new (.cells #[.int .i64 z, .int .i64 r] 79 (0, 0)) (fun b1 => .pointer (some ⟨b1, 0, none⟩)) (some 5) (fun _ => by kernel_rfl) (fun b1 hb1 => ?_)
  refine run_auto [] 3 [] [] [0, 1, 5, 6] [0, 1] (st' := ⟨[(0, .pointer (some ⟨bk, 0, none⟩)), (1, .iface 145 (.agg #[.int .i64 (a : Int), .int .i64 (b : Int), .int .i64 lo, .int .i64 hi])), (5, .pointer (some ⟨b1, 0, none⟩)), (6, .bool false)], [(b1, .cells #[.int .i64 z, .int .i64 r] 79 (0, 0)), (bk, .cells (gc g).toArray 70 (0, 0))]⟩) (acc := []) (by kernel_rfl) (by kernel_rfl) trivial ?_
  refine draw 9 [{ val := fun _ => .iface 145 (.agg #[.int .i64 (a : Int), .int .i64 (b : Int), .int .i64 lo, .int .i64 hi]), slots := [1] },
      { val := fun _ => .agg #[.int .i64 (a : Int), .int .i64 (b : Int)], slots := [9] },
      { val := fun _ => .iface 145 (.agg #[.int .i64 (a : Int), .int .i64 (b : Int), .int .i64 lo, .int .i64 hi]), slots := [1] },
      { val := fun _ => .agg #[.int .i64 z, .int .i64 r], slots := [5], reads := [0] },
      { val := fun _ => .agg #[.int .i64 lo, .int .i64 hi], slots := [11, 12] },
      { names := [7], val := fun l => .pointer (some ⟨(l.getD 0 0), 0, none⟩), upd := [(7, fun l => .cells #[.int .i64 0, .int .i64 0] 72 (0, 0))], news := [7] },
      { names := [8], val := fun l => .pointer (some ⟨(l.getD 0 0), 0, none⟩), upd := [(8, fun l => .cells #[.int .i64 0, .int .i64 0] 23 (0, 0))], news := [8] },
      { upd := [(7, fun l => .cells #[.int .i64 (a : Int), .int .i64 (b : Int)] 72 (0, 0))], slots := [7, 10], reads := [7] },
      { upd := [(8, fun l => .cells #[.int .i64 lo, .int .i64 hi] 23 (0, 0))], slots := [8, 13], reads := [8] }] [[], [0], [], [], [0, 1, 2, 3], [], [], [0, 1, 2, 3, 4, 5, 6], [0, 1, 2, 3, 4, 5, 6, 7]] (by kernel_rfl) (by kernel_rfl) (by kernel_rfl) (by kernel_rfl) [0, 6, 7, 8] [1, 7, 8] (by kernel_rfl)
      ⟨⟨⟨⟨⟨⟨⟨⟨⟨trivial,
      tri_quiet (fun β => []) [] [] (fun β => []) (by kernel_rfl) (fun β extra => by kernel_rfl) (by kernel_rfl) (fun β => trivial)⟩,
      tri_call 127 (fun β => #[.agg #[.int .i64 (a : Int), .int .i64 (b : Int), .int .i64 lo, .int .i64 hi]]) (by kernel_rfl) (fun β extra => by kernel_rfl) (fun β => by kernel_rfl) (fun β w1 k1 h1 => between_any (a : Int) (b : Int) lo hi w1)⟩,
      tri_quiet (fun β => []) [] [] (fun β => []) (by kernel_rfl) (fun β extra => by kernel_rfl) (by kernel_rfl) (fun β => trivial)⟩,
      tri_quiet (fun β => []) [0] [0] (fun β => [(.pointer (some ⟨b1, 0, none⟩), .pointer (some ⟨b1, 0, none⟩))]) (by kernel_rfl) (fun β extra => by kernel_rfl) (by kernel_rfl) (fun β => ⟨rfl, trivial⟩)⟩,
      tri_call 128 (fun β => #[.agg #[.int .i64 (a : Int), .int .i64 (b : Int), .int .i64 lo, .int .i64 hi], .agg #[.int .i64 z, .int .i64 r]]) (by kernel_rfl) (fun β extra => by kernel_rfl) (fun β => by kernel_rfl) (fun β w1 k1 h1 => leaves_any (a : Int) (b : Int) lo hi z r w1)⟩,
      tri_new 7 (fun β => .cells #[.int .i64 0, .int .i64 0] 72 (0, 0)) (fun β b => .pointer (some ⟨b, 0, none⟩)) [0] (by kernel_rfl) (fun β extra b => by kernel_rfl) (by kernel_rfl) (fun β b => by kernel_rfl) (fun β b => by kernel_rfl) (fun β b => by kernel_rfl)⟩,
      tri_new 8 (fun β => .cells #[.int .i64 0, .int .i64 0] 23 (0, 0)) (fun β b => .pointer (some ⟨b, 0, none⟩)) [0] (by kernel_rfl) (fun β extra b => by kernel_rfl) (by kernel_rfl) (fun β b => by kernel_rfl) (fun β b => by kernel_rfl) (fun β b => by kernel_rfl)⟩,
      tri_quiet (fun β => []) [0] [0] (fun β => [(.pointer (some ⟨(β 7), 0, none⟩), .pointer (some ⟨(β 7), 0, none⟩))]) (by kernel_rfl) (fun β extra => by kernel_rfl) (by kernel_rfl) (fun β => ⟨rfl, trivial⟩)⟩,
      tri_quiet (fun β => []) [0] [0] (fun β => [(.pointer (some ⟨(β 8), 0, none⟩), .pointer (some ⟨(β 8), 0, none⟩))]) (by kernel_rfl) (fun β extra => by kernel_rfl) (by kernel_rfl) (fun β => ⟨rfl, trivial⟩)⟩
      (fun β => ⟨[(0, .pointer (some ⟨bk, 0, none⟩)), (6, .bool false), (7, .pointer (some ⟨(β 7), 0, none⟩)), (8, .pointer (some ⟨(β 8), 0, none⟩))], [(bk, .cells (gc g).toArray 70 (0, 0)), ((β 7), .cells #[.int .i64 (a : Int), .int .i64 (b : Int)] 72 (0, 0)), ((β 8), .cells #[.int .i64 lo, .int .i64 hi] 23 (0, 0))]⟩) (fun β => by kernel_rfl) (fun β2 => ?_)
  refine run_auto [] 9 [] [1, 1, 2] [0, 6, 7, 8, 14, 16, 18, 20] [0, 1, 2] (st' := ⟨[(0, .pointer (some ⟨bk, 0, none⟩)), (6, .bool false), (7, .pointer (some ⟨(β2 7), 0, none⟩)), (8, .pointer (some ⟨(β2 8), 0, none⟩)), (14, .pointer (some ⟨bk, 0, none⟩)), (16, .int .i64 (a : Int)), (18, .int .i64 (b : Int)), (20, .int .i64 hi)], [(bk, .cells (gc g).toArray 70 (0, 0)), ((β2 7), .cells #[.int .i64 (a : Int), .int .i64 (b : Int)] 72 (0, 0)), ((β2 8), .cells #[.int .i64 lo, .int .i64 hi] 23 (0, 0))]⟩) (acc := [(.pointer (some ⟨(β2 8), 0, none⟩), .pointer (some ⟨(β2 8), 0, none⟩)), (.pointer (some ⟨(β2 7), 0, none⟩), .pointer (some ⟨(β2 7), 0, none⟩)), (.pointer (some ⟨(β2 7), 0, none⟩), .pointer (some ⟨(β2 7), 0, none⟩))]) (by kernel_rfl) (by kernel_rfl) ⟨rfl, rfl, rfl, trivial⟩ ?_
  cases hd1 : (decide (hi + g b a < 0)) with
  | false =>
    have hp1 := of_decide_eq_false hd1
    refine run_wr 109 #[.pointer (some ⟨bk, 0, none⟩), .int .i64 (a : Int), .int .i64 (b : Int), .int .i64 hi] (some 21) (.bool true) 0 bk (.cells (gc g).toArray 70 (0, 0)) (.cells (gc (g.lim a b hi)).toArray 70 (0, 0)) (by kernel_rfl) (by kernel_rfl) (by kernel_rfl) (fun w1 k1 h1 => (by have h := limit_any bk g a b hi w1 (by omega) (by omega) (hd) (hs) (by omega) (by omega) (h1 (bk, .cells (gc g).toArray 70 (0, 0)) (List.mem_of_getElem? (i := 0) (by kernel_rfl))); rw [if_neg (of_decide_eq_false hd1), hd1] at h; exact h)) ?_
    refine run_auto [(30, .int .i64 (-lo))] 9 [] [1, 1, 2] [6, 22, 23, 25, 27, 30] [0] (st' := ⟨[(6, .bool false), (22, .bool true), (23, .pointer (some ⟨bk, 0, none⟩)), (25, .int .i64 (b : Int)), (27, .int .i64 (a : Int)), (30, .int .i64 (-lo))], [(bk, .cells (gc (g.lim a b hi)).toArray 70 (0, 0))]⟩) (acc := [(.int .i64 (IntKind.i64.wrap (0 - lo)), .int .i64 (-lo)), (.pointer (some ⟨(β2 8), 0, none⟩), .pointer (some ⟨(β2 8), 0, none⟩)), (.pointer (some ⟨(β2 7), 0, none⟩), .pointer (some ⟨(β2 7), 0, none⟩)), (.pointer (some ⟨(β2 7), 0, none⟩), .pointer (some ⟨(β2 7), 0, none⟩))]) (by kernel_rfl) (by kernel_rfl) ⟨((wr (by omega) (by omega)).trans (io (by omega))), rfl, rfl, rfl, trivial⟩ ?_
    cases hd2 : (decide ((-lo) + (g.lim a b hi) a b < 0)) with
    | false =>
      have hp2 := of_decide_eq_false hd2
      refine run_wr 109 #[.pointer (some ⟨bk, 0, none⟩), .int .i64 (b : Int), .int .i64 (a : Int), .int .i64 (-lo)] (some 31) (.bool true) 0 bk (.cells (gc (g.lim a b hi)).toArray 70 (0, 0)) (.cells (gc ((g.lim a b hi).lim b a (-lo))).toArray 70 (0, 0)) (by kernel_rfl) (by kernel_rfl) (by kernel_rfl) (fun w1 k1 h1 => (by have h := limit_any bk (g.lim a b hi) b a (-lo) w1 (by omega) (by omega) (Gp.lim_done (hd) (a := a) (b := b) (by omega) (by omega) (m := hi) (by omega)) (Gp.Small.lim (hs) a b hi) (by omega) (by omega) (h1 (bk, .cells (gc (g.lim a b hi)).toArray 70 (0, 0)) (List.mem_of_getElem? (i := 0) (by kernel_rfl))); rw [if_neg (of_decide_eq_false hd2), hd2] at h; exact h)) ?_
      refine run_auto [] 3 [] [] [6] [0] (st' := ⟨[(6, .bool true)], [(bk, .cells (gc ((g.lim a b hi).lim b a (-lo))).toArray 70 (0, 0))]⟩) (acc := []) (by kernel_rfl) (by kernel_rfl) trivial ?_
      refine run_end (fn := f101) rfl (Nat.le_refl _) (by kernel_rfl) [] [.bool true] (e := []) (by kernel_rfl) trivial (fun w1 k1 h1 => ?_)
      refine ⟨?_, k1, ?_⟩
      · unfold Gp.put
        rw [if_neg (of_decide_eq_false hd1), if_neg (of_decide_eq_false hd2)]
        rfl
      · unfold Gp.putr
        rw [if_neg (of_decide_eq_false hd1), if_neg (of_decide_eq_false hd2)]
        exact h1 (bk, _) (List.mem_of_getElem? (i := 0) rfl)
    | true =>
      have hp2 := of_decide_eq_true hd2
      refine run_wr 109 #[.pointer (some ⟨bk, 0, none⟩), .int .i64 (b : Int), .int .i64 (a : Int), .int .i64 (-lo)] (some 31) (.bool false) 0 bk (.cells (gc (g.lim a b hi)).toArray 70 (0, 0)) (.cells (gc (g.lim a b hi)).toArray 70 (0, 0)) (by kernel_rfl) (by kernel_rfl) (by kernel_rfl) (fun w1 k1 h1 => (by have h := limit_any bk (g.lim a b hi) b a (-lo) w1 (by omega) (by omega) (Gp.lim_done (hd) (a := a) (b := b) (by omega) (by omega) (m := hi) (by omega)) (Gp.Small.lim (hs) a b hi) (by omega) (by omega) (h1 (bk, .cells (gc (g.lim a b hi)).toArray 70 (0, 0)) (List.mem_of_getElem? (i := 0) (by kernel_rfl))); rw [if_pos (of_decide_eq_true hd2), hd2] at h; exact h)) ?_
      refine run_auto [] 3 [] [] [6] [0] (st' := ⟨[(6, .bool false)], [(bk, .cells (gc (g.lim a b hi)).toArray 70 (0, 0))]⟩) (acc := []) (by kernel_rfl) (by kernel_rfl) trivial ?_
      refine run_end (fn := f101) rfl (Nat.le_refl _) (by kernel_rfl) [] [.bool false] (e := []) (by kernel_rfl) trivial (fun w1 k1 h1 => ?_)
      refine ⟨?_, k1, ?_⟩
      · unfold Gp.put
        rw [if_neg (of_decide_eq_false hd1), if_pos (of_decide_eq_true hd2)]
        rfl
      · unfold Gp.putr
        rw [if_neg (of_decide_eq_false hd1), if_pos (of_decide_eq_true hd2)]
        exact h1 (bk, _) (List.mem_of_getElem? (i := 0) rfl)
  | true =>
    have hp1 := of_decide_eq_true hd1
    refine run_wr 109 #[.pointer (some ⟨bk, 0, none⟩), .int .i64 (a : Int), .int .i64 (b : Int), .int .i64 hi] (some 21) (.bool false) 0 bk (.cells (gc g).toArray 70 (0, 0)) (.cells (gc g).toArray 70 (0, 0)) (by kernel_rfl) (by kernel_rfl) (by kernel_rfl) (fun w1 k1 h1 => (by have h := limit_any bk g a b hi w1 (by omega) (by omega) (hd) (hs) (by omega) (by omega) (h1 (bk, .cells (gc g).toArray 70 (0, 0)) (List.mem_of_getElem? (i := 0) (by kernel_rfl))); rw [if_pos (of_decide_eq_true hd1), hd1] at h; exact h)) ?_
    refine run_auto [] 13 [] [] [6] [0] (st' := ⟨[(6, .bool false)], [(bk, .cells (gc g).toArray 70 (0, 0))]⟩) (acc := []) (by kernel_rfl) (by kernel_rfl) trivial ?_
    refine run_end (fn := f101) rfl (Nat.le_refl _) (by kernel_rfl) [] [.bool false] (e := []) (by kernel_rfl) trivial (fun w1 k1 h1 => ?_)
    refine ⟨?_, k1, ?_⟩
    · unfold Gp.put
      rw [if_pos (of_decide_eq_true hd1)]
      rfl
    · unfold Gp.putr
      rw [if_pos (of_decide_eq_true hd1)]
      exact h1 (bk, _) (List.mem_of_getElem? (i := 0) rfl)

set_option maxRecDepth 100000 in
theorem narrow_r (bk : Nat) (g : Gp) (a b : Nat) (lo hi : Int) (m z r : Int) (w : World) (ha : a < 6) (hb : b < 6) (hd : g.Done 6) (hs : g.Small 6 40) (z1 : -10 ≤ z) (z2 : z ≤ 10) (r1 : -5 ≤ r) (r2 : r ≤ 5) (m1 : 0 ≤ m) (m2 : m ≤ 60) (l1 : -80 ≤ lo) (l2 : lo ≤ 80) (h1 : -80 ≤ hi) (h2 : hi ≤ 80) (hw : w.heap[bk]? = some (.cells (gc g).toArray 70 (0, 0))) : Calls Try.prog 101 #[.pointer (some ⟨bk, 0, none⟩), .iface 147 (.agg #[.int .i64 (a : Int), .int .i64 (b : Int), .int .i64 lo, .int .i64 hi, .int .i64 m]), .agg #[.int .i64 z, .int .i64 r]] w (Wr bk (.bool (g.put a b (lo - shw (z, r) m) (hi - shw (z, r) m)).isSome) (.cells (gc (g.putr a b (lo - shw (z, r) m) (hi - shw (z, r) m))).toArray 70 (0, 0)) w) := by
  obtain ⟨_, _, hb3, hb4⟩ := shw_in (c := (z, r)) z1 z2 r1 r2 m1 m2
  refine calls_run (fn := f101) (c := (f101.body).getD .skip) [.pointer (some ⟨bk, 0, none⟩), .iface 147 (.agg #[.int .i64 (a : Int), .int .i64 (b : Int), .int .i64 lo, .int .i64 hi, .int .i64 m]), .agg #[.int .i64 z, .int .i64 r]] func101 (by kernel_rfl) (fun x => x = bk) [(bk, .cells (gc g).toArray 70 (0, 0))] (fun p hp => by rcases List.mem_singleton.1 hp with rfl; exact ⟨hw, rfl, rfl⟩) (List.pairwise_singleton _ _) 33 (by kernel_rfl) (by simp) ?_
  refine run_auto [] 2 [] [] [0, 1, 2] [0] (st' := ⟨[(0, .pointer (some ⟨bk, 0, none⟩)), (1, .iface 147 (.agg #[.int .i64 (a : Int), .int .i64 (b : Int), .int .i64 lo, .int .i64 hi, .int .i64 m])), (2, .agg #[.int .i64 z, .int .i64 r])], [(bk, .cells (gc g).toArray 70 (0, 0))]⟩) (acc := []) (by kernel_rfl) (by kernel_rfl) trivial ?_
  refine run_new (.cells #[.int .i64 z, .int .i64 r] 79 (0, 0)) (fun b1 => .pointer (some ⟨b1, 0, none⟩)) (some 5) (fun _ => by kernel_rfl) (fun b1 hb1 => ?_)
  refine run_auto [] 3 [] [] [0, 1, 5, 6] [0, 1] (st' := ⟨[(0, .pointer (some ⟨bk, 0, none⟩)), (1, .iface 147 (.agg #[.int .i64 (a : Int), .int .i64 (b : Int), .int .i64 lo, .int .i64 hi, .int .i64 m])), (5, .pointer (some ⟨b1, 0, none⟩)), (6, .bool false)], [(b1, .cells #[.int .i64 z, .int .i64 r] 79 (0, 0)), (bk, .cells (gc g).toArray 70 (0, 0))]⟩) (acc := []) (by kernel_rfl) (by kernel_rfl) trivial ?_
  refine draw 9 [{ val := fun _ => .iface 147 (.agg #[.int .i64 (a : Int), .int .i64 (b : Int), .int .i64 lo, .int .i64 hi, .int .i64 m]), slots := [1] },
      { val := fun _ => .agg #[.int .i64 (a : Int), .int .i64 (b : Int)], slots := [9] },
      { val := fun _ => .iface 147 (.agg #[.int .i64 (a : Int), .int .i64 (b : Int), .int .i64 lo, .int .i64 hi, .int .i64 m]), slots := [1] },
      { val := fun _ => .agg #[.int .i64 z, .int .i64 r], slots := [5], reads := [0] },
      { val := fun _ => .agg #[.int .i64 (lo - shw (z, r) m), .int .i64 (hi - shw (z, r) m)], slots := [11, 12] },
      { names := [7], val := fun l => .pointer (some ⟨(l.getD 0 0), 0, none⟩), upd := [(7, fun l => .cells #[.int .i64 0, .int .i64 0] 72 (0, 0))], news := [7] },
      { names := [8], val := fun l => .pointer (some ⟨(l.getD 0 0), 0, none⟩), upd := [(8, fun l => .cells #[.int .i64 0, .int .i64 0] 23 (0, 0))], news := [8] },
      { upd := [(7, fun l => .cells #[.int .i64 (a : Int), .int .i64 (b : Int)] 72 (0, 0))], slots := [7, 10], reads := [7] },
      { upd := [(8, fun l => .cells #[.int .i64 (lo - shw (z, r) m), .int .i64 (hi - shw (z, r) m)] 23 (0, 0))], slots := [8, 13], reads := [8] }] [[], [0], [], [], [0, 1, 2, 3], [], [], [0, 1, 2, 3, 4, 5, 6], [0, 1, 2, 3, 4, 5, 6, 7]] (by kernel_rfl) (by kernel_rfl) (by kernel_rfl) (by kernel_rfl) [0, 6, 7, 8] [1, 7, 8] (by kernel_rfl)
      ⟨⟨⟨⟨⟨⟨⟨⟨⟨trivial,
      tri_quiet (fun β => []) [] [] (fun β => []) (by kernel_rfl) (fun β extra => by kernel_rfl) (by kernel_rfl) (fun β => trivial)⟩,
      tri_call 127 (fun β => #[.agg #[.int .i64 (a : Int), .int .i64 (b : Int), .int .i64 lo, .int .i64 hi]]) (by kernel_rfl) (fun β extra => by kernel_rfl) (fun β => by kernel_rfl) (fun β w1 k1 h1 => between_any (a : Int) (b : Int) lo hi w1)⟩,
      tri_quiet (fun β => []) [] [] (fun β => []) (by kernel_rfl) (fun β extra => by kernel_rfl) (by kernel_rfl) (fun β => trivial)⟩,
      tri_quiet (fun β => []) [0] [0] (fun β => [(.pointer (some ⟨b1, 0, none⟩), .pointer (some ⟨b1, 0, none⟩))]) (by kernel_rfl) (fun β extra => by kernel_rfl) (by kernel_rfl) (fun β => ⟨rfl, trivial⟩)⟩,
      tri_call 129 (fun β => #[.agg #[.int .i64 (a : Int), .int .i64 (b : Int), .int .i64 lo, .int .i64 hi, .int .i64 m], .agg #[.int .i64 z, .int .i64 r]]) (by kernel_rfl) (fun β extra => by kernel_rfl) (fun β => by kernel_rfl) (fun β w1 k1 h1 => leaves2_any (a : Int) (b : Int) lo hi m z r (by omega) (by omega) (by omega) (by omega) (by omega) (by omega) (by omega) (by omega) (by omega) (by omega) w1)⟩,
      tri_new 7 (fun β => .cells #[.int .i64 0, .int .i64 0] 72 (0, 0)) (fun β b => .pointer (some ⟨b, 0, none⟩)) [0] (by kernel_rfl) (fun β extra b => by kernel_rfl) (by kernel_rfl) (fun β b => by kernel_rfl) (fun β b => by kernel_rfl) (fun β b => by kernel_rfl)⟩,
      tri_new 8 (fun β => .cells #[.int .i64 0, .int .i64 0] 23 (0, 0)) (fun β b => .pointer (some ⟨b, 0, none⟩)) [0] (by kernel_rfl) (fun β extra b => by kernel_rfl) (by kernel_rfl) (fun β b => by kernel_rfl) (fun β b => by kernel_rfl) (fun β b => by kernel_rfl)⟩,
      tri_quiet (fun β => []) [0] [0] (fun β => [(.pointer (some ⟨(β 7), 0, none⟩), .pointer (some ⟨(β 7), 0, none⟩))]) (by kernel_rfl) (fun β extra => by kernel_rfl) (by kernel_rfl) (fun β => ⟨rfl, trivial⟩)⟩,
      tri_quiet (fun β => []) [0] [0] (fun β => [(.pointer (some ⟨(β 8), 0, none⟩), .pointer (some ⟨(β 8), 0, none⟩))]) (by kernel_rfl) (fun β extra => by kernel_rfl) (by kernel_rfl) (fun β => ⟨rfl, trivial⟩)⟩
      (fun β => ⟨[(0, .pointer (some ⟨bk, 0, none⟩)), (6, .bool false), (7, .pointer (some ⟨(β 7), 0, none⟩)), (8, .pointer (some ⟨(β 8), 0, none⟩))], [(bk, .cells (gc g).toArray 70 (0, 0)), ((β 7), .cells #[.int .i64 (a : Int), .int .i64 (b : Int)] 72 (0, 0)), ((β 8), .cells #[.int .i64 (lo - shw (z, r) m), .int .i64 (hi - shw (z, r) m)] 23 (0, 0))]⟩) (fun β => by kernel_rfl) (fun β2 => ?_)
  refine run_auto [] 9 [] [1, 1, 2] [0, 6, 7, 8, 14, 16, 18, 20] [0, 1, 2] (st' := ⟨[(0, .pointer (some ⟨bk, 0, none⟩)), (6, .bool false), (7, .pointer (some ⟨(β2 7), 0, none⟩)), (8, .pointer (some ⟨(β2 8), 0, none⟩)), (14, .pointer (some ⟨bk, 0, none⟩)), (16, .int .i64 (a : Int)), (18, .int .i64 (b : Int)), (20, .int .i64 (hi - shw (z, r) m))], [(bk, .cells (gc g).toArray 70 (0, 0)), ((β2 7), .cells #[.int .i64 (a : Int), .int .i64 (b : Int)] 72 (0, 0)), ((β2 8), .cells #[.int .i64 (lo - shw (z, r) m), .int .i64 (hi - shw (z, r) m)] 23 (0, 0))]⟩) (acc := [(.pointer (some ⟨(β2 8), 0, none⟩), .pointer (some ⟨(β2 8), 0, none⟩)), (.pointer (some ⟨(β2 7), 0, none⟩), .pointer (some ⟨(β2 7), 0, none⟩)), (.pointer (some ⟨(β2 7), 0, none⟩), .pointer (some ⟨(β2 7), 0, none⟩))]) (by kernel_rfl) (by kernel_rfl) ⟨rfl, rfl, rfl, trivial⟩ ?_
  cases hd1 : (decide ((hi - shw (z, r) m) + g b a < 0)) with
  | false =>
    have hp1 := of_decide_eq_false hd1
    refine run_wr 109 #[.pointer (some ⟨bk, 0, none⟩), .int .i64 (a : Int), .int .i64 (b : Int), .int .i64 (hi - shw (z, r) m)] (some 21) (.bool true) 0 bk (.cells (gc g).toArray 70 (0, 0)) (.cells (gc (g.lim a b (hi - shw (z, r) m))).toArray 70 (0, 0)) (by kernel_rfl) (by kernel_rfl) (by kernel_rfl) (fun w1 k1 h1 => (by have h := limit_any bk g a b (hi - shw (z, r) m) w1 (by omega) (by omega) (hd) (hs) (by omega) (by omega) (h1 (bk, .cells (gc g).toArray 70 (0, 0)) (List.mem_of_getElem? (i := 0) (by kernel_rfl))); rw [if_neg (of_decide_eq_false hd1), hd1] at h; exact h)) ?_
    refine run_auto [(30, .int .i64 (-(lo - shw (z, r) m)))] 9 [] [1, 1, 2] [6, 22, 23, 25, 27, 30] [0] (st' := ⟨[(6, .bool false), (22, .bool true), (23, .pointer (some ⟨bk, 0, none⟩)), (25, .int .i64 (b : Int)), (27, .int .i64 (a : Int)), (30, .int .i64 (-(lo - shw (z, r) m)))], [(bk, .cells (gc (g.lim a b (hi - shw (z, r) m))).toArray 70 (0, 0))]⟩) (acc := [(.int .i64 (IntKind.i64.wrap (0 - (lo - shw (z, r) m))), .int .i64 (-(lo - shw (z, r) m))), (.pointer (some ⟨(β2 8), 0, none⟩), .pointer (some ⟨(β2 8), 0, none⟩)), (.pointer (some ⟨(β2 7), 0, none⟩), .pointer (some ⟨(β2 7), 0, none⟩)), (.pointer (some ⟨(β2 7), 0, none⟩), .pointer (some ⟨(β2 7), 0, none⟩))]) (by kernel_rfl) (by kernel_rfl) ⟨((wr (by omega) (by omega)).trans (io (by omega))), rfl, rfl, rfl, trivial⟩ ?_
    cases hd2 : (decide ((-(lo - shw (z, r) m)) + (g.lim a b (hi - shw (z, r) m)) a b < 0)) with
    | false =>
      have hp2 := of_decide_eq_false hd2
      refine run_wr 109 #[.pointer (some ⟨bk, 0, none⟩), .int .i64 (b : Int), .int .i64 (a : Int), .int .i64 (-(lo - shw (z, r) m))] (some 31) (.bool true) 0 bk (.cells (gc (g.lim a b (hi - shw (z, r) m))).toArray 70 (0, 0)) (.cells (gc ((g.lim a b (hi - shw (z, r) m)).lim b a (-(lo - shw (z, r) m)))).toArray 70 (0, 0)) (by kernel_rfl) (by kernel_rfl) (by kernel_rfl) (fun w1 k1 h1 => (by have h := limit_any bk (g.lim a b (hi - shw (z, r) m)) b a (-(lo - shw (z, r) m)) w1 (by omega) (by omega) (Gp.lim_done (hd) (a := a) (b := b) (by omega) (by omega) (m := (hi - shw (z, r) m)) (by omega)) (Gp.Small.lim (hs) a b (hi - shw (z, r) m)) (by omega) (by omega) (h1 (bk, .cells (gc (g.lim a b (hi - shw (z, r) m))).toArray 70 (0, 0)) (List.mem_of_getElem? (i := 0) (by kernel_rfl))); rw [if_neg (of_decide_eq_false hd2), hd2] at h; exact h)) ?_
      refine run_auto [] 3 [] [] [6] [0] (st' := ⟨[(6, .bool true)], [(bk, .cells (gc ((g.lim a b (hi - shw (z, r) m)).lim b a (-(lo - shw (z, r) m)))).toArray 70 (0, 0))]⟩) (acc := []) (by kernel_rfl) (by kernel_rfl) trivial ?_
      refine run_end (fn := f101) rfl (Nat.le_refl _) (by kernel_rfl) [] [.bool true] (e := []) (by kernel_rfl) trivial (fun w1 k1 h1 => ?_)
      refine ⟨?_, k1, ?_⟩
      · unfold Gp.put
        rw [if_neg (of_decide_eq_false hd1), if_neg (of_decide_eq_false hd2)]
        rfl
      · unfold Gp.putr
        rw [if_neg (of_decide_eq_false hd1), if_neg (of_decide_eq_false hd2)]
        exact h1 (bk, _) (List.mem_of_getElem? (i := 0) rfl)
    | true =>
      have hp2 := of_decide_eq_true hd2
      refine run_wr 109 #[.pointer (some ⟨bk, 0, none⟩), .int .i64 (b : Int), .int .i64 (a : Int), .int .i64 (-(lo - shw (z, r) m))] (some 31) (.bool false) 0 bk (.cells (gc (g.lim a b (hi - shw (z, r) m))).toArray 70 (0, 0)) (.cells (gc (g.lim a b (hi - shw (z, r) m))).toArray 70 (0, 0)) (by kernel_rfl) (by kernel_rfl) (by kernel_rfl) (fun w1 k1 h1 => (by have h := limit_any bk (g.lim a b (hi - shw (z, r) m)) b a (-(lo - shw (z, r) m)) w1 (by omega) (by omega) (Gp.lim_done (hd) (a := a) (b := b) (by omega) (by omega) (m := (hi - shw (z, r) m)) (by omega)) (Gp.Small.lim (hs) a b (hi - shw (z, r) m)) (by omega) (by omega) (h1 (bk, .cells (gc (g.lim a b (hi - shw (z, r) m))).toArray 70 (0, 0)) (List.mem_of_getElem? (i := 0) (by kernel_rfl))); rw [if_pos (of_decide_eq_true hd2), hd2] at h; exact h)) ?_
      refine run_auto [] 3 [] [] [6] [0] (st' := ⟨[(6, .bool false)], [(bk, .cells (gc (g.lim a b (hi - shw (z, r) m))).toArray 70 (0, 0))]⟩) (acc := []) (by kernel_rfl) (by kernel_rfl) trivial ?_
      refine run_end (fn := f101) rfl (Nat.le_refl _) (by kernel_rfl) [] [.bool false] (e := []) (by kernel_rfl) trivial (fun w1 k1 h1 => ?_)
      refine ⟨?_, k1, ?_⟩
      · unfold Gp.put
        rw [if_neg (of_decide_eq_false hd1), if_pos (of_decide_eq_true hd2)]
        rfl
      · unfold Gp.putr
        rw [if_neg (of_decide_eq_false hd1), if_pos (of_decide_eq_true hd2)]
        exact h1 (bk, _) (List.mem_of_getElem? (i := 0) rfl)
  | true =>
    have hp1 := of_decide_eq_true hd1
    refine run_wr 109 #[.pointer (some ⟨bk, 0, none⟩), .int .i64 (a : Int), .int .i64 (b : Int), .int .i64 (hi - shw (z, r) m)] (some 21) (.bool false) 0 bk (.cells (gc g).toArray 70 (0, 0)) (.cells (gc g).toArray 70 (0, 0)) (by kernel_rfl) (by kernel_rfl) (by kernel_rfl) (fun w1 k1 h1 => (by have h := limit_any bk g a b (hi - shw (z, r) m) w1 (by omega) (by omega) (hd) (hs) (by omega) (by omega) (h1 (bk, .cells (gc g).toArray 70 (0, 0)) (List.mem_of_getElem? (i := 0) (by kernel_rfl))); rw [if_pos (of_decide_eq_true hd1), hd1] at h; exact h)) ?_
    refine run_auto [] 13 [] [] [6] [0] (st' := ⟨[(6, .bool false)], [(bk, .cells (gc g).toArray 70 (0, 0))]⟩) (acc := []) (by kernel_rfl) (by kernel_rfl) trivial ?_
    refine run_end (fn := f101) rfl (Nat.le_refl _) (by kernel_rfl) [] [.bool false] (e := []) (by kernel_rfl) trivial (fun w1 k1 h1 => ?_)
    refine ⟨?_, k1, ?_⟩
    · unfold Gp.put
      rw [if_pos (of_decide_eq_true hd1)]
      rfl
    · unfold Gp.putr
      rw [if_pos (of_decide_eq_true hd1)]
      exact h1 (bk, _) (List.mem_of_getElem? (i := 0) rfl)

end Go.Proofs.Ytmiobcnccbfknaa
