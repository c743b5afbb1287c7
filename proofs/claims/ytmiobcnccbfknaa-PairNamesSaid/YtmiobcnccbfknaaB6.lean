/-
  PAIR: the two blocks that are known least of one another.
-/
import Derived.Test.YtmiobcnccbfknaaB5
import Derived.Test.YtmiobcnccbfknaaQ5
namespace Go.Proofs.Ytmiobcnccbfknaa
open Go.RowKit Go.Proofs.Try


theorem differ_bd {p : Pr} (h : p.Fine) (hne : p.n.known ≠ []) {a b : Nat} (ha : a < 6) (hb : b < 6) : (-1000 ≤ (p.n.differA a b).1 ∧ (p.n.differA a b).1 ≤ 1000) ∧ -1000 ≤ (p.n.differA a b).2 ∧ (p.n.differA a b).2 ≤ 1000 := by
  have hm := mild h
  have hl : (p.n.known.map fun k => (-k.2 b a, k.2 a b)) ≠ [] := by simpa using hne
  have hbd : ∀ t ∈ p.n.known.map fun k => (-k.2 b a, k.2 a b), (-1000 ≤ t.1 ∧ t.1 ≤ 1000) ∧ -1000 ≤ t.2 ∧ t.2 ≤ 1000 := by
    intro t ht
    obtain ⟨k, hk, rfl⟩ := List.mem_map.1 ht
    have h1 := (hm k hk).1 b a hb ha
    have h2 := (hm k hk).1 a b ha hb
    dsimp only
    omega
  have h3 := hull_is hl fun t ht => by
    have := hbd t ht
    omega
  obtain ⟨_, ⟨t, ht, e1⟩, u, hu, e2⟩ := h3
  have h4 := hbd t ht
  have h5 := hbd u hu
  unfold Prn.differA
  rw [e1, e2]
  exact ⟨h4.1, h5.2⟩
/-- What has been gone through: rows ahead of x, and of row x what lies ahead of y. -/
def tw (n x y : Nat) : List (Nat × Nat) := ((List.range x).flatMap fun a => ((List.range n).filter fun b => decide (a < b)).map fun b => (a, b)) ++ ((List.range y).filter fun b => decide (x < b)).map fun b => (x, b)
theorem tw_zero (n x : Nat) : tw n x 0 = (List.range x).flatMap fun a => ((List.range n).filter fun b => decide (a < b)).map fun b => (a, b) := by simp [tw]
theorem tw_start (n x : Nat) : tw n x (x + 1) = tw n x 0 := by
  have : (List.range (x + 1)).filter (fun b => decide (x < b)) = [] := List.filter_eq_nil_iff.2 fun b hb => by
    have := List.mem_range.1 hb
    simp
    omega
  unfold tw
  rw [this]
  simp
theorem tw_next (n : Nat) {x y : Nat} (h : x < y) : tw n x (y + 1) = tw n x y ++ [(x, y)] := by
  unfold tw
  rw [List.range_succ, List.filter_append, List.map_append, List.append_assoc]
  simp [h]
theorem tw_row (n x : Nat) : tw n x n = tw n (x + 1) 0 := by
  rw [tw_zero, List.range_succ, List.flatMap_append]
  simp [tw]
theorem tw_all (n : Nat) : tw n n 0 = twosL n := tw_zero n n
def FS (p : Prn) (n x y : Nat) : (Nat × Nat) × Int := farS p.wideA ((0, 0), -1) (tw n x y)
theorem FS_next (p : Prn) (n : Nat) {x y : Nat} (h : x < y) : FS p n x (y + 1) = if (FS p n x y).2 < p.wideA (x, y) then ((x, y), p.wideA (x, y)) else FS p n x y := by
  unfold FS farS
  rw [tw_next n h, List.foldl_append]
  rfl
theorem FS_start (p : Prn) (n x : Nat) : FS p n x (x + 1) = FS p n x 0 := by unfold FS; rw [tw_start]
theorem FS_row (p : Prn) (n x : Nat) : FS p n x n = FS p n (x + 1) 0 := by unfold FS; rw [tw_row]
theorem FS_all (p : Prn) : FS p p.bs.length p.bs.length 0 = p.farA := by unfold FS; rw [tw_all]; rfl
set_option maxRecDepth 100000 in
theorem farthestOf_any (p : Pr) (bm : Nat) (w : World) (hF : p.Fine) (hne : p.n.known ≠ []) (hmp : w.heap[bm]? = some (.map (entF p.n.known) p.n.known.length)) : Calls Try.prog 68 #[.int .i64 (p.bs.length : Int), .map (some bm)] w (Ret (.agg #[.int .i64 (p.n.farA.1.1 : Int), .int .i64 (p.n.farA.1.2 : Int), .int .i64 p.n.farA.2]) w) := by
  have h5 := hF.b5
  refine calls_run (fn := f68) (c := (f68.body).getD .skip) [.int .i64 (p.bs.length : Int), .map (some bm)] func68 (by kernel_rfl) (fun _ => False) [] (fun _ h => by cases h) (List.Pairwise.nil) 40 (by kernel_rfl) (by simp) ?_
  refine run_auto [] 2 [] [] [0, 1] [] (st' := ⟨[(0, .int .i64 (p.bs.length : Int)), (1, .map (some bm))], []⟩) (acc := []) (by kernel_rfl) (by kernel_rfl) trivial ?_
  refine run_new (.cells #[.int .i64 0, .int .i64 0, .int .i64 0] 115 (0, 0)) (fun b1 => .pointer (some ⟨b1, 0, none⟩)) (some 4) (fun _ => by kernel_rfl) (fun b1 hb1 => ?_)
  refine run_auto [] 4 [] [] [0, 1, 4, 10] [0] (st' := ⟨[(0, .int .i64 (p.bs.length : Int)), (1, .map (some bm)), (4, .pointer (some ⟨b1, 0, none⟩)), (10, .agg #[.int .i64 0, .int .i64 0, .int .i64 (-1)])], [(b1, .cells #[.int .i64 0, .int .i64 0, .int .i64 0] 115 (0, 0))]⟩) (acc := []) (by kernel_rfl) (by kernel_rfl) trivial ?_
  refine run_new (.cells #[.int .i64 0, .int .i64 0, .int .i64 0] 115 (0, 0)) (fun b2 => .pointer (some ⟨b2, 0, none⟩)) (some 5) (fun _ => by kernel_rfl) (fun b2 hb2 => ?_)
  refine run_auto [] 9 [] [0] [0, 1, 4, 5, 11, 12] [0, 1] (st' := ⟨[(0, .int .i64 (p.bs.length : Int)), (1, .map (some bm)), (4, .pointer (some ⟨b1, 0, none⟩)), (5, .pointer (some ⟨b2, 0, none⟩)), (11, .int .i64 (p.bs.length : Int)), (12, .int .i64 0)], [(b2, .cells #[.int .i64 0, .int .i64 0, .int .i64 (-1)] 115 (0, 0)), (b1, .cells #[.int .i64 0, .int .i64 0, .int .i64 0] 115 (0, 0))]⟩) (acc := [(.pointer (some ⟨b2, 0, none⟩), .pointer (some ⟨b2, 0, none⟩))]) (by kernel_rfl) (by kernel_rfl) ⟨rfl, trivial⟩ ?_
  refine run_auto [] 0 [] [] [0, 1, 4, 5, 11, 12] [0, 1] (st' := ⟨[(0, .int .i64 (p.bs.length : Int)), (1, .map (some bm)), (4, .pointer (some ⟨b1, 0, none⟩)), (5, .pointer (some ⟨b2, 0, none⟩)), (11, .int .i64 (p.bs.length : Int)), (12, .int .i64 0)], [(b2, .cells #[.int .i64 0, .int .i64 0, .int .i64 (-1)] 115 (0, 0)), (b1, .cells #[.int .i64 0, .int .i64 0, .int .i64 0] 115 (0, 0))]⟩) (acc := []) (by kernel_rfl) (by kernel_rfl) trivial ?_
  refine run_loop (S := fun (x : Nat) => ⟨[(0, .int .i64 (p.bs.length : Int)), (1, .map (some bm)), (4, .pointer (some ⟨b1, 0, none⟩)), (5, .pointer (some ⟨b2, 0, none⟩)), (11, .int .i64 (p.bs.length : Int)), (12, .int .i64 (x : Int))], [(b2, .cells #[.int .i64 ((FS p.n p.bs.length x 0).1.1 : Int), .int .i64 ((FS p.n p.bs.length x 0).1.2 : Int), .int .i64 (FS p.n p.bs.length x 0).2] 115 (0, 0)), (b1, .cells #[.int .i64 0, .int .i64 0, .int .i64 0] 115 (0, 0))]⟩) (fun x => x ≤ p.bs.length) (fun x => p.bs.length - x) (0) (by kernel_rfl) (Nat.zero_le _) (by kernel_rfl) (fun x hI0 J0 hJ0 => ?_)
  cases hd1 : (decide ((x : Int) < (p.bs.length : Int))) with
  | false =>
    have hp1 := of_decide_eq_false hd1
    refine run_auto [(13, .bool false)] 12 [false] [0, 1] [4] [1] (st' := ⟨[(4, .pointer (some ⟨b1, 0, none⟩))], [(b1, .cells #[.int .i64 ((FS p.n p.bs.length x 0).1.1 : Int), .int .i64 ((FS p.n p.bs.length x 0).1.2 : Int), .int .i64 (FS p.n p.bs.length x 0).2] 115 (0, 0))]⟩) (acc := [(.pointer (some ⟨b1, 0, none⟩), .pointer (some ⟨b1, 0, none⟩)), (.pointer (some ⟨b2, 0, none⟩), .pointer (some ⟨b2, 0, none⟩)), (.bool false, .bool false), (.bool (decide ((x : Int) < (p.bs.length : Int))), .bool false)]) (by kernel_rfl) (by kernel_rfl) ⟨rfl, rfl, rfl, (bo hd1), trivial⟩ ?_
    refine run_end (fn := f68) rfl (Nat.le_refl _) (by kernel_rfl) [0] [.agg #[.int .i64 ((FS p.n p.bs.length x 0).1.1 : Int), .int .i64 ((FS p.n p.bs.length x 0).1.2 : Int), .int .i64 (FS p.n p.bs.length x 0).2]] (e := [(.pointer (some ⟨b1, 0, none⟩), .pointer (some ⟨b1, 0, none⟩))]) (by kernel_rfl) ⟨rfl, trivial⟩ (fun w1 k1 h1 => ?_)
    exact ⟨by rw [← FS_all, show x = p.bs.length by omega]; rfl, k1.keeps (fun _ h => h)⟩
  | true =>
    have hp1 := of_decide_eq_true hd1
    refine run_auto [(13, .bool true), (16, .int .i64 ((x + 1 : Nat) : Int))] 21 [true] [] [0, 1, 4, 5, 11, 12, 6, 7] [0, 1] (st' := ⟨[(0, .int .i64 (p.bs.length : Int)), (1, .map (some bm)), (4, .pointer (some ⟨b1, 0, none⟩)), (5, .pointer (some ⟨b2, 0, none⟩)), (11, .int .i64 (p.bs.length : Int)), (12, .int .i64 (x : Int)), (6, .int .i64 (x : Int)), (7, .int .i64 ((x + 1 : Nat) : Int))], [(b2, .cells #[.int .i64 ((FS p.n p.bs.length x 0).1.1 : Int), .int .i64 ((FS p.n p.bs.length x 0).1.2 : Int), .int .i64 (FS p.n p.bs.length x 0).2] 115 (0, 0)), (b1, .cells #[.int .i64 0, .int .i64 0, .int .i64 0] 115 (0, 0))]⟩) (acc := [(.int .i64 (IntKind.i64.wrap ((x : Int) + 1)), .int .i64 ((x + 1 : Nat) : Int)), (.bool true, .bool true), (.bool (decide ((x : Int) < (p.bs.length : Int))), .bool true)]) (by kernel_rfl) (by kernel_rfl) ⟨(wr (by omega) (by omega)), rfl, (bo hd1), trivial⟩ ?_
    refine run_auto [] 0 [] [] [0, 1, 4, 5, 11, 12, 6, 7] [0, 1] (st' := ⟨[(0, .int .i64 (p.bs.length : Int)), (1, .map (some bm)), (4, .pointer (some ⟨b1, 0, none⟩)), (5, .pointer (some ⟨b2, 0, none⟩)), (11, .int .i64 (p.bs.length : Int)), (12, .int .i64 (x : Int)), (6, .int .i64 (x : Int)), (7, .int .i64 ((x + 1 : Nat) : Int))], [(b2, .cells #[.int .i64 ((FS p.n p.bs.length x 0).1.1 : Int), .int .i64 ((FS p.n p.bs.length x 0).1.2 : Int), .int .i64 (FS p.n p.bs.length x 0).2] 115 (0, 0)), (b1, .cells #[.int .i64 0, .int .i64 0, .int .i64 0] 115 (0, 0))]⟩) (acc := []) (by kernel_rfl) (by kernel_rfl) trivial ?_
    refine run_loop (S := fun (y : Nat) => ⟨[(0, .int .i64 (p.bs.length : Int)), (1, .map (some bm)), (4, .pointer (some ⟨b1, 0, none⟩)), (5, .pointer (some ⟨b2, 0, none⟩)), (11, .int .i64 (p.bs.length : Int)), (12, .int .i64 (x : Int)), (6, .int .i64 (x : Int)), (7, .int .i64 (y : Int))], [(b2, .cells #[.int .i64 ((FS p.n p.bs.length x y).1.1 : Int), .int .i64 ((FS p.n p.bs.length x y).1.2 : Int), .int .i64 (FS p.n p.bs.length x y).2] 115 (0, 0)), (b1, .cells #[.int .i64 0, .int .i64 0, .int .i64 0] 115 (0, 0))]⟩) (fun y => x < y ∧ y ≤ p.bs.length) (fun y => p.bs.length - y) (x + 1) (by kernel_rfl) (⟨by omega, by omega⟩) (by rw [FS_start]) (fun y hI1 J1 hJ1 => ?_)
    obtain ⟨hy1, hy2⟩ := hI1
    cases hd2 : (decide ((y : Int) < (p.bs.length : Int))) with
    | false =>
      have hp2 := of_decide_eq_false hd2
      refine run_auto [(19, .bool false), (38, .int .i64 ((x + 1 : Nat) : Int))] 14 [false] [] [0, 1, 4, 5, 11, 12] [0, 1] (st' := ⟨[(0, .int .i64 (p.bs.length : Int)), (1, .map (some bm)), (4, .pointer (some ⟨b1, 0, none⟩)), (5, .pointer (some ⟨b2, 0, none⟩)), (11, .int .i64 (p.bs.length : Int)), (12, .int .i64 ((x + 1 : Nat) : Int))], [(b2, .cells #[.int .i64 ((FS p.n p.bs.length x y).1.1 : Int), .int .i64 ((FS p.n p.bs.length x y).1.2 : Int), .int .i64 (FS p.n p.bs.length x y).2] 115 (0, 0)), (b1, .cells #[.int .i64 0, .int .i64 0, .int .i64 0] 115 (0, 0))]⟩) (acc := [(.int .i64 (IntKind.i64.wrap ((x : Int) + 1)), .int .i64 ((x + 1 : Nat) : Int)), (.bool false, .bool false), (.bool (decide ((y : Int) < (p.bs.length : Int))), .bool false)]) (by kernel_rfl) (by kernel_rfl) ⟨(wr (by omega) (by omega)), rfl, (bo hd2), trivial⟩ ?_
      have hj := hJ0 (x + 1) (by omega) (by omega)
      rw [show FS p.n p.bs.length (x + 1) 0 = FS p.n p.bs.length x y from by rw [← FS_row, show y = p.bs.length by omega]] at hj
      exact run_round (by kernel_rfl) hj
    | true =>
      have hp2 := of_decide_eq_true hd2
      have hb5 := hF.b5
      have hbd := differ_bd hF hne (a := x) (b := y) (by omega) (by omega)
      refine run_auto [(19, .bool true)] 16 [true] [] [0, 1, 4, 5, 11, 12, 6, 7, 24] [0, 1] (st' := ⟨[(0, .int .i64 (p.bs.length : Int)), (1, .map (some bm)), (4, .pointer (some ⟨b1, 0, none⟩)), (5, .pointer (some ⟨b2, 0, none⟩)), (11, .int .i64 (p.bs.length : Int)), (12, .int .i64 (x : Int)), (6, .int .i64 (x : Int)), (7, .int .i64 (y : Int)), (24, .agg #[.int .i64 (x : Int), .int .i64 (y : Int)])], [(b2, .cells #[.int .i64 ((FS p.n p.bs.length x y).1.1 : Int), .int .i64 ((FS p.n p.bs.length x y).1.2 : Int), .int .i64 (FS p.n p.bs.length x y).2] 115 (0, 0)), (b1, .cells #[.int .i64 0, .int .i64 0, .int .i64 0] 115 (0, 0))]⟩) (acc := [(.bool true, .bool true), (.bool (decide ((y : Int) < (p.bs.length : Int))), .bool true)]) (by kernel_rfl) (by kernel_rfl) ⟨rfl, (bo hd2), trivial⟩ ?_
      refine run_new (.cells #[.int .i64 0, .int .i64 0] 72 (0, 0)) (fun b3 => .pointer (some ⟨b3, 0, none⟩)) (some 8) (fun _ => by kernel_rfl) (fun b3 hb3 => ?_)
      refine run_auto [] 3 [] [0] [0, 1, 4, 5, 11, 12, 6, 7, 8] [0, 1, 2] (st' := ⟨[(0, .int .i64 (p.bs.length : Int)), (1, .map (some bm)), (4, .pointer (some ⟨b1, 0, none⟩)), (5, .pointer (some ⟨b2, 0, none⟩)), (11, .int .i64 (p.bs.length : Int)), (12, .int .i64 (x : Int)), (6, .int .i64 (x : Int)), (7, .int .i64 (y : Int)), (8, .pointer (some ⟨b3, 0, none⟩))], [(b3, .cells #[.int .i64 (x : Int), .int .i64 (y : Int)] 72 (0, 0)), (b2, .cells #[.int .i64 ((FS p.n p.bs.length x y).1.1 : Int), .int .i64 ((FS p.n p.bs.length x y).1.2 : Int), .int .i64 (FS p.n p.bs.length x y).2] 115 (0, 0)), (b1, .cells #[.int .i64 0, .int .i64 0, .int .i64 0] 115 (0, 0))]⟩) (acc := [(.pointer (some ⟨b3, 0, none⟩), .pointer (some ⟨b3, 0, none⟩))]) (by kernel_rfl) (by kernel_rfl) ⟨rfl, trivial⟩ ?_
      refine draw 7 [{ val := fun _ => .map (some bm), slots := [1] },
              { names := [4], val := fun l => .func (.func 76) #[] #[.pointer (some ⟨(l.getD 0 0), 0, none⟩)], upd := [(4, fun l => .cells #[.map (some bm)] 77 (0, 0))], news := [4], slots := [25] },
              { val := fun _ => .agg #[.int .i64 (x : Int), .int .i64 (y : Int)], slots := [8], reads := [0] },
              { val := fun _ => .agg #[.func (.func 41) #[] #[], .int .i64 (x : Int), .int .i64 (y : Int)], slots := [27] },
              { val := fun _ => .agg #[.int .i64 (p.n.differA x y).1, .int .i64 (p.n.differA x y).2], slots := [26, 28], reads := [4] },
              { val := fun _ => .int .i64 ((p.n.differA x y).2 - (p.n.differA x y).1), slots := [29] },
              { val := fun _ => .int .i64 ((p.n.differA x y).2 - (p.n.differA x y).1), slots := [30] }] [[], [0], [], [2], [0, 1, 2, 3], [0, 1, 2, 3, 4], [0, 1, 2, 3, 4, 5]] (by kernel_rfl) (by kernel_rfl) (by kernel_rfl) (by kernel_rfl) [0, 1, 4, 5, 11, 12, 6, 7, 8, 9] [0, 1, 2] (by kernel_rfl)
              ⟨⟨⟨⟨⟨⟨⟨trivial,
              tri_quiet (fun β => []) [] [] (fun β => []) (by kernel_rfl) (fun β extra => by kernel_rfl) (by kernel_rfl) (fun β => trivial)⟩,
              tri_nw 4 (fun β b => .func (.func 76) #[] #[.pointer (some ⟨b, 0, none⟩)]) (fun β => .cells #[.map (some bm)] 77 (0, 0)) 39 (fun β => #[.map (some bm)]) (by kernel_rfl) (fun β extra => by kernel_rfl) (fun β => by kernel_rfl) (fun β b => by kernel_rfl) (fun β b => by kernel_rfl) (fun β b => by kernel_rfl) (fun β w1 k1 h1 => values_any bm w1)⟩,
              tri_quiet (fun β => []) [0] [0] (fun β => [(.pointer (some ⟨b3, 0, none⟩), .pointer (some ⟨b3, 0, none⟩))]) (by kernel_rfl) (fun β extra => by kernel_rfl) (by kernel_rfl) (fun β => ⟨rfl, trivial⟩)⟩,
              tri_quiet (fun β => []) [] [] (fun β => []) (by kernel_rfl) (fun β extra => by kernel_rfl) (by kernel_rfl) (fun β => trivial)⟩,
              tri_call 38 (fun β => #[.func (.func 76) #[] #[.pointer (some ⟨(β 4), 0, none⟩)], .agg #[.func (.func 41) #[] #[], .int .i64 (x : Int), .int .i64 (y : Int)]]) (by kernel_rfl) (fun β extra => by kernel_rfl) (fun β => by kernel_rfl) (fun β w1 k1 h1 => reach_gaps p.n.known (β 4) bm x y w1 (mild hF) (h1 ((β 4), .cells #[.map (some bm)] 77 (0, 0)) (List.mem_of_getElem? (i := 0) (by kernel_rfl))) ((k1.block bm (Array.getElem?_eq_some_iff.1 hmp).1 (fun h => h)).trans hmp) (by omega) (by omega))⟩,
              tri_call 73 (fun β => #[.agg #[.int .i64 (p.n.differA x y).1, .int .i64 (p.n.differA x y).2]]) (by kernel_rfl) (fun β extra => by kernel_rfl) (fun β => by kernel_rfl) (fun β w1 k1 h1 => wide_any (p.n.differA x y).1 (p.n.differA x y).2 (by omega) (by omega) (by omega) (by omega) w1)⟩,
              tri_quiet (fun β => []) [] [] (fun β => []) (by kernel_rfl) (fun β extra => by kernel_rfl) (by kernel_rfl) (fun β => trivial)⟩
              (fun β => ⟨[(0, .int .i64 (p.bs.length : Int)), (1, .map (some bm)), (4, .pointer (some ⟨b1, 0, none⟩)), (5, .pointer (some ⟨b2, 0, none⟩)), (11, .int .i64 (p.bs.length : Int)), (12, .int .i64 (x : Int)), (6, .int .i64 (x : Int)), (7, .int .i64 (y : Int)), (8, .pointer (some ⟨b3, 0, none⟩)), (9, .int .i64 ((p.n.differA x y).2 - (p.n.differA x y).1))], [(b3, .cells #[.int .i64 (x : Int), .int .i64 (y : Int)] 72 (0, 0)), (b2, .cells #[.int .i64 ((FS p.n p.bs.length x y).1.1 : Int), .int .i64 ((FS p.n p.bs.length x y).1.2 : Int), .int .i64 (FS p.n p.bs.length x y).2] 115 (0, 0)), (b1, .cells #[.int .i64 0, .int .i64 0, .int .i64 0] 115 (0, 0))]⟩) (fun β => by kernel_rfl) (fun β4 => ?_)
      cases hd3 : (decide ((FS p.n p.bs.length x y).2 < ((p.n.differA x y).2 - (p.n.differA x y).1))) with
      | false =>
        have hp3 := of_decide_eq_false hd3
        refine run_auto [(34, .bool false), (21, .int .i64 ((y + 1 : Nat) : Int))] 15 [false] [1] [0, 1, 4, 5, 11, 12, 6, 7] [1, 2] (st' := ⟨[(0, .int .i64 (p.bs.length : Int)), (1, .map (some bm)), (4, .pointer (some ⟨b1, 0, none⟩)), (5, .pointer (some ⟨b2, 0, none⟩)), (11, .int .i64 (p.bs.length : Int)), (12, .int .i64 (x : Int)), (6, .int .i64 (x : Int)), (7, .int .i64 ((y + 1 : Nat) : Int))], [(b2, .cells #[.int .i64 ((FS p.n p.bs.length x y).1.1 : Int), .int .i64 ((FS p.n p.bs.length x y).1.2 : Int), .int .i64 (FS p.n p.bs.length x y).2] 115 (0, 0)), (b1, .cells #[.int .i64 0, .int .i64 0, .int .i64 0] 115 (0, 0))]⟩) (acc := [(.int .i64 (IntKind.i64.wrap ((y : Int) + 1)), .int .i64 ((y + 1 : Nat) : Int)), (.bool false, .bool false), (.bool (decide ((FS p.n p.bs.length x y).2 < ((p.n.differA x y).2 - (p.n.differA x y).1))), .bool false), (.pointer (some ⟨b2, 0, none⟩), .pointer (some ⟨b2, 0, none⟩))]) (by kernel_rfl) (by kernel_rfl) ⟨(wr (by omega) (by omega)), rfl, (bo hd3), rfl, trivial⟩ ?_
        have hj := hJ1 (y + 1) (⟨by omega, by omega⟩) (by omega)
        rw [(FS_next p.n p.bs.length (show x < y by omega)).trans (if_neg (of_decide_eq_false hd3))] at hj
        exact run_round (by kernel_rfl) hj
      | true =>
        have hp3 := of_decide_eq_true hd3
        refine run_auto [(34, .bool true), (21, .int .i64 ((y + 1 : Nat) : Int))] 20 [true] [1, 0, 1] [0, 1, 4, 5, 11, 12, 6, 7] [1, 2] (st' := ⟨[(0, .int .i64 (p.bs.length : Int)), (1, .map (some bm)), (4, .pointer (some ⟨b1, 0, none⟩)), (5, .pointer (some ⟨b2, 0, none⟩)), (11, .int .i64 (p.bs.length : Int)), (12, .int .i64 (x : Int)), (6, .int .i64 (x : Int)), (7, .int .i64 ((y + 1 : Nat) : Int))], [(b2, .cells #[.int .i64 (x : Int), .int .i64 (y : Int), .int .i64 ((p.n.differA x y).2 - (p.n.differA x y).1)] 115 (0, 0)), (b1, .cells #[.int .i64 0, .int .i64 0, .int .i64 0] 115 (0, 0))]⟩) (acc := [(.int .i64 (IntKind.i64.wrap ((y : Int) + 1)), .int .i64 ((y + 1 : Nat) : Int)), (.pointer (some ⟨b2, 0, none⟩), .pointer (some ⟨b2, 0, none⟩)), (.pointer (some ⟨b3, 0, none⟩), .pointer (some ⟨b3, 0, none⟩)), (.bool true, .bool true), (.bool (decide ((FS p.n p.bs.length x y).2 < ((p.n.differA x y).2 - (p.n.differA x y).1))), .bool true), (.pointer (some ⟨b2, 0, none⟩), .pointer (some ⟨b2, 0, none⟩))]) (by kernel_rfl) (by kernel_rfl) ⟨(wr (by omega) (by omega)), rfl, rfl, rfl, (bo hd3), rfl, trivial⟩ ?_
        have hj := hJ1 (y + 1) (⟨by omega, by omega⟩) (by omega)
        rw [(FS_next p.n p.bs.length (show x < y by omega)).trans (if_pos (of_decide_eq_true hd3))] at hj
        exact run_round (by kernel_rfl) hj

end Go.Proofs.Ytmiobcnccbfknaa
