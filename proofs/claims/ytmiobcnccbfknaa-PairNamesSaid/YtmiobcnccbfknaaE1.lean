/-
  LAW: span, read, sample.
-/
import Derived.Test.YtmiobcnccbfknaaD4
import Derived.Test.YtmiobcnccbfknaaXK
namespace Go.Proofs.Ytmiobcnccbfknaa
open Go.RowKit Go.Proofs.Try

set_option maxRecDepth 100000 in
theorem span_any (a b : Int) (w : World)  : Calls Try.prog 20 #[.int .i64 a, .int .i64 b] w (Ret (.agg #[.int .i64 a, .int .i64 b]) w) := by
  refine calls_run (fn := f20) (c := (f20.body).getD .skip) [.int .i64 a, .int .i64 b] func20 (by kernel_rfl) (fun _ => False) [] (fun _ h => by cases h) (List.Pairwise.nil) 8 (by kernel_rfl) (by simp) ?_
  refine run_auto [] 2 [] [] [0, 1] [] (st' := ⟨[(0, .int .i64 a), (1, .int .i64 b)], []⟩) (acc := []) (by kernel_rfl) (by kernel_rfl) trivial ?_
  refine run_new (.cells #[.int .i64 0, .int .i64 0] 23 (0, 0)) (fun b1 => .pointer (some ⟨b1, 0, none⟩)) (some 4) (fun _ => by kernel_rfl) (fun b1 hb1 => ?_)
  refine run_auto [] 8 [] [0] [4] [0] (st' := ⟨[(4, .pointer (some ⟨b1, 0, none⟩))], [(b1, .cells #[.int .i64 a, .int .i64 b] 23 (0, 0))]⟩) (acc := [(.pointer (some ⟨b1, 0, none⟩), .pointer (some ⟨b1, 0, none⟩))]) (by kernel_rfl) (by kernel_rfl) ⟨rfl, trivial⟩ ?_
  refine run_end (fn := f20) rfl (Nat.le_refl _) (by kernel_rfl) [0] [.agg #[.int .i64 a, .int .i64 b]] (e := [(.pointer (some ⟨b1, 0, none⟩), .pointer (some ⟨b1, 0, none⟩))]) (by kernel_rfl) ⟨rfl, trivial⟩ (fun w1 k1 h1 => ?_)
  exact ⟨rfl, k1.keeps (fun _ h => h)⟩

set_option maxRecDepth 100000 in
theorem read_any (a b m lo hi : Int) (w : World)  : Calls Try.prog 18 #[.int .i64 a, .int .i64 b, .int .i64 m, .int .i64 lo, .int .i64 hi] w (Ret (.agg #[.int .i64 a, .int .i64 b, .int .i64 m, .int .i64 lo, .int .i64 hi]) w) := by
  refine calls_run (fn := f18) (c := (f18.body).getD .skip) [.int .i64 a, .int .i64 b, .int .i64 m, .int .i64 lo, .int .i64 hi] func18 (by kernel_rfl) (fun _ => False) [] (fun _ h => by cases h) (List.Pairwise.nil) 18 (by kernel_rfl) (by simp) ?_
  refine run_auto [] 2 [] [] [0, 1, 2, 3, 4] [] (st' := ⟨[(0, .int .i64 a), (1, .int .i64 b), (2, .int .i64 m), (3, .int .i64 lo), (4, .int .i64 hi)], []⟩) (acc := []) (by kernel_rfl) (by kernel_rfl) trivial ?_
  refine run_new (.cells #[.int .i64 0, .int .i64 0, .int .i64 0, .int .i64 0, .int .i64 0] 38 (0, 0)) (fun b1 => .pointer (some ⟨b1, 0, none⟩)) (some 10) (fun _ => by kernel_rfl) (fun b1 hb1 => ?_)
  refine run_auto [] 8 [] [] [10, 11, 12, 13, 14, 15] [0] (st' := ⟨[(10, .pointer (some ⟨b1, 0, none⟩)), (11, .int .i64 a), (12, .int .i64 b), (13, .int .i64 m), (14, .int .i64 lo), (15, .int .i64 hi)], [(b1, .cells #[.int .i64 0, .int .i64 0, .int .i64 0, .int .i64 0, .int .i64 0] 38 (0, 0))]⟩) (acc := []) (by kernel_rfl) (by kernel_rfl) trivial ?_
  refine run_ret1 20 #[.int .i64 lo, .int .i64 hi] (some 16) (.agg #[.int .i64 lo, .int .i64 hi]) (by kernel_rfl) (fun w1 k1 h1 => span_any lo hi w1) ?_
  refine run_auto [] 3 [] [0] [10] [0] (st' := ⟨[(10, .pointer (some ⟨b1, 0, none⟩))], [(b1, .cells #[.int .i64 a, .int .i64 b, .int .i64 m, .int .i64 lo, .int .i64 hi] 38 (0, 0))]⟩) (acc := [(.pointer (some ⟨b1, 0, none⟩), .pointer (some ⟨b1, 0, none⟩))]) (by kernel_rfl) (by kernel_rfl) ⟨rfl, trivial⟩ ?_
  refine run_end (fn := f18) rfl (Nat.le_refl _) (by kernel_rfl) [0] [.agg #[.int .i64 a, .int .i64 b, .int .i64 m, .int .i64 lo, .int .i64 hi]] (e := [(.pointer (some ⟨b1, 0, none⟩), .pointer (some ⟨b1, 0, none⟩))]) (by kernel_rfl) ⟨rfl, trivial⟩ (fun w1 k1 h1 => ?_)
  exact ⟨rfl, k1.keeps (fun _ h => h)⟩


theorem Rds.of_flat {w : World} {b : Nat} {rs : List Rw} {sp : List Value} {t : TypeId} {fr : Nat × Nat} (h : w.heap[b]? = some (.cells (rs.flatMap rdR ++ sp).toArray t fr)) : Rds w (some ⟨b, 0, none⟩) rs := by
  intro _
  refine ⟨b, 0, rfl, fun i hi => ?_⟩
  have key : ∀ k u, (rdR (elR rs i))[k]? = some u → w.cell? ⟨b, 0 + i * 5 + k, none⟩ = some u := by
    intro k u hk
    refine cells_of_heap h _ _ ?_
    have hk5 : k < 5 := (List.getElem?_eq_some_iff.1 hk).1
    have e1 : rs.flatMap rdR ++ sp = (rs.take i).flatMap rdR ++ ((rs.drop i).flatMap rdR ++ sp) := by rw [← List.append_assoc, ← List.flatMap_append, List.take_append_drop]
    have hl : ((rs.take i).flatMap rdR).length = i * 5 := by rw [flat_len rdR_len, List.length_take, Nat.min_eq_left (Nat.le_of_lt hi)]
    rw [e1, List.getElem?_append_right (by omega), hl, show 0 + i * 5 + k - i * 5 = k by omega, List.drop_eq_getElem_cons hi, List.flatMap_cons, List.append_assoc, List.getElem?_append_left (by show k < 5; exact hk5)]
    rw [← hk, elR, List.getElem?_eq_getElem hi]
    rfl
  exact ⟨key 0 _ rfl, key 1 _ rfl, key 2 _ rfl, key 3 _ rfl, key 4 _ rfl⟩
/-- A span as it lies in a row. -/
def spR (s : Int × Int) : List Value := [.int .i64 s.1, .int .i64 s.2]
theorem spR_len (s : Int × Int) : (spR s).length = 2 := rfl
theorem spR_one (r : Int × Int) : ∀ u ∈ spR r, u.oneCell' = true := by
  intro u hu
  simp only [spR, List.mem_cons, List.not_mem_nil, or_false] at hu
  rcases hu with rfl | rfl <;> rfl
theorem Bls.of_flat {w : World} {b : Nat} {bs : List (Int × Int)} {sp : List Value} {t : TypeId} {fr : Nat × Nat} (h : w.heap[b]? = some (.cells (bs.flatMap spR ++ sp).toArray t fr)) : Bls w (some ⟨b, 0, none⟩) bs := by
  intro _
  refine ⟨b, 0, rfl, fun i hi => ?_⟩
  have key : ∀ k u, (spR (elB bs i))[k]? = some u → w.cell? ⟨b, 0 + i * 2 + k, none⟩ = some u := by
    intro k u hk
    refine cells_of_heap h _ _ ?_
    have hk5 : k < 2 := (List.getElem?_eq_some_iff.1 hk).1
    have e1 : bs.flatMap spR ++ sp = (bs.take i).flatMap spR ++ ((bs.drop i).flatMap spR ++ sp) := by rw [← List.append_assoc, ← List.flatMap_append, List.take_append_drop]
    have hl : ((bs.take i).flatMap spR).length = i * 2 := by rw [flat_len spR_len, List.length_take, Nat.min_eq_left (Nat.le_of_lt hi)]
    rw [e1, List.getElem?_append_right (by omega), hl, show 0 + i * 2 + k - i * 2 = k by omega, List.drop_eq_getElem_cons hi, List.flatMap_cons, List.append_assoc, List.getElem?_append_left (by show k < 2; exact hk5)]
    rw [← hk, elB, List.getElem?_eq_getElem hi]
    rfl
  exact ⟨key 0 _ rfl, key 1 _ rfl⟩
/-- The pair of the examples. -/
def smpB : List (Int × Int) := [(0, 0), (-5, 5), (-5, 5)]
def rs3 : List Rw := [(1, 0, 0, 3, 4), (2, 0, 10, 3, 3), (1, 2, 20, 5, 7)]
def rs4 : List Rw := rs3 ++ [(2, 1, 0, 5, 5)]
def smp (rs : List Rw) (b1 b2 cap : Nat) : Pr := ⟨some ⟨b1, 0, none⟩, 3, smpB, 0, 1, 2, 2, some ⟨b2, 0, none⟩, cap, rs⟩
theorem smp_in {w : World} {rs : List Rw} {b1 b2 cap : Nat} {sp : List Value} (h1 : w.heap[b1]? = some (.cells (smpB.flatMap spR).toArray 23 (0, 0))) (h2 : w.heap[b2]? = some (.cells (rs.flatMap rdR ++ sp).toArray 38 (0, 0))) (hl : rs.length ≤ 8) : (smp rs b1 b2 cap).In w :=
  ⟨Bls.of_flat (sp := []) (by rw [List.append_nil]; exact h1), Rds.of_flat h2, by show 3 ≤ maxLen; simp only [maxLen]; omega, by show rs.length ≤ maxLen; simp only [maxLen]; omega⟩

def inR (x : Int) : List Value := [.int .i64 x]
theorem inR_len (x : Int) : (inR x).length = 1 := rfl
theorem inR_one (x : Int) : ∀ u ∈ inR x, u.oneCell' = true := by
  intro u hu
  simp only [inR, List.mem_cons, List.not_mem_nil, or_false] at hu
  subst hu
  rfl
set_option maxRecDepth 100000 in
theorem sample0_any  (w : World)  : Calls Try.prog 12 #[.slice none 0 0] w (NwL (α := Nat × Nat × Nat × List Value) (fun x => .agg #[.slice (some ⟨(x.1), 0, none⟩) 3 3, .int .i64 0, .int .i64 1, .int .i64 2, .int .i64 2, .slice (some ⟨(x.2.1), 0, none⟩) 3 (x.2.2.1)]) (fun x => [((x.1), .cells #[.int .i64 0, .int .i64 0, .int .i64 (-5), .int .i64 5, .int .i64 (-5), .int .i64 5] 23 (0, 0)), ((x.2.1), .cells (rs3.flatMap rdR ++ (x.2.2.2)).toArray 38 (0, 0))]) (fun x => 3 ≤ x.2.2.1) w) := by
  refine calls_run (fn := f12) (c := (f12.body).getD .skip) [.slice none 0 0] func12 (by kernel_rfl) (fun _ => False) [] (fun _ h => by cases h) (List.Pairwise.nil) 16 (by kernel_rfl) (by simp) ?_
  refine run_auto [] 2 [] [] [0] [] (st' := ⟨[(0, .slice none 0 0)], []⟩) (acc := []) (by kernel_rfl) (by kernel_rfl) trivial ?_
  refine run_new (.cells #[.slice none 0 0, .int .i64 0, .int .i64 0, .int .i64 0, .int .i64 0, .slice none 0 0] 30 (0, 0)) (fun b1 => .pointer (some ⟨b1, 0, none⟩)) (some 2) (fun _ => by kernel_rfl) (fun b1 hb1 => ?_)
  refine run_auto [] 3 [] [] [0, 2] [0] (st' := ⟨[(0, .slice none 0 0), (2, .pointer (some ⟨b1, 0, none⟩))], [(b1, .cells #[.slice none 0 0, .int .i64 0, .int .i64 0, .int .i64 0, .int .i64 0, .slice none 0 0] 30 (0, 0))]⟩) (acc := []) (by kernel_rfl) (by kernel_rfl) trivial ?_
  refine run_ret1 20 #[.int .i64 0, .int .i64 0] (some 3) (.agg #[.int .i64 0, .int .i64 0]) (by kernel_rfl) (fun w1 k1 h1 => span_any 0 0 w1) ?_
  refine run_ret1 20 #[.int .i64 (-5), .int .i64 5] (some 4) (.agg #[.int .i64 (-5), .int .i64 5]) (by kernel_rfl) (fun w1 k1 h1 => span_any (-5) 5 w1) ?_
  refine run_ret1 20 #[.int .i64 (-5), .int .i64 5] (some 5) (.agg #[.int .i64 (-5), .int .i64 5]) (by kernel_rfl) (fun w1 k1 h1 => span_any (-5) 5 w1) ?_
  refine run_new (.cells #[.int .i64 0, .int .i64 0, .int .i64 (-5), .int .i64 5, .int .i64 (-5), .int .i64 5] 23 (0, 0)) (fun b2 => .slice (some ⟨b2, 0, none⟩) 3 3) (some 6) (fun _ => by kernel_rfl) (fun b2 hb2 => ?_)
  refine run_ret1 20 #[.int .i64 0, .int .i64 1] (some 7) (.agg #[.int .i64 0, .int .i64 1]) (by kernel_rfl) (fun w1 k1 h1 => span_any 0 1 w1) ?_
  refine run_ret1 20 #[.int .i64 2, .int .i64 2] (some 8) (.agg #[.int .i64 2, .int .i64 2]) (by kernel_rfl) (fun w1 k1 h1 => span_any 2 2 w1) ?_
  refine run_ret1 18 #[.int .i64 1, .int .i64 0, .int .i64 0, .int .i64 3, .int .i64 4] (some 9) (.agg #[.int .i64 1, .int .i64 0, .int .i64 0, .int .i64 3, .int .i64 4]) (by kernel_rfl) (fun w1 k1 h1 => read_any 1 0 0 3 4 w1) ?_
  refine run_ret1 18 #[.int .i64 2, .int .i64 0, .int .i64 10, .int .i64 3, .int .i64 3] (some 10) (.agg #[.int .i64 2, .int .i64 0, .int .i64 10, .int .i64 3, .int .i64 3]) (by kernel_rfl) (fun w1 k1 h1 => read_any 2 0 10 3 3 w1) ?_
  refine run_ret1 18 #[.int .i64 1, .int .i64 2, .int .i64 20, .int .i64 5, .int .i64 7] (some 11) (.agg #[.int .i64 1, .int .i64 2, .int .i64 20, .int .i64 5, .int .i64 7]) (by kernel_rfl) (fun w1 k1 h1 => read_any 1 2 20 5 7 w1) ?_
  refine run_new (.cells #[.int .i64 1, .int .i64 0, .int .i64 0, .int .i64 3, .int .i64 4, .int .i64 2, .int .i64 0, .int .i64 10, .int .i64 3, .int .i64 3, .int .i64 1, .int .i64 2, .int .i64 20, .int .i64 5, .int .i64 7] 38 (0, 0)) (fun b3 => .slice (some ⟨b3, 0, none⟩) 3 3) (some 12) (fun _ => by kernel_rfl) (fun b3 hb3 => ?_)
  refine run_auto [] 1 [] [] [2, 6, 7, 8, 12, 13] [0, 1, 2] (st' := ⟨[(2, .pointer (some ⟨b1, 0, none⟩)), (6, .slice (some ⟨b2, 0, none⟩) 3 3), (7, .agg #[.int .i64 0, .int .i64 1]), (8, .agg #[.int .i64 2, .int .i64 2]), (12, .slice (some ⟨b3, 0, none⟩) 3 3), (13, .slice none 0 0)], [(b3, .cells #[.int .i64 1, .int .i64 0, .int .i64 0, .int .i64 3, .int .i64 4, .int .i64 2, .int .i64 0, .int .i64 10, .int .i64 3, .int .i64 3, .int .i64 1, .int .i64 2, .int .i64 20, .int .i64 5, .int .i64 7] 38 (0, 0)), (b2, .cells #[.int .i64 0, .int .i64 0, .int .i64 (-5), .int .i64 5, .int .i64 (-5), .int .i64 5] 23 (0, 0)), (b1, .cells #[.slice none 0 0, .int .i64 0, .int .i64 0, .int .i64 0, .int .i64 0, .slice none 0 0] 30 (0, 0))]⟩) (acc := []) (by kernel_rfl) (by kernel_rfl) trivial ?_
  refine run_v (appSem 28 28 (.slice (some ⟨b3, 0, none⟩) 3 3) (.slice none 0 0)) (some 14) (.slice (some ⟨b3, 0, none⟩) 3 3) (by kernel_rfl) (fun w1 k1 h1 => app_empty (t := 28) (ty := 28) (e := 38) (n := 5) (by kernel_rfl) (by kernel_rfl) _ _ 3 3 0 (by omega) w1) ?_
  refine run_auto [] 3 [] [2] [2] [0, 1, 2] (st' := ⟨[(2, .pointer (some ⟨b1, 0, none⟩))], [(b3, .cells #[.int .i64 1, .int .i64 0, .int .i64 0, .int .i64 3, .int .i64 4, .int .i64 2, .int .i64 0, .int .i64 10, .int .i64 3, .int .i64 3, .int .i64 1, .int .i64 2, .int .i64 20, .int .i64 5, .int .i64 7] 38 (0, 0)), (b2, .cells #[.int .i64 0, .int .i64 0, .int .i64 (-5), .int .i64 5, .int .i64 (-5), .int .i64 5] 23 (0, 0)), (b1, .cells #[.slice (some ⟨b2, 0, none⟩) 3 3, .int .i64 0, .int .i64 1, .int .i64 2, .int .i64 2, .slice (some ⟨b3, 0, none⟩) 3 3] 30 (0, 0))]⟩) (acc := [(.pointer (some ⟨b1, 0, none⟩), .pointer (some ⟨b1, 0, none⟩))]) (by kernel_rfl) (by kernel_rfl) ⟨rfl, trivial⟩ ?_
  refine run_end (fn := f12) rfl (Nat.le_refl _) (by kernel_rfl) [2] [.agg #[.slice (some ⟨b2, 0, none⟩) 3 3, .int .i64 0, .int .i64 1, .int .i64 2, .int .i64 2, .slice (some ⟨b3, 0, none⟩) 3 3]] (e := [(.pointer (some ⟨b1, 0, none⟩), .pointer (some ⟨b1, 0, none⟩))]) (by kernel_rfl) ⟨rfl, trivial⟩ (fun w1 k1 h1 => ?_)
  refine ⟨(b2, b3, 3, []), Nat.le_refl _, rfl, k1.keeps (fun _ h => h), fun p hp => ?_, List.pairwise_cons.2 ⟨fun p hp => ?_, List.pairwise_singleton _ _⟩⟩
  · simp only [List.mem_cons, List.not_mem_nil, or_false] at hp
    rcases hp with rfl | rfl
    · exact ⟨h1 (b2, _) (List.mem_of_getElem? (i := 1) rfl), hb2⟩
    · exact ⟨h1 (b3, _) (List.mem_of_getElem? (i := 0) rfl), hb3⟩
  · simp only [List.mem_cons, List.not_mem_nil, or_false] at hp
    subst hp
    intro hh
    have q1 := h1 (b2, _) (List.mem_of_getElem? (i := 1) rfl)
    have q2 := h1 (b3, _) (List.mem_of_getElem? (i := 0) rfl)
    dsimp only at hh q1 q2
    rw [hh] at q1
    rw [q1] at q2
    simp at q2

set_option maxRecDepth 100000 in
theorem sample1_any (bl : Nat) (w : World) (hbl : w.heap[bl]? = some (.cells #[.int .i64 2, .int .i64 1, .int .i64 0, .int .i64 5, .int .i64 5] 38 (0, 0))) : Calls Try.prog 12 #[.slice (some ⟨bl, 0, none⟩) 1 1] w (NwL (α := Nat × Nat × Nat × List Value) (fun x => .agg #[.slice (some ⟨(x.1), 0, none⟩) 3 3, .int .i64 0, .int .i64 1, .int .i64 2, .int .i64 2, .slice (some ⟨(x.2.1), 0, none⟩) 4 (x.2.2.1)]) (fun x => [((x.1), .cells #[.int .i64 0, .int .i64 0, .int .i64 (-5), .int .i64 5, .int .i64 (-5), .int .i64 5] 23 (0, 0)), ((x.2.1), .cells (rs4.flatMap rdR ++ (x.2.2.2)).toArray 38 (0, 0))]) (fun x => 4 ≤ x.2.2.1) w) := by
  refine calls_run (fn := f12) (c := (f12.body).getD .skip) [.slice (some ⟨bl, 0, none⟩) 1 1] func12 (by kernel_rfl) (fun _ => False) [] (fun _ h => by cases h) (List.Pairwise.nil) 16 (by kernel_rfl) (by simp) ?_
  refine run_auto [] 2 [] [] [0] [] (st' := ⟨[(0, .slice (some ⟨bl, 0, none⟩) 1 1)], []⟩) (acc := []) (by kernel_rfl) (by kernel_rfl) trivial ?_
  refine run_new (.cells #[.slice none 0 0, .int .i64 0, .int .i64 0, .int .i64 0, .int .i64 0, .slice none 0 0] 30 (0, 0)) (fun b1 => .pointer (some ⟨b1, 0, none⟩)) (some 2) (fun _ => by kernel_rfl) (fun b1 hb1 => ?_)
  refine run_auto [] 3 [] [] [0, 2] [0] (st' := ⟨[(0, .slice (some ⟨bl, 0, none⟩) 1 1), (2, .pointer (some ⟨b1, 0, none⟩))], [(b1, .cells #[.slice none 0 0, .int .i64 0, .int .i64 0, .int .i64 0, .int .i64 0, .slice none 0 0] 30 (0, 0))]⟩) (acc := []) (by kernel_rfl) (by kernel_rfl) trivial ?_
  refine run_ret1 20 #[.int .i64 0, .int .i64 0] (some 3) (.agg #[.int .i64 0, .int .i64 0]) (by kernel_rfl) (fun w1 k1 h1 => span_any 0 0 w1) ?_
  refine run_ret1 20 #[.int .i64 (-5), .int .i64 5] (some 4) (.agg #[.int .i64 (-5), .int .i64 5]) (by kernel_rfl) (fun w1 k1 h1 => span_any (-5) 5 w1) ?_
  refine run_ret1 20 #[.int .i64 (-5), .int .i64 5] (some 5) (.agg #[.int .i64 (-5), .int .i64 5]) (by kernel_rfl) (fun w1 k1 h1 => span_any (-5) 5 w1) ?_
  refine run_new (.cells #[.int .i64 0, .int .i64 0, .int .i64 (-5), .int .i64 5, .int .i64 (-5), .int .i64 5] 23 (0, 0)) (fun b2 => .slice (some ⟨b2, 0, none⟩) 3 3) (some 6) (fun _ => by kernel_rfl) (fun b2 hb2 => ?_)
  refine run_ret1 20 #[.int .i64 0, .int .i64 1] (some 7) (.agg #[.int .i64 0, .int .i64 1]) (by kernel_rfl) (fun w1 k1 h1 => span_any 0 1 w1) ?_
  refine run_ret1 20 #[.int .i64 2, .int .i64 2] (some 8) (.agg #[.int .i64 2, .int .i64 2]) (by kernel_rfl) (fun w1 k1 h1 => span_any 2 2 w1) ?_
  refine run_ret1 18 #[.int .i64 1, .int .i64 0, .int .i64 0, .int .i64 3, .int .i64 4] (some 9) (.agg #[.int .i64 1, .int .i64 0, .int .i64 0, .int .i64 3, .int .i64 4]) (by kernel_rfl) (fun w1 k1 h1 => read_any 1 0 0 3 4 w1) ?_
  refine run_ret1 18 #[.int .i64 2, .int .i64 0, .int .i64 10, .int .i64 3, .int .i64 3] (some 10) (.agg #[.int .i64 2, .int .i64 0, .int .i64 10, .int .i64 3, .int .i64 3]) (by kernel_rfl) (fun w1 k1 h1 => read_any 2 0 10 3 3 w1) ?_
  refine run_ret1 18 #[.int .i64 1, .int .i64 2, .int .i64 20, .int .i64 5, .int .i64 7] (some 11) (.agg #[.int .i64 1, .int .i64 2, .int .i64 20, .int .i64 5, .int .i64 7]) (by kernel_rfl) (fun w1 k1 h1 => read_any 1 2 20 5 7 w1) ?_
  refine run_new (.cells #[.int .i64 1, .int .i64 0, .int .i64 0, .int .i64 3, .int .i64 4, .int .i64 2, .int .i64 0, .int .i64 10, .int .i64 3, .int .i64 3, .int .i64 1, .int .i64 2, .int .i64 20, .int .i64 5, .int .i64 7] 38 (0, 0)) (fun b3 => .slice (some ⟨b3, 0, none⟩) 3 3) (some 12) (fun _ => by kernel_rfl) (fun b3 hb3 => ?_)
  refine run_auto [] 1 [] [] [2, 6, 7, 8, 12, 13] [0, 1, 2] (st' := ⟨[(2, .pointer (some ⟨b1, 0, none⟩)), (6, .slice (some ⟨b2, 0, none⟩) 3 3), (7, .agg #[.int .i64 0, .int .i64 1]), (8, .agg #[.int .i64 2, .int .i64 2]), (12, .slice (some ⟨b3, 0, none⟩) 3 3), (13, .slice (some ⟨bl, 0, none⟩) 1 1)], [(b3, .cells #[.int .i64 1, .int .i64 0, .int .i64 0, .int .i64 3, .int .i64 4, .int .i64 2, .int .i64 0, .int .i64 10, .int .i64 3, .int .i64 3, .int .i64 1, .int .i64 2, .int .i64 20, .int .i64 5, .int .i64 7] 38 (0, 0)), (b2, .cells #[.int .i64 0, .int .i64 0, .int .i64 (-5), .int .i64 5, .int .i64 (-5), .int .i64 5] 23 (0, 0)), (b1, .cells #[.slice none 0 0, .int .i64 0, .int .i64 0, .int .i64 0, .int .i64 0, .slice none 0 0] 30 (0, 0))]⟩) (acc := []) (by kernel_rfl) (by kernel_rfl) trivial ?_
  refine run_app (t := 28) (ty := 28) (e := 38) (n := 5) (z := (.agg #[.int .i64 0, .int .i64 0, .int .i64 0, .int .i64 0, .int .i64 0])) (by kernel_rfl) (by kernel_rfl) (by kernel_rfl) rfl (by kernel_rfl) rdR rdR_len rdR_one (some 14) 0 b3 3 1 3 1 ([(1, 0, 0, 3, 4), (2, 0, 10, 3, 3), (1, 2, 20, 5, 7)] : List Rw) ([(2, 1, 0, 5, 5)] : List Rw) ([]) ⟨bl, 0, none⟩ (by first | rfl | (simp; omega)) (by first | rfl | (simp; omega)) (by kernel_rfl) (by kernel_rfl) (by simp only [maxLen]; omega) rfl (fun w1 k1 h1 j u hu => by rw [add_none, Nat.zero_add]; exact cells_of_heap ((k1.block bl (Array.getElem?_eq_some_iff.1 hbl).1 (fun h => h)).trans hbl) j u hu) (by omega) hb3 (fun b4 cap4 sp4 hb4 hqb4 hmb4 hlb4 => ?_)
  refine run_auto [] 3 [] [2] [2] [0, 1, 2] (st' := ⟨[(2, .pointer (some ⟨b1, 0, none⟩))], [(b4, .cells ((([(1, 0, 0, 3, 4), (2, 0, 10, 3, 3), (1, 2, 20, 5, 7)] : List Rw) ++ ([(2, 1, 0, 5, 5)] : List Rw)).flatMap rdR ++ sp4).toArray 38 (0, 0)), (b2, .cells #[.int .i64 0, .int .i64 0, .int .i64 (-5), .int .i64 5, .int .i64 (-5), .int .i64 5] 23 (0, 0)), (b1, .cells #[.slice (some ⟨b2, 0, none⟩) 3 3, .int .i64 0, .int .i64 1, .int .i64 2, .int .i64 2, .slice (some ⟨b4, 0, none⟩) 4 cap4] 30 (0, 0))]⟩) (acc := [(.pointer (some ⟨b1, 0, none⟩), .pointer (some ⟨b1, 0, none⟩))]) (by kernel_rfl) (by kernel_rfl) ⟨rfl, trivial⟩ ?_
  refine run_end (fn := f12) rfl (Nat.le_refl _) (by kernel_rfl) [2] [.agg #[.slice (some ⟨b2, 0, none⟩) 3 3, .int .i64 0, .int .i64 1, .int .i64 2, .int .i64 2, .slice (some ⟨b4, 0, none⟩) 4 cap4]] (e := [(.pointer (some ⟨b1, 0, none⟩), .pointer (some ⟨b1, 0, none⟩))]) (by kernel_rfl) ⟨rfl, trivial⟩ (fun w1 k1 h1 => ?_)
  refine ⟨(b2, b4, cap4, sp4), hqb4, rfl, k1.keeps (fun _ h => h), fun p hp => ?_, List.pairwise_cons.2 ⟨fun p hp => ?_, List.pairwise_singleton _ _⟩⟩
  · simp only [List.mem_cons, List.not_mem_nil, or_false] at hp
    rcases hp with rfl | rfl
    · exact ⟨h1 (b2, _) (List.mem_of_getElem? (i := 1) rfl), hb2⟩
    · exact ⟨h1 (b4, _) (List.mem_of_getElem? (i := 0) rfl), hb4⟩
  · simp only [List.mem_cons, List.not_mem_nil, or_false] at hp
    subst hp
    intro hh
    have q1 := h1 (b2, _) (List.mem_of_getElem? (i := 1) rfl)
    have q2 := h1 (b4, _) (List.mem_of_getElem? (i := 0) rfl)
    dsimp only at hh q1 q2
    rw [hh] at q1
    rw [q1] at q2
    simp at q2

end Go.Proofs.Ytmiobcnccbfknaa
