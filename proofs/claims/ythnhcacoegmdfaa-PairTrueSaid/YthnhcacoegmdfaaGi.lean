/-
  LAW: span, read, sample.
  LAW: results that the document fixes.
-/
import Derived.Test.YthnhcacoegmdfaaGh
import Derived.Test.YthnhcacoegmdfaaGb
namespace Go.Proofs.Ythnhcacoegmdfaa
open Go.RowKit Go.Proofs.Try

set_option maxRecDepth 100000 in
theorem span_any (a b : Int) (w : World)  : Calls Try.prog 20 #[.int .i64 a, .int .i64 b] w (Ret (.agg #[.int .i64 a, .int .i64 b]) w) := by
  refine calls_run (fn := f20) (c := (f20.body).getD .skip) [.int .i64 a, .int .i64 b] func20 (by kernel_rfl) (fun _ => False) [] (fun _ h => by cases h) (List.Pairwise.nil) 8 (by kernel_rfl) (by simp) ?_
  refine run_auto [] 2 [] [] [0, 1] [] (st' := ⟨[(0, iV a), (1, iV b)], []⟩) (acc := []) (by kernel_rfl) (by kernel_rfl) trivial ?_
  refine run_new (aO #[iV 0, iV 0] 23) (fun b1 => pA b1) (some 4) (fun _ => by kernel_rfl) (fun b1 hb1 => ?_)
  refine run_auto [] 8 [] [0] [4] [0] (st' := ⟨[(4, pA b1)], [(b1, aO #[iV a, iV b] 23)]⟩) (acc := [(pA b1, pA b1)]) (by kernel_rfl) (by kernel_rfl) ⟨rfl, trivial⟩ ?_
  refine run_end (fn := f20) rfl (Nat.le_refl _) (by kernel_rfl) [0] [.agg #[iV a, iV b]] (e := [(pA b1, pA b1)]) (by kernel_rfl) ⟨rfl, trivial⟩ (fun w1 k1 h1 => ?_)
  exact ⟨rfl, k1.keeps (fun _ h => h)⟩

set_option maxRecDepth 100000 in
theorem read_any (a b m lo hi : Int) (w : World)  : Calls Try.prog 18 #[.int .i64 a, .int .i64 b, .int .i64 m, .int .i64 lo, .int .i64 hi] w (Ret (.agg #[.int .i64 a, .int .i64 b, .int .i64 m, .int .i64 lo, .int .i64 hi]) w) := by
  refine calls_run (fn := f18) (c := (f18.body).getD .skip) [.int .i64 a, .int .i64 b, .int .i64 m, .int .i64 lo, .int .i64 hi] func18 (by kernel_rfl) (fun _ => False) [] (fun _ h => by cases h) (List.Pairwise.nil) 18 (by kernel_rfl) (by simp) ?_
  refine run_auto [] 2 [] [] [0, 1, 2, 3, 4] [] (st' := ⟨[(0, iV a), (1, iV b), (2, iV m), (3, iV lo), (4, iV hi)], []⟩) (acc := []) (by kernel_rfl) (by kernel_rfl) trivial ?_
  refine run_new (aO #[iV 0, iV 0, iV 0, iV 0, iV 0] 38) (fun b1 => pA b1) (some 10) (fun _ => by kernel_rfl) (fun b1 hb1 => ?_)
  refine run_auto [] 8 [] [] [10, 11, 12, 13, 14, 15] [0] (st' := ⟨[(10, pA b1), (11, iV a), (12, iV b), (13, iV m), (14, iV lo), (15, iV hi)], [(b1, aO #[iV 0, iV 0, iV 0, iV 0, iV 0] 38)]⟩) (acc := []) (by kernel_rfl) (by kernel_rfl) trivial ?_
  refine run_ret1 20 #[iV lo, iV hi] (some 16) (.agg #[iV lo, iV hi]) (by kernel_rfl) (fun w1 k1 h1 => span_any lo hi w1) ?_
  refine run_auto [] 3 [] [0] [10] [0] (st' := ⟨[(10, pA b1)], [(b1, aO #[iV a, iV b, iV m, iV lo, iV hi] 38)]⟩) (acc := [(pA b1, pA b1)]) (by kernel_rfl) (by kernel_rfl) ⟨rfl, trivial⟩ ?_
  refine run_end (fn := f18) rfl (Nat.le_refl _) (by kernel_rfl) [0] [.agg #[iV a, iV b, iV m, iV lo, iV hi]] (e := [(pA b1, pA b1)]) (by kernel_rfl) ⟨rfl, trivial⟩ (fun w1 k1 h1 => ?_)
  exact ⟨rfl, k1.keeps (fun _ h => h)⟩


theorem Rds.of_flat {w : World} {b : Nat} {rs : List Rw} {sp : List Value} {t : TypeId} {fr : Nat × Nat} (h : w.heap[b]? = some (.cells (rs.flatMap rdR ++ sp).toArray t fr)) : Rds w (some ⟨b, 0, none⟩) rs := by
  intro _
  refine ⟨b, 0, rfl, fun i hi => ?_⟩
  have key : ∀ k u, (rdR (elR rs i))[k]? = some u → w.cell? ⟨b, 0 + i * 5 + k, none⟩ = some u := by
    intro k u hk
    refine cells_of_heap h _ _ ?_
    have hk5 : k < 5 := (List.getElem?_eq_some_iff.1 hk).1
    have e1 : rs.flatMap rdR ++ sp = (rs.take i).flatMap rdR ++ ((rs.drop i).flatMap rdR ++ sp) := by rw [← List.append_assoc, ← List.flatMap_append, List.take_append_drop]
    have hl : ((rs.take i).flatMap rdR).length = i * 5 := by rw [flat_len rdR_len, List.length_take, Nat.min_eq_left (Nat.le_of_lt hi)]
    rw [e1, List.getElem?_append_right (by omega), hl, show 0 + i * 5 + k - i * 5 = k by omega, List.drop_eq_getElem_cons hi, List.flatMap_cons, List.append_assoc, List.getElem?_append_left (by show k < 5; exact hk5)]
    rw [← hk, elR, List.getElem?_eq_getElem hi]
    rfl
  exact ⟨key 0 _ rfl, key 1 _ rfl, key 2 _ rfl, key 3 _ rfl, key 4 _ rfl⟩
/-- A span as it lies in a row. -/
def spR (s : Int × Int) : List Value := [.int .i64 s.1, .int .i64 s.2]
theorem spR_len (s : Int × Int) : (spR s).length = 2 := rfl
theorem spR_one (r : Int × Int) : ∀ u ∈ spR r, u.oneCell' = true := by
  intro u hu
  simp only [spR, List.mem_cons, List.not_mem_nil, or_false] at hu
  rcases hu with rfl | rfl <;> rfl
theorem Bls.of_flat {w : World} {b : Nat} {bs : List (Int × Int)} {sp : List Value} {t : TypeId} {fr : Nat × Nat} (h : w.heap[b]? = some (.cells (bs.flatMap spR ++ sp).toArray t fr)) : Bls w (some ⟨b, 0, none⟩) bs := by
  intro _
  refine ⟨b, 0, rfl, fun i hi => ?_⟩
  have key : ∀ k u, (spR (elB bs i))[k]? = some u → w.cell? ⟨b, 0 + i * 2 + k, none⟩ = some u := by
    intro k u hk
    refine cells_of_heap h _ _ ?_
    have hk5 : k < 2 := (List.getElem?_eq_some_iff.1 hk).1
    have e1 : bs.flatMap spR ++ sp = (bs.take i).flatMap spR ++ ((bs.drop i).flatMap spR ++ sp) := by rw [← List.append_assoc, ← List.flatMap_append, List.take_append_drop]
    have hl : ((bs.take i).flatMap spR).length = i * 2 := by rw [flat_len spR_len, List.length_take, Nat.min_eq_left (Nat.le_of_lt hi)]
    rw [e1, List.getElem?_append_right (by omega), hl, show 0 + i * 2 + k - i * 2 = k by omega, List.drop_eq_getElem_cons hi, List.flatMap_cons, List.append_assoc, List.getElem?_append_left (by show k < 2; exact hk5)]
    rw [← hk, elB, List.getElem?_eq_getElem hi]
    rfl
  exact ⟨key 0 _ rfl, key 1 _ rfl⟩
/-- The pair of the examples. -/
def smpB : List (Int × Int) := [(0, 0), (-5, 5), (-5, 5)]
def rs3 : List Rw := [(1, 0, 0, 3, 4), (2, 0, 10, 3, 3), (1, 2, 20, 5, 7)]
def rs4 : List Rw := rs3 ++ [(2, 1, 0, 5, 5)]
def smp (rs : List Rw) (b1 b2 cap : Nat) : Pr := ⟨some ⟨b1, 0, none⟩, 3, smpB, 0, 1, 2, 2, some ⟨b2, 0, none⟩, cap, rs⟩
theorem smp_in {w : World} {rs : List Rw} {b1 b2 cap : Nat} {sp : List Value} (h1 : w.heap[b1]? = some (.cells (smpB.flatMap spR).toArray 23 (0, 0))) (h2 : w.heap[b2]? = some (.cells (rs.flatMap rdR ++ sp).toArray 38 (0, 0))) (hl : rs.length ≤ 8) : (smp rs b1 b2 cap).In w :=
  ⟨Bls.of_flat (sp := []) (by rw [List.append_nil]; exact h1), Rds.of_flat h2, by show 3 ≤ maxLen; simp only [maxLen]; omega, by show rs.length ≤ maxLen; simp only [maxLen]; omega⟩

def inR (x : Int) : List Value := [.int .i64 x]
theorem inR_len (x : Int) : (inR x).length = 1 := rfl
theorem inR_one (x : Int) : ∀ u ∈ inR x, u.oneCell' = true := by
  intro u hu
  simp only [inR, List.mem_cons, List.not_mem_nil, or_false] at hu
  subst hu
  rfl
set_option maxRecDepth 100000 in
theorem sample0_any  (w : World)  : Calls Try.prog 12 #[.slice none 0 0] w (NwL (α := Nat × Nat × Nat × List Value) (fun x => .agg #[.slice (some ⟨(x.1), 0, none⟩) 3 3, .int .i64 0, .int .i64 1, .int .i64 2, .int .i64 2, .slice (some ⟨(x.2.1), 0, none⟩) 3 (x.2.2.1)]) (fun x => [((x.1), .cells #[.int .i64 0, .int .i64 0, .int .i64 (-5), .int .i64 5, .int .i64 (-5), .int .i64 5] 23 (0, 0)), ((x.2.1), .cells (rs3.flatMap rdR ++ (x.2.2.2)).toArray 38 (0, 0))]) (fun x => 3 ≤ x.2.2.1) w) := by
  refine calls_run (fn := f12) (c := (f12.body).getD .skip) [.slice none 0 0] func12 (by kernel_rfl) (fun _ => False) [] (fun _ h => by cases h) (List.Pairwise.nil) 16 (by kernel_rfl) (by simp) ?_
  refine run_auto [] 2 [] [] [0] [] (st' := ⟨[(0, .slice none 0 0)], []⟩) (acc := []) (by kernel_rfl) (by kernel_rfl) trivial ?_
  refine run_new (aO #[.slice none 0 0, iV 0, iV 0, iV 0, iV 0, .slice none 0 0] 30) (fun b1 => pA b1) (some 2) (fun _ => by kernel_rfl) (fun b1 hb1 => ?_)
  refine run_auto [] 3 [] [] [0, 2] [0] (st' := ⟨[(0, .slice none 0 0), (2, pA b1)], [(b1, aO #[.slice none 0 0, iV 0, iV 0, iV 0, iV 0, .slice none 0 0] 30)]⟩) (acc := []) (by kernel_rfl) (by kernel_rfl) trivial ?_
  refine run_ret1 20 #[iV 0, iV 0] (some 3) (.agg #[iV 0, iV 0]) (by kernel_rfl) (fun w1 k1 h1 => span_any 0 0 w1) ?_
  refine run_ret1 20 #[iV (-5), iV 5] (some 4) (.agg #[iV (-5), iV 5]) (by kernel_rfl) (fun w1 k1 h1 => span_any (-5) 5 w1) ?_
  refine run_ret1 20 #[iV (-5), iV 5] (some 5) (.agg #[iV (-5), iV 5]) (by kernel_rfl) (fun w1 k1 h1 => span_any (-5) 5 w1) ?_
  refine run_new (aO #[iV 0, iV 0, iV (-5), iV 5, iV (-5), iV 5] 23) (fun b2 => sV b2 3 3) (some 6) (fun _ => by kernel_rfl) (fun b2 hb2 => ?_)
  refine run_ret1 20 #[iV 0, iV 1] (some 7) (.agg #[iV 0, iV 1]) (by kernel_rfl) (fun w1 k1 h1 => span_any 0 1 w1) ?_
  refine run_ret1 20 #[iV 2, iV 2] (some 8) (.agg #[iV 2, iV 2]) (by kernel_rfl) (fun w1 k1 h1 => span_any 2 2 w1) ?_
  refine run_ret1 18 #[iV 1, iV 0, iV 0, iV 3, iV 4] (some 9) (.agg #[iV 1, iV 0, iV 0, iV 3, iV 4]) (by kernel_rfl) (fun w1 k1 h1 => read_any 1 0 0 3 4 w1) ?_
  refine run_ret1 18 #[iV 2, iV 0, iV 10, iV 3, iV 3] (some 10) (.agg #[iV 2, iV 0, iV 10, iV 3, iV 3]) (by kernel_rfl) (fun w1 k1 h1 => read_any 2 0 10 3 3 w1) ?_
  refine run_ret1 18 #[iV 1, iV 2, iV 20, iV 5, iV 7] (some 11) (.agg #[iV 1, iV 2, iV 20, iV 5, iV 7]) (by kernel_rfl) (fun w1 k1 h1 => read_any 1 2 20 5 7 w1) ?_
  refine run_new (aO #[iV 1, iV 0, iV 0, iV 3, iV 4, iV 2, iV 0, iV 10, iV 3, iV 3, iV 1, iV 2, iV 20, iV 5, iV 7] 38) (fun b3 => sV b3 3 3) (some 12) (fun _ => by kernel_rfl) (fun b3 hb3 => ?_)
  refine run_auto [] 1 [] [] [2, 6, 7, 8, 12, 13] [0, 1, 2] (st' := ⟨[(2, pA b1), (6, sV b2 3 3), (7, .agg #[iV 0, iV 1]), (8, .agg #[iV 2, iV 2]), (12, sV b3 3 3), (13, .slice none 0 0)], [(b3, aO #[iV 1, iV 0, iV 0, iV 3, iV 4, iV 2, iV 0, iV 10, iV 3, iV 3, iV 1, iV 2, iV 20, iV 5, iV 7] 38), (b2, aO #[iV 0, iV 0, iV (-5), iV 5, iV (-5), iV 5] 23), (b1, aO #[.slice none 0 0, iV 0, iV 0, iV 0, iV 0, .slice none 0 0] 30)]⟩) (acc := []) (by kernel_rfl) (by kernel_rfl) trivial ?_
  refine run_v (appSem 28 28 (sV b3 3 3) (.slice none 0 0)) (some 14) (sV b3 3 3) (by kernel_rfl) (fun w1 k1 h1 => app_empty (t := 28) (ty := 28) (e := 38) (n := 5) (by kernel_rfl) (by kernel_rfl) _ _ 3 3 0 (by omega) w1) ?_
  refine run_auto [] 3 [] [2] [2] [0, 1, 2] (st' := ⟨[(2, pA b1)], [(b3, aO #[iV 1, iV 0, iV 0, iV 3, iV 4, iV 2, iV 0, iV 10, iV 3, iV 3, iV 1, iV 2, iV 20, iV 5, iV 7] 38), (b2, aO #[iV 0, iV 0, iV (-5), iV 5, iV (-5), iV 5] 23), (b1, aO #[sV b2 3 3, iV 0, iV 1, iV 2, iV 2, sV b3 3 3] 30)]⟩) (acc := [(pA b1, pA b1)]) (by kernel_rfl) (by kernel_rfl) ⟨rfl, trivial⟩ ?_
  refine run_end (fn := f12) rfl (Nat.le_refl _) (by kernel_rfl) [2] [.agg #[sV b2 3 3, iV 0, iV 1, iV 2, iV 2, sV b3 3 3]] (e := [(pA b1, pA b1)]) (by kernel_rfl) ⟨rfl, trivial⟩ (fun w1 k1 h1 => ?_)
  refine ⟨(b2, b3, 3, []), Nat.le_refl _, rfl, k1.keeps (fun _ h => h), fun p hp => ?_, List.pairwise_cons.2 ⟨fun p hp => ?_, List.pairwise_singleton _ _⟩⟩
  · simp only [List.mem_cons, List.not_mem_nil, or_false] at hp
    rcases hp with rfl | rfl
    · exact ⟨h1 (b2, _) (List.mem_of_getElem? (i := 1) rfl), hb2⟩
    · exact ⟨h1 (b3, _) (List.mem_of_getElem? (i := 0) rfl), hb3⟩
  · simp only [List.mem_cons, List.not_mem_nil, or_false] at hp
    subst hp
    intro hh
    have q1 := h1 (b2, _) (List.mem_of_getElem? (i := 1) rfl)
    have q2 := h1 (b3, _) (List.mem_of_getElem? (i := 0) rfl)
    dsimp only at hh q1 q2
    rw [hh] at q1
    rw [q1] at q2
    simp at q2

set_option maxRecDepth 100000 in
theorem sample1_any (bl : Nat) (w : World) (hbl : w.heap[bl]? = some (.cells #[.int .i64 2, .int .i64 1, .int .i64 0, .int .i64 5, .int .i64 5] 38 (0, 0))) : Calls Try.prog 12 #[.slice (some ⟨bl, 0, none⟩) 1 1] w (NwL (α := Nat × Nat × Nat × List Value) (fun x => .agg #[.slice (some ⟨(x.1), 0, none⟩) 3 3, .int .i64 0, .int .i64 1, .int .i64 2, .int .i64 2, .slice (some ⟨(x.2.1), 0, none⟩) 4 (x.2.2.1)]) (fun x => [((x.1), .cells #[.int .i64 0, .int .i64 0, .int .i64 (-5), .int .i64 5, .int .i64 (-5), .int .i64 5] 23 (0, 0)), ((x.2.1), .cells (rs4.flatMap rdR ++ (x.2.2.2)).toArray 38 (0, 0))]) (fun x => 4 ≤ x.2.2.1) w) := by
  refine calls_run (fn := f12) (c := (f12.body).getD .skip) [.slice (some ⟨bl, 0, none⟩) 1 1] func12 (by kernel_rfl) (fun _ => False) [] (fun _ h => by cases h) (List.Pairwise.nil) 16 (by kernel_rfl) (by simp) ?_
  refine run_auto [] 2 [] [] [0] [] (st' := ⟨[(0, sV bl 1 1)], []⟩) (acc := []) (by kernel_rfl) (by kernel_rfl) trivial ?_
  refine run_new (aO #[.slice none 0 0, iV 0, iV 0, iV 0, iV 0, .slice none 0 0] 30) (fun b1 => pA b1) (some 2) (fun _ => by kernel_rfl) (fun b1 hb1 => ?_)
  refine run_auto [] 3 [] [] [0, 2] [0] (st' := ⟨[(0, sV bl 1 1), (2, pA b1)], [(b1, aO #[.slice none 0 0, iV 0, iV 0, iV 0, iV 0, .slice none 0 0] 30)]⟩) (acc := []) (by kernel_rfl) (by kernel_rfl) trivial ?_
  refine run_ret1 20 #[iV 0, iV 0] (some 3) (.agg #[iV 0, iV 0]) (by kernel_rfl) (fun w1 k1 h1 => span_any 0 0 w1) ?_
  refine run_ret1 20 #[iV (-5), iV 5] (some 4) (.agg #[iV (-5), iV 5]) (by kernel_rfl) (fun w1 k1 h1 => span_any (-5) 5 w1) ?_
  refine run_ret1 20 #[iV (-5), iV 5] (some 5) (.agg #[iV (-5), iV 5]) (by kernel_rfl) (fun w1 k1 h1 => span_any (-5) 5 w1) ?_
  refine run_new (aO #[iV 0, iV 0, iV (-5), iV 5, iV (-5), iV 5] 23) (fun b2 => sV b2 3 3) (some 6) (fun _ => by kernel_rfl) (fun b2 hb2 => ?_)
  refine run_ret1 20 #[iV 0, iV 1] (some 7) (.agg #[iV 0, iV 1]) (by kernel_rfl) (fun w1 k1 h1 => span_any 0 1 w1) ?_
  refine run_ret1 20 #[iV 2, iV 2] (some 8) (.agg #[iV 2, iV 2]) (by kernel_rfl) (fun w1 k1 h1 => span_any 2 2 w1) ?_
  refine run_ret1 18 #[iV 1, iV 0, iV 0, iV 3, iV 4] (some 9) (.agg #[iV 1, iV 0, iV 0, iV 3, iV 4]) (by kernel_rfl) (fun w1 k1 h1 => read_any 1 0 0 3 4 w1) ?_
  refine run_ret1 18 #[iV 2, iV 0, iV 10, iV 3, iV 3] (some 10) (.agg #[iV 2, iV 0, iV 10, iV 3, iV 3]) (by kernel_rfl) (fun w1 k1 h1 => read_any 2 0 10 3 3 w1) ?_
  refine run_ret1 18 #[iV 1, iV 2, iV 20, iV 5, iV 7] (some 11) (.agg #[iV 1, iV 2, iV 20, iV 5, iV 7]) (by kernel_rfl) (fun w1 k1 h1 => read_any 1 2 20 5 7 w1) ?_
  refine run_new (aO #[iV 1, iV 0, iV 0, iV 3, iV 4, iV 2, iV 0, iV 10, iV 3, iV 3, iV 1, iV 2, iV 20, iV 5, iV 7] 38) (fun b3 => sV b3 3 3) (some 12) (fun _ => by kernel_rfl) (fun b3 hb3 => ?_)
  refine run_auto [] 1 [] [] [2, 6, 7, 8, 12, 13] [0, 1, 2] (st' := ⟨[(2, pA b1), (6, sV b2 3 3), (7, .agg #[iV 0, iV 1]), (8, .agg #[iV 2, iV 2]), (12, sV b3 3 3), (13, sV bl 1 1)], [(b3, aO #[iV 1, iV 0, iV 0, iV 3, iV 4, iV 2, iV 0, iV 10, iV 3, iV 3, iV 1, iV 2, iV 20, iV 5, iV 7] 38), (b2, aO #[iV 0, iV 0, iV (-5), iV 5, iV (-5), iV 5] 23), (b1, aO #[.slice none 0 0, iV 0, iV 0, iV 0, iV 0, .slice none 0 0] 30)]⟩) (acc := []) (by kernel_rfl) (by kernel_rfl) trivial ?_
  refine run_app (t := 28) (ty := 28) (e := 38) (n := 5) (z := (.agg #[iV 0, iV 0, iV 0, iV 0, iV 0])) (by kernel_rfl) (by kernel_rfl) (by kernel_rfl) rfl (by kernel_rfl) rdR rdR_len rdR_one (some 14) 0 b3 3 1 3 1 ([(1, 0, 0, 3, 4), (2, 0, 10, 3, 3), (1, 2, 20, 5, 7)] : List Rw) ([(2, 1, 0, 5, 5)] : List Rw) ([]) ⟨bl, 0, none⟩ (by first | rfl | (simp; done) | (simp; omega)) (by first | rfl | (simp; done) | (simp; omega)) (by kernel_rfl) (by kernel_rfl) (by simp only [maxLen]; omega) rfl (fun w1 k1 h1 j u hu => by rw [add_none, Nat.zero_add]; exact cells_of_heap ((k1.block bl (Array.getElem?_eq_some_iff.1 hbl).1 (fun h => h)).trans hbl) j u hu) (by omega) hb3 (fun b4 cap4 sp4 hb4 hqb4 hmb4 hlb4 => ?_)
  refine run_auto [] 3 [] [2] [2] [0, 1, 2] (st' := ⟨[(2, pA b1)], [(b4, cO ((([(1, 0, 0, 3, 4), (2, 0, 10, 3, 3), (1, 2, 20, 5, 7)] : List Rw) ++ ([(2, 1, 0, 5, 5)] : List Rw)).flatMap rdR ++ sp4) 38), (b2, aO #[iV 0, iV 0, iV (-5), iV 5, iV (-5), iV 5] 23), (b1, aO #[sV b2 3 3, iV 0, iV 1, iV 2, iV 2, sV b4 4 cap4] 30)]⟩) (acc := [(pA b1, pA b1)]) (by kernel_rfl) (by kernel_rfl) ⟨rfl, trivial⟩ ?_
  refine run_end (fn := f12) rfl (Nat.le_refl _) (by kernel_rfl) [2] [.agg #[sV b2 3 3, iV 0, iV 1, iV 2, iV 2, sV b4 4 cap4]] (e := [(pA b1, pA b1)]) (by kernel_rfl) ⟨rfl, trivial⟩ (fun w1 k1 h1 => ?_)
  refine ⟨(b2, b4, cap4, sp4), hqb4, rfl, k1.keeps (fun _ h => h), fun p hp => ?_, List.pairwise_cons.2 ⟨fun p hp => ?_, List.pairwise_singleton _ _⟩⟩
  · simp only [List.mem_cons, List.not_mem_nil, or_false] at hp
    rcases hp with rfl | rfl
    · exact ⟨h1 (b2, _) (List.mem_of_getElem? (i := 1) rfl), hb2⟩
    · exact ⟨h1 (b4, _) (List.mem_of_getElem? (i := 0) rfl), hb4⟩
  · simp only [List.mem_cons, List.not_mem_nil, or_false] at hp
    subst hp
    intro hh
    have q1 := h1 (b2, _) (List.mem_of_getElem? (i := 1) rfl)
    have q2 := h1 (b4, _) (List.mem_of_getElem? (i := 0) rfl)
    dsimp only at hh q1 q2
    rw [hh] at q1
    rw [q1] at q2
    simp at q2

end Go.Proofs.Ythnhcacoegmdfaa

namespace Go.Proofs.Ythnhcacoegmdfaa
open Go.RowKit Go.Proofs.Try

theorem eql_span_fields : Try.prog.underlying 23 = some (.struct (Try.prog.fieldsOf 23)) := by kernel_rfl
theorem eql_span_held : Try.prog.stoodInHeld 23 = false := by kernel_rfl
theorem eql_span_list : (Try.prog.fieldsOf 23).toList.map (fun f => (f.name, f.type, f.offset)) = [("Lo", 3, 0), ("Hi", 3, 1)] := by kernel_rfl
theorem eql_span (X Y : Operand) (x0 x1 y0 y1 : Int) (w : World) : ((do eqGuard .eql 23 X Y (.agg #[.int .i64 x0, .int .i64 x1]) (.agg #[.int .i64 y0, .int .i64 y1]); binOp .eql 23 (.agg #[.int .i64 x0, .int .i64 x1]) (.agg #[.int .i64 y0, .int .i64 y1])) >>= fun v => pure (Next.value v)).run Try.prog w = .ok (.value (.bool (x0 == y0 && x1 == y1))) w := by
  have key : (Op.equalIn 10000 23 (.agg #[.int .i64 x0, .int .i64 x1]) (.agg #[.int .i64 y0, .int .i64 y1])).run Try.prog w = .ok (x0 == y0 && x1 == y1) w := by
    rw [run_equalIn_agg w 9999 _ _ _ eql_span_fields eql_span_held]
    have h := eql_span_list
    match hf : (Try.prog.fieldsOf 23).toList, h with
    | [f0, f1], h =>
      simp only [List.map_cons, List.map_nil, List.cons.injEq, Prod.mk.injEq, and_true] at h
      obtain ⟨⟨q0a, q0b, q0c⟩, q1a, q1b, q1c⟩ := h
      simp [Op.eqFields, q0a, q0b, q0c, q1a, q1b, q1c, go_sem]
      by_cases e0 : x0 = y0 <;> by_cases e1 : x1 = y1 <;> simp [e0, e1]
    | [], h => simp at h
    | [_], h => simp at h
    | _ :: _ :: _ :: _, h => simp at h
  have hg := run_eqGuard_agg (P := Try.prog) (w := w) .eql 23 X Y #[.int .i64 x0, .int .i64 x1] #[.int .i64 y0, .int .i64 y1] (by kernel_rfl)
  simp only [binOp]
  simp [hg, Op.equal, Op.maxDepth, key, Result.andThen]
set_option maxRecDepth 100000 in
theorem alive_any  (w : World)  : Calls Try.prog 19 #[] w (RetB true w) := by
  refine calls_run (fn := f19) (c := (f19.body).getD .skip) [] func19 (by kernel_rfl) (fun _ => False) [] (fun _ h => by cases h) (List.Pairwise.nil) 150 (by kernel_rfl) (by simp) ?_
  refine run_auto [] 6 [] [] [0] [] (st' := ⟨[(0, .bool false)], []⟩) (acc := []) (by kernel_rfl) (by kernel_rfl) trivial ?_
  refine run_nwl 12 #[.slice none 0 0] (some 22) (α := Nat × Nat × Nat × List Value) (fun x => .agg #[.slice (some ⟨(x.1), 0, none⟩) 3 3, iV 0, iV 1, iV 2, iV 2, .slice (some ⟨(x.2.1), 0, none⟩) 3 (x.2.2.1)]) (fun x => [((x.1), aO #[iV 0, iV 0, iV (-5), iV 5, iV (-5), iV 5] 23), ((x.2.1), cO (rs3.flatMap rdR ++ (x.2.2.2)) 38)]) (fun x => 3 ≤ (x.2.2.1)) (by kernel_rfl) (fun x p hp => by simp only [List.mem_cons, List.not_mem_nil, or_false] at hp; rcases hp with rfl | rfl <;> rfl) (fun w1 k1 h1 => sample0_any w1) (fun x hI1 hn1 => ?_)
  obtain ⟨bb1, br1, cap1, sp1⟩ := x
  dsimp only at hI1 hn1
  have hbb1 := hn1 _ (List.mem_of_getElem? (i := 0) rfl)
  have hbr1 := hn1 _ (List.mem_of_getElem? (i := 1) rfl)
  refine run_ret1 11 #[.agg #[sV bb1 3 3, iV 0, iV 1, iV 2, iV 2, sV br1 3 cap1], iV 1] (some 23) (.tuple #[.agg #[iV 2, iV 4], iV 0]) (by kernel_rfl) (fun w1 k1 h1 => (by have h := Known_any (smp rs3 bb1 br1 cap1) 1 w1 (smp_in (sp := sp1) (h1 (bb1, aO #[iV 0, iV 0, iV (-5), iV 5, iV (-5), iV 5] 23) (List.mem_of_getElem? (i := 0) (by kernel_rfl))) (h1 (br1, cO (rs3.flatMap rdR ++ sp1) 38) (List.mem_of_getElem? (i := 1) (by kernel_rfl))) (by decide)); rw [show knownR (smp rs3 bb1 br1 cap1) 1 = .inr (2, 4) from by kernel_rfl] at h; exact h)) ?_
  refine run_auto [] 3 [] [] [0, 24, 25] [] (st' := ⟨[(0, .bool false), (24, .agg #[iV 2, iV 4]), (25, iV 0)], []⟩) (acc := []) (by kernel_rfl) (by kernel_rfl) trivial ?_
  refine run_new (aO #[iV 0, iV 0] 23) (fun b2 => pA b2) (some 1) (fun _ => by kernel_rfl) (fun b2 hb2 => ?_)
  refine run_auto [] 5 [] [0] [0, 1, 2] [0] (st' := ⟨[(0, .bool false), (1, pA b2), (2, iV 0)], [(b2, aO #[iV 2, iV 4] 23)]⟩) (acc := [(pA b2, pA b2)]) (by kernel_rfl) (by kernel_rfl) ⟨rfl, trivial⟩ ?_
  refine run_nwl 12 #[.slice none 0 0] (some 27) (α := Nat × Nat × Nat × List Value) (fun x => .agg #[.slice (some ⟨(x.1), 0, none⟩) 3 3, iV 0, iV 1, iV 2, iV 2, .slice (some ⟨(x.2.1), 0, none⟩) 3 (x.2.2.1)]) (fun x => [((x.1), aO #[iV 0, iV 0, iV (-5), iV 5, iV (-5), iV 5] 23), ((x.2.1), cO (rs3.flatMap rdR ++ (x.2.2.2)) 38)]) (fun x => 3 ≤ (x.2.2.1)) (by kernel_rfl) (fun x p hp => by simp only [List.mem_cons, List.not_mem_nil, or_false] at hp; rcases hp with rfl | rfl <;> rfl) (fun w1 k1 h1 => sample0_any w1) (fun x hI3 hn3 => ?_)
  obtain ⟨bb3, br3, cap3, sp3⟩ := x
  dsimp only at hI3 hn3
  have hbb3 := hn3 _ (List.mem_of_getElem? (i := 0) rfl)
  have hbr3 := hn3 _ (List.mem_of_getElem? (i := 1) rfl)
  refine run_ret1 13 #[.agg #[sV bb3 3 3, iV 0, iV 1, iV 2, iV 2, sV br3 3 cap3], iV 0, iV 1] (some 28) (.tuple #[.agg #[iV (-4), iV (-2)], iV 0]) (by kernel_rfl) (fun w1 k1 h1 => (by have h := Differ_any (smp rs3 bb3 br3 cap3) 0 1 w1 (smp_in (sp := sp3) (h1 (bb3, aO #[iV 0, iV 0, iV (-5), iV 5, iV (-5), iV 5] 23) (List.mem_of_getElem? (i := 0) (by kernel_rfl))) (h1 (br3, cO (rs3.flatMap rdR ++ sp3) 38) (List.mem_of_getElem? (i := 1) (by kernel_rfl))) (by decide)); rw [show differR (smp rs3 bb3 br3 cap3) 0 1 = .inr (-4, -2) from by kernel_rfl] at h; exact h)) ?_
  refine run_auto [] 3 [] [] [0, 1, 2, 29, 30] [2] (st' := ⟨[(0, .bool false), (1, pA b2), (2, iV 0), (29, .agg #[iV (-4), iV (-2)]), (30, iV 0)], [(b2, aO #[iV 2, iV 4] 23)]⟩) (acc := []) (by kernel_rfl) (by kernel_rfl) trivial ?_
  refine run_new (aO #[iV 0, iV 0] 23) (fun b4 => pA b4) (some 3) (fun _ => by kernel_rfl) (fun b4 hb4 => ?_)
  refine run_auto [] 5 [] [0] [0, 1, 2, 3, 4] [0, 1] (st' := ⟨[(0, .bool false), (1, pA b2), (2, iV 0), (3, pA b4), (4, iV 0)], [(b4, aO #[iV (-4), iV (-2)] 23), (b2, aO #[iV 2, iV 4] 23)]⟩) (acc := [(pA b4, pA b4)]) (by kernel_rfl) (by kernel_rfl) ⟨rfl, trivial⟩ ?_
  refine run_nwl 12 #[.slice none 0 0] (some 32) (α := Nat × Nat × Nat × List Value) (fun x => .agg #[.slice (some ⟨(x.1), 0, none⟩) 3 3, iV 0, iV 1, iV 2, iV 2, .slice (some ⟨(x.2.1), 0, none⟩) 3 (x.2.2.1)]) (fun x => [((x.1), aO #[iV 0, iV 0, iV (-5), iV 5, iV (-5), iV 5] 23), ((x.2.1), cO (rs3.flatMap rdR ++ (x.2.2.2)) 38)]) (fun x => 3 ≤ (x.2.2.1)) (by kernel_rfl) (fun x p hp => by simp only [List.mem_cons, List.not_mem_nil, or_false] at hp; rcases hp with rfl | rfl <;> rfl) (fun w1 k1 h1 => sample0_any w1) (fun x hI5 hn5 => ?_)
  obtain ⟨bb5, br5, cap5, sp5⟩ := x
  dsimp only at hI5 hn5
  have hbb5 := hn5 _ (List.mem_of_getElem? (i := 0) rfl)
  have hbr5 := hn5 _ (List.mem_of_getElem? (i := 1) rfl)
  refine run_ret1 14 #[.agg #[sV bb5 3 3, iV 0, iV 1, iV 2, iV 2, sV br5 3 cap5], iV 25] (some 33) (.tuple #[.agg #[iV 5, iV 6], iV 0]) (by kernel_rfl) (fun w1 k1 h1 => (by have h := Shows_any (smp rs3 bb5 br5 cap5) 25 w1 (smp_in (sp := sp5) (h1 (bb5, aO #[iV 0, iV 0, iV (-5), iV 5, iV (-5), iV 5] 23) (List.mem_of_getElem? (i := 0) (by kernel_rfl))) (h1 (br5, cO (rs3.flatMap rdR ++ sp5) 38) (List.mem_of_getElem? (i := 1) (by kernel_rfl))) (by decide)); rw [show showsR (smp rs3 bb5 br5 cap5) 25 = .inr (5, 6) from by kernel_rfl] at h; exact h)) ?_
  refine run_auto [] 3 [] [] [0, 1, 2, 3, 4, 34, 35] [2, 3] (st' := ⟨[(0, .bool false), (1, pA b2), (2, iV 0), (3, pA b4), (4, iV 0), (34, .agg #[iV 5, iV 6]), (35, iV 0)], [(b4, aO #[iV (-4), iV (-2)] 23), (b2, aO #[iV 2, iV 4] 23)]⟩) (acc := []) (by kernel_rfl) (by kernel_rfl) trivial ?_
  refine run_new (aO #[iV 0, iV 0] 23) (fun b6 => pA b6) (some 5) (fun _ => by kernel_rfl) (fun b6 hb6 => ?_)
  refine run_auto [] 5 [] [0] [0, 1, 2, 3, 4, 5, 6] [0, 1, 2] (st' := ⟨[(0, .bool false), (1, pA b2), (2, iV 0), (3, pA b4), (4, iV 0), (5, pA b6), (6, iV 0)], [(b6, aO #[iV 5, iV 6] 23), (b4, aO #[iV (-4), iV (-2)] 23), (b2, aO #[iV 2, iV 4] 23)]⟩) (acc := [(pA b6, pA b6)]) (by kernel_rfl) (by kernel_rfl) ⟨rfl, trivial⟩ ?_
  refine run_nwl 12 #[.slice none 0 0] (some 37) (α := Nat × Nat × Nat × List Value) (fun x => .agg #[.slice (some ⟨(x.1), 0, none⟩) 3 3, iV 0, iV 1, iV 2, iV 2, .slice (some ⟨(x.2.1), 0, none⟩) 3 (x.2.2.1)]) (fun x => [((x.1), aO #[iV 0, iV 0, iV (-5), iV 5, iV (-5), iV 5] 23), ((x.2.1), cO (rs3.flatMap rdR ++ (x.2.2.2)) 38)]) (fun x => 3 ≤ (x.2.2.1)) (by kernel_rfl) (fun x p hp => by simp only [List.mem_cons, List.not_mem_nil, or_false] at hp; rcases hp with rfl | rfl <;> rfl) (fun w1 k1 h1 => sample0_any w1) (fun x hI7 hn7 => ?_)
  obtain ⟨bb7, br7, cap7, sp7⟩ := x
  dsimp only at hI7 hn7
  have hbb7 := hn7 _ (List.mem_of_getElem? (i := 0) rfl)
  have hbr7 := hn7 _ (List.mem_of_getElem? (i := 1) rfl)
  refine run_ret1 23 #[.agg #[sV bb7 3 3, iV 0, iV 1, iV 2, iV 2, sV br7 3 cap7]] (some 38) (.tuple #[iV 2, iV 2, iV 0]) (by kernel_rfl) (fun w1 k1 h1 => (by have h := Longest_any (smp rs3 bb7 br7 cap7)  w1 (smp_in (sp := sp7) (h1 (bb7, aO #[iV 0, iV 0, iV (-5), iV 5, iV (-5), iV 5] 23) (List.mem_of_getElem? (i := 0) (by kernel_rfl))) (h1 (br7, cO (rs3.flatMap rdR ++ sp7) 38) (List.mem_of_getElem? (i := 1) (by kernel_rfl))) (by decide)); rw [show longR (smp rs3 bb7 br7 cap7)  = .inr (2, 2) from by kernel_rfl] at h; exact h)) ?_
  refine run_auto [] 10 [] [] [0, 1, 2, 3, 4, 5, 6, 7, 8, 9] [2, 3, 4] (st' := ⟨[(0, .bool false), (1, pA b2), (2, iV 0), (3, pA b4), (4, iV 0), (5, pA b6), (6, iV 0), (7, iV 2), (8, iV 2), (9, iV 0)], [(b6, aO #[iV 5, iV 6] 23), (b4, aO #[iV (-4), iV (-2)] 23), (b2, aO #[iV 2, iV 4] 23)]⟩) (acc := []) (by kernel_rfl) (by kernel_rfl) trivial ?_
  refine run_nwl 12 #[.slice none 0 0] (some 43) (α := Nat × Nat × Nat × List Value) (fun x => .agg #[.slice (some ⟨(x.1), 0, none⟩) 3 3, iV 0, iV 1, iV 2, iV 2, .slice (some ⟨(x.2.1), 0, none⟩) 3 (x.2.2.1)]) (fun x => [((x.1), aO #[iV 0, iV 0, iV (-5), iV 5, iV (-5), iV 5] 23), ((x.2.1), cO (rs3.flatMap rdR ++ (x.2.2.2)) 38)]) (fun x => 3 ≤ (x.2.2.1)) (by kernel_rfl) (fun x p hp => by simp only [List.mem_cons, List.not_mem_nil, or_false] at hp; rcases hp with rfl | rfl <;> rfl) (fun w1 k1 h1 => sample0_any w1) (fun x hI8 hn8 => ?_)
  obtain ⟨bb8, br8, cap8, sp8⟩ := x
  dsimp only at hI8 hn8
  have hbb8 := hn8 _ (List.mem_of_getElem? (i := 0) rfl)
  have hbr8 := hn8 _ (List.mem_of_getElem? (i := 1) rfl)
  refine run_ret1 29 #[.agg #[sV bb8 3 3, iV 0, iV 1, iV 2, iV 2, sV br8 3 cap8]] (some 44) (.tuple #[iV 0, iV 1, iV 2, iV 0]) (by kernel_rfl) (fun w1 k1 h1 => (by have h := Least_any (smp rs3 bb8 br8 cap8)  w1 (smp_in (sp := sp8) (h1 (bb8, aO #[iV 0, iV 0, iV (-5), iV 5, iV (-5), iV 5] 23) (List.mem_of_getElem? (i := 0) (by kernel_rfl))) (h1 (br8, cO (rs3.flatMap rdR ++ sp8) 38) (List.mem_of_getElem? (i := 1) (by kernel_rfl))) (by decide)); rw [show leastR (smp rs3 bb8 br8 cap8)  = .inr ((0, 1), 2) from by kernel_rfl] at h; exact h)) ?_
  refine run_auto [] 12 [] [] [0, 1, 2, 3, 4, 5, 6, 7, 8, 9, 10, 11, 12, 13] [2, 3, 4] (st' := ⟨[(0, .bool false), (1, pA b2), (2, iV 0), (3, pA b4), (4, iV 0), (5, pA b6), (6, iV 0), (7, iV 2), (8, iV 2), (9, iV 0), (10, iV 0), (11, iV 1), (12, iV 2), (13, iV 0)], [(b6, aO #[iV 5, iV 6] 23), (b4, aO #[iV (-4), iV (-2)] 23), (b2, aO #[iV 2, iV 4] 23)]⟩) (acc := []) (by kernel_rfl) (by kernel_rfl) trivial ?_
  refine run_nwl 12 #[.slice none 0 0] (some 50) (α := Nat × Nat × Nat × List Value) (fun x => .agg #[.slice (some ⟨(x.1), 0, none⟩) 3 3, iV 0, iV 1, iV 2, iV 2, .slice (some ⟨(x.2.1), 0, none⟩) 3 (x.2.2.1)]) (fun x => [((x.1), aO #[iV 0, iV 0, iV (-5), iV 5, iV (-5), iV 5] 23), ((x.2.1), cO (rs3.flatMap rdR ++ (x.2.2.2)) 38)]) (fun x => 3 ≤ (x.2.2.1)) (by kernel_rfl) (fun x p hp => by simp only [List.mem_cons, List.not_mem_nil, or_false] at hp; rcases hp with rfl | rfl <;> rfl) (fun w1 k1 h1 => sample0_any w1) (fun x hI9 hn9 => ?_)
  obtain ⟨bb9, br9, cap9, sp9⟩ := x
  dsimp only at hI9 hn9
  have hbb9 := hn9 _ (List.mem_of_getElem? (i := 0) rfl)
  have hbr9 := hn9 _ (List.mem_of_getElem? (i := 1) rfl)
  refine run_ret1 15 #[.agg #[sV bb9 3 3, iV 0, iV 1, iV 2, iV 2, sV br9 3 cap9]] (some 51) (.tuple #[iV 1, iV 0]) (by kernel_rfl) (fun w1 k1 h1 => (by have h := Groups_any (smp rs3 bb9 br9 cap9)  w1 (smp_in (sp := sp9) (h1 (bb9, aO #[iV 0, iV 0, iV (-5), iV 5, iV (-5), iV 5] 23) (List.mem_of_getElem? (i := 0) (by kernel_rfl))) (h1 (br9, cO (rs3.flatMap rdR ++ sp9) 38) (List.mem_of_getElem? (i := 1) (by kernel_rfl))) (by decide)); rw [show groupsR (smp rs3 bb9 br9 cap9)  = .inr 1 from by kernel_rfl] at h; exact h)) ?_
  refine run_auto [] 8 [] [] [0, 1, 2, 3, 4, 5, 6, 7, 8, 9, 10, 11, 12, 13, 14, 15] [2, 3, 4] (st' := ⟨[(0, .bool false), (1, pA b2), (2, iV 0), (3, pA b4), (4, iV 0), (5, pA b6), (6, iV 0), (7, iV 2), (8, iV 2), (9, iV 0), (10, iV 0), (11, iV 1), (12, iV 2), (13, iV 0), (14, iV 1), (15, iV 0)], [(b6, aO #[iV 5, iV 6] 23), (b4, aO #[iV (-4), iV (-2)] 23), (b2, aO #[iV 2, iV 4] 23)]⟩) (acc := []) (by kernel_rfl) (by kernel_rfl) trivial ?_
  refine run_ret1 18 #[iV 2, iV 1, iV 0, iV 5, iV 5] (some 55) (.agg #[iV 2, iV 1, iV 0, iV 5, iV 5]) (by kernel_rfl) (fun w1 k1 h1 => read_any 2 1 0 5 5 w1) ?_
  refine run_new (aO #[iV 2, iV 1, iV 0, iV 5, iV 5] 38) (fun b10 => sV b10 1 1) (some 56) (fun _ => by kernel_rfl) (fun b10 hb10 => ?_)
  refine run_nwl 12 #[sV b10 1 1] (some 57) (α := Nat × Nat × Nat × List Value) (fun x => .agg #[.slice (some ⟨(x.1), 0, none⟩) 3 3, iV 0, iV 1, iV 2, iV 2, .slice (some ⟨(x.2.1), 0, none⟩) 4 (x.2.2.1)]) (fun x => [((x.1), aO #[iV 0, iV 0, iV (-5), iV 5, iV (-5), iV 5] 23), ((x.2.1), cO (rs4.flatMap rdR ++ (x.2.2.2)) 38)]) (fun x => 4 ≤ (x.2.2.1)) (by kernel_rfl) (fun x p hp => by simp only [List.mem_cons, List.not_mem_nil, or_false] at hp; rcases hp with rfl | rfl <;> rfl) (fun w1 k1 h1 => sample1_any b10 w1 (h1 (b10, aO #[iV 2, iV 1, iV 0, iV 5, iV 5] 38) (List.mem_of_getElem? (i := 0) (by kernel_rfl)))) (fun x hI11 hn11 => ?_)
  obtain ⟨bb11, br11, cap11, sp11⟩ := x
  dsimp only at hI11 hn11
  have hbb11 := hn11 _ (List.mem_of_getElem? (i := 0) rfl)
  have hbr11 := hn11 _ (List.mem_of_getElem? (i := 1) rfl)
  refine run_ret1 16 #[.agg #[sV bb11 3 3, iV 0, iV 1, iV 2, iV 2, sV br11 4 cap11]] (some 58) (.tuple #[iV 1, iV 8, iV 0]) (by kernel_rfl) (fun w1 k1 h1 => (by have h := Wrong_any (smp rs4 bb11 br11 cap11)  w1 (smp_in (sp := sp11) (h1 (bb11, aO #[iV 0, iV 0, iV (-5), iV 5, iV (-5), iV 5] 23) (List.mem_of_getElem? (i := 0) (by kernel_rfl))) (h1 (br11, cO (rs4.flatMap rdR ++ sp11) 38) (List.mem_of_getElem? (i := 1) (by kernel_rfl))) (by decide)); rw [show wrongR (smp rs4 bb11 br11 cap11)  = .inr 8 from by kernel_rfl] at h; exact h)) ?_
  refine run_auto [] 10 [] [] [0, 1, 2, 3, 4, 5, 6, 7, 8, 9, 10, 11, 12, 13, 14, 15, 16, 17, 18] [3, 4, 5] (st' := ⟨[(0, .bool false), (1, pA b2), (2, iV 0), (3, pA b4), (4, iV 0), (5, pA b6), (6, iV 0), (7, iV 2), (8, iV 2), (9, iV 0), (10, iV 0), (11, iV 1), (12, iV 2), (13, iV 0), (14, iV 1), (15, iV 0), (16, iV 1), (17, iV 8), (18, iV 0)], [(b6, aO #[iV 5, iV 6] 23), (b4, aO #[iV (-4), iV (-2)] 23), (b2, aO #[iV 2, iV 4] 23)]⟩) (acc := []) (by kernel_rfl) (by kernel_rfl) trivial ?_
  refine run_ret1 18 #[iV 2, iV 1, iV 0, iV 5, iV 5] (some 63) (.agg #[iV 2, iV 1, iV 0, iV 5, iV 5]) (by kernel_rfl) (fun w1 k1 h1 => read_any 2 1 0 5 5 w1) ?_
  refine run_new (aO #[iV 2, iV 1, iV 0, iV 5, iV 5] 38) (fun b12 => sV b12 1 1) (some 64) (fun _ => by kernel_rfl) (fun b12 hb12 => ?_)
  refine run_nwl 12 #[sV b12 1 1] (some 65) (α := Nat × Nat × Nat × List Value) (fun x => .agg #[.slice (some ⟨(x.1), 0, none⟩) 3 3, iV 0, iV 1, iV 2, iV 2, .slice (some ⟨(x.2.1), 0, none⟩) 4 (x.2.2.1)]) (fun x => [((x.1), aO #[iV 0, iV 0, iV (-5), iV 5, iV (-5), iV 5] 23), ((x.2.1), cO (rs4.flatMap rdR ++ (x.2.2.2)) 38)]) (fun x => 4 ≤ (x.2.2.1)) (by kernel_rfl) (fun x p hp => by simp only [List.mem_cons, List.not_mem_nil, or_false] at hp; rcases hp with rfl | rfl <;> rfl) (fun w1 k1 h1 => sample1_any b12 w1 (h1 (b12, aO #[iV 2, iV 1, iV 0, iV 5, iV 5] 38) (List.mem_of_getElem? (i := 0) (by kernel_rfl)))) (fun x hI13 hn13 => ?_)
  obtain ⟨bb13, br13, cap13, sp13⟩ := x
  dsimp only at hI13 hn13
  have hbb13 := hn13 _ (List.mem_of_getElem? (i := 0) rfl)
  have hbr13 := hn13 _ (List.mem_of_getElem? (i := 1) rfl)
  refine run_ret1 17 #[.agg #[sV bb13 3 3, iV 0, iV 1, iV 2, iV 2, sV br13 4 cap13]] (some 66) (.tuple #[iV 9, iV 0]) (by kernel_rfl) (fun w1 k1 h1 => (by have h := Clash_any (smp rs4 bb13 br13 cap13)  w1 (smp_in (sp := sp13) (h1 (bb13, aO #[iV 0, iV 0, iV (-5), iV 5, iV (-5), iV 5] 23) (List.mem_of_getElem? (i := 0) (by kernel_rfl))) (h1 (br13, cO (rs4.flatMap rdR ++ sp13) 38) (List.mem_of_getElem? (i := 1) (by kernel_rfl))) (by decide)); rw [show clashR (smp rs4 bb13 br13 cap13)  = .inr 9 from by kernel_rfl] at h; exact h)) ?_
  refine run_auto [] 7 [] [] [0, 1, 2, 3, 4, 5, 6, 7, 8, 9, 10, 11, 12, 13, 14, 15, 16, 17, 18, 19, 20] [3, 4, 5] (st' := ⟨[(0, .bool false), (1, pA b2), (2, iV 0), (3, pA b4), (4, iV 0), (5, pA b6), (6, iV 0), (7, iV 2), (8, iV 2), (9, iV 0), (10, iV 0), (11, iV 1), (12, iV 2), (13, iV 0), (14, iV 1), (15, iV 0), (16, iV 1), (17, iV 8), (18, iV 0), (19, iV 9), (20, iV 0)], [(b6, aO #[iV 5, iV 6] 23), (b4, aO #[iV (-4), iV (-2)] 23), (b2, aO #[iV 2, iV 4] 23)]⟩) (acc := []) (by kernel_rfl) (by kernel_rfl) trivial ?_
  refine drawW 82 [{ val := fun _ => .agg #[iV 2, iV 4], slots := [1], reads := [2] },
      { val := fun _ => .agg #[iV 2, iV 4] },
      { val := fun _ => .bool true, slots := [69, 70] },
      { val := fun _ => .bool true, slots := [71] },
      { val := fun _ => iV 0, slots := [2, 72] },
      { val := fun _ => .bool true, slots := [72, 73] },
      { val := fun _ => .bool true, slots := [72, 74] },
      { val := fun _ => .bool true, slots := [75] },
      { val := fun _ => .agg #[iV (-4), iV (-2)], slots := [3, 76], reads := [1] },
      { val := fun _ => .agg #[iV (-4), iV (-2)], slots := [76] },
      { val := fun _ => .bool true, slots := [76, 77, 78] },
      { val := fun _ => .bool true, slots := [76, 79] },
      { val := fun _ => .bool true, slots := [80] },
      { val := fun _ => iV 0, slots := [4, 81] },
      { val := fun _ => .bool true, slots := [81, 82] },
      { val := fun _ => .bool true, slots := [81, 83] },
      { val := fun _ => .bool true, slots := [84] },
      { val := fun _ => .agg #[iV 5, iV 6], slots := [5, 85], reads := [0] },
      { val := fun _ => .agg #[iV 5, iV 6], slots := [85] },
      { val := fun _ => .bool true, slots := [85, 86, 87] },
      { val := fun _ => .bool true, slots := [85, 88] },
      { val := fun _ => .bool true, slots := [89] },
      { val := fun _ => iV 0, slots := [6, 90] },
      { val := fun _ => .bool true, slots := [90, 91] },
      { val := fun _ => .bool true, slots := [90, 92] },
      { val := fun _ => .bool true, slots := [93] },
      { val := fun _ => iV 2, slots := [7, 94] },
      { val := fun _ => .bool true, slots := [94, 95] },
      { val := fun _ => .bool true, slots := [94, 96] },
      { val := fun _ => .bool true, slots := [97] },
      { val := fun _ => iV 2, slots := [8, 98] },
      { val := fun _ => .bool true, slots := [98, 99] },
      { val := fun _ => .bool true, slots := [98, 100] },
      { val := fun _ => .bool true, slots := [101] },
      { val := fun _ => iV 0, slots := [9, 102] },
      { val := fun _ => .bool true, slots := [102, 103] },
      { val := fun _ => .bool true, slots := [102, 104] },
      { val := fun _ => .bool true, slots := [105] },
      { val := fun _ => iV 0, slots := [10, 106] },
      { val := fun _ => .bool true, slots := [106, 107] },
      { val := fun _ => .bool true, slots := [106, 108] },
      { val := fun _ => .bool true, slots := [109] },
      { val := fun _ => iV 1, slots := [11, 110] },
      { val := fun _ => .bool true, slots := [110, 111] },
      { val := fun _ => .bool true, slots := [110, 112] },
      { val := fun _ => .bool true, slots := [113] },
      { val := fun _ => iV 2, slots := [12, 114] },
      { val := fun _ => .bool true, slots := [114, 115] },
      { val := fun _ => .bool true, slots := [114, 116] },
      { val := fun _ => .bool true, slots := [117] },
      { val := fun _ => iV 0, slots := [13, 118] },
      { val := fun _ => .bool true, slots := [118, 119] },
      { val := fun _ => .bool true, slots := [118, 120] },
      { val := fun _ => .bool true, slots := [121] },
      { val := fun _ => iV 1, slots := [14, 122] },
      { val := fun _ => .bool true, slots := [122, 123] },
      { val := fun _ => .bool true, slots := [122, 124] },
      { val := fun _ => .bool true, slots := [125] },
      { val := fun _ => iV 0, slots := [15, 126] },
      { val := fun _ => .bool true, slots := [126, 127] },
      { val := fun _ => .bool true, slots := [126, 128] },
      { val := fun _ => .bool true, slots := [129] },
      { val := fun _ => iV 1, slots := [16, 130] },
      { val := fun _ => .bool true, slots := [130, 131] },
      { val := fun _ => .bool true, slots := [130, 132] },
      { val := fun _ => .bool true, slots := [133] },
      { val := fun _ => iV 8, slots := [17, 134] },
      { val := fun _ => .bool true, slots := [134, 135] },
      { val := fun _ => .bool true, slots := [134, 136] },
      { val := fun _ => .bool true, slots := [137] },
      { val := fun _ => iV 0, slots := [18, 138] },
      { val := fun _ => .bool true, slots := [138, 139] },
      { val := fun _ => .bool true, slots := [138, 140] },
      { val := fun _ => .bool true, slots := [141] },
      { val := fun _ => iV 9, slots := [19, 142] },
      { val := fun _ => .bool true, slots := [142, 143] },
      { val := fun _ => .bool true, slots := [142, 144] },
      { val := fun _ => .bool true, slots := [145] },
      { val := fun _ => iV 0, slots := [20, 146] },
      { val := fun _ => .bool true, slots := [146, 147] },
      { val := fun _ => .bool true, slots := [146, 148] },
      { val := fun _ => .bool true, slots := [149] }] [[], [], [0, 1], [0, 1, 2], [0, 1, 2, 3], [0, 1, 2, 3, 4], [0, 1, 2, 3, 4, 5], [0, 1, 2, 3, 4, 5, 6], [0, 1, 2, 3, 4, 5, 6, 7], [0, 1, 2, 3, 4, 5, 6, 7], [0, 1, 2, 3, 4, 5, 6, 7, 8, 9], [0, 1, 2, 3, 4, 5, 6, 7, 8, 9, 10], [0, 1, 2, 3, 4, 5, 6, 7, 8, 9, 10, 11], [0, 1, 2, 3, 4, 5, 6, 7, 8, 9, 10, 11, 12], [0, 1, 2, 3, 4, 5, 6, 7, 8, 9, 10, 11, 12, 13], [0, 1, 2, 3, 4, 5, 6, 7, 8, 9, 10, 11, 12, 13, 14], [0, 1, 2, 3, 4, 5, 6, 7, 8, 9, 10, 11, 12, 13, 14, 15], [0, 1, 2, 3, 4, 5, 6, 7, 8, 9, 10, 11, 12, 13, 14, 15, 16], [0, 1, 2, 3, 4, 5, 6, 7, 8, 9, 10, 11, 12, 13, 14, 15, 16], [0, 1, 2, 3, 4, 5, 6, 7, 8, 9, 10, 11, 12, 13, 14, 15, 16, 17, 18], [0, 1, 2, 3, 4, 5, 6, 7, 8, 9, 10, 11, 12, 13, 14, 15, 16, 17, 18, 19], [0, 1, 2, 3, 4, 5, 6, 7, 8, 9, 10, 11, 12, 13, 14, 15, 16, 17, 18, 19, 20], [0, 1, 2, 3, 4, 5, 6, 7, 8, 9, 10, 11, 12, 13, 14, 15, 16, 17, 18, 19, 20, 21], [0, 1, 2, 3, 4, 5, 6, 7, 8, 9, 10, 11, 12, 13, 14, 15, 16, 17, 18, 19, 20, 21, 22], [0, 1, 2, 3, 4, 5, 6, 7, 8, 9, 10, 11, 12, 13, 14, 15, 16, 17, 18, 19, 20, 21, 22, 23], [0, 1, 2, 3, 4, 5, 6, 7, 8, 9, 10, 11, 12, 13, 14, 15, 16, 17, 18, 19, 20, 21, 22, 23, 24], [0, 1, 2, 3, 4, 5, 6, 7, 8, 9, 10, 11, 12, 13, 14, 15, 16, 17, 18, 19, 20, 21, 22, 23, 24, 25], [0, 1, 2, 3, 4, 5, 6, 7, 8, 9, 10, 11, 12, 13, 14, 15, 16, 17, 18, 19, 20, 21, 22, 23, 24, 25, 26], [0, 1, 2, 3, 4, 5, 6, 7, 8, 9, 10, 11, 12, 13, 14, 15, 16, 17, 18, 19, 20, 21, 22, 23, 24, 25, 26, 27], [0, 1, 2, 3, 4, 5, 6, 7, 8, 9, 10, 11, 12, 13, 14, 15, 16, 17, 18, 19, 20, 21, 22, 23, 24, 25, 26, 27, 28], [0, 1, 2, 3, 4, 5, 6, 7, 8, 9, 10, 11, 12, 13, 14, 15, 16, 17, 18, 19, 20, 21, 22, 23, 24, 25, 26, 27, 28, 29], [0, 1, 2, 3, 4, 5, 6, 7, 8, 9, 10, 11, 12, 13, 14, 15, 16, 17, 18, 19, 20, 21, 22, 23, 24, 25, 26, 27, 28, 29, 30], [0, 1, 2, 3, 4, 5, 6, 7, 8, 9, 10, 11, 12, 13, 14, 15, 16, 17, 18, 19, 20, 21, 22, 23, 24, 25, 26, 27, 28, 29, 30, 31], [0, 1, 2, 3, 4, 5, 6, 7, 8, 9, 10, 11, 12, 13, 14, 15, 16, 17, 18, 19, 20, 21, 22, 23, 24, 25, 26, 27, 28, 29, 30, 31, 32], [0, 1, 2, 3, 4, 5, 6, 7, 8, 9, 10, 11, 12, 13, 14, 15, 16, 17, 18, 19, 20, 21, 22, 23, 24, 25, 26, 27, 28, 29, 30, 31, 32, 33], [0, 1, 2, 3, 4, 5, 6, 7, 8, 9, 10, 11, 12, 13, 14, 15, 16, 17, 18, 19, 20, 21, 22, 23, 24, 25, 26, 27, 28, 29, 30, 31, 32, 33, 34], [0, 1, 2, 3, 4, 5, 6, 7, 8, 9, 10, 11, 12, 13, 14, 15, 16, 17, 18, 19, 20, 21, 22, 23, 24, 25, 26, 27, 28, 29, 30, 31, 32, 33, 34, 35], [0, 1, 2, 3, 4, 5, 6, 7, 8, 9, 10, 11, 12, 13, 14, 15, 16, 17, 18, 19, 20, 21, 22, 23, 24, 25, 26, 27, 28, 29, 30, 31, 32, 33, 34, 35, 36], [0, 1, 2, 3, 4, 5, 6, 7, 8, 9, 10, 11, 12, 13, 14, 15, 16, 17, 18, 19, 20, 21, 22, 23, 24, 25, 26, 27, 28, 29, 30, 31, 32, 33, 34, 35, 36, 37], [0, 1, 2, 3, 4, 5, 6, 7, 8, 9, 10, 11, 12, 13, 14, 15, 16, 17, 18, 19, 20, 21, 22, 23, 24, 25, 26, 27, 28, 29, 30, 31, 32, 33, 34, 35, 36, 37, 38], [0, 1, 2, 3, 4, 5, 6, 7, 8, 9, 10, 11, 12, 13, 14, 15, 16, 17, 18, 19, 20, 21, 22, 23, 24, 25, 26, 27, 28, 29, 30, 31, 32, 33, 34, 35, 36, 37, 38, 39], [0, 1, 2, 3, 4, 5, 6, 7, 8, 9, 10, 11, 12, 13, 14, 15, 16, 17, 18, 19, 20, 21, 22, 23, 24, 25, 26, 27, 28, 29, 30, 31, 32, 33, 34, 35, 36, 37, 38, 39, 40], [0, 1, 2, 3, 4, 5, 6, 7, 8, 9, 10, 11, 12, 13, 14, 15, 16, 17, 18, 19, 20, 21, 22, 23, 24, 25, 26, 27, 28, 29, 30, 31, 32, 33, 34, 35, 36, 37, 38, 39, 40, 41], [0, 1, 2, 3, 4, 5, 6, 7, 8, 9, 10, 11, 12, 13, 14, 15, 16, 17, 18, 19, 20, 21, 22, 23, 24, 25, 26, 27, 28, 29, 30, 31, 32, 33, 34, 35, 36, 37, 38, 39, 40, 41, 42], [0, 1, 2, 3, 4, 5, 6, 7, 8, 9, 10, 11, 12, 13, 14, 15, 16, 17, 18, 19, 20, 21, 22, 23, 24, 25, 26, 27, 28, 29, 30, 31, 32, 33, 34, 35, 36, 37, 38, 39, 40, 41, 42, 43], [0, 1, 2, 3, 4, 5, 6, 7, 8, 9, 10, 11, 12, 13, 14, 15, 16, 17, 18, 19, 20, 21, 22, 23, 24, 25, 26, 27, 28, 29, 30, 31, 32, 33, 34, 35, 36, 37, 38, 39, 40, 41, 42, 43, 44], [0, 1, 2, 3, 4, 5, 6, 7, 8, 9, 10, 11, 12, 13, 14, 15, 16, 17, 18, 19, 20, 21, 22, 23, 24, 25, 26, 27, 28, 29, 30, 31, 32, 33, 34, 35, 36, 37, 38, 39, 40, 41, 42, 43, 44, 45], [0, 1, 2, 3, 4, 5, 6, 7, 8, 9, 10, 11, 12, 13, 14, 15, 16, 17, 18, 19, 20, 21, 22, 23, 24, 25, 26, 27, 28, 29, 30, 31, 32, 33, 34, 35, 36, 37, 38, 39, 40, 41, 42, 43, 44, 45, 46], [0, 1, 2, 3, 4, 5, 6, 7, 8, 9, 10, 11, 12, 13, 14, 15, 16, 17, 18, 19, 20, 21, 22, 23, 24, 25, 26, 27, 28, 29, 30, 31, 32, 33, 34, 35, 36, 37, 38, 39, 40, 41, 42, 43, 44, 45, 46, 47], [0, 1, 2, 3, 4, 5, 6, 7, 8, 9, 10, 11, 12, 13, 14, 15, 16, 17, 18, 19, 20, 21, 22, 23, 24, 25, 26, 27, 28, 29, 30, 31, 32, 33, 34, 35, 36, 37, 38, 39, 40, 41, 42, 43, 44, 45, 46, 47, 48], [0, 1, 2, 3, 4, 5, 6, 7, 8, 9, 10, 11, 12, 13, 14, 15, 16, 17, 18, 19, 20, 21, 22, 23, 24, 25, 26, 27, 28, 29, 30, 31, 32, 33, 34, 35, 36, 37, 38, 39, 40, 41, 42, 43, 44, 45, 46, 47, 48, 49], [0, 1, 2, 3, 4, 5, 6, 7, 8, 9, 10, 11, 12, 13, 14, 15, 16, 17, 18, 19, 20, 21, 22, 23, 24, 25, 26, 27, 28, 29, 30, 31, 32, 33, 34, 35, 36, 37, 38, 39, 40, 41, 42, 43, 44, 45, 46, 47, 48, 49, 50], [0, 1, 2, 3, 4, 5, 6, 7, 8, 9, 10, 11, 12, 13, 14, 15, 16, 17, 18, 19, 20, 21, 22, 23, 24, 25, 26, 27, 28, 29, 30, 31, 32, 33, 34, 35, 36, 37, 38, 39, 40, 41, 42, 43, 44, 45, 46, 47, 48, 49, 50, 51], [0, 1, 2, 3, 4, 5, 6, 7, 8, 9, 10, 11, 12, 13, 14, 15, 16, 17, 18, 19, 20, 21, 22, 23, 24, 25, 26, 27, 28, 29, 30, 31, 32, 33, 34, 35, 36, 37, 38, 39, 40, 41, 42, 43, 44, 45, 46, 47, 48, 49, 50, 51, 52], [0, 1, 2, 3, 4, 5, 6, 7, 8, 9, 10, 11, 12, 13, 14, 15, 16, 17, 18, 19, 20, 21, 22, 23, 24, 25, 26, 27, 28, 29, 30, 31, 32, 33, 34, 35, 36, 37, 38, 39, 40, 41, 42, 43, 44, 45, 46, 47, 48, 49, 50, 51, 52, 53], [0, 1, 2, 3, 4, 5, 6, 7, 8, 9, 10, 11, 12, 13, 14, 15, 16, 17, 18, 19, 20, 21, 22, 23, 24, 25, 26, 27, 28, 29, 30, 31, 32, 33, 34, 35, 36, 37, 38, 39, 40, 41, 42, 43, 44, 45, 46, 47, 48, 49, 50, 51, 52, 53, 54], [0, 1, 2, 3, 4, 5, 6, 7, 8, 9, 10, 11, 12, 13, 14, 15, 16, 17, 18, 19, 20, 21, 22, 23, 24, 25, 26, 27, 28, 29, 30, 31, 32, 33, 34, 35, 36, 37, 38, 39, 40, 41, 42, 43, 44, 45, 46, 47, 48, 49, 50, 51, 52, 53, 54, 55], [0, 1, 2, 3, 4, 5, 6, 7, 8, 9, 10, 11, 12, 13, 14, 15, 16, 17, 18, 19, 20, 21, 22, 23, 24, 25, 26, 27, 28, 29, 30, 31, 32, 33, 34, 35, 36, 37, 38, 39, 40, 41, 42, 43, 44, 45, 46, 47, 48, 49, 50, 51, 52, 53, 54, 55, 56], [0, 1, 2, 3, 4, 5, 6, 7, 8, 9, 10, 11, 12, 13, 14, 15, 16, 17, 18, 19, 20, 21, 22, 23, 24, 25, 26, 27, 28, 29, 30, 31, 32, 33, 34, 35, 36, 37, 38, 39, 40, 41, 42, 43, 44, 45, 46, 47, 48, 49, 50, 51, 52, 53, 54, 55, 56, 57], [0, 1, 2, 3, 4, 5, 6, 7, 8, 9, 10, 11, 12, 13, 14, 15, 16, 17, 18, 19, 20, 21, 22, 23, 24, 25, 26, 27, 28, 29, 30, 31, 32, 33, 34, 35, 36, 37, 38, 39, 40, 41, 42, 43, 44, 45, 46, 47, 48, 49, 50, 51, 52, 53, 54, 55, 56, 57, 58], [0, 1, 2, 3, 4, 5, 6, 7, 8, 9, 10, 11, 12, 13, 14, 15, 16, 17, 18, 19, 20, 21, 22, 23, 24, 25, 26, 27, 28, 29, 30, 31, 32, 33, 34, 35, 36, 37, 38, 39, 40, 41, 42, 43, 44, 45, 46, 47, 48, 49, 50, 51, 52, 53, 54, 55, 56, 57, 58, 59], [0, 1, 2, 3, 4, 5, 6, 7, 8, 9, 10, 11, 12, 13, 14, 15, 16, 17, 18, 19, 20, 21, 22, 23, 24, 25, 26, 27, 28, 29, 30, 31, 32, 33, 34, 35, 36, 37, 38, 39, 40, 41, 42, 43, 44, 45, 46, 47, 48, 49, 50, 51, 52, 53, 54, 55, 56, 57, 58, 59, 60], [0, 1, 2, 3, 4, 5, 6, 7, 8, 9, 10, 11, 12, 13, 14, 15, 16, 17, 18, 19, 20, 21, 22, 23, 24, 25, 26, 27, 28, 29, 30, 31, 32, 33, 34, 35, 36, 37, 38, 39, 40, 41, 42, 43, 44, 45, 46, 47, 48, 49, 50, 51, 52, 53, 54, 55, 56, 57, 58, 59, 60, 61], [0, 1, 2, 3, 4, 5, 6, 7, 8, 9, 10, 11, 12, 13, 14, 15, 16, 17, 18, 19, 20, 21, 22, 23, 24, 25, 26, 27, 28, 29, 30, 31, 32, 33, 34, 35, 36, 37, 38, 39, 40, 41, 42, 43, 44, 45, 46, 47, 48, 49, 50, 51, 52, 53, 54, 55, 56, 57, 58, 59, 60, 61, 62], [0, 1, 2, 3, 4, 5, 6, 7, 8, 9, 10, 11, 12, 13, 14, 15, 16, 17, 18, 19, 20, 21, 22, 23, 24, 25, 26, 27, 28, 29, 30, 31, 32, 33, 34, 35, 36, 37, 38, 39, 40, 41, 42, 43, 44, 45, 46, 47, 48, 49, 50, 51, 52, 53, 54, 55, 56, 57, 58, 59, 60, 61, 62, 63], [0, 1, 2, 3, 4, 5, 6, 7, 8, 9, 10, 11, 12, 13, 14, 15, 16, 17, 18, 19, 20, 21, 22, 23, 24, 25, 26, 27, 28, 29, 30, 31, 32, 33, 34, 35, 36, 37, 38, 39, 40, 41, 42, 43, 44, 45, 46, 47, 48, 49, 50, 51, 52, 53, 54, 55, 56, 57, 58, 59, 60, 61, 62, 63, 64], [0, 1, 2, 3, 4, 5, 6, 7, 8, 9, 10, 11, 12, 13, 14, 15, 16, 17, 18, 19, 20, 21, 22, 23, 24, 25, 26, 27, 28, 29, 30, 31, 32, 33, 34, 35, 36, 37, 38, 39, 40, 41, 42, 43, 44, 45, 46, 47, 48, 49, 50, 51, 52, 53, 54, 55, 56, 57, 58, 59, 60, 61, 62, 63, 64, 65], [0, 1, 2, 3, 4, 5, 6, 7, 8, 9, 10, 11, 12, 13, 14, 15, 16, 17, 18, 19, 20, 21, 22, 23, 24, 25, 26, 27, 28, 29, 30, 31, 32, 33, 34, 35, 36, 37, 38, 39, 40, 41, 42, 43, 44, 45, 46, 47, 48, 49, 50, 51, 52, 53, 54, 55, 56, 57, 58, 59, 60, 61, 62, 63, 64, 65, 66], [0, 1, 2, 3, 4, 5, 6, 7, 8, 9, 10, 11, 12, 13, 14, 15, 16, 17, 18, 19, 20, 21, 22, 23, 24, 25, 26, 27, 28, 29, 30, 31, 32, 33, 34, 35, 36, 37, 38, 39, 40, 41, 42, 43, 44, 45, 46, 47, 48, 49, 50, 51, 52, 53, 54, 55, 56, 57, 58, 59, 60, 61, 62, 63, 64, 65, 66, 67], [0, 1, 2, 3, 4, 5, 6, 7, 8, 9, 10, 11, 12, 13, 14, 15, 16, 17, 18, 19, 20, 21, 22, 23, 24, 25, 26, 27, 28, 29, 30, 31, 32, 33, 34, 35, 36, 37, 38, 39, 40, 41, 42, 43, 44, 45, 46, 47, 48, 49, 50, 51, 52, 53, 54, 55, 56, 57, 58, 59, 60, 61, 62, 63, 64, 65, 66, 67, 68], [0, 1, 2, 3, 4, 5, 6, 7, 8, 9, 10, 11, 12, 13, 14, 15, 16, 17, 18, 19, 20, 21, 22, 23, 24, 25, 26, 27, 28, 29, 30, 31, 32, 33, 34, 35, 36, 37, 38, 39, 40, 41, 42, 43, 44, 45, 46, 47, 48, 49, 50, 51, 52, 53, 54, 55, 56, 57, 58, 59, 60, 61, 62, 63, 64, 65, 66, 67, 68, 69], [0, 1, 2, 3, 4, 5, 6, 7, 8, 9, 10, 11, 12, 13, 14, 15, 16, 17, 18, 19, 20, 21, 22, 23, 24, 25, 26, 27, 28, 29, 30, 31, 32, 33, 34, 35, 36, 37, 38, 39, 40, 41, 42, 43, 44, 45, 46, 47, 48, 49, 50, 51, 52, 53, 54, 55, 56, 57, 58, 59, 60, 61, 62, 63, 64, 65, 66, 67, 68, 69, 70], [0, 1, 2, 3, 4, 5, 6, 7, 8, 9, 10, 11, 12, 13, 14, 15, 16, 17, 18, 19, 20, 21, 22, 23, 24, 25, 26, 27, 28, 29, 30, 31, 32, 33, 34, 35, 36, 37, 38, 39, 40, 41, 42, 43, 44, 45, 46, 47, 48, 49, 50, 51, 52, 53, 54, 55, 56, 57, 58, 59, 60, 61, 62, 63, 64, 65, 66, 67, 68, 69, 70, 71], [0, 1, 2, 3, 4, 5, 6, 7, 8, 9, 10, 11, 12, 13, 14, 15, 16, 17, 18, 19, 20, 21, 22, 23, 24, 25, 26, 27, 28, 29, 30, 31, 32, 33, 34, 35, 36, 37, 38, 39, 40, 41, 42, 43, 44, 45, 46, 47, 48, 49, 50, 51, 52, 53, 54, 55, 56, 57, 58, 59, 60, 61, 62, 63, 64, 65, 66, 67, 68, 69, 70, 71, 72], [0, 1, 2, 3, 4, 5, 6, 7, 8, 9, 10, 11, 12, 13, 14, 15, 16, 17, 18, 19, 20, 21, 22, 23, 24, 25, 26, 27, 28, 29, 30, 31, 32, 33, 34, 35, 36, 37, 38, 39, 40, 41, 42, 43, 44, 45, 46, 47, 48, 49, 50, 51, 52, 53, 54, 55, 56, 57, 58, 59, 60, 61, 62, 63, 64, 65, 66, 67, 68, 69, 70, 71, 72, 73], [0, 1, 2, 3, 4, 5, 6, 7, 8, 9, 10, 11, 12, 13, 14, 15, 16, 17, 18, 19, 20, 21, 22, 23, 24, 25, 26, 27, 28, 29, 30, 31, 32, 33, 34, 35, 36, 37, 38, 39, 40, 41, 42, 43, 44, 45, 46, 47, 48, 49, 50, 51, 52, 53, 54, 55, 56, 57, 58, 59, 60, 61, 62, 63, 64, 65, 66, 67, 68, 69, 70, 71, 72, 73, 74], [0, 1, 2, 3, 4, 5, 6, 7, 8, 9, 10, 11, 12, 13, 14, 15, 16, 17, 18, 19, 20, 21, 22, 23, 24, 25, 26, 27, 28, 29, 30, 31, 32, 33, 34, 35, 36, 37, 38, 39, 40, 41, 42, 43, 44, 45, 46, 47, 48, 49, 50, 51, 52, 53, 54, 55, 56, 57, 58, 59, 60, 61, 62, 63, 64, 65, 66, 67, 68, 69, 70, 71, 72, 73, 74, 75], [0, 1, 2, 3, 4, 5, 6, 7, 8, 9, 10, 11, 12, 13, 14, 15, 16, 17, 18, 19, 20, 21, 22, 23, 24, 25, 26, 27, 28, 29, 30, 31, 32, 33, 34, 35, 36, 37, 38, 39, 40, 41, 42, 43, 44, 45, 46, 47, 48, 49, 50, 51, 52, 53, 54, 55, 56, 57, 58, 59, 60, 61, 62, 63, 64, 65, 66, 67, 68, 69, 70, 71, 72, 73, 74, 75, 76], [0, 1, 2, 3, 4, 5, 6, 7, 8, 9, 10, 11, 12, 13, 14, 15, 16, 17, 18, 19, 20, 21, 22, 23, 24, 25, 26, 27, 28, 29, 30, 31, 32, 33, 34, 35, 36, 37, 38, 39, 40, 41, 42, 43, 44, 45, 46, 47, 48, 49, 50, 51, 52, 53, 54, 55, 56, 57, 58, 59, 60, 61, 62, 63, 64, 65, 66, 67, 68, 69, 70, 71, 72, 73, 74, 75, 76, 77], [0, 1, 2, 3, 4, 5, 6, 7, 8, 9, 10, 11, 12, 13, 14, 15, 16, 17, 18, 19, 20, 21, 22, 23, 24, 25, 26, 27, 28, 29, 30, 31, 32, 33, 34, 35, 36, 37, 38, 39, 40, 41, 42, 43, 44, 45, 46, 47, 48, 49, 50, 51, 52, 53, 54, 55, 56, 57, 58, 59, 60, 61, 62, 63, 64, 65, 66, 67, 68, 69, 70, 71, 72, 73, 74, 75, 76, 77, 78], [0, 1, 2, 3, 4, 5, 6, 7, 8, 9, 10, 11, 12, 13, 14, 15, 16, 17, 18, 19, 20, 21, 22, 23, 24, 25, 26, 27, 28, 29, 30, 31, 32, 33, 34, 35, 36, 37, 38, 39, 40, 41, 42, 43, 44, 45, 46, 47, 48, 49, 50, 51, 52, 53, 54, 55, 56, 57, 58, 59, 60, 61, 62, 63, 64, 65, 66, 67, 68, 69, 70, 71, 72, 73, 74, 75, 76, 77, 78, 79], [0, 1, 2, 3, 4, 5, 6, 7, 8, 9, 10, 11, 12, 13, 14, 15, 16, 17, 18, 19, 20, 21, 22, 23, 24, 25, 26, 27, 28, 29, 30, 31, 32, 33, 34, 35, 36, 37, 38, 39, 40, 41, 42, 43, 44, 45, 46, 47, 48, 49, 50, 51, 52, 53, 54, 55, 56, 57, 58, 59, 60, 61, 62, 63, 64, 65, 66, 67, 68, 69, 70, 71, 72, 73, 74, 75, 76, 77, 78, 79, 80]] (by kernel_rfl) (by kernel_rfl) (by kernel_rfl) (by kernel_rfl) [0] [] (by kernel_rfl)
      ⟨⟨⟨⟨⟨⟨⟨⟨⟨⟨⟨⟨⟨⟨⟨⟨⟨⟨⟨⟨⟨⟨⟨⟨⟨⟨⟨⟨⟨⟨⟨⟨⟨⟨⟨⟨⟨⟨⟨⟨⟨⟨⟨⟨⟨⟨⟨⟨⟨⟨⟨⟨⟨⟨⟨⟨⟨⟨⟨⟨⟨⟨⟨⟨⟨⟨⟨⟨⟨⟨⟨⟨⟨⟨⟨⟨⟨⟨⟨⟨⟨⟨trivial,
      tri_quietW (fun β => []) [0] [0] (fun β => [(pA b2, pA b2)]) (by kernel_rfl) (fun β extra => by kernel_rfl) (by kernel_rfl) (fun β => ⟨rfl, trivial⟩)⟩,
      tri_callVW (fun β => .agg #[iV 2, iV 4]) (fun β => by kernel_rfl) 20 (fun β => #[iV 2, iV 4]) (by kernel_rfl) (fun β extra => by kernel_rfl) (fun β => by kernel_rfl) (fun β w1 k1 h1 => span_any 2 4 w1)⟩,
      tri_vVW (fun β => .bool true) (fun β => by kernel_rfl) (fun β => ((do eqGuard .eql 23 (.tmp 69) (.tmp 70) (.agg #[iV 2, iV 4]) (.agg #[iV 2, iV 4]); binOp .eql 23 (.agg #[iV 2, iV 4]) (.agg #[iV 2, iV 4])) >>= fun v => pure (Next.value v))) (by kernel_rfl) (fun β extra => by kernel_rfl) (fun β => by kernel_rfl) (fun β w1 k1 h1 => eql_span (.tmp 69) (.tmp 70) 2 4 2 4 w1)⟩,
      tri_quietW (fun β => []) [] [] (fun β => []) (by kernel_rfl) (fun β extra => by kernel_rfl) (by kernel_rfl) (fun β => trivial)⟩,
      tri_quietW (fun β => []) [] [] (fun β => []) (by kernel_rfl) (fun β extra => by kernel_rfl) (by kernel_rfl) (fun β => trivial)⟩,
      tri_quietW (fun β => [(74, .bool true)]) [] [] (fun β => [(.bool true, .bool true)]) (by kernel_rfl) (fun β extra => by kernel_rfl) (by kernel_rfl) (fun β => ⟨rfl, trivial⟩)⟩,
      tri_quietW (fun β => []) [] [] (fun β => []) (by kernel_rfl) (fun β extra => by kernel_rfl) (by kernel_rfl) (fun β => trivial)⟩,
      tri_quietW (fun β => []) [] [] (fun β => []) (by kernel_rfl) (fun β extra => by kernel_rfl) (by kernel_rfl) (fun β => trivial)⟩,
      tri_quietW (fun β => []) [0] [0] (fun β => [(pA b4, pA b4)]) (by kernel_rfl) (fun β extra => by kernel_rfl) (by kernel_rfl) (fun β => ⟨rfl, trivial⟩)⟩,
      tri_callVW (fun β => .agg #[iV (-4), iV (-2)]) (fun β => by kernel_rfl) 20 (fun β => #[iV (-4), iV (-2)]) (by kernel_rfl) (fun β extra => by kernel_rfl) (fun β => by kernel_rfl) (fun β w1 k1 h1 => span_any (-4) (-2) w1)⟩,
      tri_vVW (fun β => .bool true) (fun β => by kernel_rfl) (fun β => ((do eqGuard .eql 23 (.tmp 77) (.tmp 78) (.agg #[iV (-4), iV (-2)]) (.agg #[iV (-4), iV (-2)]); binOp .eql 23 (.agg #[iV (-4), iV (-2)]) (.agg #[iV (-4), iV (-2)])) >>= fun v => pure (Next.value v))) (by kernel_rfl) (fun β extra => by kernel_rfl) (fun β => by kernel_rfl) (fun β w1 k1 h1 => eql_span (.tmp 77) (.tmp 78) (-4) (-2) (-4) (-2) w1)⟩,
      tri_quietW (fun β => []) [] [] (fun β => []) (by kernel_rfl) (fun β extra => by kernel_rfl) (by kernel_rfl) (fun β => trivial)⟩,
      tri_quietW (fun β => []) [] [] (fun β => []) (by kernel_rfl) (fun β extra => by kernel_rfl) (by kernel_rfl) (fun β => trivial)⟩,
      tri_quietW (fun β => []) [] [] (fun β => []) (by kernel_rfl) (fun β extra => by kernel_rfl) (by kernel_rfl) (fun β => trivial)⟩,
      tri_quietW (fun β => [(83, .bool true)]) [] [] (fun β => [(.bool true, .bool true)]) (by kernel_rfl) (fun β extra => by kernel_rfl) (by kernel_rfl) (fun β => ⟨rfl, trivial⟩)⟩,
      tri_quietW (fun β => []) [] [] (fun β => []) (by kernel_rfl) (fun β extra => by kernel_rfl) (by kernel_rfl) (fun β => trivial)⟩,
      tri_quietW (fun β => []) [] [] (fun β => []) (by kernel_rfl) (fun β extra => by kernel_rfl) (by kernel_rfl) (fun β => trivial)⟩,
      tri_quietW (fun β => []) [0] [0] (fun β => [(pA b6, pA b6)]) (by kernel_rfl) (fun β extra => by kernel_rfl) (by kernel_rfl) (fun β => ⟨rfl, trivial⟩)⟩,
      tri_callVW (fun β => .agg #[iV 5, iV 6]) (fun β => by kernel_rfl) 20 (fun β => #[iV 5, iV 6]) (by kernel_rfl) (fun β extra => by kernel_rfl) (fun β => by kernel_rfl) (fun β w1 k1 h1 => span_any 5 6 w1)⟩,
      tri_vVW (fun β => .bool true) (fun β => by kernel_rfl) (fun β => ((do eqGuard .eql 23 (.tmp 86) (.tmp 87) (.agg #[iV 5, iV 6]) (.agg #[iV 5, iV 6]); binOp .eql 23 (.agg #[iV 5, iV 6]) (.agg #[iV 5, iV 6])) >>= fun v => pure (Next.value v))) (by kernel_rfl) (fun β extra => by kernel_rfl) (fun β => by kernel_rfl) (fun β w1 k1 h1 => eql_span (.tmp 86) (.tmp 87) 5 6 5 6 w1)⟩,
      tri_quietW (fun β => []) [] [] (fun β => []) (by kernel_rfl) (fun β extra => by kernel_rfl) (by kernel_rfl) (fun β => trivial)⟩,
      tri_quietW (fun β => []) [] [] (fun β => []) (by kernel_rfl) (fun β extra => by kernel_rfl) (by kernel_rfl) (fun β => trivial)⟩,
      tri_quietW (fun β => []) [] [] (fun β => []) (by kernel_rfl) (fun β extra => by kernel_rfl) (by kernel_rfl) (fun β => trivial)⟩,
      tri_quietW (fun β => [(92, .bool true)]) [] [] (fun β => [(.bool true, .bool true)]) (by kernel_rfl) (fun β extra => by kernel_rfl) (by kernel_rfl) (fun β => ⟨rfl, trivial⟩)⟩,
      tri_quietW (fun β => []) [] [] (fun β => []) (by kernel_rfl) (fun β extra => by kernel_rfl) (by kernel_rfl) (fun β => trivial)⟩,
      tri_quietW (fun β => []) [] [] (fun β => []) (by kernel_rfl) (fun β extra => by kernel_rfl) (by kernel_rfl) (fun β => trivial)⟩,
      tri_quietW (fun β => []) [] [] (fun β => []) (by kernel_rfl) (fun β extra => by kernel_rfl) (by kernel_rfl) (fun β => trivial)⟩,
      tri_quietW (fun β => [(96, .bool true)]) [] [] (fun β => [(.bool true, .bool true)]) (by kernel_rfl) (fun β extra => by kernel_rfl) (by kernel_rfl) (fun β => ⟨rfl, trivial⟩)⟩,
      tri_quietW (fun β => []) [] [] (fun β => []) (by kernel_rfl) (fun β extra => by kernel_rfl) (by kernel_rfl) (fun β => trivial)⟩,
      tri_quietW (fun β => []) [] [] (fun β => []) (by kernel_rfl) (fun β extra => by kernel_rfl) (by kernel_rfl) (fun β => trivial)⟩,
      tri_quietW (fun β => []) [] [] (fun β => []) (by kernel_rfl) (fun β extra => by kernel_rfl) (by kernel_rfl) (fun β => trivial)⟩,
      tri_quietW (fun β => [(100, .bool true)]) [] [] (fun β => [(.bool true, .bool true)]) (by kernel_rfl) (fun β extra => by kernel_rfl) (by kernel_rfl) (fun β => ⟨rfl, trivial⟩)⟩,
      tri_quietW (fun β => []) [] [] (fun β => []) (by kernel_rfl) (fun β extra => by kernel_rfl) (by kernel_rfl) (fun β => trivial)⟩,
      tri_quietW (fun β => []) [] [] (fun β => []) (by kernel_rfl) (fun β extra => by kernel_rfl) (by kernel_rfl) (fun β => trivial)⟩,
      tri_quietW (fun β => []) [] [] (fun β => []) (by kernel_rfl) (fun β extra => by kernel_rfl) (by kernel_rfl) (fun β => trivial)⟩,
      tri_quietW (fun β => [(104, .bool true)]) [] [] (fun β => [(.bool true, .bool true)]) (by kernel_rfl) (fun β extra => by kernel_rfl) (by kernel_rfl) (fun β => ⟨rfl, trivial⟩)⟩,
      tri_quietW (fun β => []) [] [] (fun β => []) (by kernel_rfl) (fun β extra => by kernel_rfl) (by kernel_rfl) (fun β => trivial)⟩,
      tri_quietW (fun β => []) [] [] (fun β => []) (by kernel_rfl) (fun β extra => by kernel_rfl) (by kernel_rfl) (fun β => trivial)⟩,
      tri_quietW (fun β => []) [] [] (fun β => []) (by kernel_rfl) (fun β extra => by kernel_rfl) (by kernel_rfl) (fun β => trivial)⟩,
      tri_quietW (fun β => [(108, .bool true)]) [] [] (fun β => [(.bool true, .bool true)]) (by kernel_rfl) (fun β extra => by kernel_rfl) (by kernel_rfl) (fun β => ⟨rfl, trivial⟩)⟩,
      tri_quietW (fun β => []) [] [] (fun β => []) (by kernel_rfl) (fun β extra => by kernel_rfl) (by kernel_rfl) (fun β => trivial)⟩,
      tri_quietW (fun β => []) [] [] (fun β => []) (by kernel_rfl) (fun β extra => by kernel_rfl) (by kernel_rfl) (fun β => trivial)⟩,
      tri_quietW (fun β => []) [] [] (fun β => []) (by kernel_rfl) (fun β extra => by kernel_rfl) (by kernel_rfl) (fun β => trivial)⟩,
      tri_quietW (fun β => [(112, .bool true)]) [] [] (fun β => [(.bool true, .bool true)]) (by kernel_rfl) (fun β extra => by kernel_rfl) (by kernel_rfl) (fun β => ⟨rfl, trivial⟩)⟩,
      tri_quietW (fun β => []) [] [] (fun β => []) (by kernel_rfl) (fun β extra => by kernel_rfl) (by kernel_rfl) (fun β => trivial)⟩,
      tri_quietW (fun β => []) [] [] (fun β => []) (by kernel_rfl) (fun β extra => by kernel_rfl) (by kernel_rfl) (fun β => trivial)⟩,
      tri_quietW (fun β => []) [] [] (fun β => []) (by kernel_rfl) (fun β extra => by kernel_rfl) (by kernel_rfl) (fun β => trivial)⟩,
      tri_quietW (fun β => [(116, .bool true)]) [] [] (fun β => [(.bool true, .bool true)]) (by kernel_rfl) (fun β extra => by kernel_rfl) (by kernel_rfl) (fun β => ⟨rfl, trivial⟩)⟩,
      tri_quietW (fun β => []) [] [] (fun β => []) (by kernel_rfl) (fun β extra => by kernel_rfl) (by kernel_rfl) (fun β => trivial)⟩,
      tri_quietW (fun β => []) [] [] (fun β => []) (by kernel_rfl) (fun β extra => by kernel_rfl) (by kernel_rfl) (fun β => trivial)⟩,
      tri_quietW (fun β => []) [] [] (fun β => []) (by kernel_rfl) (fun β extra => by kernel_rfl) (by kernel_rfl) (fun β => trivial)⟩,
      tri_quietW (fun β => [(120, .bool true)]) [] [] (fun β => [(.bool true, .bool true)]) (by kernel_rfl) (fun β extra => by kernel_rfl) (by kernel_rfl) (fun β => ⟨rfl, trivial⟩)⟩,
      tri_quietW (fun β => []) [] [] (fun β => []) (by kernel_rfl) (fun β extra => by kernel_rfl) (by kernel_rfl) (fun β => trivial)⟩,
      tri_quietW (fun β => []) [] [] (fun β => []) (by kernel_rfl) (fun β extra => by kernel_rfl) (by kernel_rfl) (fun β => trivial)⟩,
      tri_quietW (fun β => []) [] [] (fun β => []) (by kernel_rfl) (fun β extra => by kernel_rfl) (by kernel_rfl) (fun β => trivial)⟩,
      tri_quietW (fun β => [(124, .bool true)]) [] [] (fun β => [(.bool true, .bool true)]) (by kernel_rfl) (fun β extra => by kernel_rfl) (by kernel_rfl) (fun β => ⟨rfl, trivial⟩)⟩,
      tri_quietW (fun β => []) [] [] (fun β => []) (by kernel_rfl) (fun β extra => by kernel_rfl) (by kernel_rfl) (fun β => trivial)⟩,
      tri_quietW (fun β => []) [] [] (fun β => []) (by kernel_rfl) (fun β extra => by kernel_rfl) (by kernel_rfl) (fun β => trivial)⟩,
      tri_quietW (fun β => []) [] [] (fun β => []) (by kernel_rfl) (fun β extra => by kernel_rfl) (by kernel_rfl) (fun β => trivial)⟩,
      tri_quietW (fun β => [(128, .bool true)]) [] [] (fun β => [(.bool true, .bool true)]) (by kernel_rfl) (fun β extra => by kernel_rfl) (by kernel_rfl) (fun β => ⟨rfl, trivial⟩)⟩,
      tri_quietW (fun β => []) [] [] (fun β => []) (by kernel_rfl) (fun β extra => by kernel_rfl) (by kernel_rfl) (fun β => trivial)⟩,
      tri_quietW (fun β => []) [] [] (fun β => []) (by kernel_rfl) (fun β extra => by kernel_rfl) (by kernel_rfl) (fun β => trivial)⟩,
      tri_quietW (fun β => []) [] [] (fun β => []) (by kernel_rfl) (fun β extra => by kernel_rfl) (by kernel_rfl) (fun β => trivial)⟩,
      tri_quietW (fun β => [(132, .bool true)]) [] [] (fun β => [(.bool true, .bool true)]) (by kernel_rfl) (fun β extra => by kernel_rfl) (by kernel_rfl) (fun β => ⟨rfl, trivial⟩)⟩,
      tri_quietW (fun β => []) [] [] (fun β => []) (by kernel_rfl) (fun β extra => by kernel_rfl) (by kernel_rfl) (fun β => trivial)⟩,
      tri_quietW (fun β => []) [] [] (fun β => []) (by kernel_rfl) (fun β extra => by kernel_rfl) (by kernel_rfl) (fun β => trivial)⟩,
      tri_quietW (fun β => []) [] [] (fun β => []) (by kernel_rfl) (fun β extra => by kernel_rfl) (by kernel_rfl) (fun β => trivial)⟩,
      tri_quietW (fun β => [(136, .bool true)]) [] [] (fun β => [(.bool true, .bool true)]) (by kernel_rfl) (fun β extra => by kernel_rfl) (by kernel_rfl) (fun β => ⟨rfl, trivial⟩)⟩,
      tri_quietW (fun β => []) [] [] (fun β => []) (by kernel_rfl) (fun β extra => by kernel_rfl) (by kernel_rfl) (fun β => trivial)⟩,
      tri_quietW (fun β => []) [] [] (fun β => []) (by kernel_rfl) (fun β extra => by kernel_rfl) (by kernel_rfl) (fun β => trivial)⟩,
      tri_quietW (fun β => []) [] [] (fun β => []) (by kernel_rfl) (fun β extra => by kernel_rfl) (by kernel_rfl) (fun β => trivial)⟩,
      tri_quietW (fun β => [(140, .bool true)]) [] [] (fun β => [(.bool true, .bool true)]) (by kernel_rfl) (fun β extra => by kernel_rfl) (by kernel_rfl) (fun β => ⟨rfl, trivial⟩)⟩,
      tri_quietW (fun β => []) [] [] (fun β => []) (by kernel_rfl) (fun β extra => by kernel_rfl) (by kernel_rfl) (fun β => trivial)⟩,
      tri_quietW (fun β => []) [] [] (fun β => []) (by kernel_rfl) (fun β extra => by kernel_rfl) (by kernel_rfl) (fun β => trivial)⟩,
      tri_quietW (fun β => []) [] [] (fun β => []) (by kernel_rfl) (fun β extra => by kernel_rfl) (by kernel_rfl) (fun β => trivial)⟩,
      tri_quietW (fun β => [(144, .bool true)]) [] [] (fun β => [(.bool true, .bool true)]) (by kernel_rfl) (fun β extra => by kernel_rfl) (by kernel_rfl) (fun β => ⟨rfl, trivial⟩)⟩,
      tri_quietW (fun β => []) [] [] (fun β => []) (by kernel_rfl) (fun β extra => by kernel_rfl) (by kernel_rfl) (fun β => trivial)⟩,
      tri_quietW (fun β => []) [] [] (fun β => []) (by kernel_rfl) (fun β extra => by kernel_rfl) (by kernel_rfl) (fun β => trivial)⟩,
      tri_quietW (fun β => []) [] [] (fun β => []) (by kernel_rfl) (fun β extra => by kernel_rfl) (by kernel_rfl) (fun β => trivial)⟩,
      tri_quietW (fun β => [(148, .bool true)]) [] [] (fun β => [(.bool true, .bool true)]) (by kernel_rfl) (fun β extra => by kernel_rfl) (by kernel_rfl) (fun β => ⟨rfl, trivial⟩)⟩,
      tri_quietW (fun β => []) [] [] (fun β => []) (by kernel_rfl) (fun β extra => by kernel_rfl) (by kernel_rfl) (fun β => trivial)⟩,
      tri_quietW (fun β => []) [] [] (fun β => []) (by kernel_rfl) (fun β extra => by kernel_rfl) (by kernel_rfl) (fun β => trivial)⟩
      (fun β => ⟨[(0, .bool true)], []⟩) (fun β => by kernel_rfl) (fun β14 => ?_)
  refine run_end (fn := f19) rfl (Nat.le_refl _) (by kernel_rfl) [] [.bool true] (e := []) (by kernel_rfl) trivial (fun w1 k1 h1 => ?_)
  exact ⟨rfl, k1.keeps (fun _ h => h)⟩

end Go.Proofs.Ythnhcacoegmdfaa
