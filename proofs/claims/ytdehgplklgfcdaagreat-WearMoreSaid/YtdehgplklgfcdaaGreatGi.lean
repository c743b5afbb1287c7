/-
  LAW: span, read, lap, uses, sample; what is valid.
  LAW: far, fine, inside; results that the document fixes.
  LAW: WearShort: numbers.
-/
import Derived.Test.YtdehgplklgfcdaaGreatGh
import Derived.Test.YtdehgplklgfcdaaGreatGb
namespace Go.Proofs.YtdehgplklgfcdaaGreat
open Go.RowKit Go.Proofs.Tryz

set_option maxRecDepth 100000 in
theorem span_any (a b : Int) (w : World)  : Calls Tryz.prog 32 #[.int .i64 a, .int .i64 b] w (Ret (.agg #[.int .i64 a, .int .i64 b]) w) := by
  refine calls_run (fn := f32) (c := (f32.body).getD .skip) [.int .i64 a, .int .i64 b] func32 (by kernel_rfl) (fun _ => False) [] (fun _ h => by cases h) (List.Pairwise.nil) 8 (by kernel_rfl) (by simp) ?_
  refine run_auto [] 2 [] [] [0, 1] [] (st' := ⟨[(0, iV a), (1, iV b)], []⟩) (acc := []) (by kernel_rfl) (by kernel_rfl) trivial ?_
  refine run_new (aO #[iV 0, iV 0] 23) (fun b1 => pA b1) (some 4) (fun _ => by kernel_rfl) (fun b1 hb1 => ?_)
  refine run_auto [] 8 [] [0] [4] [0] (st' := ⟨[(4, pA b1)], [(b1, aO #[iV a, iV b] 23)]⟩) (acc := [(pA b1, pA b1)]) (by kernel_rfl) (by kernel_rfl) ⟨rfl, trivial⟩ ?_
  refine run_end (fn := f32) rfl (Nat.le_refl _) (by kernel_rfl) [0] [.agg #[iV a, iV b]] (e := [(pA b1, pA b1)]) (by kernel_rfl) ⟨rfl, trivial⟩ (fun w1 k1 h1 => ?_)
  exact ⟨rfl, k1.keeps (fun _ h => h)⟩

set_option maxRecDepth 100000 in
theorem uses_any (n : Int) (w : World)  : Calls Tryz.prog 39 #[.int .i64 n] w (Ret (.agg #[.int .i64 0, .int .i64 n, .int .i64 0, .int .i64 0]) w) := by
  refine calls_run (fn := f39) (c := (f39.body).getD .skip) [.int .i64 n] func39 (by kernel_rfl) (fun _ => False) [] (fun _ h => by cases h) (List.Pairwise.nil) 5 (by kernel_rfl) (by simp) ?_
  refine run_auto [] 2 [] [] [0] [] (st' := ⟨[(0, iV n)], []⟩) (acc := []) (by kernel_rfl) (by kernel_rfl) trivial ?_
  refine run_new (aO #[iV 0, iV 0, iV 0, iV 0] 55) (fun b1 => pA b1) (some 2) (fun _ => by kernel_rfl) (fun b1 hb1 => ?_)
  refine run_auto [] 7 [] [0] [2] [0] (st' := ⟨[(2, pA b1)], [(b1, aO #[iV 0, iV n, iV 0, iV 0] 55)]⟩) (acc := [(pA b1, pA b1)]) (by kernel_rfl) (by kernel_rfl) ⟨rfl, trivial⟩ ?_
  refine run_end (fn := f39) rfl (Nat.le_refl _) (by kernel_rfl) [0] [.agg #[iV 0, iV n, iV 0, iV 0]] (e := [(pA b1, pA b1)]) (by kernel_rfl) ⟨rfl, trivial⟩ (fun w1 k1 h1 => ?_)
  exact ⟨rfl, k1.keeps (fun _ h => h)⟩

set_option maxRecDepth 100000 in
theorem read_any (a b : Int) (w : World)  : Calls Tryz.prog 35 #[.int .i64 a, .int .i64 b] w (Ret (.agg #[.int .i64 1, .int .i64 0, .int .i64 a, .int .i64 b]) w) := by
  refine calls_run (fn := f35) (c := (f35.body).getD .skip) [.int .i64 a, .int .i64 b] func35 (by kernel_rfl) (fun _ => False) [] (fun _ h => by cases h) (List.Pairwise.nil) 9 (by kernel_rfl) (by simp) ?_
  refine run_auto [] 2 [] [] [0, 1] [] (st' := ⟨[(0, iV a), (1, iV b)], []⟩) (acc := []) (by kernel_rfl) (by kernel_rfl) trivial ?_
  refine run_new (aO #[iV 0, iV 0, iV 0, iV 0] 55) (fun b1 => pA b1) (some 4) (fun _ => by kernel_rfl) (fun b1 hb1 => ?_)
  refine run_auto [] 5 [] [] [4, 5, 6] [0] (st' := ⟨[(4, pA b1), (5, iV a), (6, iV b)], [(b1, aO #[iV 0, iV 0, iV 0, iV 0] 55)]⟩) (acc := []) (by kernel_rfl) (by kernel_rfl) trivial ?_
  refine run_ret1 32 #[iV a, iV b] (some 7) (.agg #[iV a, iV b]) (by kernel_rfl) (fun w1 k1 h1 => span_any a b w1) ?_
  refine run_auto [] 3 [] [0] [4] [0] (st' := ⟨[(4, pA b1)], [(b1, aO #[iV 1, iV 0, iV a, iV b] 55)]⟩) (acc := [(pA b1, pA b1)]) (by kernel_rfl) (by kernel_rfl) ⟨rfl, trivial⟩ ?_
  refine run_end (fn := f35) rfl (Nat.le_refl _) (by kernel_rfl) [0] [.agg #[iV 1, iV 0, iV a, iV b]] (e := [(pA b1, pA b1)]) (by kernel_rfl) ⟨rfl, trivial⟩ (fun w1 k1 h1 => ?_)
  exact ⟨rfl, k1.keeps (fun _ h => h)⟩

set_option maxRecDepth 100000 in
theorem lap_any (a b : Int) (w : World)  : Calls Tryz.prog 91 #[.int .i64 a, .int .i64 b] w (Ret (.agg #[.int .i64 2, .int .i64 0, .int .i64 a, .int .i64 b]) w) := by
  refine calls_run (fn := f91) (c := (f91.body).getD .skip) [.int .i64 a, .int .i64 b] func91 (by kernel_rfl) (fun _ => False) [] (fun _ h => by cases h) (List.Pairwise.nil) 9 (by kernel_rfl) (by simp) ?_
  refine run_auto [] 2 [] [] [0, 1] [] (st' := ⟨[(0, iV a), (1, iV b)], []⟩) (acc := []) (by kernel_rfl) (by kernel_rfl) trivial ?_
  refine run_new (aO #[iV 0, iV 0, iV 0, iV 0] 55) (fun b1 => pA b1) (some 4) (fun _ => by kernel_rfl) (fun b1 hb1 => ?_)
  refine run_auto [] 5 [] [] [4, 5, 6] [0] (st' := ⟨[(4, pA b1), (5, iV a), (6, iV b)], [(b1, aO #[iV 0, iV 0, iV 0, iV 0] 55)]⟩) (acc := []) (by kernel_rfl) (by kernel_rfl) trivial ?_
  refine run_ret1 32 #[iV a, iV b] (some 7) (.agg #[iV a, iV b]) (by kernel_rfl) (fun w1 k1 h1 => span_any a b w1) ?_
  refine run_auto [] 3 [] [0] [4] [0] (st' := ⟨[(4, pA b1)], [(b1, aO #[iV 2, iV 0, iV a, iV b] 55)]⟩) (acc := [(pA b1, pA b1)]) (by kernel_rfl) (by kernel_rfl) ⟨rfl, trivial⟩ ?_
  refine run_end (fn := f91) rfl (Nat.le_refl _) (by kernel_rfl) [0] [.agg #[iV 2, iV 0, iV a, iV b]] (e := [(pA b1, pA b1)]) (by kernel_rfl) ⟨rfl, trivial⟩ (fun w1 k1 h1 => ?_)
  exact ⟨rfl, k1.keeps (fun _ h => h)⟩


def inR (x : Int) : List Value := [.int .i64 x]
theorem Ins.of_flat {w : World} {b : Nat} {L : List Int} {sp : List Value} {t : TypeId} {fr : Nat × Nat} (h : w.heap[b]? = some (.cells (L.flatMap inR ++ sp).toArray t fr)) : Ins w (some ⟨b, 0, none⟩) L := by
  intro _
  refine ⟨b, 0, rfl, fun i hi => ?_⟩
  refine cells_of_heap h _ _ ?_
  have e1 : ∀ l : List Int, l.flatMap inR = l.map fun x => Value.int .i64 x := by
    intro l
    induction l with
    | nil => rfl
    | cons x l ih => rw [List.flatMap_cons, ih]; rfl
  rw [e1, Nat.zero_add, List.getElem?_append_left (by rw [List.length_map]; exact hi), List.getElem?_map, List.getElem?_eq_getElem hi]
  unfold elI
  rw [List.getElem?_eq_getElem hi]
  rfl
theorem Ins.nil {w : World} {a : Option Addr} : Ins w a [] := fun h => absurd rfl h
def es5 : List Ev := [(0, 10, 0, 0), (1, 0, 85, 95), (0, 5, 0, 0), (2, 0, 3, 4), (1, 0, 80, 88)]
def es6 : List Ev := es5 ++ [(1, 0, 89, 90)]
/-- The block of the examples. -/
def smp (es : List Ev) (b cap : Nat) : Wb := ⟨100, 102, 0, 2, some ⟨b, 0, none⟩, cap, es⟩
theorem smp_in {w : World} {es : List Ev} {b cap : Nat} {sp : List Value} (h : w.heap[b]? = some (.cells (es.flatMap evR ++ sp).toArray 55 (0, 0))) (hl : es.length ≤ 8) : (smp es b cap).In w :=
  ⟨Evs.of_flat h, by show es.length ≤ maxLen; simp only [maxLen]; omega⟩
set_option maxRecDepth 100000 in
theorem sample0_any  (w : World)  : Calls Tryz.prog 40 #[.slice none 0 0] w (NwL (α := Nat × Nat × List Value) (fun x => .agg #[.int .i64 100, .int .i64 102, .int .i64 0, .int .i64 2, .slice (some ⟨(x.1), 0, none⟩) 5 (x.2.1)]) (fun x => [((x.1), .cells (es5.flatMap evR ++ (x.2.2)).toArray 55 (0, 0))]) (fun x => 5 ≤ x.2.1) w) := by
  refine calls_run (fn := f40) (c := (f40.body).getD .skip) [.slice none 0 0] func40 (by kernel_rfl) (fun _ => False) [] (fun _ h => by cases h) (List.Pairwise.nil) 14 (by kernel_rfl) (by simp) ?_
  refine run_auto [] 2 [] [] [0] [] (st' := ⟨[(0, .slice none 0 0)], []⟩) (acc := []) (by kernel_rfl) (by kernel_rfl) trivial ?_
  refine run_new (aO #[iV 0, iV 0, iV 0, iV 0, .slice none 0 0] 26) (fun b1 => pA b1) (some 2) (fun _ => by kernel_rfl) (fun b1 hb1 => ?_)
  refine run_auto [] 3 [] [] [0, 2] [0] (st' := ⟨[(0, .slice none 0 0), (2, pA b1)], [(b1, aO #[iV 0, iV 0, iV 0, iV 0, .slice none 0 0] 26)]⟩) (acc := []) (by kernel_rfl) (by kernel_rfl) trivial ?_
  refine run_ret1 32 #[iV 100, iV 102] (some 3) (.agg #[iV 100, iV 102]) (by kernel_rfl) (fun w1 k1 h1 => span_any 100 102 w1) ?_
  refine run_ret1 32 #[iV 0, iV 2] (some 4) (.agg #[iV 0, iV 2]) (by kernel_rfl) (fun w1 k1 h1 => span_any 0 2 w1) ?_
  refine run_ret1 39 #[iV 10] (some 5) (.agg #[iV 0, iV 10, iV 0, iV 0]) (by kernel_rfl) (fun w1 k1 h1 => uses_any 10 w1) ?_
  refine run_ret1 35 #[iV 85, iV 95] (some 6) (.agg #[iV 1, iV 0, iV 85, iV 95]) (by kernel_rfl) (fun w1 k1 h1 => read_any 85 95 w1) ?_
  refine run_ret1 39 #[iV 5] (some 7) (.agg #[iV 0, iV 5, iV 0, iV 0]) (by kernel_rfl) (fun w1 k1 h1 => uses_any 5 w1) ?_
  refine run_ret1 91 #[iV 3, iV 4] (some 8) (.agg #[iV 2, iV 0, iV 3, iV 4]) (by kernel_rfl) (fun w1 k1 h1 => lap_any 3 4 w1) ?_
  refine run_ret1 35 #[iV 80, iV 88] (some 9) (.agg #[iV 1, iV 0, iV 80, iV 88]) (by kernel_rfl) (fun w1 k1 h1 => read_any 80 88 w1) ?_
  refine run_new (aO #[iV 0, iV 10, iV 0, iV 0, iV 1, iV 0, iV 85, iV 95, iV 0, iV 5, iV 0, iV 0, iV 2, iV 0, iV 3, iV 4, iV 1, iV 0, iV 80, iV 88] 55) (fun b2 => sV b2 5 5) (some 10) (fun _ => by kernel_rfl) (fun b2 hb2 => ?_)
  refine run_auto [] 1 [] [] [2, 3, 4, 10, 11] [0, 1] (st' := ⟨[(2, pA b1), (3, .agg #[iV 100, iV 102]), (4, .agg #[iV 0, iV 2]), (10, sV b2 5 5), (11, .slice none 0 0)], [(b2, aO #[iV 0, iV 10, iV 0, iV 0, iV 1, iV 0, iV 85, iV 95, iV 0, iV 5, iV 0, iV 0, iV 2, iV 0, iV 3, iV 4, iV 1, iV 0, iV 80, iV 88] 55), (b1, aO #[iV 0, iV 0, iV 0, iV 0, .slice none 0 0] 26)]⟩) (acc := []) (by kernel_rfl) (by kernel_rfl) trivial ?_
  refine run_v (appSem 24 24 (sV b2 5 5) (.slice none 0 0)) (some 12) (sV b2 5 5) (by kernel_rfl) (fun w1 k1 h1 => app_empty (t := 24) (ty := 24) (e := 55) (n := 4) (by kernel_rfl) (by kernel_rfl) _ _ 5 5 0 (by omega) w1) ?_
  refine run_auto [] 3 [] [1] [2] [0, 1] (st' := ⟨[(2, pA b1)], [(b2, aO #[iV 0, iV 10, iV 0, iV 0, iV 1, iV 0, iV 85, iV 95, iV 0, iV 5, iV 0, iV 0, iV 2, iV 0, iV 3, iV 4, iV 1, iV 0, iV 80, iV 88] 55), (b1, aO #[iV 100, iV 102, iV 0, iV 2, sV b2 5 5] 26)]⟩) (acc := [(pA b1, pA b1)]) (by kernel_rfl) (by kernel_rfl) ⟨rfl, trivial⟩ ?_
  refine run_end (fn := f40) rfl (Nat.le_refl _) (by kernel_rfl) [1] [.agg #[iV 100, iV 102, iV 0, iV 2, sV b2 5 5]] (e := [(pA b1, pA b1)]) (by kernel_rfl) ⟨rfl, trivial⟩ (fun w1 k1 h1 => ?_)
  refine ⟨(b2, 5, []), Nat.le_refl _, rfl, k1.keeps (fun _ h => h), fun p hp => ?_, List.pairwise_singleton _ _⟩
  rw [List.mem_singleton] at hp
  subst hp
  exact ⟨h1 (b2, _) (List.mem_of_getElem? (i := 0) rfl), hb2⟩

set_option maxRecDepth 100000 in
theorem sample1_any (bl : Nat) (w : World) (hbl : w.heap[bl]? = some (.cells #[.int .i64 1, .int .i64 0, .int .i64 89, .int .i64 90] 55 (0, 0))) : Calls Tryz.prog 40 #[.slice (some ⟨bl, 0, none⟩) 1 1] w (NwL (α := Nat × Nat × List Value) (fun x => .agg #[.int .i64 100, .int .i64 102, .int .i64 0, .int .i64 2, .slice (some ⟨(x.1), 0, none⟩) 6 (x.2.1)]) (fun x => [((x.1), .cells (es6.flatMap evR ++ (x.2.2)).toArray 55 (0, 0))]) (fun x => 6 ≤ x.2.1) w) := by
  refine calls_run (fn := f40) (c := (f40.body).getD .skip) [.slice (some ⟨bl, 0, none⟩) 1 1] func40 (by kernel_rfl) (fun _ => False) [] (fun _ h => by cases h) (List.Pairwise.nil) 14 (by kernel_rfl) (by simp) ?_
  refine run_auto [] 2 [] [] [0] [] (st' := ⟨[(0, sV bl 1 1)], []⟩) (acc := []) (by kernel_rfl) (by kernel_rfl) trivial ?_
  refine run_new (aO #[iV 0, iV 0, iV 0, iV 0, .slice none 0 0] 26) (fun b1 => pA b1) (some 2) (fun _ => by kernel_rfl) (fun b1 hb1 => ?_)
  refine run_auto [] 3 [] [] [0, 2] [0] (st' := ⟨[(0, sV bl 1 1), (2, pA b1)], [(b1, aO #[iV 0, iV 0, iV 0, iV 0, .slice none 0 0] 26)]⟩) (acc := []) (by kernel_rfl) (by kernel_rfl) trivial ?_
  refine run_ret1 32 #[iV 100, iV 102] (some 3) (.agg #[iV 100, iV 102]) (by kernel_rfl) (fun w1 k1 h1 => span_any 100 102 w1) ?_
  refine run_ret1 32 #[iV 0, iV 2] (some 4) (.agg #[iV 0, iV 2]) (by kernel_rfl) (fun w1 k1 h1 => span_any 0 2 w1) ?_
  refine run_ret1 39 #[iV 10] (some 5) (.agg #[iV 0, iV 10, iV 0, iV 0]) (by kernel_rfl) (fun w1 k1 h1 => uses_any 10 w1) ?_
  refine run_ret1 35 #[iV 85, iV 95] (some 6) (.agg #[iV 1, iV 0, iV 85, iV 95]) (by kernel_rfl) (fun w1 k1 h1 => read_any 85 95 w1) ?_
  refine run_ret1 39 #[iV 5] (some 7) (.agg #[iV 0, iV 5, iV 0, iV 0]) (by kernel_rfl) (fun w1 k1 h1 => uses_any 5 w1) ?_
  refine run_ret1 91 #[iV 3, iV 4] (some 8) (.agg #[iV 2, iV 0, iV 3, iV 4]) (by kernel_rfl) (fun w1 k1 h1 => lap_any 3 4 w1) ?_
  refine run_ret1 35 #[iV 80, iV 88] (some 9) (.agg #[iV 1, iV 0, iV 80, iV 88]) (by kernel_rfl) (fun w1 k1 h1 => read_any 80 88 w1) ?_
  refine run_new (aO #[iV 0, iV 10, iV 0, iV 0, iV 1, iV 0, iV 85, iV 95, iV 0, iV 5, iV 0, iV 0, iV 2, iV 0, iV 3, iV 4, iV 1, iV 0, iV 80, iV 88] 55) (fun b2 => sV b2 5 5) (some 10) (fun _ => by kernel_rfl) (fun b2 hb2 => ?_)
  refine run_auto [] 1 [] [] [2, 3, 4, 10, 11] [0, 1] (st' := ⟨[(2, pA b1), (3, .agg #[iV 100, iV 102]), (4, .agg #[iV 0, iV 2]), (10, sV b2 5 5), (11, sV bl 1 1)], [(b2, aO #[iV 0, iV 10, iV 0, iV 0, iV 1, iV 0, iV 85, iV 95, iV 0, iV 5, iV 0, iV 0, iV 2, iV 0, iV 3, iV 4, iV 1, iV 0, iV 80, iV 88] 55), (b1, aO #[iV 0, iV 0, iV 0, iV 0, .slice none 0 0] 26)]⟩) (acc := []) (by kernel_rfl) (by kernel_rfl) trivial ?_
  refine run_app (t := 24) (ty := 24) (e := 55) (n := 4) (z := (.agg #[iV 0, iV 0, iV 0, iV 0])) (by kernel_rfl) (by kernel_rfl) (by kernel_rfl) rfl (by kernel_rfl) evR evR_len evR_one (some 12) 0 b2 5 1 5 1 ([(0, 10, 0, 0), (1, 0, 85, 95), (0, 5, 0, 0), (2, 0, 3, 4), (1, 0, 80, 88)] : List Ev) ([(1, 0, 89, 90)] : List Ev) ([]) ⟨bl, 0, none⟩ (by first | rfl | omega | (simp; done) | (simp; omega)) (by first | rfl | omega | (simp; done) | (simp; omega)) (by kernel_rfl) (by kernel_rfl) (by simp only [maxLen]; omega) rfl (fun w1 k1 h1 j u hu => by rw [add_none, Nat.zero_add]; exact cells_of_heap ((k1.block bl (Array.getElem?_eq_some_iff.1 hbl).1 (fun h => h)).trans hbl) j u hu) (by omega) hb2 (fun b3 cap3 sp3 hb3 hqb3 hmb3 hlb3 => ?_)
  refine run_auto [] 3 [] [1] [2] [0, 1] (st' := ⟨[(2, pA b1)], [(b3, cO ((([(0, 10, 0, 0), (1, 0, 85, 95), (0, 5, 0, 0), (2, 0, 3, 4), (1, 0, 80, 88)] : List Ev) ++ ([(1, 0, 89, 90)] : List Ev)).flatMap evR ++ sp3) 55), (b1, aO #[iV 100, iV 102, iV 0, iV 2, sV b3 6 cap3] 26)]⟩) (acc := [(pA b1, pA b1)]) (by kernel_rfl) (by kernel_rfl) ⟨rfl, trivial⟩ ?_
  refine run_end (fn := f40) rfl (Nat.le_refl _) (by kernel_rfl) [1] [.agg #[iV 100, iV 102, iV 0, iV 2, sV b3 6 cap3]] (e := [(pA b1, pA b1)]) (by kernel_rfl) ⟨rfl, trivial⟩ (fun w1 k1 h1 => ?_)
  refine ⟨(b3, cap3, sp3), hqb3, rfl, k1.keeps (fun _ h => h), fun p hp => ?_, List.pairwise_singleton _ _⟩
  rw [List.mem_singleton] at hp
  subst hp
  exact ⟨h1 (b3, _) (List.mem_of_getElem? (i := 0) rfl), hb3⟩


def inI (n a b : Int) : Bool := decide (a ≤ n ∧ n ≤ b)
set_option maxRecDepth 100000 in
theorem rin_any (n a b : Int) (w : World)  : Calls Tryz.prog 101 #[.int .i64 n, .int .i64 a, .int .i64 b] w (RetB (inI n a b) w) := by
  refine calls_run (fn := f101) (c := (f101.body).getD .skip) [.int .i64 n, .int .i64 a, .int .i64 b] func101 (by kernel_rfl) (fun _ => False) [] (fun _ h => by cases h) (List.Pairwise.nil) 15 (by kernel_rfl) (by simp) ?_
  cases hd1 : (decide (a ≤ n)) with
  | false =>
    have hp1 := of_decide_eq_false hd1
    refine run_auto [(9, .bool false)] 16 [] [] [6] [] (st' := ⟨[(6, .bool false)], []⟩) (acc := [(.bool (decide (a ≤ n)), .bool false)]) (by kernel_rfl) (by kernel_rfl) ⟨(bo hd1), trivial⟩ ?_
    refine run_end (fn := f101) rfl (Nat.le_refl _) (by kernel_rfl) [] [.bool false] (e := []) (by kernel_rfl) trivial (fun w1 k1 h1 => ?_)
    exact ⟨by simp only [resVal]; congr 2; simp only [inI]; simp; omega, k1.keeps (fun _ h => h)⟩
  | true =>
    have hp1 := of_decide_eq_true hd1
    cases hd2 : (decide (n ≤ b)) with
    | false =>
      have hp2 := of_decide_eq_false hd2
      refine run_auto [(9, .bool true), (13, .bool false)] 16 [] [] [6] [] (st' := ⟨[(6, .bool false)], []⟩) (acc := [(.bool (decide (n ≤ b)), .bool false), (.bool (decide (a ≤ n)), .bool true)]) (by kernel_rfl) (by kernel_rfl) ⟨(bo hd2), (bo hd1), trivial⟩ ?_
      refine run_end (fn := f101) rfl (Nat.le_refl _) (by kernel_rfl) [] [.bool false] (e := []) (by kernel_rfl) trivial (fun w1 k1 h1 => ?_)
      exact ⟨by simp only [resVal]; congr 2; simp only [inI]; simp; omega, k1.keeps (fun _ h => h)⟩
    | true =>
      have hp2 := of_decide_eq_true hd2
      refine run_auto [(9, .bool true), (13, .bool true)] 16 [] [] [6] [] (st' := ⟨[(6, .bool true)], []⟩) (acc := [(.bool (decide (n ≤ b)), .bool true), (.bool (decide (a ≤ n)), .bool true)]) (by kernel_rfl) (by kernel_rfl) ⟨(bo hd2), (bo hd1), trivial⟩ ?_
      refine run_end (fn := f101) rfl (Nat.le_refl _) (by kernel_rfl) [] [.bool true] (e := []) (by kernel_rfl) trivial (fun w1 k1 h1 => ?_)
      exact ⟨by simp only [resVal]; congr 2; simp only [inI]; simp; omega, k1.keeps (fun _ h => h)⟩

set_option maxRecDepth 100000 in
theorem rspan_any (a b lo hi : Int) (w : World)  : Calls Tryz.prog 89 #[.agg #[.int .i64 a, .int .i64 b], .int .i64 lo, .int .i64 hi] w (RetB (spI (a, b) lo hi) w) := by
  refine calls_run (fn := f89) (c := (f89.body).getD .skip) [.agg #[.int .i64 a, .int .i64 b], .int .i64 lo, .int .i64 hi] func89 (by kernel_rfl) (fun _ => False) [] (fun _ h => by cases h) (List.Pairwise.nil) 24 (by kernel_rfl) (by simp) ?_
  refine run_auto [] 2 [] [] [0, 1, 2] [] (st' := ⟨[(0, .agg #[iV a, iV b]), (1, iV lo), (2, iV hi)], []⟩) (acc := []) (by kernel_rfl) (by kernel_rfl) trivial ?_
  refine run_new (aO #[iV a, iV b] 23) (fun b1 => pA b1) (some 3) (fun _ => by kernel_rfl) (fun b1 hb1 => ?_)
  cases hd1 : (decide (lo ≤ a)) with
  | false =>
    have hp1 := of_decide_eq_false hd1
    refine run_auto [(10, .bool false)] 23 [] [0] [6] [] (st' := ⟨[(6, .bool false)], []⟩) (acc := [(.bool (decide (lo ≤ a)), .bool false), (pA b1, pA b1)]) (by kernel_rfl) (by kernel_rfl) ⟨(bo hd1), rfl, trivial⟩ ?_
    refine run_end (fn := f89) rfl (Nat.le_refl _) (by kernel_rfl) [] [.bool false] (e := []) (by kernel_rfl) trivial (fun w1 k1 h1 => ?_)
    exact ⟨by simp only [resVal]; congr 2; simp only [spI]; simp; omega, k1.keeps (fun _ h => h)⟩
  | true =>
    have hp1 := of_decide_eq_true hd1
    cases hd2 : (decide (a ≤ b)) with
    | false =>
      have hp2 := of_decide_eq_false hd2
      refine run_auto [(10, .bool true), (16, .bool false)] 23 [] [0, 0, 0] [6] [] (st' := ⟨[(6, .bool false)], []⟩) (acc := [(.bool (decide (a ≤ b)), .bool false), (pA b1, pA b1), (pA b1, pA b1), (.bool (decide (lo ≤ a)), .bool true), (pA b1, pA b1)]) (by kernel_rfl) (by kernel_rfl) ⟨(bo hd2), rfl, rfl, (bo hd1), rfl, trivial⟩ ?_
      refine run_end (fn := f89) rfl (Nat.le_refl _) (by kernel_rfl) [] [.bool false] (e := []) (by kernel_rfl) trivial (fun w1 k1 h1 => ?_)
      exact ⟨by simp only [resVal]; congr 2; simp only [spI]; simp; omega, k1.keeps (fun _ h => h)⟩
    | true =>
      have hp2 := of_decide_eq_true hd2
      cases hd3 : (decide (b ≤ hi)) with
      | false =>
        have hp3 := of_decide_eq_false hd3
        refine run_auto [(10, .bool true), (16, .bool true), (22, .bool false)] 23 [] [0, 0, 0, 0] [6] [] (st' := ⟨[(6, .bool false)], []⟩) (acc := [(.bool (decide (b ≤ hi)), .bool false), (pA b1, pA b1), (.bool (decide (a ≤ b)), .bool true), (pA b1, pA b1), (pA b1, pA b1), (.bool (decide (lo ≤ a)), .bool true), (pA b1, pA b1)]) (by kernel_rfl) (by kernel_rfl) ⟨(bo hd3), rfl, (bo hd2), rfl, rfl, (bo hd1), rfl, trivial⟩ ?_
        refine run_end (fn := f89) rfl (Nat.le_refl _) (by kernel_rfl) [] [.bool false] (e := []) (by kernel_rfl) trivial (fun w1 k1 h1 => ?_)
        exact ⟨by simp only [resVal]; congr 2; simp only [spI]; simp; omega, k1.keeps (fun _ h => h)⟩
      | true =>
        have hp3 := of_decide_eq_true hd3
        refine run_auto [(10, .bool true), (16, .bool true), (22, .bool true)] 23 [] [0, 0, 0, 0] [6] [] (st' := ⟨[(6, .bool true)], []⟩) (acc := [(.bool (decide (b ≤ hi)), .bool true), (pA b1, pA b1), (.bool (decide (a ≤ b)), .bool true), (pA b1, pA b1), (pA b1, pA b1), (.bool (decide (lo ≤ a)), .bool true), (pA b1, pA b1)]) (by kernel_rfl) (by kernel_rfl) ⟨(bo hd3), rfl, (bo hd2), rfl, rfl, (bo hd1), rfl, trivial⟩ ?_
        refine run_end (fn := f89) rfl (Nat.le_refl _) (by kernel_rfl) [] [.bool true] (e := []) (by kernel_rfl) trivial (fun w1 k1 h1 => ?_)
        exact ⟨by simp only [resVal]; congr 2; simp only [spI]; simp; omega, k1.keeps (fun _ h => h)⟩

set_option maxRecDepth 100000 in
theorem revent_any (k n a b : Int) (w : World)  : Calls Tryz.prog 90 #[.agg #[.int .i64 k, .int .i64 n, .int .i64 a, .int .i64 b]] w (RetB (vEv (k, n, a, b)) w) := by
  refine calls_run (fn := f90) (c := (f90.body).getD .skip) [.agg #[.int .i64 k, .int .i64 n, .int .i64 a, .int .i64 b]] func90 (by kernel_rfl) (fun _ => False) [] (fun _ h => by cases h) (List.Pairwise.nil) 20 (by kernel_rfl) (by simp) ?_
  refine run_auto [] 2 [] [] [0] [] (st' := ⟨[(0, .agg #[iV k, iV n, iV a, iV b])], []⟩) (acc := []) (by kernel_rfl) (by kernel_rfl) trivial ?_
  refine run_new (aO #[iV k, iV n, iV a, iV b] 55) (fun b1 => pA b1) (some 1) (fun _ => by kernel_rfl) (fun b1 hb1 => ?_)
  cases hd1 : (k == 0) with
  | false =>
    have hp1 : ¬ k = 0 := by simpa using hd1
    cases hd2 : (k == 1) with
    | false =>
      have hp2 : ¬ k = 1 := by simpa using hd2
      cases hd3 : (k == 2) with
      | false =>
        have hp3 : ¬ k = 2 := by simpa using hd3
        refine run_auto [(6, .bool false), (11, .bool false), (16, .bool false)] 33 [false, false, false] [0] [2] [] (st' := ⟨[(2, .bool false)], []⟩) (acc := [(.bool false, .bool false), (.bool (k == 2), .bool false), (.bool false, .bool false), (.bool (k == 1), .bool false), (.bool false, .bool false), (.bool (k == 0), .bool false), (pA b1, pA b1)]) (by kernel_rfl) (by kernel_rfl) ⟨rfl, (bo hd3), rfl, (bo hd2), rfl, (bo hd1), rfl, trivial⟩ ?_
        refine run_end (fn := f90) rfl (Nat.le_refl _) (by kernel_rfl) [] [.bool false] (e := []) (by kernel_rfl) trivial (fun w1 k1 h1 => ?_)
        have h : vEv (k, n, a, b) = false := by
          unfold vEv
          dsimp only
          rw [hd1, hd2, hd3]
          rfl
        exact ⟨by rw [h]; rfl, k1.keeps (fun _ h => h)⟩
      | true =>
        have hp3 : k = 2 := by simpa using hd3
        refine run_auto [(6, .bool false), (11, .bool false), (16, .bool true)] 31 [false, false, true] [0, 0] [2, 18] [] (st' := ⟨[(2, .bool false), (18, .agg #[iV a, iV b])], []⟩) (acc := [(pA b1, pA b1), (.bool true, .bool true), (.bool (k == 2), .bool true), (.bool false, .bool false), (.bool (k == 1), .bool false), (.bool false, .bool false), (.bool (k == 0), .bool false), (pA b1, pA b1)]) (by kernel_rfl) (by kernel_rfl) ⟨rfl, rfl, (bo hd3), rfl, (bo hd2), rfl, (bo hd1), rfl, trivial⟩ ?_
        cases hd4 : (spI (a, b) 0 10) with
        | false =>
          refine run_ret1 89 #[.agg #[iV a, iV b], iV 0, iV 10] (some 19) (.bool false) (by kernel_rfl) (fun w1 k1 h1 => (by have h := rspan_any a b 0 10 w1; rw [hd4] at h; exact h)) ?_
          refine run_auto [] 2 [] [] [2] [] (st' := ⟨[(2, .bool false)], []⟩) (acc := []) (by kernel_rfl) (by kernel_rfl) trivial ?_
          refine run_end (fn := f90) rfl (Nat.le_refl _) (by kernel_rfl) [] [.bool false] (e := []) (by kernel_rfl) trivial (fun w1 k1 h1 => ?_)
          have h : vEv (k, n, a, b) = false := by
            unfold vEv
            dsimp only
            rw [hd1, hd2, hd3]
            exact hd4
          exact ⟨by rw [h]; rfl, k1.keeps (fun _ h => h)⟩
        | true =>
          refine run_ret1 89 #[.agg #[iV a, iV b], iV 0, iV 10] (some 19) (.bool true) (by kernel_rfl) (fun w1 k1 h1 => (by have h := rspan_any a b 0 10 w1; rw [hd4] at h; exact h)) ?_
          refine run_auto [] 2 [] [] [2] [] (st' := ⟨[(2, .bool true)], []⟩) (acc := []) (by kernel_rfl) (by kernel_rfl) trivial ?_
          refine run_end (fn := f90) rfl (Nat.le_refl _) (by kernel_rfl) [] [.bool true] (e := []) (by kernel_rfl) trivial (fun w1 k1 h1 => ?_)
          have h : vEv (k, n, a, b) = true := by
            unfold vEv
            dsimp only
            rw [hd1, hd2, hd3]
            exact hd4
          exact ⟨by rw [h]; rfl, k1.keeps (fun _ h => h)⟩
    | true =>
      have hp2 : k = 1 := by simpa using hd2
      refine run_auto [(6, .bool false), (11, .bool true)] 25 [false, true] [0, 0] [2, 13] [] (st' := ⟨[(2, .bool false), (13, .agg #[iV a, iV b])], []⟩) (acc := [(pA b1, pA b1), (.bool true, .bool true), (.bool (k == 1), .bool true), (.bool false, .bool false), (.bool (k == 0), .bool false), (pA b1, pA b1)]) (by kernel_rfl) (by kernel_rfl) ⟨rfl, rfl, (bo hd2), rfl, (bo hd1), rfl, trivial⟩ ?_
      cases hd3 : (spI (a, b) (-1000) 1000) with
      | false =>
        refine run_ret1 89 #[.agg #[iV a, iV b], iV (-1000), iV 1000] (some 14) (.bool false) (by kernel_rfl) (fun w1 k1 h1 => (by have h := rspan_any a b (-1000) 1000 w1; rw [hd3] at h; exact h)) ?_
        refine run_auto [] 2 [] [] [2] [] (st' := ⟨[(2, .bool false)], []⟩) (acc := []) (by kernel_rfl) (by kernel_rfl) trivial ?_
        refine run_end (fn := f90) rfl (Nat.le_refl _) (by kernel_rfl) [] [.bool false] (e := []) (by kernel_rfl) trivial (fun w1 k1 h1 => ?_)
        have h : vEv (k, n, a, b) = false := by
          unfold vEv
          dsimp only
          rw [hd1, hd2]
          exact hd3
        exact ⟨by rw [h]; rfl, k1.keeps (fun _ h => h)⟩
      | true =>
        refine run_ret1 89 #[.agg #[iV a, iV b], iV (-1000), iV 1000] (some 14) (.bool true) (by kernel_rfl) (fun w1 k1 h1 => (by have h := rspan_any a b (-1000) 1000 w1; rw [hd3] at h; exact h)) ?_
        refine run_auto [] 2 [] [] [2] [] (st' := ⟨[(2, .bool true)], []⟩) (acc := []) (by kernel_rfl) (by kernel_rfl) trivial ?_
        refine run_end (fn := f90) rfl (Nat.le_refl _) (by kernel_rfl) [] [.bool true] (e := []) (by kernel_rfl) trivial (fun w1 k1 h1 => ?_)
        have h : vEv (k, n, a, b) = true := by
          unfold vEv
          dsimp only
          rw [hd1, hd2]
          exact hd3
        exact ⟨by rw [h]; rfl, k1.keeps (fun _ h => h)⟩
  | true =>
    have hp1 : k = 0 := by simpa using hd1
    refine run_auto [(6, .bool true)] 19 [true] [0, 0] [2, 8] [] (st' := ⟨[(2, .bool false), (8, iV n)], []⟩) (acc := [(pA b1, pA b1), (.bool true, .bool true), (.bool (k == 0), .bool true), (pA b1, pA b1)]) (by kernel_rfl) (by kernel_rfl) ⟨rfl, rfl, (bo hd1), rfl, trivial⟩ ?_
    cases hd2 : (inI n 0 20) with
    | false =>
      refine run_ret1 101 #[iV n, iV 0, iV 20] (some 9) (.bool false) (by kernel_rfl) (fun w1 k1 h1 => (by have h := rin_any n 0 20 w1; rw [hd2] at h; exact h)) ?_
      refine run_auto [] 2 [] [] [2] [] (st' := ⟨[(2, .bool false)], []⟩) (acc := []) (by kernel_rfl) (by kernel_rfl) trivial ?_
      refine run_end (fn := f90) rfl (Nat.le_refl _) (by kernel_rfl) [] [.bool false] (e := []) (by kernel_rfl) trivial (fun w1 k1 h1 => ?_)
      have h : vEv (k, n, a, b) = false := by
        unfold vEv
        dsimp only
        rw [hd1]
        exact hd2
      exact ⟨by rw [h]; rfl, k1.keeps (fun _ h => h)⟩
    | true =>
      refine run_ret1 101 #[iV n, iV 0, iV 20] (some 9) (.bool true) (by kernel_rfl) (fun w1 k1 h1 => (by have h := rin_any n 0 20 w1; rw [hd2] at h; exact h)) ?_
      refine run_auto [] 2 [] [] [2] [] (st' := ⟨[(2, .bool true)], []⟩) (acc := []) (by kernel_rfl) (by kernel_rfl) trivial ?_
      refine run_end (fn := f90) rfl (Nat.le_refl _) (by kernel_rfl) [] [.bool true] (e := []) (by kernel_rfl) trivial (fun w1 k1 h1 => ?_)
      have h : vEv (k, n, a, b) = true := by
        unfold vEv
        dsimp only
        rw [hd1]
        exact hd2
      exact ⟨by rw [h]; rfl, k1.keeps (fun _ h => h)⟩

set_option maxRecDepth 100000 in
theorem rwear_any (p : Wb) (w : World) (hp : p.In w) : Calls Tryz.prog 33 #[.agg #[.int .i64 p.ll, .int .i64 p.lh, .int .i64 p.ul, .int .i64 p.uh, .slice p.ea p.es.length p.ec]] w (RetB p.n.ok w) := by
  have hlm := hp.ln
  simp only [maxLen] at hlm
  refine calls_run (fn := f33) (c := (f33.body).getD .skip) [.agg #[.int .i64 p.ll, .int .i64 p.lh, .int .i64 p.ul, .int .i64 p.uh, .slice p.ea p.es.length p.ec]] func33 (by kernel_rfl) (fun _ => False) [] (fun _ h => by cases h) (List.Pairwise.nil) 44 (by kernel_rfl) (by simp) ?_
  refine run_auto [] 2 [] [] [0] [] (st' := ⟨[(0, .agg #[iV p.ll, iV p.lh, iV p.ul, iV p.uh, .slice p.ea p.es.length p.ec])], []⟩) (acc := []) (by kernel_rfl) (by kernel_rfl) trivial ?_
  refine run_new (aO #[iV p.ll, iV p.lh, iV p.ul, iV p.uh, .slice p.ea p.es.length p.ec] 26) (fun b1 => pA b1) (some 1) (fun _ => by kernel_rfl) (fun b1 hb1 => ?_)
  refine run_auto [] 7 [] [0] [1, 2, 5] [0] (st' := ⟨[(1, pA b1), (2, .bool false), (5, .agg #[iV p.ll, iV p.lh])], [(b1, aO #[iV p.ll, iV p.lh, iV p.ul, iV p.uh, .slice p.ea p.es.length p.ec] 26)]⟩) (acc := [(pA b1, pA b1)]) (by kernel_rfl) (by kernel_rfl) ⟨rfl, trivial⟩ ?_
  cases hd1 : (spI (p.ll, p.lh) 0 300) with
  | false =>
    refine run_ret1 89 #[.agg #[iV p.ll, iV p.lh], iV 0, iV 300] (some 6) (.bool false) (by kernel_rfl) (fun w1 k1 h1 => (by have h := rspan_any p.ll p.lh 0 300 w1; rw [hd1] at h; exact h)) ?_
    refine run_auto [(7, .bool true)] 29 [true] [] [1, 2] [0] (st' := ⟨[(1, pA b1), (2, .bool false)], [(b1, aO #[iV p.ll, iV p.lh, iV p.ul, iV p.uh, .slice p.ea p.es.length p.ec] 26)]⟩) (acc := [(.bool true, .bool true), (.bool true, .bool true)]) (by kernel_rfl) (by kernel_rfl) ⟨rfl, rfl, trivial⟩ ?_
    refine run_end (fn := f33) rfl (Nat.le_refl _) (by kernel_rfl) [] [.bool false] (e := []) (by kernel_rfl) trivial (fun w1 k1 h1 => ?_)
    have h : p.n.ok = false := by
      unfold Wn.ok Wb.n
      dsimp only
      simp [hd1] <;> intros <;> omega
    exact ⟨by rw [h]; rfl, k1.keeps (fun _ h => h)⟩
  | true =>
    have hqhd1 := of_decide_eq_true (show decide _ = true from hd1)
    dsimp only at hqhd1
    refine run_ret1 89 #[.agg #[iV p.ll, iV p.lh], iV 0, iV 300] (some 6) (.bool true) (by kernel_rfl) (fun w1 k1 h1 => (by have h := rspan_any p.ll p.lh 0 300 w1; rw [hd1] at h; exact h)) ?_
    cases hd2 : (decide (20 < (p.lh - p.ll))) with
    | false =>
      have hp2 := of_decide_eq_false hd2
      refine run_auto [(7, .bool false), (15, iV (p.lh - p.ll)), (16, .bool false)] 14 [] [0, 0, 0] [1, 2, 18, 20] [0] (st' := ⟨[(1, pA b1), (2, .bool false), (18, .bool false), (20, .agg #[iV p.ul, iV p.uh])], [(b1, aO #[iV p.ll, iV p.lh, iV p.ul, iV p.uh, .slice p.ea p.es.length p.ec] 26)]⟩) (acc := [(pA b1, pA b1), (.bool (decide (20 < (p.lh - p.ll))), .bool false), (iV (IntKind.i64.wrap (p.lh - p.ll)), iV (p.lh - p.ll)), (pA b1, pA b1), (pA b1, pA b1), (.bool false, .bool false)]) (by kernel_rfl) (by kernel_rfl) ⟨rfl, (bo hd2), (wr (by omega) (by omega)), rfl, rfl, rfl, trivial⟩ ?_
      cases hd3 : (spI (p.ul, p.uh) 0 3) with
      | false =>
        refine run_ret1 89 #[.agg #[iV p.ul, iV p.uh], iV 0, iV 3] (some 21) (.bool false) (by kernel_rfl) (fun w1 k1 h1 => (by have h := rspan_any p.ul p.uh 0 3 w1; rw [hd3] at h; exact h)) ?_
        refine run_auto [(22, .bool true)] 14 [true] [] [1, 2] [0] (st' := ⟨[(1, pA b1), (2, .bool false)], [(b1, aO #[iV p.ll, iV p.lh, iV p.ul, iV p.uh, .slice p.ea p.es.length p.ec] 26)]⟩) (acc := [(.bool true, .bool true), (.bool true, .bool true)]) (by kernel_rfl) (by kernel_rfl) ⟨rfl, rfl, trivial⟩ ?_
        refine run_end (fn := f33) rfl (Nat.le_refl _) (by kernel_rfl) [] [.bool false] (e := []) (by kernel_rfl) trivial (fun w1 k1 h1 => ?_)
        have h : p.n.ok = false := by
          unfold Wn.ok Wb.n
          dsimp only
          simp [hd1, hd3] <;> intros <;> omega
        exact ⟨by rw [h]; rfl, k1.keeps (fun _ h => h)⟩
      | true =>
        have hqhd3 := of_decide_eq_true (show decide _ = true from hd3)
        dsimp only at hqhd3
        refine run_ret1 89 #[.agg #[iV p.ul, iV p.uh], iV 0, iV 3] (some 21) (.bool true) (by kernel_rfl) (fun w1 k1 h1 => (by have h := rspan_any p.ul p.uh 0 3 w1; rw [hd3] at h; exact h)) ?_
        cases hd4 : (decide (8 < (p.es.length : Int))) with
        | false =>
          have hp4 := of_decide_eq_false hd4
          refine run_auto [(22, .bool false), (28, .bool false)] 17 [false] [0] [1, 2, 3] [0] (st' := ⟨[(1, pA b1), (2, .bool false), (3, iV 0)], [(b1, aO #[iV p.ll, iV p.lh, iV p.ul, iV p.uh, .slice p.ea p.es.length p.ec] 26)]⟩) (acc := [(.bool false, .bool false), (.bool (decide (8 < (p.es.length : Int))), .bool false), (pA b1, pA b1), (.bool false, .bool false)]) (by kernel_rfl) (by kernel_rfl) ⟨rfl, (bo hd4), rfl, rfl, trivial⟩ ?_
          refine run_auto [] 0 [] [] [1, 2, 3] [0] (st' := ⟨[(1, pA b1), (2, .bool false), (3, iV 0)], [(b1, aO #[iV p.ll, iV p.lh, iV p.ul, iV p.uh, .slice p.ea p.es.length p.ec] 26)]⟩) (acc := []) (by kernel_rfl) (by kernel_rfl) trivial ?_
          refine run_loop (S := fun (k : Nat) => ⟨[(1, pA b1), (2, .bool false), (3, iV (k : Int))], [(b1, aO #[iV p.ll, iV p.lh, iV p.ul, iV p.uh, .slice p.ea p.es.length p.ec] 26)]⟩) (fun k => k ≤ p.es.length ∧ ∀ j, j < k → vEv (elE p.es j) = true) (fun k => p.es.length - k) (0) (by kernel_rfl) (⟨Nat.zero_le _, fun _ h => by cases h⟩) (by kernel_rfl) (fun k hI0 J0 hJ0 => ?_)
          obtain ⟨hI1, hI2⟩ := hI0
          cases hd5 : (decide ((k : Int) < (p.es.length : Int))) with
          | false =>
            have hp5 := of_decide_eq_false hd5
            refine run_auto [(34, .bool false)] 15 [false] [0] [2] [] (st' := ⟨[(2, .bool true)], []⟩) (acc := [(.bool false, .bool false), (.bool (decide ((k : Int) < (p.es.length : Int))), .bool false), (pA b1, pA b1)]) (by kernel_rfl) (by kernel_rfl) ⟨rfl, (bo hd5), rfl, trivial⟩ ?_
            refine run_end (fn := f33) rfl (Nat.le_refl _) (by kernel_rfl) [] [.bool true] (e := []) (by kernel_rfl) trivial (fun w1 k1 h1 => ?_)
            have h : p.n.ok = true := by
              unfold Wn.ok Wb.n
              dsimp only
              rw [all_yes (p := vEv) (d := (0, 0, 0, 0)) (fun j hj => hI2 j (by omega))]
              simp [hd1, hd3]; omega
            exact ⟨by rw [h]; rfl, k1.keeps (fun _ h => h)⟩
          | true =>
            have hp5 := of_decide_eq_true hd5
            have hlt : k < p.es.length := by omega
            obtain ⟨be, oe, hbe, hc⟩ := hp.ev (by intro h; rw [h] at hlt; cases hlt)
            have hc := hc k hlt
            refine run_auto [(34, .bool true)] 18 [true] [0, 0] [1, 2, 3, 38, 39] [0] (st' := ⟨[(1, pA b1), (2, .bool false), (3, iV (k : Int)), (38, .slice p.ea p.es.length p.ec), (39, iV (k : Int))], [(b1, aO #[iV p.ll, iV p.lh, iV p.ul, iV p.uh, .slice p.ea p.es.length p.ec] 26)]⟩) (acc := [(pA b1, pA b1), (.bool true, .bool true), (.bool (decide ((k : Int) < (p.es.length : Int))), .bool true), (pA b1, pA b1)]) (by kernel_rfl) (by kernel_rfl) ⟨rfl, rfl, (bo hd5), rfl, trivial⟩ ?_
            refine run_v (Instr.indexAt 24 (.slice p.ea p.es.length p.ec) (iV (k : Int)) >>= fun v => pure (Next.value v)) (some 40) (.pointer (some ⟨be, oe + k * 4, none⟩)) (by kernel_rfl) (fun w1 k1 h1 => (by rw [hbe]; exact idx_off (e := 55) (n := 4) (by kernel_rfl) (by kernel_rfl) be oe p.es.length p.ec .i64 k hlt (oe + k * 4) (by omega) w1)) ?_
            refine run_v (Instr.loadAt 55 (.pointer (some ⟨be, oe + k * 4, none⟩)) >>= fun v => pure (Next.value v)) (some 41) (.agg #[iV (elE p.es k).1, iV (elE p.es k).2.1, iV (elE p.es k).2.2.1, iV (elE p.es k).2.2.2]) (by kernel_rfl) (fun w1 k1 h1 => load_in (off := 0) k1 (fun h => h) [iV (elE p.es k).1, iV (elE p.es k).2.1, iV (elE p.es k).2.2.1, iV (elE p.es k).2.2.2] (c4 hc.1 hc.2.1 hc.2.2.1 hc.2.2.2) (by kernel_rfl)) ?_
            cases hd6 : (vEv ((elE p.es k).1, (elE p.es k).2.1, (elE p.es k).2.2.1, (elE p.es k).2.2.2)) with
            | false =>
              refine run_ret1 90 #[.agg #[iV (elE p.es k).1, iV (elE p.es k).2.1, iV (elE p.es k).2.2.1, iV (elE p.es k).2.2.2]] (some 42) (.bool false) (by kernel_rfl) (fun w1 k1 h1 => (by have h := revent_any (elE p.es k).1 (elE p.es k).2.1 (elE p.es k).2.2.1 (elE p.es k).2.2.2 w1; rw [hd6] at h; exact h)) ?_
              refine run_auto [(43, .bool true)] 7 [true] [] [1, 2, 3] [0] (st' := ⟨[(1, pA b1), (2, .bool false), (3, iV (k : Int))], [(b1, aO #[iV p.ll, iV p.lh, iV p.ul, iV p.uh, .slice p.ea p.es.length p.ec] 26)]⟩) (acc := [(.bool true, .bool true), (.bool true, .bool true)]) (by kernel_rfl) (by kernel_rfl) ⟨rfl, rfl, trivial⟩ ?_
              refine run_end (fn := f33) rfl (Nat.le_refl _) (by kernel_rfl) [] [.bool false] (e := []) (by kernel_rfl) trivial (fun w1 k1 h1 => ?_)
              have h : p.n.ok = false := by
                unfold Wn.ok Wb.n
                dsimp only
                rw [all_no (p := vEv) (d := (0, 0, 0, 0)) hlt (show vEv (elE p.es k) = false from hd6)]
                simp [hd1, hd3] <;> intros <;> omega
              exact ⟨by rw [h]; rfl, k1.keeps (fun _ h => h)⟩
            | true =>
              refine run_ret1 90 #[.agg #[iV (elE p.es k).1, iV (elE p.es k).2.1, iV (elE p.es k).2.2.1, iV (elE p.es k).2.2.2]] (some 42) (.bool true) (by kernel_rfl) (fun w1 k1 h1 => (by have h := revent_any (elE p.es k).1 (elE p.es k).2.1 (elE p.es k).2.2.1 (elE p.es k).2.2.2 w1; rw [hd6] at h; exact h)) ?_
              refine run_auto [(43, .bool false), (36, iV ((k + 1 : Nat) : Int))] 10 [false] [] [1, 2, 3] [0] (st' := ⟨[(1, pA b1), (2, .bool false), (3, iV ((k + 1 : Nat) : Int))], [(b1, aO #[iV p.ll, iV p.lh, iV p.ul, iV p.uh, .slice p.ea p.es.length p.ec] 26)]⟩) (acc := [(iV (IntKind.i64.wrap ((k : Int) + 1)), iV ((k + 1 : Nat) : Int)), (.bool false, .bool false), (.bool false, .bool false)]) (by kernel_rfl) (by kernel_rfl) ⟨(wr (by omega) (by omega)), rfl, rfl, trivial⟩ ?_
              exact run_round (by kernel_rfl) (hJ0 (k + 1) (⟨by omega, fun j hj => (Nat.lt_succ_iff_lt_or_eq.1 hj).elim (hI2 j) (fun h => h ▸ hd6)⟩) (by omega))
        | true =>
          have hp4 := of_decide_eq_true hd4
          refine run_auto [(22, .bool false), (28, .bool true)] 14 [true] [0] [1, 2] [0] (st' := ⟨[(1, pA b1), (2, .bool false)], [(b1, aO #[iV p.ll, iV p.lh, iV p.ul, iV p.uh, .slice p.ea p.es.length p.ec] 26)]⟩) (acc := [(.bool true, .bool true), (.bool (decide (8 < (p.es.length : Int))), .bool true), (pA b1, pA b1), (.bool false, .bool false)]) (by kernel_rfl) (by kernel_rfl) ⟨rfl, (bo hd4), rfl, rfl, trivial⟩ ?_
          refine run_end (fn := f33) rfl (Nat.le_refl _) (by kernel_rfl) [] [.bool false] (e := []) (by kernel_rfl) trivial (fun w1 k1 h1 => ?_)
          have h : p.n.ok = false := by
            unfold Wn.ok Wb.n
            dsimp only
            simp [hd1, hd3] <;> intros <;> omega
          exact ⟨by rw [h]; rfl, k1.keeps (fun _ h => h)⟩
    | true =>
      have hp2 := of_decide_eq_true hd2
      refine run_auto [(7, .bool false), (15, iV (p.lh - p.ll)), (16, .bool true)] 29 [true] [0, 0] [1, 2] [0] (st' := ⟨[(1, pA b1), (2, .bool false)], [(b1, aO #[iV p.ll, iV p.lh, iV p.ul, iV p.uh, .slice p.ea p.es.length p.ec] 26)]⟩) (acc := [(.bool true, .bool true), (.bool (decide (20 < (p.lh - p.ll))), .bool true), (iV (IntKind.i64.wrap (p.lh - p.ll)), iV (p.lh - p.ll)), (pA b1, pA b1), (pA b1, pA b1), (.bool false, .bool false)]) (by kernel_rfl) (by kernel_rfl) ⟨rfl, (bo hd2), (wr (by omega) (by omega)), rfl, rfl, rfl, trivial⟩ ?_
      refine run_end (fn := f33) rfl (Nat.le_refl _) (by kernel_rfl) [] [.bool false] (e := []) (by kernel_rfl) trivial (fun w1 k1 h1 => ?_)
      have h : p.n.ok = false := by
        unfold Wn.ok Wb.n
        dsimp only
        simp [hd1] <;> intros <;> omega
      exact ⟨by rw [h]; rfl, k1.keeps (fun _ h => h)⟩


def farB (p : Wb) (n : Nat) : Bool := decide (40 < max (p.es.length : Int) (n : Int))
end Go.Proofs.YtdehgplklgfcdaaGreat

namespace Go.Proofs.YtdehgplklgfcdaaGreat
open Go.RowKit Go.Proofs.Tryz

set_option maxRecDepth 100000 in
theorem far_any (p : Wb) (la : Option Addr) (n lc : Nat) (w : World)  : Calls Tryz.prog 12 #[.agg #[.int .i64 p.ll, .int .i64 p.lh, .int .i64 p.ul, .int .i64 p.uh, .slice p.ea p.es.length p.ec], .slice la n lc] w (RetB (farB p n) w) := by
  refine calls_run (fn := f12) (c := (f12.body).getD .skip) [.agg #[.int .i64 p.ll, .int .i64 p.lh, .int .i64 p.ul, .int .i64 p.uh, .slice p.ea p.es.length p.ec], .slice la n lc] func12 (by kernel_rfl) (fun _ => False) [] (fun _ h => by cases h) (List.Pairwise.nil) 12 (by kernel_rfl) (by simp) ?_
  refine run_auto [] 2 [] [] [0, 1] [] (st' := ⟨[(0, .agg #[iV p.ll, iV p.lh, iV p.ul, iV p.uh, .slice p.ea p.es.length p.ec]), (1, .slice la n lc)], []⟩) (acc := []) (by kernel_rfl) (by kernel_rfl) trivial ?_
  refine run_new (aO #[iV p.ll, iV p.lh, iV p.ul, iV p.uh, .slice p.ea p.es.length p.ec] 26) (fun b1 => pA b1) (some 2) (fun _ => by kernel_rfl) (fun b1 hb1 => ?_)
  cases hd1 : (decide (40 < (max (p.es.length : Int) (n : Int)))) with
  | false =>
    have hp1 := of_decide_eq_false hd1
    refine run_auto [(10, iV (max (p.es.length : Int) (n : Int))), (11, .bool false)] 13 [] [0] [4] [] (st' := ⟨[(4, .bool false)], []⟩) (acc := [(.bool (decide (40 < (max (p.es.length : Int) (n : Int)))), .bool false), (iV (if (n : Int) > (p.es.length : Int) then (n : Int) else (p.es.length : Int)), iV (max (p.es.length : Int) (n : Int))), (pA b1, pA b1)]) (by kernel_rfl) (by kernel_rfl) ⟨(bo hd1), (mx _ _ _), rfl, trivial⟩ ?_
    refine run_end (fn := f12) rfl (Nat.le_refl _) (by kernel_rfl) [] [.bool false] (e := []) (by kernel_rfl) trivial (fun w1 k1 h1 => ?_)
    exact ⟨by unfold farB; rw [hd1]; rfl, k1.keeps (fun _ h => h)⟩
  | true =>
    have hp1 := of_decide_eq_true hd1
    refine run_auto [(10, iV (max (p.es.length : Int) (n : Int))), (11, .bool true)] 13 [] [0] [4] [] (st' := ⟨[(4, .bool true)], []⟩) (acc := [(.bool (decide (40 < (max (p.es.length : Int) (n : Int)))), .bool true), (iV (if (n : Int) > (p.es.length : Int) then (n : Int) else (p.es.length : Int)), iV (max (p.es.length : Int) (n : Int))), (pA b1, pA b1)]) (by kernel_rfl) (by kernel_rfl) ⟨(bo hd1), (mx _ _ _), rfl, trivial⟩ ?_
    refine run_end (fn := f12) rfl (Nat.le_refl _) (by kernel_rfl) [] [.bool true] (e := []) (by kernel_rfl) trivial (fun w1 k1 h1 => ?_)
    exact ⟨by unfold farB; rw [hd1]; rfl, k1.keeps (fun _ h => h)⟩


theorem far_ok {p : Wb} (h : farB p 0 = true) : p.n.ok = false := by
  unfold farB at h
  have h1 := of_decide_eq_true h
  unfold Wn.ok Wb.n
  dsimp only
  rw [show decide (p.es.length ≤ 8) = false from decide_eq_false (by omega)]
  simp
set_option maxRecDepth 100000 in
theorem fine_any (p : Wb) (w : World) (hp : p.In w) : Calls Tryz.prog 28 #[.agg #[.int .i64 p.ll, .int .i64 p.lh, .int .i64 p.ul, .int .i64 p.uh, .slice p.ea p.es.length p.ec]] w (RetB p.n.ok w) := by
  refine calls_run (fn := f28) (c := (f28.body).getD .skip) [.agg #[.int .i64 p.ll, .int .i64 p.lh, .int .i64 p.ul, .int .i64 p.uh, .slice p.ea p.es.length p.ec]] func28 (by kernel_rfl) (fun _ => False) [] (fun _ h => by cases h) (List.Pairwise.nil) 10 (by kernel_rfl) (by simp) ?_
  refine run_auto [] 2 [] [] [0] [] (st' := ⟨[(0, .agg #[iV p.ll, iV p.lh, iV p.ul, iV p.uh, .slice p.ea p.es.length p.ec])], []⟩) (acc := []) (by kernel_rfl) (by kernel_rfl) trivial ?_
  refine run_new (aO #[iV p.ll, iV p.lh, iV p.ul, iV p.uh, .slice p.ea p.es.length p.ec] 26) (fun b1 => pA b1) (some 1) (fun _ => by kernel_rfl) (fun b1 hb1 => ?_)
  refine run_auto [] 5 [] [0] [1, 2, 3] [0] (st' := ⟨[(1, pA b1), (2, .bool false), (3, .agg #[iV p.ll, iV p.lh, iV p.ul, iV p.uh, .slice p.ea p.es.length p.ec])], [(b1, aO #[iV p.ll, iV p.lh, iV p.ul, iV p.uh, .slice p.ea p.es.length p.ec] 26)]⟩) (acc := [(pA b1, pA b1)]) (by kernel_rfl) (by kernel_rfl) ⟨rfl, trivial⟩ ?_
  cases hd1 : (farB p 0) with
  | false =>
    refine run_ret1 12 #[.agg #[iV p.ll, iV p.lh, iV p.ul, iV p.uh, .slice p.ea p.es.length p.ec], .slice none 0 0] (some 4) (.bool false) (by kernel_rfl) (fun w1 k1 h1 => (by have h := far_any p none 0 0 w1; rw [hd1] at h; exact h)) ?_
    refine run_auto [(5, .bool true)] 3 [] [0] [2, 6, 7] [] (st' := ⟨[(2, .bool false), (6, .bool true), (7, .agg #[iV p.ll, iV p.lh, iV p.ul, iV p.uh, .slice p.ea p.es.length p.ec])], []⟩) (acc := [(pA b1, pA b1), (.bool true, .bool true)]) (by kernel_rfl) (by kernel_rfl) ⟨rfl, rfl, trivial⟩ ?_
    cases hd2 : p.n.ok with
    | false =>
      refine run_ret1 33 #[.agg #[iV p.ll, iV p.lh, iV p.ul, iV p.uh, .slice p.ea p.es.length p.ec]] (some 8) (.bool false) (by kernel_rfl) (fun w1 k1 h1 => (by have h := rwear_any p w1 (hp.keep (k1.keeps (fun _ h => h))); rw [hd2] at h; exact h)) ?_
      refine run_auto [] 3 [] [] [2] [] (st' := ⟨[(2, .bool false)], []⟩) (acc := []) (by kernel_rfl) (by kernel_rfl) trivial ?_
      refine run_end (fn := f28) rfl (Nat.le_refl _) (by kernel_rfl) [] [.bool false] (e := []) (by kernel_rfl) trivial (fun w1 k1 h1 => ?_)
      exact ⟨rfl, k1.keeps (fun _ h => h)⟩
    | true =>
      refine run_ret1 33 #[.agg #[iV p.ll, iV p.lh, iV p.ul, iV p.uh, .slice p.ea p.es.length p.ec]] (some 8) (.bool true) (by kernel_rfl) (fun w1 k1 h1 => (by have h := rwear_any p w1 (hp.keep (k1.keeps (fun _ h => h))); rw [hd2] at h; exact h)) ?_
      refine run_auto [] 3 [] [] [2] [] (st' := ⟨[(2, .bool true)], []⟩) (acc := []) (by kernel_rfl) (by kernel_rfl) trivial ?_
      refine run_end (fn := f28) rfl (Nat.le_refl _) (by kernel_rfl) [] [.bool true] (e := []) (by kernel_rfl) trivial (fun w1 k1 h1 => ?_)
      exact ⟨rfl, k1.keeps (fun _ h => h)⟩
  | true =>
    refine run_ret1 12 #[.agg #[iV p.ll, iV p.lh, iV p.ul, iV p.uh, .slice p.ea p.es.length p.ec], .slice none 0 0] (some 4) (.bool true) (by kernel_rfl) (fun w1 k1 h1 => (by have h := far_any p none 0 0 w1; rw [hd1] at h; exact h)) ?_
    refine run_auto [(5, .bool false)] 7 [] [] [2] [] (st' := ⟨[(2, .bool false)], []⟩) (acc := [(.bool false, .bool false)]) (by kernel_rfl) (by kernel_rfl) ⟨rfl, trivial⟩ ?_
    refine run_end (fn := f28) rfl (Nat.le_refl _) (by kernel_rfl) [] [.bool false] (e := []) (by kernel_rfl) trivial (fun w1 k1 h1 => ?_)
    exact ⟨by rw [far_ok hd1]; rfl, k1.keeps (fun _ h => h)⟩

def inB (x : Int) (s : Sp) : Bool := decide (s.1 ≤ x ∧ x ≤ s.2)
theorem eq_span_fields : Tryz.prog.underlying 23 = some (.struct (Tryz.prog.fieldsOf 23)) := by kernel_rfl
theorem eq_span_held : Tryz.prog.stoodInHeld 23 = false := by kernel_rfl
theorem eq_span_list : (Tryz.prog.fieldsOf 23).toList.map (fun f => (f.name, f.type, f.offset)) = [("Lo", 3, 0), ("Hi", 3, 1)] := by kernel_rfl
theorem eq_span_eq (x0 x1 y0 y1 : Int) (w : World) : (Op.equal 23 (.agg #[.int .i64 x0, .int .i64 x1]) (.agg #[.int .i64 y0, .int .i64 y1])).run Tryz.prog w = .ok (x0 == y0 && x1 == y1) w := by
  have key : (Op.equalIn 10000 23 (.agg #[.int .i64 x0, .int .i64 x1]) (.agg #[.int .i64 y0, .int .i64 y1])).run Tryz.prog w = .ok (x0 == y0 && x1 == y1) w := by
    rw [run_equalIn_agg w 9999 _ _ _ eq_span_fields eq_span_held]
    have h := eq_span_list
    match hf : (Tryz.prog.fieldsOf 23).toList, h with
    | [f0, f1], h =>
      simp only [List.map_cons, List.map_nil, List.cons.injEq, Prod.mk.injEq, and_true] at h
      obtain ⟨⟨q0a, q0b, q0c⟩, q1a, q1b, q1c⟩ := h
      simp [Op.eqFields, q0a, q0b, q0c, q1a, q1b, q1c, go_sem]
      by_cases e0 : x0 = y0 <;> by_cases e1 : x1 = y1 <;> simp [e0, e1]
    | [], h => simp at h
    | [_], h => simp at h
    | _ :: _ :: _ :: _, h => simp at h
  simp only [Op.equal, Op.maxDepth]
  exact key
theorem eq_span_ne (X Y : Operand) (x0 x1 y0 y1 : Int) (w : World) : ((do eqGuard .neq 23 X Y (.agg #[.int .i64 x0, .int .i64 x1]) (.agg #[.int .i64 y0, .int .i64 y1]); binOp .neq 23 (.agg #[.int .i64 x0, .int .i64 x1]) (.agg #[.int .i64 y0, .int .i64 y1])) >>= fun v => pure (Next.value v)).run Tryz.prog w = .ok (.value (.bool (!(x0 == y0 && x1 == y1)))) w := by
  have hg := run_eqGuard_agg (P := Tryz.prog) (w := w) .neq 23 X Y #[.int .i64 x0, .int .i64 x1] #[.int .i64 y0, .int .i64 y1] (by kernel_rfl)
  simp only [binOp]
  simp [hg, eq_span_eq, Result.andThen]
set_option maxRecDepth 100000 in
theorem awake_any  (w : World)  : Calls Tryz.prog 13 #[] w (RetB true w) := by
  refine calls_run (fn := f13) (c := (f13.body).getD .skip) [] func13 (by kernel_rfl) (fun _ => False) [] (fun _ h => by cases h) (List.Pairwise.nil) 127 (by kernel_rfl) (by simp) ?_
  refine run_auto [] 6 [] [] [0] [] (st' := ⟨[(0, .bool false)], []⟩) (acc := []) (by kernel_rfl) (by kernel_rfl) trivial ?_
  refine run_nwl 40 #[.slice none 0 0] (some 19) (α := Nat × Nat × List Value) (fun x => .agg #[iV 100, iV 102, iV 0, iV 2, .slice (some ⟨(x.1), 0, none⟩) 5 (x.2.1)]) (fun x => [((x.1), cO (es5.flatMap evR ++ (x.2.2)) 55)]) (fun x => 5 ≤ (x.2.1)) (by kernel_rfl) (fun x p hp => by simp only [List.mem_cons, List.not_mem_nil, or_false] at hp; rcases hp with rfl <;> rfl) (fun w1 k1 h1 => sample0_any w1) (fun x hI1 hn1 => ?_)
  obtain ⟨bb1, cap1, sp1⟩ := x
  dsimp only at hI1 hn1
  have hbb1 := hn1 _ (List.mem_of_getElem? (i := 0) rfl)
  refine run_new (aO #[iV 0, iV 0, iV 0, iV 0, .slice none 0 0] 26) (fun b2 => pA b2) (some 1) (fun _ => by kernel_rfl) (fun b2 hb2 => ?_)
  refine run_auto [] 5 [] [0, 0] [0, 1, 21] [0, 1] (st' := ⟨[(0, .bool false), (1, pA b2), (21, .agg #[iV 100, iV 102, iV 0, iV 2, sV bb1 5 cap1])], [(b2, aO #[iV 100, iV 102, iV 0, iV 2, sV bb1 5 cap1] 26), (bb1, cO (es5.flatMap evR ++ sp1) 55)]⟩) (acc := [(pA b2, pA b2), (pA b2, pA b2)]) (by kernel_rfl) (by kernel_rfl) ⟨rfl, rfl, trivial⟩ ?_
  refine run_ret1 14 #[.agg #[iV 100, iV 102, iV 0, iV 2, sV bb1 5 cap1], iV 2] (some 22) (.tuple #[.agg #[iV 83, iV 92], iV 0]) (by kernel_rfl) (fun w1 k1 h1 => (by have h := After_any (smp es5 bb1 cap1) 2 w1 (smp_in (sp := sp1) (h1 (bb1, cO (es5.flatMap evR ++ sp1) 55) (List.mem_of_getElem? (i := 1) (by kernel_rfl))) (by decide)); rw [show afterR (smp es5 bb1 cap1) 2 = .inr (83, 92) from by kernel_rfl] at h; exact h)) ?_
  refine run_auto [] 3 [] [] [0, 1, 23, 24] [0, 1] (st' := ⟨[(0, .bool false), (1, pA b2), (23, .agg #[iV 83, iV 92]), (24, iV 0)], [(b2, aO #[iV 100, iV 102, iV 0, iV 2, sV bb1 5 cap1] 26), (bb1, cO (es5.flatMap evR ++ sp1) 55)]⟩) (acc := []) (by kernel_rfl) (by kernel_rfl) trivial ?_
  refine run_new (aO #[iV 0, iV 0] 23) (fun b3 => pA b3) (some 2) (fun _ => by kernel_rfl) (fun b3 hb3 => ?_)
  refine run_auto [] 6 [] [0, 1] [0, 1, 2, 3, 26] [0, 1, 2] (st' := ⟨[(0, .bool false), (1, pA b2), (2, pA b3), (3, iV 0), (26, .agg #[iV 100, iV 102, iV 0, iV 2, sV bb1 5 cap1])], [(b3, aO #[iV 83, iV 92] 23), (b2, aO #[iV 100, iV 102, iV 0, iV 2, sV bb1 5 cap1] 26), (bb1, cO (es5.flatMap evR ++ sp1) 55)]⟩) (acc := [(pA b2, pA b2), (pA b3, pA b3)]) (by kernel_rfl) (by kernel_rfl) ⟨rfl, rfl, trivial⟩ ?_
  refine run_ret1 16 #[.agg #[iV 100, iV 102, iV 0, iV 2, sV bb1 5 cap1]] (some 27) (.tuple #[.agg #[iV 12, iV 22], iV 0]) (by kernel_rfl) (fun w1 k1 h1 => (by have h := Lost_any (smp es5 bb1 cap1)  w1 (smp_in (sp := sp1) (h1 (bb1, cO (es5.flatMap evR ++ sp1) 55) (List.mem_of_getElem? (i := 2) (by kernel_rfl))) (by decide)); rw [show lostR (smp es5 bb1 cap1)  = .inr (12, 22) from by kernel_rfl] at h; exact h)) ?_
  refine run_auto [] 3 [] [] [0, 1, 2, 3, 28, 29] [0, 1, 2] (st' := ⟨[(0, .bool false), (1, pA b2), (2, pA b3), (3, iV 0), (28, .agg #[iV 12, iV 22]), (29, iV 0)], [(b3, aO #[iV 83, iV 92] 23), (b2, aO #[iV 100, iV 102, iV 0, iV 2, sV bb1 5 cap1] 26), (bb1, cO (es5.flatMap evR ++ sp1) 55)]⟩) (acc := []) (by kernel_rfl) (by kernel_rfl) trivial ?_
  refine run_new (aO #[iV 0, iV 0] 23) (fun b4 => pA b4) (some 4) (fun _ => by kernel_rfl) (fun b4 hb4 => ?_)
  refine run_auto [] 6 [] [0, 2] [0, 1, 2, 3, 4, 5, 31] [0, 1, 2, 3] (st' := ⟨[(0, .bool false), (1, pA b2), (2, pA b3), (3, iV 0), (4, pA b4), (5, iV 0), (31, .agg #[iV 100, iV 102, iV 0, iV 2, sV bb1 5 cap1])], [(b4, aO #[iV 12, iV 22] 23), (b3, aO #[iV 83, iV 92] 23), (b2, aO #[iV 100, iV 102, iV 0, iV 2, sV bb1 5 cap1] 26), (bb1, cO (es5.flatMap evR ++ sp1) 55)]⟩) (acc := [(pA b2, pA b2), (pA b4, pA b4)]) (by kernel_rfl) (by kernel_rfl) ⟨rfl, rfl, trivial⟩ ?_
  refine run_ret1 18 #[.agg #[iV 100, iV 102, iV 0, iV 2, sV bb1 5 cap1], iV 90] (some 32) (.tuple #[iV 24, iV 31, iV 0]) (by kernel_rfl) (fun w1 k1 h1 => (by have h := Below_any (smp es5 bb1 cap1) 90 w1 (smp_in (sp := sp1) (h1 (bb1, cO (es5.flatMap evR ++ sp1) 55) (List.mem_of_getElem? (i := 3) (by kernel_rfl))) (by decide)); rw [show belowR (smp es5 bb1 cap1) 90 = .inr (24, 31) from by kernel_rfl] at h; exact h)) ?_
  refine run_auto [] 11 [] [2] [0, 1, 2, 3, 4, 5, 6, 7, 8, 37] [0, 1, 2, 3] (st' := ⟨[(0, .bool false), (1, pA b2), (2, pA b3), (3, iV 0), (4, pA b4), (5, iV 0), (6, iV 24), (7, iV 31), (8, iV 0), (37, .agg #[iV 100, iV 102, iV 0, iV 2, sV bb1 5 cap1])], [(b4, aO #[iV 12, iV 22] 23), (b3, aO #[iV 83, iV 92] 23), (b2, aO #[iV 100, iV 102, iV 0, iV 2, sV bb1 5 cap1] 26), (bb1, cO (es5.flatMap evR ++ sp1) 55)]⟩) (acc := [(pA b2, pA b2)]) (by kernel_rfl) (by kernel_rfl) ⟨rfl, trivial⟩ ?_
  refine run_ret1 22 #[.agg #[iV 100, iV 102, iV 0, iV 2, sV bb1 5 cap1], iV 76] (some 38) (.tuple #[iV 2, iV 0]) (by kernel_rfl) (fun w1 k1 h1 => (by have h := Until_any (smp es5 bb1 cap1) 76 w1 (smp_in (sp := sp1) (h1 (bb1, cO (es5.flatMap evR ++ sp1) 55) (List.mem_of_getElem? (i := 3) (by kernel_rfl))) (by decide)); rw [show untilR (smp es5 bb1 cap1) 76 = .inr 2 from by kernel_rfl] at h; exact h)) ?_
  refine run_auto [] 9 [] [2] [0, 1, 2, 3, 4, 5, 6, 7, 8, 9, 10, 42] [0, 1, 2, 3] (st' := ⟨[(0, .bool false), (1, pA b2), (2, pA b3), (3, iV 0), (4, pA b4), (5, iV 0), (6, iV 24), (7, iV 31), (8, iV 0), (9, iV 2), (10, iV 0), (42, .agg #[iV 100, iV 102, iV 0, iV 2, sV bb1 5 cap1])], [(b4, aO #[iV 12, iV 22] 23), (b3, aO #[iV 83, iV 92] 23), (b2, aO #[iV 100, iV 102, iV 0, iV 2, sV bb1 5 cap1] 26), (bb1, cO (es5.flatMap evR ++ sp1) 55)]⟩) (acc := [(pA b2, pA b2)]) (by kernel_rfl) (by kernel_rfl) ⟨rfl, trivial⟩ ?_
  refine run_new (aO #[iV 3, iV 2, iV 1] 3) (fun b5 => sV b5 3 3) (some 43) (fun _ => by kernel_rfl) (fun b5 hb5 => ?_)
  refine run_ret1 24 #[.agg #[iV 100, iV 102, iV 0, iV 2, sV bb1 5 cap1], iV 70, sV b5 3 3] (some 44) (.tuple #[iV 2, iV 0]) (by kernel_rfl) (fun w1 k1 h1 => (by have h := Day_any (smp es5 bb1 cap1) 70 ([3, 2, 1] : List Int) (some ⟨b5, 0, none⟩) 3 w1 (smp_in (sp := sp1) (h1 (bb1, cO (es5.flatMap evR ++ sp1) 55) (List.mem_of_getElem? (i := 4) (by kernel_rfl))) (by decide)) (Ins.of_flat (L := ([3, 2, 1] : List Int)) (sp := []) (by rw [List.append_nil]; exact (h1 (b5, aO #[iV 3, iV 2, iV 1] 3) (List.mem_of_getElem? (i := 0) (by kernel_rfl))))) (by decide); rw [show dayR (smp es5 bb1 cap1) 70 ([3, 2, 1] : List Int) = .inr 2 from by kernel_rfl] at h; exact h)) ?_
  refine run_auto [] 7 [] [] [0, 1, 2, 3, 4, 5, 6, 7, 8, 9, 10, 11, 12] [1, 2, 3, 4] (st' := ⟨[(0, .bool false), (1, pA b2), (2, pA b3), (3, iV 0), (4, pA b4), (5, iV 0), (6, iV 24), (7, iV 31), (8, iV 0), (9, iV 2), (10, iV 0), (11, iV 2), (12, iV 0)], [(b4, aO #[iV 12, iV 22] 23), (b3, aO #[iV 83, iV 92] 23), (b2, aO #[iV 100, iV 102, iV 0, iV 2, sV bb1 5 cap1] 26), (bb1, cO (es5.flatMap evR ++ sp1) 55)]⟩) (acc := []) (by kernel_rfl) (by kernel_rfl) trivial ?_
  refine drawW 8 [{ val := fun _ => .agg #[iV 100, iV 102, iV 0, iV 2, sV bb1 5 cap1], slots := [1], reads := [2] },
      { val := fun _ => .agg #[iV 80, iV 80] },
      { val := fun _ => .tuple #[iV 1, iV 0], slots := [48, 49], reads := [3] },
      { val := fun _ => .tuple #[iV 1, iV 0], slots := [50] },
      { val := fun _ => iV 1, slots := [47] },
      { val := fun _ => iV 0, slots := [47] },
      { val := fun _ => iV 1, slots := [51] },
      { val := fun _ => iV 0, slots := [52] }] [[], [], [0, 1], [0, 1, 2], [0, 1, 2, 3], [0, 1, 2, 3], [0, 1, 2, 3, 4], [0, 1, 2, 3, 4, 5, 6]] (by kernel_rfl) (by kernel_rfl) (by kernel_rfl) (by kernel_rfl) [0, 1, 2, 3, 4, 5, 6, 7, 8, 9, 10, 11, 12, 13, 14] [0, 1, 2, 3] (by kernel_rfl)
      ⟨⟨⟨⟨⟨⟨⟨⟨trivial,
      tri_quietW (fun β => []) [0] [0] (fun β => [(pA b2, pA b2)]) (by kernel_rfl) (fun β extra => by kernel_rfl) (by kernel_rfl) (fun β => ⟨rfl, trivial⟩)⟩,
      tri_callVW (fun β => .agg #[iV 80, iV 80]) (fun β => by kernel_rfl) 32 (fun β => #[iV 80, iV 80]) (by kernel_rfl) (fun β extra => by kernel_rfl) (fun β => by kernel_rfl) (fun β w1 k1 h1 => span_any 80 80 w1)⟩,
      tri_callVW (fun β => .tuple #[iV 1, iV 0]) (fun β => by kernel_rfl) 20 (fun β => #[.agg #[iV 100, iV 102, iV 0, iV 2, sV bb1 5 cap1], .agg #[iV 80, iV 80]]) (by kernel_rfl) (fun β extra => by kernel_rfl) (fun β => by kernel_rfl) (fun β w1 k1 h1 => (by have h := Fits_any (smp es5 bb1 cap1) (80, 80) w1 (smp_in (sp := sp1) (h1 (bb1, cO (es5.flatMap evR ++ sp1) 55) (List.mem_of_getElem? (i := 0) (by kernel_rfl))) (by decide)); rw [show fitsR (smp es5 bb1 cap1) (80, 80) = .inr 1 from by kernel_rfl] at h; exact h))⟩,
      tri_quietW (fun β => []) [] [] (fun β => []) (by kernel_rfl) (fun β extra => by kernel_rfl) (by kernel_rfl) (fun β => trivial)⟩,
      tri_quietW (fun β => []) [] [] (fun β => []) (by kernel_rfl) (fun β extra => by kernel_rfl) (by kernel_rfl) (fun β => trivial)⟩,
      tri_quietW (fun β => []) [] [] (fun β => []) (by kernel_rfl) (fun β extra => by kernel_rfl) (by kernel_rfl) (fun β => trivial)⟩,
      tri_quietW (fun β => []) [] [] (fun β => []) (by kernel_rfl) (fun β extra => by kernel_rfl) (by kernel_rfl) (fun β => trivial)⟩,
      tri_quietW (fun β => []) [] [] (fun β => []) (by kernel_rfl) (fun β extra => by kernel_rfl) (by kernel_rfl) (fun β => trivial)⟩
      (fun β => ⟨[(0, .bool false), (1, pA b2), (2, pA b3), (3, iV 0), (4, pA b4), (5, iV 0), (6, iV 24), (7, iV 31), (8, iV 0), (9, iV 2), (10, iV 0), (11, iV 2), (12, iV 0), (13, iV 1), (14, iV 0)], [(b4, aO #[iV 12, iV 22] 23), (b3, aO #[iV 83, iV 92] 23), (b2, aO #[iV 100, iV 102, iV 0, iV 2, sV bb1 5 cap1] 26), (bb1, cO (es5.flatMap evR ++ sp1) 55)]⟩) (fun β => by kernel_rfl) (fun β6 => ?_)
  refine run_auto [] 2 [] [] [0, 1, 2, 3, 4, 5, 6, 7, 8, 9, 10, 11, 12, 13, 14] [0, 1, 2, 3] (st' := ⟨[(0, .bool false), (1, pA b2), (2, pA b3), (3, iV 0), (4, pA b4), (5, iV 0), (6, iV 24), (7, iV 31), (8, iV 0), (9, iV 2), (10, iV 0), (11, iV 2), (12, iV 0), (13, iV 1), (14, iV 0)], [(b4, aO #[iV 12, iV 22] 23), (b3, aO #[iV 83, iV 92] 23), (b2, aO #[iV 100, iV 102, iV 0, iV 2, sV bb1 5 cap1] 26), (bb1, cO (es5.flatMap evR ++ sp1) 55)]⟩) (acc := []) (by kernel_rfl) (by kernel_rfl) trivial ?_
  refine run_ret1 35 #[iV 89, iV 90] (some 54) (.agg #[iV 1, iV 0, iV 89, iV 90]) (by kernel_rfl) (fun w1 k1 h1 => read_any 89 90 w1) ?_
  refine run_new (aO #[iV 1, iV 0, iV 89, iV 90] 55) (fun b7 => sV b7 1 1) (some 55) (fun _ => by kernel_rfl) (fun b7 hb7 => ?_)
  refine run_nwl 40 #[sV b7 1 1] (some 56) (α := Nat × Nat × List Value) (fun x => .agg #[iV 100, iV 102, iV 0, iV 2, .slice (some ⟨(x.1), 0, none⟩) 6 (x.2.1)]) (fun x => [((x.1), cO (es6.flatMap evR ++ (x.2.2)) 55)]) (fun x => 6 ≤ (x.2.1)) (by kernel_rfl) (fun x p hp => by simp only [List.mem_cons, List.not_mem_nil, or_false] at hp; rcases hp with rfl <;> rfl) (fun w1 k1 h1 => sample1_any b7 w1 (h1 (b7, aO #[iV 1, iV 0, iV 89, iV 90] 55) (List.mem_of_getElem? (i := 0) (by kernel_rfl)))) (fun x hI8 hn8 => ?_)
  obtain ⟨bb8, cap8, sp8⟩ := x
  dsimp only at hI8 hn8
  have hbb8 := hn8 _ (List.mem_of_getElem? (i := 0) rfl)
  refine run_ret1 26 #[.agg #[iV 100, iV 102, iV 0, iV 2, sV bb8 6 cap8]] (some 57) (.tuple #[iV 48, iV 0]) (by kernel_rfl) (fun w1 k1 h1 => (by have h := Clash_any (smp es6 bb8 cap8)  w1 (smp_in (sp := sp8) (h1 (bb8, cO (es6.flatMap evR ++ sp8) 55) (List.mem_of_getElem? (i := 0) (by kernel_rfl))) (by decide)); rw [show clashR (smp es6 bb8 cap8)  = .inr 48 from by kernel_rfl] at h; exact h)) ?_
  refine run_auto [] 9 [] [4] [0, 2, 3, 4, 5, 6, 7, 8, 9, 10, 11, 12, 13, 14, 15, 16, 61] [2, 3, 5] (st' := ⟨[(0, .bool false), (2, pA b3), (3, iV 0), (4, pA b4), (5, iV 0), (6, iV 24), (7, iV 31), (8, iV 0), (9, iV 2), (10, iV 0), (11, iV 2), (12, iV 0), (13, iV 1), (14, iV 0), (15, iV 48), (16, iV 0), (61, .agg #[iV 100, iV 102, iV 0, iV 2, sV bb1 5 cap1])], [(b4, aO #[iV 12, iV 22] 23), (b3, aO #[iV 83, iV 92] 23), (bb1, cO (es5.flatMap evR ++ sp1) 55)]⟩) (acc := [(pA b2, pA b2)]) (by kernel_rfl) (by kernel_rfl) ⟨rfl, trivial⟩ ?_
  refine run_ret1 22 #[.agg #[iV 100, iV 102, iV 0, iV 2, sV bb1 5 cap1], iV 81] (some 62) (.tuple #[iV 0, iV 4]) (by kernel_rfl) (fun w1 k1 h1 => (by have h := Until_any (smp es5 bb1 cap1) 81 w1 (smp_in (sp := sp1) (h1 (bb1, cO (es5.flatMap evR ++ sp1) 55) (List.mem_of_getElem? (i := 2) (by kernel_rfl))) (by decide)); rw [show untilR (smp es5 bb1 cap1) 81 = .inl 4 from by kernel_rfl] at h; exact h)) ?_
  refine run_auto [] 8 [] [] [0, 2, 3, 4, 5, 6, 7, 8, 9, 10, 11, 12, 13, 14, 15, 16, 18] [0, 1] (st' := ⟨[(0, .bool false), (2, pA b3), (3, iV 0), (4, pA b4), (5, iV 0), (6, iV 24), (7, iV 31), (8, iV 0), (9, iV 2), (10, iV 0), (11, iV 2), (12, iV 0), (13, iV 1), (14, iV 0), (15, iV 48), (16, iV 0), (18, iV 4)], [(b4, aO #[iV 12, iV 22] 23), (b3, aO #[iV 83, iV 92] 23)]⟩) (acc := []) (by kernel_rfl) (by kernel_rfl) trivial ?_
  refine drawW 28 [{ val := fun _ => .agg #[iV 83, iV 92], slots := [2], reads := [1] },
      { val := fun _ => .agg #[iV 83, iV 92] },
      { val := fun _ => .bool false, slots := [65, 66] },
      { val := fun _ => .bool false, slots := [67] },
      { val := fun _ => iV 0, slots := [3, 68] },
      { val := fun _ => .bool false, slots := [68, 69] },
      { val := fun _ => .bool false, slots := [68, 70] },
      { val := fun _ => .bool false, slots := [71] },
      { val := fun _ => .agg #[iV 12, iV 22], slots := [4, 72], reads := [0] },
      { val := fun _ => .agg #[iV 12, iV 22], slots := [72] },
      { val := fun _ => .bool false, slots := [72, 73, 74] },
      { val := fun _ => .bool false, slots := [72, 75] },
      { val := fun _ => .bool false, slots := [76] },
      { val := fun _ => iV 0, slots := [5, 77] },
      { val := fun _ => .bool false, slots := [77, 78] },
      { val := fun _ => .bool false, slots := [77, 79] },
      { val := fun _ => .bool false, slots := [80] },
      { val := fun _ => iV 24, slots := [6, 81] },
      { val := fun _ => .bool false, slots := [81, 82] },
      { val := fun _ => .bool false, slots := [81, 83] },
      { val := fun _ => .bool false, slots := [84] },
      { val := fun _ => iV 31, slots := [7, 85] },
      { val := fun _ => .bool false, slots := [85, 86] },
      { val := fun _ => .bool false, slots := [85, 87] },
      { val := fun _ => .bool false, slots := [88] },
      { val := fun _ => iV 0, slots := [8, 89] },
      { val := fun _ => .bool false, slots := [89, 90] },
      { val := fun _ => .bool false, slots := [89, 91] }] [[], [], [0, 1], [0, 1, 2], [0, 1, 2, 3], [0, 1, 2, 3, 4], [0, 1, 2, 3, 4, 5], [0, 1, 2, 3, 4, 5, 6], [0, 1, 2, 3, 4, 5, 6, 7], [0, 1, 2, 3, 4, 5, 6, 7], [0, 1, 2, 3, 4, 5, 6, 7, 8, 9], [0, 1, 2, 3, 4, 5, 6, 7, 8, 9, 10], [0, 1, 2, 3, 4, 5, 6, 7, 8, 9, 10, 11], [0, 1, 2, 3, 4, 5, 6, 7, 8, 9, 10, 11, 12], [0, 1, 2, 3, 4, 5, 6, 7, 8, 9, 10, 11, 12, 13], [0, 1, 2, 3, 4, 5, 6, 7, 8, 9, 10, 11, 12, 13, 14], [0, 1, 2, 3, 4, 5, 6, 7, 8, 9, 10, 11, 12, 13, 14, 15], [0, 1, 2, 3, 4, 5, 6, 7, 8, 9, 10, 11, 12, 13, 14, 15, 16], [0, 1, 2, 3, 4, 5, 6, 7, 8, 9, 10, 11, 12, 13, 14, 15, 16, 17], [0, 1, 2, 3, 4, 5, 6, 7, 8, 9, 10, 11, 12, 13, 14, 15, 16, 17, 18], [0, 1, 2, 3, 4, 5, 6, 7, 8, 9, 10, 11, 12, 13, 14, 15, 16, 17, 18, 19], [0, 1, 2, 3, 4, 5, 6, 7, 8, 9, 10, 11, 12, 13, 14, 15, 16, 17, 18, 19, 20], [0, 1, 2, 3, 4, 5, 6, 7, 8, 9, 10, 11, 12, 13, 14, 15, 16, 17, 18, 19, 20, 21], [0, 1, 2, 3, 4, 5, 6, 7, 8, 9, 10, 11, 12, 13, 14, 15, 16, 17, 18, 19, 20, 21, 22], [0, 1, 2, 3, 4, 5, 6, 7, 8, 9, 10, 11, 12, 13, 14, 15, 16, 17, 18, 19, 20, 21, 22, 23], [0, 1, 2, 3, 4, 5, 6, 7, 8, 9, 10, 11, 12, 13, 14, 15, 16, 17, 18, 19, 20, 21, 22, 23, 24], [0, 1, 2, 3, 4, 5, 6, 7, 8, 9, 10, 11, 12, 13, 14, 15, 16, 17, 18, 19, 20, 21, 22, 23, 24, 25], [0, 1, 2, 3, 4, 5, 6, 7, 8, 9, 10, 11, 12, 13, 14, 15, 16, 17, 18, 19, 20, 21, 22, 23, 24, 25, 26]] (by kernel_rfl) (by kernel_rfl) (by kernel_rfl) (by kernel_rfl) [0, 9, 10, 11, 12, 13, 14, 15, 16, 18, 92] [] (by kernel_rfl)
      ⟨⟨⟨⟨⟨⟨⟨⟨⟨⟨⟨⟨⟨⟨⟨⟨⟨⟨⟨⟨⟨⟨⟨⟨⟨⟨⟨⟨trivial,
      tri_quietW (fun β => []) [0] [0] (fun β => [(pA b3, pA b3)]) (by kernel_rfl) (fun β extra => by kernel_rfl) (by kernel_rfl) (fun β => ⟨rfl, trivial⟩)⟩,
      tri_callVW (fun β => .agg #[iV 83, iV 92]) (fun β => by kernel_rfl) 32 (fun β => #[iV 83, iV 92]) (by kernel_rfl) (fun β extra => by kernel_rfl) (fun β => by kernel_rfl) (fun β w1 k1 h1 => span_any 83 92 w1)⟩,
      tri_vVW (fun β => .bool false) (fun β => by kernel_rfl) (fun β => ((do eqGuard .neq 23 (.tmp 65) (.tmp 66) (.agg #[iV 83, iV 92]) (.agg #[iV 83, iV 92]); binOp .neq 23 (.agg #[iV 83, iV 92]) (.agg #[iV 83, iV 92])) >>= fun v => pure (Next.value v))) (by kernel_rfl) (fun β extra => by kernel_rfl) (fun β => by kernel_rfl) (fun β w1 k1 h1 => eq_span_ne (.tmp 65) (.tmp 66) 83 92 83 92 w1)⟩,
      tri_quietW (fun β => []) [] [] (fun β => []) (by kernel_rfl) (fun β extra => by kernel_rfl) (by kernel_rfl) (fun β => trivial)⟩,
      tri_quietW (fun β => []) [] [] (fun β => []) (by kernel_rfl) (fun β extra => by kernel_rfl) (by kernel_rfl) (fun β => trivial)⟩,
      tri_quietW (fun β => [(70, .bool false)]) [] [] (fun β => [(.bool false, .bool false)]) (by kernel_rfl) (fun β extra => by kernel_rfl) (by kernel_rfl) (fun β => ⟨rfl, trivial⟩)⟩,
      tri_quietW (fun β => []) [] [] (fun β => []) (by kernel_rfl) (fun β extra => by kernel_rfl) (by kernel_rfl) (fun β => trivial)⟩,
      tri_quietW (fun β => []) [] [] (fun β => []) (by kernel_rfl) (fun β extra => by kernel_rfl) (by kernel_rfl) (fun β => trivial)⟩,
      tri_quietW (fun β => []) [0] [0] (fun β => [(pA b4, pA b4)]) (by kernel_rfl) (fun β extra => by kernel_rfl) (by kernel_rfl) (fun β => ⟨rfl, trivial⟩)⟩,
      tri_callVW (fun β => .agg #[iV 12, iV 22]) (fun β => by kernel_rfl) 32 (fun β => #[iV 12, iV 22]) (by kernel_rfl) (fun β extra => by kernel_rfl) (fun β => by kernel_rfl) (fun β w1 k1 h1 => span_any 12 22 w1)⟩,
      tri_vVW (fun β => .bool false) (fun β => by kernel_rfl) (fun β => ((do eqGuard .neq 23 (.tmp 73) (.tmp 74) (.agg #[iV 12, iV 22]) (.agg #[iV 12, iV 22]); binOp .neq 23 (.agg #[iV 12, iV 22]) (.agg #[iV 12, iV 22])) >>= fun v => pure (Next.value v))) (by kernel_rfl) (fun β extra => by kernel_rfl) (fun β => by kernel_rfl) (fun β w1 k1 h1 => eq_span_ne (.tmp 73) (.tmp 74) 12 22 12 22 w1)⟩,
      tri_quietW (fun β => []) [] [] (fun β => []) (by kernel_rfl) (fun β extra => by kernel_rfl) (by kernel_rfl) (fun β => trivial)⟩,
      tri_quietW (fun β => []) [] [] (fun β => []) (by kernel_rfl) (fun β extra => by kernel_rfl) (by kernel_rfl) (fun β => trivial)⟩,
      tri_quietW (fun β => []) [] [] (fun β => []) (by kernel_rfl) (fun β extra => by kernel_rfl) (by kernel_rfl) (fun β => trivial)⟩,
      tri_quietW (fun β => [(79, .bool false)]) [] [] (fun β => [(.bool false, .bool false)]) (by kernel_rfl) (fun β extra => by kernel_rfl) (by kernel_rfl) (fun β => ⟨rfl, trivial⟩)⟩,
      tri_quietW (fun β => []) [] [] (fun β => []) (by kernel_rfl) (fun β extra => by kernel_rfl) (by kernel_rfl) (fun β => trivial)⟩,
      tri_quietW (fun β => []) [] [] (fun β => []) (by kernel_rfl) (fun β extra => by kernel_rfl) (by kernel_rfl) (fun β => trivial)⟩,
      tri_quietW (fun β => []) [] [] (fun β => []) (by kernel_rfl) (fun β extra => by kernel_rfl) (by kernel_rfl) (fun β => trivial)⟩,
      tri_quietW (fun β => [(83, .bool false)]) [] [] (fun β => [(.bool false, .bool false)]) (by kernel_rfl) (fun β extra => by kernel_rfl) (by kernel_rfl) (fun β => ⟨rfl, trivial⟩)⟩,
      tri_quietW (fun β => []) [] [] (fun β => []) (by kernel_rfl) (fun β extra => by kernel_rfl) (by kernel_rfl) (fun β => trivial)⟩,
      tri_quietW (fun β => []) [] [] (fun β => []) (by kernel_rfl) (fun β extra => by kernel_rfl) (by kernel_rfl) (fun β => trivial)⟩,
      tri_quietW (fun β => []) [] [] (fun β => []) (by kernel_rfl) (fun β extra => by kernel_rfl) (by kernel_rfl) (fun β => trivial)⟩,
      tri_quietW (fun β => [(87, .bool false)]) [] [] (fun β => [(.bool false, .bool false)]) (by kernel_rfl) (fun β extra => by kernel_rfl) (by kernel_rfl) (fun β => ⟨rfl, trivial⟩)⟩,
      tri_quietW (fun β => []) [] [] (fun β => []) (by kernel_rfl) (fun β extra => by kernel_rfl) (by kernel_rfl) (fun β => trivial)⟩,
      tri_quietW (fun β => []) [] [] (fun β => []) (by kernel_rfl) (fun β extra => by kernel_rfl) (by kernel_rfl) (fun β => trivial)⟩,
      tri_quietW (fun β => []) [] [] (fun β => []) (by kernel_rfl) (fun β extra => by kernel_rfl) (by kernel_rfl) (fun β => trivial)⟩,
      tri_quietW (fun β => [(91, .bool false)]) [] [] (fun β => [(.bool false, .bool false)]) (by kernel_rfl) (fun β extra => by kernel_rfl) (by kernel_rfl) (fun β => ⟨rfl, trivial⟩)⟩,
      tri_quietW (fun β => []) [] [] (fun β => []) (by kernel_rfl) (fun β extra => by kernel_rfl) (by kernel_rfl) (fun β => trivial)⟩
      (fun β => ⟨[(0, .bool false), (9, iV 2), (10, iV 0), (11, iV 2), (12, iV 0), (13, iV 1), (14, iV 0), (15, iV 48), (16, iV 0), (18, iV 4), (92, .bool false)], []⟩) (fun β => by kernel_rfl) (fun β9 => ?_)
  refine run_auto [(94, .bool true), (97, .bool true), (101, .bool true), (105, .bool true), (109, .bool true), (113, .bool true), (117, .bool true), (121, .bool true), (125, .bool true)] 40 [false] [] [0] [] (st' := ⟨[(0, .bool true)], []⟩) (acc := [(.bool true, .bool true), (.bool true, .bool true), (.bool true, .bool true), (.bool true, .bool true), (.bool true, .bool true), (.bool true, .bool true), (.bool true, .bool true), (.bool true, .bool true), (.bool true, .bool true), (.bool false, .bool false)]) (by kernel_rfl) (by kernel_rfl) ⟨rfl, rfl, rfl, rfl, rfl, rfl, rfl, rfl, rfl, rfl, trivial⟩ ?_
  refine run_end (fn := f13) rfl (Nat.le_refl _) (by kernel_rfl) [] [.bool true] (e := []) (by kernel_rfl) trivial (fun w1 k1 h1 => ?_)
  exact ⟨rfl, k1.keeps (fun _ h => h)⟩

end Go.Proofs.YtdehgplklgfcdaaGreat

namespace Go.Proofs.YtdehgplklgfcdaaGreat
open Go.RowKit Go.Proofs.Tryz


theorem mC_poss {p : Wb} (hF : p.n.Fine) (hcan : p.n.can = true) {i : Nat} (hi : i ≤ p.es.length) : (mC p.n i).1 ≤ (mC p.n i).2 := by
  rw [mC_le p.n (show i ≤ p.n.es.length from hi)]
  exact hF.ok_.poss hcan i
theorem too_is {x u : Sp} {m n : Int} (hx : x.1 ≤ x.2) : tooF x u m n = decide (x.1 - n * u.2 < m) := by
  unfold tooF movS possS
  rw [decide_eq_true hx]
  rfl
theorem unt_is {p : Wb} (hF : p.n.Fine) (hcan : p.n.can = true) (m : Int) (i : Nat) : untF p m i = !decide ((mC p.n p.es.length).1 - dnN 100 i * p.uh < m) := by
  unfold untF
  rw [too_is (mC_poss hF hcan (Nat.le_refl _))]
theorem until_is {p : Wb} (hF : p.n.Fine) (hcan : p.n.can = true) {m uv ue : Int} (hm : spI (m, m) (-1000) 1000 = true) (e1 : inA (untilR p m) = uv) (e2 : erA (untilR p m) = ue) :
    ((mC p.n p.es.length).1 ≥ m ∧ ue = 0 ∧ 0 ≤ uv ∧ uv ≤ 100 ∧ (mC p.n p.es.length).1 - uv * p.uh ≥ m ∧ (uv < 100 → (mC p.n p.es.length).1 - (uv + 1) * p.uh < m) ∧ 0 ≤ uv * p.uh ∧ uv * p.uh ≤ 300 ∧ 0 ≤ (uv + 1) * p.uh ∧ (uv + 1) * p.uh ≤ 303) ∨ ((mC p.n p.es.length).1 < m ∧ ue = 4 ∧ uv = 0) := by
  have hu := hF.u
  have hu1 : 0 ≤ p.uh ∧ p.uh ≤ 3 := by have h1 : 0 ≤ p.ul ∧ p.ul ≤ p.uh ∧ p.uh ≤ 3 := hu; omega
  have mb : ∀ x : Int, 0 ≤ x → 0 ≤ x * p.uh ∧ x * p.uh ≤ x * 3 := fun x hx => ⟨Int.mul_nonneg hx hu1.1, Int.mul_le_mul_of_nonneg_left hu1.2 hx⟩
  unfold untilR at e1 e2
  rw [hF.okB, hm, hcan] at e1 e2
  simp only [cond_true] at e1 e2
  rcases frN_is (pr := untF p m) (n := 101) with ⟨h1, h2⟩ | ⟨y, h1, hy, hp, h2⟩
  · rw [h1] at e1 e2
    have h3 := h2 100 (by omega)
    rw [unt_is hF hcan] at h3
    have h4 : (mC p.n p.es.length).1 - dnN 100 100 * p.uh < m := by simpa using h3
    rw [show dnN 100 100 = 0 from rfl, Int.zero_mul] at h4
    exact .inr ⟨by omega, e2.symm, e1.symm⟩
  · rw [h1] at e1 e2
    have e1 : dnN 100 y = uv := e1
    have e2 : (0 : Int) = ue := e2
    rw [unt_is hF hcan, e1] at hp
    have h4 : ¬ (mC p.n p.es.length).1 - uv * p.uh < m := by simpa using hp
    have huv : uv = ((100 - y : Nat) : Int) := e1.symm
    have b1 := mb uv (by omega)
    have b2 := mb (uv + 1) (by omega)
    refine .inl ⟨by omega, e2.symm, by omega, by omega, by omega, fun h => ?_, b1.1, by omega, b2.1, by omega⟩
    have h5 := h2 (y - 1) (by omega)
    rw [unt_is hF hcan, show dnN 100 (y - 1) = uv + 1 from by unfold dnN; omega] at h5
    simpa using h5
/-- What is left after the uses of the first i days. -/
def nowS (p : Wb) (D : List Int) (i : Nat) : Int := (mC p.n p.es.length).1 - sumI (D.take i) * p.uh
/-- What is told of days. -/
def DayIs (p : Wb) (m : Int) (D : List Int) (dv de : Int) : Prop := (de = 4 ∧ dv = 0 ∧ ∀ j, j < D.length → m ≤ nowS p D (j + 1)) ∨ ∃ y, y < D.length ∧ de = 0 ∧ dv = (y : Int) ∧ nowS p D (y + 1) < m ∧ ∀ j, j < y → m ≤ nowS p D (j + 1)
theorem DayIs.done {p : Wb} {m dv de : Int} {D : List Int} (h : DayIs p m D dv de) (h2 : ∀ q, q < D.length → m ≤ nowS p D (q + 1)) : de = 4 ∧ dv = 0 := by
  rcases h with ⟨e1, e2, _⟩ | ⟨y, hy, _, _, h3, _⟩
  · exact ⟨e1, e2⟩
  · exact absurd h3 (Int.not_lt.2 (h2 y hy))
theorem bel_bit {w : Wn} {m : Int} {n i : Nat} (hi : i < n) : (belS w m n).testBit i = decide ((mC w (i + 1)).2 < m) ∧ (belP w m n).testBit i = decide ((mC w (i + 1)).1 < m) := by
  unfold belS belP
  rw [bitsP_has, bitsP_has, decide_eq_true hi]
  exact ⟨rfl, rfl⟩
theorem bel_lt {w : Wn} (m : Int) {n : Nat} (hn : n ≤ 8) : belS w m n < 256 ∧ belP w m n < 256 :=
  have h : 2 ^ n ≤ 256 := Nat.pow_le_pow_right (by omega) hn
  ⟨Nat.lt_of_lt_of_le (bitsP_lt _ n) h, Nat.lt_of_lt_of_le (bitsP_lt _ n) h⟩
theorem sp_self {m : Int} (h1 : -1000 ≤ m) (h2 : m ≤ 1000) : spI (m, m) (-1000) 1000 = true := decide_eq_true ⟨h1, Int.le_refl _, h2⟩
end Go.Proofs.YtdehgplklgfcdaaGreat
